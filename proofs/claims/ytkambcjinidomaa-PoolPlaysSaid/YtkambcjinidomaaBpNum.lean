/- Groups of buffers as lists: what the document says of the calls of pools. Pure. -/
import Derived.Test.YtkambcjinidomaaGen
namespace Go.Proofs.Ytkambcjinidomaa
set_option linter.unusedVariables false
set_option linter.unusedSimpArgs false

/-- A buffer: its number, its size. -/
structure Bf where
  id : Int
  sz : Int
instance : Inhabited Bf := ⟨⟨0, 0⟩⟩
def bp (l : List Bf) (k : Nat) : Bf := l.getD k default
theorem bp_get {l : List Bf} {k : Nat} (h : k < l.length) : l[k]? = some (bp l k) := by
  unfold bp
  rw [List.getElem?_eq_getElem h]
  simp [List.getD, List.getElem?_eq_getElem h]
theorem bp_eq {l : List Bf} {k : Nat} (h : k < l.length) : bp l k = l[k] := by
  have := bp_get h
  rw [List.getElem?_eq_getElem h] at this
  exact (Option.some.inj this).symm
theorem bp_mem {l : List Bf} {k : Nat} (h : k < l.length) : bp l k ∈ l := List.mem_iff_getElem?.2 ⟨k, bp_get h⟩
/-- Where the first with this number lies; -1: none has it. -/
def PosB (l : List Bf) (x r : Int) : Prop := (∀ t ∈ l, t.id ≠ x) ∧ r = -1 ∨ ∃ j : Nat, j < l.length ∧ (bp l j).id = x ∧ (∀ i, i < j → (bp l i).id ≠ x) ∧ r = (j : Int)
def Hasb (l : List Bf) (x : Int) : Prop := ∃ b ∈ l, b.id = x
instance (l : List Bf) (x : Int) : Decidable (Hasb l x) := inferInstanceAs (Decidable (∃ b ∈ l, b.id = x))
def ix (l : List Bf) (x : Int) : Nat := l.findIdx fun b => decide (b.id = x)
theorem ix_lt {l : List Bf} {x : Int} (h : Hasb l x) : ix l x < l.length := by
  obtain ⟨b, hb, hx⟩ := h
  exact List.findIdx_lt_length_of_exists ⟨b, hb, decide_eq_true hx⟩
theorem ix_id {l : List Bf} {x : Int} (h : Hasb l x) : (bp l (ix l x)).id = x := by
  rw [bp_eq (ix_lt h)]
  exact of_decide_eq_true (List.findIdx_getElem (w := ix_lt h))
theorem ix_first {l : List Bf} {x : Int} {i : Nat} (hi : i < ix l x) (hl : i < l.length) : (bp l i).id ≠ x := by
  rw [bp_eq hl]
  exact of_decide_eq_false (by simpa using List.not_of_lt_findIdx hi)
theorem posB_has {l : List Bf} {x : Int} (h : Hasb l x) : PosB l x (ix l x : Int) :=
  .inr ⟨ix l x, ix_lt h, ix_id h, fun i hi => ix_first hi (Nat.lt_trans hi (ix_lt h)), rfl⟩
theorem posB_not {l : List Bf} {x : Int} (h : ¬ Hasb l x) : PosB l x (-1) := .inl ⟨fun t ht e => h ⟨t, ht, e⟩, rfl⟩
/-- A group: those that are free, in the order in which they are taken; those that are out. -/
structure Gp where
  fr : List Bf
  out : List Bf
abbrev Pls := Nat → Gp
def noneP : Pls := fun _ => ⟨[], []⟩
def upd (p : Pls) (g : Nat) (x : Gp) : Pls := fun i => if i = g then x else p i
theorem upd_same (p : Pls) (g : Nat) (x : Gp) : upd p g x g = x := if_pos rfl
theorem upd_other {p : Pls} {g i : Nat} {x : Gp} (h : i ≠ g) : upd p g x i = p i := if_neg h
def Bad (g : Int) : Prop := g < 0 ∨ 15 < g
instance (g : Int) : Decidable (Bad g) := inferInstanceAs (Decidable (g < 0 ∨ 15 < g))
theorem bad_nat {g : Int} (h : ¬ Bad g) : ∃ k : Nat, g = (k : Int) ∧ k < 16 ∧ g.toNat = k := by
  unfold Bad at h
  exact ⟨g.toNat, by omega, by omega, rfl⟩
def news (a n s : Int) : List Bf := (List.range n.toNat).map fun (i : Nat) => ⟨a + (i : Int), s⟩
theorem news_len (a n s : Int) : (news a n s).length = n.toNat := by simp [news]
theorem news_mem {a n s : Int} {b : Bf} (h : b ∈ news a n s) : a ≤ b.id ∧ b.id < a + n ∧ b.sz = s := by
  obtain ⟨i, hi, e⟩ := List.mem_map.1 h
  rw [List.mem_range] at hi
  subst e
  exact ⟨by simp only; omega, by simp only; omega, rfl⟩
def pvBad (g a n s : Int) : Prop := Bad g ∨ n < 1 ∨ 1024 < n ∨ a < 0 ∨ 65536 - n < a ∨ s < 1 ∨ 65536 < s
instance (g a n s : Int) : Decidable (pvBad g a n s) := inferInstanceAs (Decidable (Bad g ∨ n < 1 ∨ 1024 < n ∨ a < 0 ∨ 65536 - n < a ∨ s < 1 ∨ 65536 < s))
def pvSame (x : Gp) (a n : Int) : Prop := ∃ b ∈ x.fr ++ x.out, a ≤ b.id ∧ b.id < a + n
instance (x : Gp) (a n : Int) : Decidable (pvSame x a n) := inferInstanceAs (Decidable (∃ b ∈ x.fr ++ x.out, a ≤ b.id ∧ b.id < a + n))
/-- Provide: the error's number, and the pool behind it. -/
def pvE (p : Pls) (g a n s : Int) : Int :=
  if pvBad g a n s then 1 else if pvSame (p g.toNat) a n then 140 else if 1024 < ((p g.toNat).fr.length : Int) + ((p g.toNat).out.length : Int) + n then 5 else 0
def pvP (p : Pls) (g a n s : Int) : Pls := if pvE p g a n s = 0 then upd p g.toNat ⟨(p g.toNat).fr ++ news a n s, (p g.toNat).out⟩ else p
/-- Take. -/
def tkE (p : Pls) (g : Int) : Int := if Bad g then 1 else if (p g.toNat).fr.length = 0 then 6 else 0
def tkI (p : Pls) (g : Int) : Int := if tkE p g = 0 then (bp (p g.toNat).fr 0).id else 0
def tkS (p : Pls) (g : Int) : Int := if tkE p g = 0 then (bp (p g.toNat).fr 0).sz else 0
def tkP (p : Pls) (g : Int) : Pls := if tkE p g = 0 then upd p g.toNat ⟨(p g.toNat).fr.drop 1, (p g.toNat).out ++ [bp (p g.toNat).fr 0]⟩ else p
/-- Give. -/
def gvE (p : Pls) (g x : Int) : Int := if Bad g then 1 else if Hasb (p g.toNat).out x then 0 else 6
def gvP (p : Pls) (g x : Int) : Pls := if gvE p g x = 0 then upd p g.toNat ⟨(p g.toNat).fr ++ [bp (p g.toNat).out (ix (p g.toNat).out x)], (p g.toNat).out.eraseIdx (ix (p g.toNat).out x)⟩ else p
/-- Remove. -/
def rmE (g n : Int) : Int := if Bad g ∨ n < 0 then 1 else 0
def rmK (p : Pls) (g n : Int) : Nat := min n.toNat (p g.toNat).fr.length
def rmI (p : Pls) (g n : Int) : Int := if rmE g n = 0 then (rmK p g n : Int) else 0
def rmP (p : Pls) (g n : Int) : Pls := if rmE g n = 0 then upd p g.toNat ⟨(p g.toNat).fr.drop (rmK p g n), (p g.toNat).out⟩ else p
/-- State, Free, Out. -/
def stS (p : Pls) (g x : Int) : Int := if Bad g then 0 else if Hasb (p g.toNat).fr x then 1 else if Hasb (p g.toNat).out x then 2 else 0
def frL (p : Pls) (g : Int) : List Int := if Bad g then [] else (p g.toNat).fr.map Bf.id
def ouN (p : Pls) (g : Int) : Nat := if Bad g then 0 else (p g.toNat).out.length

theorem pvE_bad {p : Pls} {g a n s : Int} (h : pvBad g a n s) : pvE p g a n s = 1 ∧ pvP p g a n s = p := by
  have e : pvE p g a n s = 1 := if_pos h
  exact ⟨e, if_neg (by rw [e]; decide)⟩
theorem pvE_same {p : Pls} {g a n s : Int} (h : ¬ pvBad g a n s) (h1 : pvSame (p g.toNat) a n) : pvE p g a n s = 140 ∧ pvP p g a n s = p := by
  have e : pvE p g a n s = 140 := (if_neg h).trans (if_pos h1)
  exact ⟨e, if_neg (by rw [e]; decide)⟩
theorem pvE_full {p : Pls} {g a n s : Int} (h : ¬ pvBad g a n s) (h1 : ¬ pvSame (p g.toNat) a n) (h2 : 1024 < ((p g.toNat).fr.length : Int) + ((p g.toNat).out.length : Int) + n) : pvE p g a n s = 5 ∧ pvP p g a n s = p := by
  have e : pvE p g a n s = 5 := (if_neg h).trans ((if_neg h1).trans (if_pos h2))
  exact ⟨e, if_neg (by rw [e]; decide)⟩
theorem pvE_ok {p : Pls} {g a n s : Int} (h : ¬ pvBad g a n s) (h1 : ¬ pvSame (p g.toNat) a n) (h2 : ¬ 1024 < ((p g.toNat).fr.length : Int) + ((p g.toNat).out.length : Int) + n) : pvE p g a n s = 0 ∧ pvP p g a n s = upd p g.toNat ⟨(p g.toNat).fr ++ news a n s, (p g.toNat).out⟩ := by
  have e : pvE p g a n s = 0 := (if_neg h).trans ((if_neg h1).trans (if_neg h2))
  exact ⟨e, if_pos e⟩
theorem tkE_bad {p : Pls} {g : Int} (h : Bad g) : tkE p g = 1 ∧ tkI p g = 0 ∧ tkS p g = 0 ∧ tkP p g = p := by
  have e : tkE p g = 1 := if_pos h
  have n : ¬ tkE p g = 0 := by rw [e]; decide
  exact ⟨e, if_neg n, if_neg n, if_neg n⟩
theorem tkE_none {p : Pls} {g : Int} (h : ¬ Bad g) (h1 : (p g.toNat).fr.length = 0) : tkE p g = 6 ∧ tkI p g = 0 ∧ tkS p g = 0 ∧ tkP p g = p := by
  have e : tkE p g = 6 := (if_neg h).trans (if_pos h1)
  have n : ¬ tkE p g = 0 := by rw [e]; decide
  exact ⟨e, if_neg n, if_neg n, if_neg n⟩
theorem tkE_ok {p : Pls} {g : Int} (h : ¬ Bad g) (h1 : ¬ (p g.toNat).fr.length = 0) : tkE p g = 0 ∧ tkI p g = (bp (p g.toNat).fr 0).id ∧ tkS p g = (bp (p g.toNat).fr 0).sz ∧ tkP p g = upd p g.toNat ⟨(p g.toNat).fr.drop 1, (p g.toNat).out ++ [bp (p g.toNat).fr 0]⟩ := by
  have e : tkE p g = 0 := (if_neg h).trans (if_neg h1)
  exact ⟨e, if_pos e, if_pos e, if_pos e⟩
theorem gvE_bad {p : Pls} {g x : Int} (h : Bad g) : gvE p g x = 1 ∧ gvP p g x = p := by
  have e : gvE p g x = 1 := if_pos h
  exact ⟨e, if_neg (by rw [e]; decide)⟩
theorem gvE_none {p : Pls} {g x : Int} (h : ¬ Bad g) (h1 : ¬ Hasb (p g.toNat).out x) : gvE p g x = 6 ∧ gvP p g x = p := by
  have e : gvE p g x = 6 := (if_neg h).trans (if_neg h1)
  exact ⟨e, if_neg (by rw [e]; decide)⟩
theorem gvE_ok {p : Pls} {g x : Int} (h : ¬ Bad g) (h1 : Hasb (p g.toNat).out x) : gvE p g x = 0 ∧ gvP p g x = upd p g.toNat ⟨(p g.toNat).fr ++ [bp (p g.toNat).out (ix (p g.toNat).out x)], (p g.toNat).out.eraseIdx (ix (p g.toNat).out x)⟩ := by
  have e : gvE p g x = 0 := (if_neg h).trans (if_pos h1)
  exact ⟨e, if_pos e⟩
theorem rmE_bad {p : Pls} {g n : Int} (h : Bad g ∨ n < 0) : rmE g n = 1 ∧ rmI p g n = 0 ∧ rmP p g n = p := by
  have e : rmE g n = 1 := if_pos h
  have q : ¬ rmE g n = 0 := by rw [e]; decide
  exact ⟨e, if_neg q, if_neg q⟩
theorem rmE_ok {p : Pls} {g n : Int} (h : ¬ (Bad g ∨ n < 0)) : rmE g n = 0 ∧ rmI p g n = (rmK p g n : Int) ∧ rmP p g n = upd p g.toNat ⟨(p g.toNat).fr.drop (rmK p g n), (p g.toNat).out⟩ := by
  have e : rmE g n = 0 := if_neg h
  exact ⟨e, if_pos e, if_pos e⟩

/-- What always holds of a group. -/
structure GOk (x : Gp) : Prop where
  nd : ((x.fr ++ x.out).map Bf.id).Nodup
  len : x.fr.length + x.out.length ≤ 1024
  rng : ∀ b ∈ x.fr ++ x.out, 0 ≤ b.id ∧ b.id < 65536 ∧ 1 ≤ b.sz ∧ b.sz ≤ 65536
def POk (p : Pls) : Prop := ∀ i, i < 16 → GOk (p i)
theorem gok_none : GOk ⟨[], []⟩ := ⟨List.nodup_nil, by simp, by simp⟩
theorem pok_none : POk noneP := fun _ _ => gok_none
theorem POk.upd {p : Pls} (h : POk p) {g : Nat} {x : Gp} (hx : GOk x) : POk (upd p g x) := fun i hi => by
  by_cases e : i = g
  · subst e; rw [upd_same]; exact hx
  · rw [upd_other e]; exact h i hi
theorem news_nd (a n s : Int) : ((news a n s).map Bf.id).Nodup := by
  unfold news
  rw [List.map_map, List.Nodup, List.pairwise_map]
  refine List.Pairwise.imp_of_mem ?_ List.nodup_range
  intro i j _ _ hne e
  simp only [Function.comp] at e
  exact hne (by omega)
theorem GOk.prov {x : Gp} (h : GOk x) {a n s : Int} (hn : 1 ≤ n ∧ n ≤ 1024) (ha : 0 ≤ a ∧ a ≤ 65536 - n) (hs : 1 ≤ s ∧ s ≤ 65536) (h1 : ¬ pvSame x a n) (h2 : ¬ 1024 < (x.fr.length : Int) + (x.out.length : Int) + n) : GOk ⟨x.fr ++ news a n s, x.out⟩ := by
  have hno : ∀ b ∈ x.fr ++ x.out, ∀ c ∈ news a n s, b.id ≠ c.id := fun b hb c hc e => by
    have := news_mem hc
    exact h1 ⟨b, hb, by omega, by omega⟩
  refine ⟨?_, ?_, fun b hb => ?_⟩
  · show ((x.fr ++ news a n s ++ x.out).map Bf.id).Nodup
    have nd := h.nd
    rw [List.map_append] at nd
    obtain ⟨q1, q2, q3⟩ := List.nodup_append.1 nd
    rw [List.map_append, List.map_append, List.nodup_append]
    refine ⟨List.nodup_append.2 ⟨q1, news_nd a n s, ?_⟩, q2, ?_⟩
    · intro u hu v hv e
      obtain ⟨b, hb, rfl⟩ := List.mem_map.1 hu
      obtain ⟨c, hc, rfl⟩ := List.mem_map.1 hv
      exact hno b (List.mem_append.2 (.inl hb)) c hc e
    · intro u hu v hv e
      rcases List.mem_append.1 hu with hu | hu
      · exact q3 u hu v hv e
      · obtain ⟨c, hc, rfl⟩ := List.mem_map.1 hu
        obtain ⟨b, hb, rfl⟩ := List.mem_map.1 hv
        exact hno b (List.mem_append.2 (.inr hb)) c hc e.symm
  · show (x.fr ++ news a n s).length + x.out.length ≤ 1024
    rw [List.length_append, news_len]
    omega
  · rcases List.mem_append.1 hb with hb | hb
    · rcases List.mem_append.1 hb with hb | hb
      · exact h.rng b (List.mem_append.2 (.inl hb))
      · have := news_mem hb
        omega
    · exact h.rng b (List.mem_append.2 (.inr hb))
theorem GOk.perm {x y : Gp} (h : GOk x) (hp : (y.fr ++ y.out).Perm (x.fr ++ x.out)) : GOk y := by
  refine ⟨(hp.map _).nodup_iff.2 h.nd, ?_, fun b hb => h.rng b (hp.mem_iff.1 hb)⟩
  have := hp.length_eq
  rw [List.length_append, List.length_append] at this
  have := h.len
  omega
theorem fr_head {l : List Bf} (h : ¬ l.length = 0) : l = bp l 0 :: l.drop 1 := by
  cases l with
  | nil => exact absurd rfl h
  | cons a l => rfl
theorem GOk.take {x : Gp} (h : GOk x) (h1 : ¬ x.fr.length = 0) : GOk ⟨x.fr.drop 1, x.out ++ [bp x.fr 0]⟩ := by
  refine h.perm ?_
  show (x.fr.drop 1 ++ (x.out ++ [bp x.fr 0])).Perm (x.fr ++ x.out)
  have e := fr_head h1
  obtain ⟨b, hb⟩ : ∃ b, b = bp x.fr 0 := ⟨_, rfl⟩
  rw [← hb] at e ⊢
  obtain ⟨r, hr⟩ : ∃ r, r = x.fr.drop 1 := ⟨_, rfl⟩
  rw [← hr] at e ⊢
  rw [e, ← List.append_assoc]
  exact List.perm_append_comm
theorem erase_perm : ∀ (l : List Bf) (k : Nat), k < l.length → (bp l k :: l.eraseIdx k).Perm l
  | [], k, h => absurd h (Nat.not_lt_zero _)
  | a :: l, 0, _ => List.Perm.refl _
  | a :: l, k + 1, h => by
    have ih := erase_perm l k (by simpa using h)
    show (bp l k :: a :: l.eraseIdx k).Perm (a :: l)
    exact (List.Perm.swap a (bp l k) _).trans (ih.cons a)
theorem GOk.give {x : Gp} (h : GOk x) {k : Nat} (hk : k < x.out.length) : GOk ⟨x.fr ++ [bp x.out k], x.out.eraseIdx k⟩ := by
  refine h.perm ?_
  show (x.fr ++ [bp x.out k] ++ x.out.eraseIdx k).Perm (x.fr ++ x.out)
  rw [List.append_assoc]
  exact (erase_perm x.out k hk).append_left x.fr
theorem GOk.rem {x : Gp} (h : GOk x) (k : Nat) : GOk ⟨x.fr.drop k, x.out⟩ := by
  have hs : (x.fr.drop k ++ x.out).Sublist (x.fr ++ x.out) := (List.drop_sublist k x.fr).append (List.Sublist.refl _)
  refine ⟨(hs.map _).nodup h.nd, ?_, fun b hb => h.rng b (hs.subset hb)⟩
  have := hs.length_le
  rw [List.length_append, List.length_append] at this
  have := h.len
  simp only
  omega
theorem not_pvBad {g a n s : Int} (h : ¬ pvBad g a n s) : ¬ Bad g ∧ (1 ≤ n ∧ n ≤ 1024) ∧ (0 ≤ a ∧ a ≤ 65536 - n) ∧ (1 ≤ s ∧ s ≤ 65536) := by
  unfold pvBad at h
  by_cases hb : Bad g
  · exact absurd (.inl hb) h
  · refine ⟨hb, ?_, ?_, ?_⟩ <;> constructor <;> exact Decidable.byContradiction fun q => h (by omega)
theorem POk.prov {p : Pls} (h : POk p) (g a n s : Int) : POk (pvP p g a n s) := by
  by_cases h0 : pvBad g a n s
  · rw [(pvE_bad h0).2]; exact h
  by_cases h1 : pvSame (p g.toNat) a n
  · rw [(pvE_same h0 h1).2]; exact h
  by_cases h2 : 1024 < ((p g.toNat).fr.length : Int) + ((p g.toNat).out.length : Int) + n
  · rw [(pvE_full h0 h1 h2).2]; exact h
  · rw [(pvE_ok h0 h1 h2).2]
    obtain ⟨q0, q1, q2, q3⟩ := not_pvBad h0
    obtain ⟨k, _, hk, hk2⟩ := bad_nat q0
    rw [hk2] at h1 h2 ⊢
    exact h.upd ((h k hk).prov q1 q2 q3 h1 h2)
theorem POk.tk {p : Pls} (h : POk p) (g : Int) : POk (tkP p g) := by
  by_cases h0 : Bad g
  · rw [(tkE_bad h0).2.2.2]; exact h
  by_cases h1 : (p g.toNat).fr.length = 0
  · rw [(tkE_none h0 h1).2.2.2]; exact h
  · rw [(tkE_ok h0 h1).2.2.2]
    obtain ⟨k, _, hk, hk2⟩ := bad_nat h0
    rw [hk2] at h1 ⊢
    exact h.upd ((h k hk).take h1)
theorem POk.gv {p : Pls} (h : POk p) (g x : Int) : POk (gvP p g x) := by
  by_cases h0 : Bad g
  · rw [(gvE_bad h0).2]; exact h
  by_cases h1 : Hasb (p g.toNat).out x
  · rw [(gvE_ok h0 h1).2]
    obtain ⟨k, _, hk, hk2⟩ := bad_nat h0
    rw [hk2] at h1 ⊢
    exact h.upd ((h k hk).give (ix_lt h1))
  · rw [(gvE_none h0 h1).2]; exact h
theorem POk.rm {p : Pls} (h : POk p) (g n : Int) : POk (rmP p g n) := by
  by_cases h0 : Bad g ∨ n < 0
  · rw [(rmE_bad (p := p) h0).2.2]; exact h
  · rw [(rmE_ok (p := p) h0).2.2]
    obtain ⟨k, _, hk, hk2⟩ := bad_nat fun q => h0 (.inl q)
    rw [hk2]
    exact h.upd ((h k hk).rem _)
end Go.Proofs.Ytkambcjinidomaa
