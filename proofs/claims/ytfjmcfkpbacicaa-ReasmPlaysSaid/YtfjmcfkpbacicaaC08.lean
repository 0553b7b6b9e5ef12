/- The table in memory: its packets, their order, the map; what stays, one packet changed, one more, one less. -/
import Derived.Test.YtfjmcfkpbacicaaC07
import Derived.Test.YtfjmcfkpbacicaaC03
import Derived.Test.YtfjmcfkpbacicaaC05
namespace Go.Proofs.Ytfjmcfkpbacicaa
set_option linter.unusedVariables false
set_option linter.unusedSimpArgs false
open Go.ChangeShapes Go.WideShapes Go.ChangeAt Go.RowKit Go.Shelf

def pairOf (p : Wp) : Nm × Nat := (p.nm, p.blk)
structure Tab (w : World) (base tb mb : Nat) (ov : Value) (most life : Int) (L : List Wp) : Prop where
  top : w.heap[tb]? = some (.cells #[.int .i64 most, .int .i64 life, .map (some mb), ov] 67 (0, 0))
  low : base ≤ tb
  lowM : base ≤ mb
  map : MapAt w mb (L.map pairOf)
  ord : Nrow w base ov (L.map Wp.nm)
  pk : ∀ p ∈ L, PktAt w base p
  blks : (L.map Wp.blk).Nodup
  rblk : L.Pairwise fun p q => ∀ b, p.rv.ownBlock = some b → q.rv.ownBlock ≠ some b
  nms : (L.map Wp.nm).Nodup
  few : L.length ≤ 64
  sz : base ≤ w.heap.size
  rng : 1 ≤ most ∧ most ≤ 64 ∧ 1 ≤ life ∧ life ≤ 65535
/-- The blocks of the table itself, of the map and of the order. -/
def Zt (b : Nat) (T : TypeId) : Prop := T = 67 ∨ T = 64 ∨ T = 70
/-- All blocks of a table. -/
def Za (b : Nat) (T : TypeId) : Prop := Zt b T ∨ T = 75 ∨ T = 99
theorem zt_za {b : Nat} {T : TypeId} (h : Zt b T) : Za b T := .inl h
theorem zp_za {p : Wp} {b : Nat} {T : TypeId} (h : Zp p b T) : Za b T := by
  rcases h with ⟨_, h⟩ | ⟨_, h⟩
  · exact .inr (.inl h)
  · exact .inr (.inr h)
theorem zt_no {b : Nat} {T : TypeId} (h1 : T ≠ 67) (h2 : T ≠ 64) (h3 : T ≠ 70) : ¬ Zt b T := fun h => by rcases h with h | h | h <;> contradiction
theorem za_byte (b : Nat) : ¬ Za b 5 := fun h => by rcases h with (h | h | h) | h | h <;> exact absurd h (by decide)
theorem zt_byte (b : Nat) : ¬ Zt b 5 := fun h => za_byte b (zt_za h)
theorem zt_ip (b : Nat) : ¬ Zt b 38 := zt_no (by decide) (by decide) (by decide)
theorem MapAt.of_heap {w w' : World} {mb : Nat} {L : List (Nm × Nat)} (h : MapAt w mb L) (hb : ∀ es ck, w.heap[mb]? = some (.map es ck) → w'.heap[mb]? = some (.map es ck)) : MapAt w' mb L := by
  obtain ⟨es, ck, h1, h2⟩ := h
  exact ⟨es, ck, hb es ck h1, h2⟩

section
variable {w w' : World} {base tb mb : Nat} {ov : Value} {most life : Int} {L : List Wp}
theorem Tab.only {Z : Nat → TypeId → Prop} (h : Tab w base tb mb ov most life L) (o : Only base Z w w') (h1 : ¬ Z tb 67) (h2 : ¬ Z mb 64) (h3 : ∀ b, ¬ Z b 70) (h4 : ∀ b, ¬ Z b 75) (h5 : ∀ b, ¬ Z b 99) (h6 : ∀ b, ¬ Z b 5) (h7 : ∀ b, ¬ Z b 38) : Tab w' base tb mb ov most life L :=
  ⟨o.cells h.top h1, h.low, h.lowM, h.map.of_heap fun es ck hh => o.keep _ _ _ hh rfl h2, o.row h.ord fun b _ => h3 b, fun p hp => (h.pk p hp).only o (h4 _) (fun b _ => h5 b) h6 h7, h.blks, h.rblk, h.nms, h.few, Nat.le_trans h.sz o.size, h.rng⟩
theorem Tab.grow (h : Tab w base tb mb ov most life L) (g : Grow w w') : Tab w' base tb mb ov most life L :=
  h.only (Only.grow g h.sz fun _ _ => False) (fun h => h) (fun h => h) (fun _ h => h) (fun _ h => h) (fun _ h => h) (fun _ h => h) (fun _ h => h)
theorem Tab.cell (h : Tab w base tb mb ov most life L) (i : Nat) : w.cell? ⟨tb, i, none⟩ = (#[.int .i64 most, .int .i64 life, .map (some mb), ov] : Array Value)[i]? := cell_of_row w tb i _ _ _ h.top
theorem Tab.c0 (h : Tab w base tb mb ov most life L) : w.cell? ⟨tb, 0, none⟩ = some (.int .i64 most) := h.cell 0
theorem Tab.c1 (h : Tab w base tb mb ov most life L) : w.cell? ⟨tb, 1, none⟩ = some (.int .i64 life) := h.cell 1
theorem Tab.c2 (h : Tab w base tb mb ov most life L) : w.cell? ⟨tb, 2, none⟩ = some (.map (some mb)) := h.cell 2
theorem Tab.c3 (h : Tab w base tb mb ov most life L) : w.cell? ⟨tb, 3, none⟩ = some ov := h.cell 3
theorem Tab.fz (h : Tab w base tb mb ov most life L) (i : Nat) : w.frozen? ⟨tb, i, none⟩ = false := frozen_of h.top
theorem Tab.lt (h : Tab w base tb mb ov most life L) : tb < w.heap.size := (Array.getElem?_eq_some_iff.1 h.top).1
theorem Tab.ltM (h : Tab w base tb mb ov most life L) : mb < w.heap.size := by
  obtain ⟨es, ck, h1, _⟩ := h.map
  exact (Array.getElem?_eq_some_iff.1 h1).1
theorem names_pairs (L : List Wp) : (L.map pairOf).map Prod.fst = L.map Wp.nm := by rw [List.map_map]; rfl
theorem mem_absent {x : Nm} (hx : x ∉ L.map Wp.nm) : ∀ y ∈ L.map pairOf, y.1 ≠ x := by
  intro y hy e
  obtain ⟨p, hp, rfl⟩ := List.mem_map.1 hy
  exact hx (List.mem_map.2 ⟨p, hp, e⟩)
theorem Tab.at_ (h : Tab w base tb mb ov most life L) {i : Nat} {p : Wp} (hi : L[i]? = some p) : (L.map pairOf)[i]? = some (p.nm, p.blk) := by rw [List.getElem?_map, hi]; rfl

/-- One packet changed. -/
theorem Tab.set (h : Tab w base tb mb ov most life L) {i : Nat} {p p' : Wp} (hi : L[i]? = some p) (hp' : PktAt w' base p') (g : Grows base p p' w w') : Tab w' base tb mb ov most life (L.set i p') := by
  obtain ⟨hil, hie⟩ := List.getElem?_eq_some_iff.1 hi
  have hset : ∀ (α : Type) (f : Wp → α), f p' = f p → (L.set i p').map f = L.map f := fun α f hf => by
    rw [List.map_set, hf]
    have e : (L.map f)[i]? = some (f p) := by rw [List.getElem?_map, hi]; rfl
    obtain ⟨e1, e2⟩ := List.getElem?_eq_some_iff.1 e
    rw [← e2, List.set_getElem_self]
  have e1 : (L.set i p').map pairOf = L.map pairOf := hset _ _ (by unfold pairOf; rw [g.nm, g.blk])
  have e2 : (L.set i p').map Wp.nm = L.map Wp.nm := hset _ _ g.nm
  have e3 : (L.set i p').map Wp.blk = L.map Wp.blk := hset _ _ g.blk
  have hother : ∀ j (hj : j < L.length), j ≠ i → PktAt w' base L[j] := by
    intro j hj hne
    have hb : (L[j]).blk ≠ p.blk := by
      intro e
      have hn := h.blks
      unfold List.Nodup at hn
      rw [List.pairwise_iff_getElem] at hn
      rcases Nat.lt_or_ge j i with h1 | h1
      · have := hn j i (by rw [List.length_map]; exact hj) (by rw [List.length_map]; exact hil) h1
        rw [List.getElem_map, List.getElem_map, hie] at this
        exact this e
      · have := hn i j (by rw [List.length_map]; exact hil) (by rw [List.length_map]; exact hj) (by omega)
        rw [List.getElem_map, List.getElem_map, hie] at this
        exact this e.symm
    have hr : ∀ b, (L[j]).rv.ownBlock = some b → p.rv.ownBlock ≠ some b := by
      intro b hb e
      rcases Nat.lt_or_ge j i with h1 | h1
      · have := List.pairwise_iff_getElem.1 h.rblk j i hj hil h1 b hb
        rw [hie] at this
        exact this e
      · have := List.pairwise_iff_getElem.1 h.rblk i j hil hj (by omega) b
        rw [hie] at this
        exact this e hb
    refine (h.pk _ (List.getElem_mem hj)).only g.only (fun e => ?_) (fun b hb2 e => ?_) (fun b e => ?_) (fun b e => ?_)
    · rcases e with e | e
      · exact hb e.1
      · exact absurd e.2 (by decide)
    · rcases e with e | e
      · exact absurd e.2 (by decide)
      · exact hr b hb2 e.1
    · rcases e with e | e <;> exact absurd e.2 (by decide)
    · rcases e with e | e <;> exact absurd e.2 (by decide)
  refine ⟨g.only.cells h.top (fun e => by rcases e with e | e <;> exact absurd e.2 (by decide)), h.low, h.lowM, ?_, ?_, ?_, by rw [e3]; exact h.blks, ?_, by rw [e2]; exact h.nms, by rw [List.length_set]; exact h.few, Nat.le_trans h.sz g.only.size, h.rng⟩
  · rw [e1]
    exact h.map.of_heap fun es ck hh => g.only.keep _ _ _ hh rfl (fun e => by rcases e with e | e <;> exact absurd e.2 (by decide))
  · rw [e2]
    exact g.only.row h.ord (fun b _ e => by rcases e with e | e <;> exact absurd e.2 (by decide))
  · intro q hq
    obtain ⟨j, hj, rfl⟩ := List.getElem_of_mem hq
    rw [List.length_set] at hj
    by_cases hji : i = j
    · subst hji
      rw [List.getElem_set_self]
      exact hp'
    · rw [List.getElem_set_ne hji]
      exact hother j hj (fun e => hji e.symm)
  · rw [List.pairwise_iff_getElem]
    intro j k hj hk hjk b hb
    rw [List.length_set] at hj hk
    have hlt : ∀ t (ht : t < L.length), ∀ b, (L[t]).rv.ownBlock = some b → b < w.heap.size := fun t ht b hb => ((h.pk _ (List.getElem_mem ht)).row.lt _ hb).2
    by_cases h1 : i = j
    · subst h1
      rw [List.getElem_set_self] at hb
      rw [List.getElem_set_ne (by omega)]
      rcases g.new b hb with h2 | h2
      · have := List.pairwise_iff_getElem.1 h.rblk i k hj hk hjk b
        rw [hie] at this
        exact this h2
      · intro e
        have := hlt k hk b e
        omega
    · rw [List.getElem_set_ne h1] at hb
      by_cases h2 : i = k
      · subst h2
        rw [List.getElem_set_self]
        intro e
        rcases g.new b e with h3 | h3
        · have := List.pairwise_iff_getElem.1 h.rblk j i hj hk hjk b hb
          rw [hie] at this
          exact this h3
        · have := hlt j hj b hb
          omega
      · rw [List.getElem_set_ne h2]
        exact List.pairwise_iff_getElem.1 h.rblk j k hj hk hjk b hb
end

/-- A packet that has just begun to wait. -/
def fresh (x : Nm) (b : Nat) (till : Int) : Wp := ⟨x, b, till, none, 0, .slice none 0 0, []⟩
theorem fresh_at {w : World} {base : Nat} {x : Nm} {b : Nat} {till : Int} (h : w.heap[b]? = some (.cells (pcells (fresh x b till)) 75 (0, 0))) (hb : base ≤ b) (ht : 0 ≤ till ∧ till ≤ 2000000000000) : PktAt w base (fresh x b till) :=
  ⟨h, hb, World.ownsRow_nil _ _ _ _, fun r hr => by simp [fresh] at hr, trivial, by show reach 0 [] ≤ _; simp [reach], fun f hf => by simp [fresh] at hf, by simp [fresh], ht⟩
end Go.Proofs.Ytfjmcfkpbacicaa
/- The table's answers, on lists. -/
namespace Go.Proofs.Ytfjmcfkpbacicaa
set_option linter.unusedVariables false
set_option linter.unusedSimpArgs false

/-- A packet that waits, as the document has it. -/
structure Wt where
  nm : Nm
  till : Int
  first : Option Pkt
  fin : Nat
  c : Cont
def absW (p : Wp) : Wt := ⟨p.nm, p.till, p.fk, p.fin, cont 0 p.ns⟩
def tookW (t : Wt) (k : Pkt) : Wt := { t with first := if k.off = 0 ∧ t.first = none then some k else t.first, fin := if k.more = true then t.fin else (endOf k).toNat, c := paint t.c (8 * k.off).toNat k.data }
def fullW (t : Wt) : Bool := decide (t.fin ≠ 0 ∧ cnt t.c = t.fin)
def bytesC (c : Cont) : List UInt8 := c.filterMap id
def freshW (x : Nm) (till : Int) : Wt := ⟨x, till, none, 0, []⟩
structure WOk (t : Wt) : Prop where
  last : ∀ n, t.c.length = n + 1 → ∃ b, look t.c n = some b
  fst : t.first = none → look t.c 0 = none
  fin : t.fin ≠ 0 → t.c.length = t.fin
  top : t.c.length ≤ 65515
  pk : ∀ k, t.first = some k → k.Ok ∧ k.Small
  dat : ∀ k, t.first = some k → k.data ≠ []
theorem freshW_ok (x : Nm) (till : Int) : WOk (freshW x till) := ⟨fun n h => by simp [freshW] at h, fun _ => look_past (by simp [freshW]), fun h => by simp [freshW] at h, by simp [freshW], fun k h => by simp [freshW] at h, fun k h => by simp [freshW] at h⟩
theorem chk_zero {k : Pkt} (h : chk k = 0) : k.data ≠ [] ∧ (k.more = true → k.data.length % 8 = 0) ∧ endOf k ≤ 65515 := by
  unfold chk at h
  split at h
  · cases h
  · rename_i h1
    split at h
    · cases h
    · refine ⟨fun e => h1 (.inl (by rw [e]; rfl)), fun hm => ?_, by omega⟩
      by_cases h8 : k.data.length % 8 = 0
      · exact h8
      · exact absurd (.inr ⟨hm, h8⟩) h1
theorem tookW_ok {t : Wt} {k : Pkt} (h : WOk t) (hs : staleB t.fin t.c.length k = false) (h0 : 0 ≤ k.off) (hc : chk k = 0) (hk : k.Ok) (hsm : k.Small) : WOk (tookW t k) ∧ (tookW t k).c ≠ [] := by
  obtain ⟨c1, c2, c3⟩ := chk_zero hc
  have hd : 0 < k.data.length := List.length_pos_iff.2 c1
  obtain ⟨p, hp⟩ : ∃ p, (8 * k.off).toNat = p := ⟨_, rfl⟩
  have hE : endOf k = ((p + k.data.length : Nat) : Int) := by unfold endOf; omega
  have hlen : (tookW t k).c.length = max t.c.length (p + k.data.length) := by
    show (paint t.c (8 * k.off).toNat k.data).length = _
    rw [paint_length _ _ c1, hp]
  have hlook : ∀ i, look (tookW t k).c i = (look t.c i).or (if p ≤ i then k.data[i - p]? else none) := fun i => by
    show look (paint t.c (8 * k.off).toNat k.data) i = _
    rw [paint_look, hp]
  refine ⟨⟨fun n hn => ?_, fun hf => ?_, fun hf => ?_, ?_, fun q hq => ?_, fun q hq => ?_⟩, fun e => ?_⟩
  · rw [hlen] at hn
    rw [hlook]
    rcases Nat.lt_or_ge n t.c.length with h1 | h1
    · obtain ⟨b, hb⟩ := h.last n (by omega)
      exact ⟨b, by rw [hb]; rfl⟩
    · rw [look_past h1, if_pos (by omega), Option.none_or, List.getElem?_eq_getElem (by omega)]
      exact ⟨_, rfl⟩
  · have h2 : ¬ (k.off = 0 ∧ t.first = none) ∧ t.first = none := by
      have hf : (if k.off = 0 ∧ t.first = none then some k else t.first) = none := hf
      split at hf
      · cases hf
      · rename_i h3; exact ⟨h3, hf⟩
    rw [hlook, h.fst h2.2, if_neg (fun e => h2.1 ⟨by omega, h2.2⟩)]
    rfl
  · have hfin : (tookW t k).fin = if k.more = true then t.fin else (endOf k).toNat := rfl
    rw [hlen, hfin]
    rw [hfin] at hf
    unfold staleB at hs
    split
    · rename_i hm
      rw [if_pos hm] at hf
      rw [if_pos hf] at hs
      simp only [Bool.or_eq_false_iff, decide_eq_false_iff_not] at hs
      have := h.fin hf
      omega
    · rename_i hm
      have hm : k.more = false := by simpa using hm
      rw [hm] at hs
      split at hs
      · rename_i h4
        simp only [Bool.or_eq_false_iff, decide_eq_false_iff_not, Bool.not_false, Bool.true_and] at hs
        have := h.fin h4
        omega
      · simp only [decide_eq_false_iff_not, Bool.not_false, Bool.true_and] at hs
        omega
  · rw [hlen]
    have := h.top
    omega
  · have hq : (if k.off = 0 ∧ t.first = none then some k else t.first) = some q := hq
    split at hq
    · cases hq; exact ⟨hk, hsm⟩
    · exact h.pk q hq
  · have hq : (if k.off = 0 ∧ t.first = none then some k else t.first) = some q := hq
    split at hq
    · cases hq; exact c1
    · exact h.dat q hq
  · have := congrArg List.length e
    rw [hlen] at this
    simp only [List.length_nil] at this
    omega
theorem fullW_first {t : Wt} (h : WOk t) (hf : fullW t = true) : ∃ k, t.first = some k := by
  unfold fullW at hf
  obtain ⟨h1, h2⟩ := of_decide_eq_true hf
  cases hk : t.first with
  | some k => exact ⟨k, rfl⟩
  | none =>
    have hl := h.fin h1
    obtain ⟨b, hb⟩ := cnt_all (c := t.c) (by omega) 0 (by omega)
    rw [h.fst hk] at hb
    cases hb
theorem bytesC_some (l : List UInt8) : bytesC (l.map some) = l := by
  unfold bytesC
  rw [List.filterMap_map]
  simp
theorem full_flat {ns : List RowN} (hl : Laid 0 ns) {t : Wt} (ht : t.c = cont 0 ns) (h : WOk t) (hf : fullW t = true) : flat ns = bytesC t.c := by
  unfold fullW at hf
  obtain ⟨h1, h2⟩ := of_decide_eq_true hf
  have hlen := h.fin h1
  have := flat_cont ns 0 hl (fun k hk => by
    rw [← ht] at hk ⊢
    exact cnt_all (c := t.c) (by omega) k hk)
  rw [ht, this, bytesC_some]

structure AddR where
  L : List Wt
  k : Pkt
  ok : Bool
  e : Int
def finS (A : List Wt) (i : Nat) (t : Wt) : AddR :=
  if fullW t then (if 65535 < (wholeK (t.first.getD zeroPk) (bytesC t.c)).len then ⟨A.eraseIdx i, zeroPk, false, 9⟩ else ⟨A.eraseIdx i, wholeK (t.first.getD zeroPk) (bytesC t.c), true, 0⟩)
  else ⟨A.set i t, zeroPk, false, 0⟩
def idxOf (A : List Wt) (x : Nm) : Option Nat := A.findIdx? fun t => t.nm == x
def addS (most life now : Int) (k : Pkt) (A : List Wt) : AddR :=
  if now < 0 ∨ 1099511627776 < now ∨ k.off < 0 ∨ 8191 < k.off then ⟨A, zeroPk, false, 8⟩
  else if k.off = 0 ∧ k.more = false then ⟨A, k, true, 0⟩
  else if chk k ≠ 0 then ⟨A, zeroPk, false, chk k⟩
  else match idxOf A (nmOf k) with
    | none => if most ≤ (A.length : Int) then ⟨A, zeroPk, false, 5⟩ else finS (A ++ [freshW (nmOf k) (now + life)]) A.length (tookW (freshW (nmOf k) (now + life)) k)
    | some i => match A[i]? with
      | none => ⟨A, zeroPk, false, 0⟩
      | some t => if staleB t.fin t.c.length k then ⟨A, zeroPk, false, 120⟩ else finS A i (tookW t k)
/-- All that waits is as it should be. -/
def AOk (A : List Wt) : Prop := ∀ t ∈ A, WOk t ∧ t.c ≠ []
theorem idxOf_some {A : List Wt} {x : Nm} {i : Nat} (h : idxOf A x = some i) : ∃ t, A[i]? = some t ∧ t.nm = x := by
  unfold idxOf at h
  rw [List.findIdx?_eq_some_iff_getElem] at h
  obtain ⟨hi, h1, _⟩ := h
  exact ⟨A[i], List.getElem?_eq_getElem hi, by simpa using h1⟩
theorem idxOf_none {A : List Wt} {x : Nm} (h : idxOf A x = none) : x ∉ A.map Wt.nm := by
  unfold idxOf at h
  rw [List.findIdx?_eq_none_iff] at h
  intro hx
  obtain ⟨t, ht, rfl⟩ := List.mem_map.1 hx
  have := h t ht
  simp at this
theorem finS_ok {A : List Wt} {i : Nat} {t : Wt} (h : ∀ u ∈ A.eraseIdx i, WOk u ∧ u.c ≠ []) (hs : ∀ u ∈ A.set i t, u = t ∨ u ∈ A.eraseIdx i) (ht : WOk t ∧ t.c ≠ []) : AOk (finS A i t).L := by
  unfold finS
  split
  · split <;> exact h
  · intro u hu
    rcases hs u hu with rfl | h1
    · exact ht
    · exact h u h1
theorem mem_set_erase {A : List Wt} {i : Nat} {t u : Wt} (h : u ∈ A.set i t) : u = t ∨ u ∈ A.eraseIdx i := by
  obtain ⟨j, hj, rfl⟩ := List.getElem_of_mem h
  by_cases e : i = j
  · subst e
    exact .inl (List.getElem_set_self _)
  · rw [List.getElem_set_ne e]
    rw [List.length_set] at hj
    exact .inr (List.mem_eraseIdx_iff_getElem?.2 ⟨j, fun e2 => e e2.symm, List.getElem?_eq_getElem hj⟩)
theorem addS_ok {A : List Wt} (h : AOk A) {most life now : Int} {k : Pkt} (hk : k.Ok) (hsm : k.Small) : AOk (addS most life now k A).L := by
  unfold addS
  split
  · exact h
  · rename_i h1
    split
    · exact h
    · split
      · exact h
      · rename_i h3
        have hc : chk k = 0 := by simpa using h3
        have h0 : 0 ≤ k.off := by omega
        split
        · split
          · exact h
          · have ht := tookW_ok (freshW_ok (nmOf k) (now + life)) (by
              unfold staleB freshW
              simp only [ne_eq, not_true_eq_false, if_false, List.length_nil]
              have : 0 ≤ endOf k := by unfold endOf; omega
              simp
              intro _
              exact this) h0 hc hk hsm
            refine finS_ok (fun u hu => ?_) (fun u => mem_set_erase) ht
            rw [List.eraseIdx_append_of_length_le (Nat.le_refl _)] at hu
            simp at hu
            exact h u hu
        · rename_i i hi
          obtain ⟨t, ht, hn⟩ := idxOf_some hi
          rw [ht]
          simp only
          have hm := List.mem_of_getElem? ht
          split
          · exact h
          · rename_i hs
            exact finS_ok (fun u hu => h u (List.mem_of_mem_eraseIdx hu)) (fun u => mem_set_erase) (tookW_ok (h t hm).1 (by simpa using hs) h0 hc hk hsm)
end Go.Proofs.Ytfjmcfkpbacicaa
/- Packets of the reference's table: their cells, rows of them; loads and stores of many cells at once. -/
namespace Go.Proofs.Ytfjmcfkpbacicaa
set_option linter.unusedVariables false
set_option linter.unusedSimpArgs false
set_option maxRecDepth 8000
open Go.ChangeShapes Go.WideShapes Go.ChangeAt Go.RowKit

/-- A packet of the reference's table, as its cells say it. -/
structure Rf where
  nm : Nm
  vd : Value
  vh : Value
  last : Int
  begun : Bool
  f : Pkt
  vo : Value
  vx : Value
  till : Int
@[reducible] def rfA (x : Rf) : Array Value := #[.int .u32 (x.nm.src : Int), .int .u32 (x.nm.dst : Int), .int .u8 (x.nm.proto : Int), .int .u16 (x.nm.ident : Int), x.vd, x.vh, .int .i64 x.last, .bool x.begun, .int .u8 (x.f.tos : Int), .int .u16 (x.f.ident : Int), .bool x.f.whole, .bool x.f.more, .int .i64 x.f.off, .int .u8 (x.f.ttl : Int), .int .u8 (x.f.proto : Int), .int .u32 (x.f.src : Int), .int .u32 (x.f.dst : Int), x.vo, x.vx, .int .i64 x.till]
@[reducible] def rfV (x : Rf) : Value := .agg (rfA x)
def Rf.One (x : Rf) : Prop := x.vd.oneCell' = true ∧ x.vh.oneCell' = true ∧ x.vo.oneCell' = true ∧ x.vx.oneCell' = true
theorem rfA_one {x : Rf} (h : x.One) : ∀ y ∈ (rfA x).toList, y.oneCell' = true := by
  intro y hy
  simp only [List.mem_cons, List.not_mem_nil, or_false] at hy
  obtain ⟨h1, h2, h3, h4⟩ := h
  rcases hy with rfl | rfl | rfl | rfl | rfl | rfl | rfl | rfl | rfl | rfl | rfl | rfl | rfl | rfl | rfl | rfl | rfl | rfl | rfl | rfl <;> first | rfl | exact h1 | exact h2 | exact h3 | exact h4
def cells20 (l : List Rf) : List Value := l.flatMap fun x => (rfA x).toList
theorem cells20_length (l : List Rf) : (cells20 l).length = l.length * 20 := by
  unfold cells20
  induction l with
  | nil => rfl
  | cons p r ih => simp only [List.flatMap_cons, List.length_append, ih, List.length_cons, List.length_nil]; omega
theorem cells20_append (l m : List Rf) : cells20 (l ++ m) = cells20 l ++ cells20 m := by simp [cells20]
theorem cells20_one {l : List Rf} (hl : ∀ q ∈ l, q.One) : ∀ y ∈ cells20 l, y.oneCell' = true := by
  intro y hy
  unfold cells20 at hy
  obtain ⟨p, hp0, hp⟩ := List.mem_flatMap.1 hy
  exact rfA_one (hl p hp0) y hp
theorem cells20_at : ∀ (l : List Rf) (j i : Nat) (h : j < l.length) (hi : i < 20), (cells20 l)[j * 20 + i]? = (rfA l[j])[i]?
  | [], _, _, h, _ => absurd h (by simp)
  | p :: r, 0, i, _, hi => by
    have e : cells20 (p :: r) = (rfA p).toList ++ cells20 r := by simp [cells20]
    rw [e, List.getElem?_append_left (by simp only [List.length_cons, List.length_nil]; omega), Nat.zero_mul, Nat.zero_add, Array.getElem?_toList]
    rfl
  | p :: r, j + 1, i, h, hi => by
    have ih := cells20_at r j i (by simpa using h) hi
    have e : cells20 (p :: r) = (rfA p).toList ++ cells20 r := by simp [cells20]
    have e20 : (rfA p).toList.length = 20 := rfl
    rw [e, List.getElem?_append_right (by rw [e20]; omega), e20, show (j + 1) * 20 + i - 20 = j * 20 + i by omega]
    simpa using ih
theorem cells20_take (l : List Rf) (i : Nat) : (cells20 l).take (i * 20) = cells20 (l.take i) := by
  induction l generalizing i with
  | nil => simp [cells20]
  | cons p r ih => cases i with
    | zero => simp [cells20]
    | succ i =>
      have e : cells20 (p :: r) = (rfA p).toList ++ cells20 r := by simp [cells20]
      have e2 : cells20 ((p :: r).take (i + 1)) = (rfA p).toList ++ cells20 (r.take i) := by simp [cells20]
      have e20 : (rfA p).toList.length = 20 := rfl
      rw [e, e2, List.take_append, ← ih, List.take_of_length_le (by rw [e20]; omega), e20, show (i + 1) * 20 - 20 = i * 20 by omega]
theorem cells20_drop (l : List Rf) (i : Nat) : (cells20 l).drop (i * 20) = cells20 (l.drop i) := by
  induction l generalizing i with
  | nil => simp [cells20]
  | cons p r ih => cases i with
    | zero => simp [cells20]
    | succ i =>
      have e : cells20 (p :: r) = (rfA p).toList ++ cells20 r := by simp [cells20]
      have e20 : (rfA p).toList.length = 20 := rfl
      rw [e, List.drop_append, List.drop_eq_nil_of_le (by rw [e20]; omega), e20, show (i + 1) * 20 - 20 = i * 20 by omega, ih]
      rfl
theorem cells20_set (l : List Rf) (i : Nat) (h : i < l.length) (x : Rf) : (cells20 l).take (i * 20) ++ (rfA x).toList ++ (cells20 l).drop (i * 20 + 20) = cells20 (l.set i x) := by
  rw [show i * 20 + 20 = (i + 1) * 20 by omega, cells20_take, cells20_drop, List.set_eq_take_append_cons_drop, if_pos h, cells20_append]
  simp [cells20]

/-- A slice of them, read. -/
@[reducible] def Rfs (w : World) (v : Value) (l : List Rf) : Prop := RdK w 20 v l.length (cells20 l)
/-- A row of them of the call's own. -/
@[reducible] def Rfrow (w : World) (base : Nat) (v : Value) (l : List Rf) : Prop := w.ownsRow base 78 20 v l.length (cells20 l)
theorem infoRf : (Try.prog.info? 78).map (fun i => (i.zero, i.size, i.bytes)) = some (some (rfV ⟨⟨0, 0, 0, 0⟩, .slice none 0 0, .slice none 0 0, 0, false, ⟨0, 0, false, false, 0, 0, 0, 0, 0, [], []⟩, .slice none 0 0, .slice none 0 0, 0⟩), 20, 168) := by kernel_rfl
/-- Twenty cells. -/
def RfAt (w : World) (b o : Nat) (x : Rf) : Prop := ∀ j u, (rfA x)[j]? = some u → w.cell? ⟨b, o + j, none⟩ = some u
theorem Rfs.at_ {w : World} {l : List Rf} {A : Option Addr} {n c : Nat} (h : RdK w 20 (.slice A n c) l.length (cells20 l)) (hp : 0 < n) : ∃ b off, A = some ⟨b, off, none⟩ ∧ b < w.heap.size ∧ ∀ j (hj : j < l.length), RfAt w b (off + j * 20) l[j] := by
  obtain ⟨A', c', e, h0, h1, h2, h3⟩ := h
  cases e
  obtain ⟨b, off, rfl, hb, hc⟩ := h3 hp
  refine ⟨b, off, rfl, hb, fun j hj i u hu => ?_⟩
  have hi : i < 20 := (Array.getElem?_eq_some_iff.1 hu).1
  rw [Nat.add_assoc]
  exact hc _ _ (by rw [cells20_at l j i hj hi]; exact hu)
theorem RfAt.grow {w w' : World} {b o : Nat} {x : Rf} (h : RfAt w b o x) (g : Grow w w') (hb : b < w.heap.size) : RfAt w' b o x := fun j u hu => (g.cell (p := ⟨b, o + j, none⟩) hb).trans (h j u hu)
theorem RfAt.one {w : World} {b o : Nat} {x : Rf} (h : RfAt w b o x) (i : Nat) {u : Value} (hu : (rfA x)[i]? = some u) : w.cell? ⟨b, o + i, none⟩ = some u := h i u hu

/-- The same, a fact a cell. -/
theorem RfAt.cells {w : World} {b o : Nat} {x : Rf} (h : RfAt w b o x) : w.cell? ⟨b, o, none⟩ = some (.int .u32 (x.nm.src : Int)) ∧ w.cell? ⟨b, o + 1, none⟩ = some (.int .u32 (x.nm.dst : Int)) ∧ w.cell? ⟨b, o + 2, none⟩ = some (.int .u8 (x.nm.proto : Int)) ∧ w.cell? ⟨b, o + 3, none⟩ = some (.int .u16 (x.nm.ident : Int)) ∧ w.cell? ⟨b, o + 4, none⟩ = some (x.vd) ∧ w.cell? ⟨b, o + 5, none⟩ = some (x.vh) ∧ w.cell? ⟨b, o + 6, none⟩ = some (.int .i64 x.last) ∧ w.cell? ⟨b, o + 7, none⟩ = some (.bool x.begun) ∧ w.cell? ⟨b, o + 8, none⟩ = some (.int .u8 (x.f.tos : Int)) ∧ w.cell? ⟨b, o + 9, none⟩ = some (.int .u16 (x.f.ident : Int)) ∧ w.cell? ⟨b, o + 10, none⟩ = some (.bool x.f.whole) ∧ w.cell? ⟨b, o + 11, none⟩ = some (.bool x.f.more) ∧ w.cell? ⟨b, o + 12, none⟩ = some (.int .i64 x.f.off) ∧ w.cell? ⟨b, o + 13, none⟩ = some (.int .u8 (x.f.ttl : Int)) ∧ w.cell? ⟨b, o + 14, none⟩ = some (.int .u8 (x.f.proto : Int)) ∧ w.cell? ⟨b, o + 15, none⟩ = some (.int .u32 (x.f.src : Int)) ∧ w.cell? ⟨b, o + 16, none⟩ = some (.int .u32 (x.f.dst : Int)) ∧ w.cell? ⟨b, o + 17, none⟩ = some (x.vo) ∧ w.cell? ⟨b, o + 18, none⟩ = some (x.vx) ∧ w.cell? ⟨b, o + 19, none⟩ = some (.int .i64 x.till) :=
  ⟨h 0 _ rfl, h 1 _ rfl, h 2 _ rfl, h 3 _ rfl, h 4 _ rfl, h 5 _ rfl, h 6 _ rfl, h 7 _ rfl, h 8 _ rfl, h 9 _ rfl, h 10 _ rfl, h 11 _ rfl, h 12 _ rfl, h 13 _ rfl, h 14 _ rfl, h 15 _ rfl, h 16 _ rfl, h 17 _ rfl, h 18 _ rfl, h 19 _ rfl⟩
theorem RfAt.cells0 {w : World} {b : Nat} {x : Rf} (h : ∀ i, w.cell? ⟨b, i, none⟩ = (rfA x)[i]?) : w.cell? ⟨b, 0, none⟩ = some (.int .u32 (x.nm.src : Int)) ∧ w.cell? ⟨b, 1, none⟩ = some (.int .u32 (x.nm.dst : Int)) ∧ w.cell? ⟨b, 2, none⟩ = some (.int .u8 (x.nm.proto : Int)) ∧ w.cell? ⟨b, 3, none⟩ = some (.int .u16 (x.nm.ident : Int)) ∧ w.cell? ⟨b, 4, none⟩ = some (x.vd) ∧ w.cell? ⟨b, 5, none⟩ = some (x.vh) ∧ w.cell? ⟨b, 6, none⟩ = some (.int .i64 x.last) ∧ w.cell? ⟨b, 7, none⟩ = some (.bool x.begun) ∧ w.cell? ⟨b, 8, none⟩ = some (.int .u8 (x.f.tos : Int)) ∧ w.cell? ⟨b, 9, none⟩ = some (.int .u16 (x.f.ident : Int)) ∧ w.cell? ⟨b, 10, none⟩ = some (.bool x.f.whole) ∧ w.cell? ⟨b, 11, none⟩ = some (.bool x.f.more) ∧ w.cell? ⟨b, 12, none⟩ = some (.int .i64 x.f.off) ∧ w.cell? ⟨b, 13, none⟩ = some (.int .u8 (x.f.ttl : Int)) ∧ w.cell? ⟨b, 14, none⟩ = some (.int .u8 (x.f.proto : Int)) ∧ w.cell? ⟨b, 15, none⟩ = some (.int .u32 (x.f.src : Int)) ∧ w.cell? ⟨b, 16, none⟩ = some (.int .u32 (x.f.dst : Int)) ∧ w.cell? ⟨b, 17, none⟩ = some (x.vo) ∧ w.cell? ⟨b, 18, none⟩ = some (x.vx) ∧ w.cell? ⟨b, 19, none⟩ = some (.int .i64 x.till) :=
  ⟨h 0, h 1, h 2, h 3, h 4, h 5, h 6, h 7, h 8, h 9, h 10, h 11, h 12, h 13, h 14, h 15, h 16, h 17, h 18, h 19⟩

/-- A whole struct, loaded from wherever it lies. -/
theorem run_load_cs {P : Program} (w : World) (b o : Nat) (ty : TypeId) (cs : Array Value) (d : TypeDesc) (hc : ∀ j u, cs[j]? = some u → w.cell? ⟨b, o + j, none⟩ = some u)
    (hu : P.underlying ty = some d) (hd : (match d with | .struct _ | .array _ _ => true | _ => false) = true) (hi : (P.info? ty).map (·.size) = some cs.size) :
    (loadVar ty ⟨b, o, none⟩).run P w = .ok (.agg cs) w := by
  have hl : (loadCells ⟨b, o, none⟩ cs.toList.length).run P w = .ok cs.toList.toArray w :=
    run_loadCells_list (P := P) w ⟨b, o, none⟩ cs.toList (fun j v hv => by
      rw [add_at]
      exact hc j v (by simpa using hv))
  cases hq : P.info? ty with
  | none => simp [hq] at hi
  | some i =>
    have hs : i.size = cs.size := by simpa [hq] using hi
    have hagg : (isAgg ty).run P w = .ok true w := by
      unfold isAgg
      rw [Sem.run_bind, run_underlying hu w]
      cases d <;> simp_all
    simp only [Array.length_toList, Array.toArray_toList] at hl
    simp [loadVar, Sem.run_bind, hagg, sizeOf, typeInfo, hq, hs, hl]
theorem wpList_load_cs {P : Program} (w : World) {ops : Array Oper} {rest : List Oper} {o : Oper} {a : Act} {Q : Exit → Act → World → Prop} (hgd : o.guard = none) (ty : TypeId) (x : Operand) (ho : o.op = .load ty x)
    (b off : Nat) (hx : a.eval x = .pointer (some ⟨b, off, none⟩)) (cs : Array Value) (hc : ∀ j u, cs[j]? = some u → w.cell? ⟨b, off + j, none⟩ = some u) (d : TypeDesc)
    (hu : P.underlying ty = some d) (hd : (match d with | .struct _ | .array _ _ => true | _ => false) = true) (hi : (P.info? ty).map (·.size) = some cs.size)
    (h : wpList P ops Q rest (a.put o.dst (.agg cs)) w) : wpList P ops Q (o :: rest) a w := by
  refine wpList_plain hgd fun _ hK => ?_
  unfold Oper.wp execOp
  simp only [ho, hx, Instr.loadAt, Instr.sureAddr, Sem.run_bind, Sem.run_pure, Result.andThen_ok, run_load_cs w b off ty cs d hc hu hd hi]
  exact hK _ _ h

/-- Many cells of one block written over. -/
theorem run_store_cs {P : Program} (w : World) (g i : Nat) (ty T : TypeId) (u : Value) (us : List Value) (old new : Array Value) (hu : u.cells = us.toArray) (hb : w.heap[g]? = some (.cells old T (0, 0))) (hi : (P.info? ty).map (·.size) = some us.length) (h1 : ∀ y ∈ us, y.oneCell' = true) (hl : i + us.length ≤ old.size)
    (hset : old.toList.take i ++ us ++ old.toList.drop (i + us.length) = new.toList) : (storeVar ty ⟨g, i, none⟩ u).run P w = .ok () (w.setRow g new) := by
  have hr := run_storeCells_at (P := P) g i T us 0 old w hb (by simpa using hl) h1
  rw [Nat.add_zero, hset, Array.toArray_toList] at hr
  cases hq : P.info? ty with
  | none => simp [hq] at hi
  | some j =>
    have hs : j.size = us.length := by simpa [hq] using hi
    simp [storeVar, sizeOf, typeInfo, hq, hu, hs, hr]
theorem wpList_store_cs {P : Program} (w₀ w : World) {ops : Array Oper} {rest : List Oper} {o : Oper} {a : Act} {Q : Exit → Act → World → Prop} (hgd : o.guard = none) (ty : TypeId) (x y : Operand) (ho : o.op = .store ty x y) (hdst : o.dst = none)
    (g i : Nat) (u : Value) (hx : a.eval x = .pointer (some ⟨g, i, none⟩)) (hy : a.eval y = u) (us : List Value) (hu : u.cells = us.toArray) (T : TypeId) (old new : Array Value) (hb : w.heap[g]? = some (.cells old T (0, 0))) (hi : (P.info? ty).map (·.size) = some us.length) (h1 : ∀ y ∈ us, y.oneCell' = true) (hl : i + us.length ≤ old.size)
    (hset : old.toList.take i ++ us ++ old.toList.drop (i + us.length) = new.toList) (hgr : Grow w₀ w) (hg : w₀.heap.size ≤ g)
    (h : ∀ w', w'.heap[g]? = some (.cells new T (0, 0)) → But g w w' → Grow w₀ w' → wpList P ops Q rest a w') : wpList P ops Q (o :: rest) a w := by
  refine wpList_plain hgd fun _ hK => ?_
  unfold Oper.wp execOp
  simp only [ho, hx, hy, Instr.storeAt, Instr.sureAddr, Sem.run_bind, Sem.run_pure, Result.andThen_ok, run_store_cs w g i ty T u us old new hu hb hi h1 hl hset]
  refine hK _ _ ?_
  have e : a.put o.dst undef = a := by rw [hdst]; rfl
  rw [e]
  exact h _ (setRow_heap w g _ _ _ _ hb) ⟨by simp [World.setRow], fun b hne => setRow_other w g b _ hne⟩ (below_setRow hgr hg _)
end Go.Proofs.Ytfjmcfkpbacicaa
/- The map gone through: what is still to come. -/
namespace Go.Proofs.Ytfjmcfkpbacicaa
set_option linter.unusedVariables false
set_option linter.unusedSimpArgs false
open Go.ChangeShapes Go.WideShapes Go.ChangeAt Go.RowKit Go.Shelf Go.MapKept
open Go.ChangeMaps

/-- Under way through the map mb by the iterator r: left is still to come. -/
def Iter (w : World) (mb r : Nat) (left : List (Nm × Nat)) : Prop := ∃ es ck since seen c0, w.heap[mb]? = some (.map es ck) ∧ Stamped es ck ∧ w.heap[r]? = some (.mapIter (some mb) since seen c0) ∧ (∀ x ∈ es.toList, x.born < since) ∧ since ≤ c0 ∧ since ≤ ck ∧
  (leftOf es seen).toList.map (fun e => (e.key, e.val)) = left.map entryOf
theorem filter_born : ∀ (F : List MapEntry) (j : Nat) (hj : j < F.length), (F.map (fun x => x.born)).Nodup → F.filter (fun x => x.born != F[j].born) = F.eraseIdx j
  | [], j, hj, _ => absurd hj (by simp)
  | x :: r, 0, _, h => by
    rw [List.map_cons, List.nodup_cons] at h
    rw [List.getElem_cons_zero, List.filter_cons_of_neg (by simp), List.eraseIdx_zero, List.tail_cons]
    refine List.filter_eq_self.2 fun y hy => ?_
    rw [bne_iff_ne]
    intro e
    exact h.1 (List.mem_map.2 ⟨y, hy, e⟩)
  | x :: r, j + 1, hj, h => by
    rw [List.map_cons, List.nodup_cons] at h
    have ih := filter_born r j (by simpa using hj) h.2
    rw [List.getElem_cons_succ, List.filter_cons_of_pos, ih, List.eraseIdx_cons_succ]
    rw [bne_iff_ne]
    intro e
    exact h.1 (List.mem_map.2 ⟨r[j]'(by simpa using hj), List.getElem_mem _, e.symm⟩)
theorem perm_erase {α : Type} : ∀ (l : List α) (j : Nat) (hj : j < l.length), l.Perm (l[j] :: l.eraseIdx j)
  | [], j, hj => absurd hj (by simp)
  | x :: r, 0, _ => .refl _
  | x :: r, j + 1, hj => by
    rw [List.getElem_cons_succ, List.eraseIdx_cons_succ]
    exact (List.Perm.cons x (perm_erase r j (by simpa using hj))).trans (List.Perm.swap _ _ _)
theorem Iter.lt {w : World} {mb r : Nat} {left : List (Nm × Nat)} (h : Iter w mb r left) : r < w.heap.size := by
  obtain ⟨es, ck, since, seen, c0, h1, h2, h3, _⟩ := h
  exact (Array.getElem?_eq_some_iff.1 h3).1
theorem Iter.ltM {w : World} {mb r : Nat} {left : List (Nm × Nat)} (h : Iter w mb r left) : mb < w.heap.size := by
  obtain ⟨es, ck, since, seen, c0, h1, _⟩ := h
  exact (Array.getElem?_eq_some_iff.1 h1).1
theorem Iter.grow {w w' : World} {mb r : Nat} {left : List (Nm × Nat)} (h : Iter w mb r left) (g : Grow w w') : Iter w' mb r left := by
  have l1 := h.lt
  have l2 := h.ltM
  obtain ⟨es, ck, since, seen, c0, h1, h2, h3, h4⟩ := h
  exact ⟨es, ck, since, seen, c0, (g.block _ l2).trans h1, h2, (g.block _ l1).trans h3, h4⟩
theorem MapAt.range {w : World} {mb : Nat} {L : List (Nm × Nat)} (h : MapAt w mb L) : ∃ w', (Instr.range 64 (.map (some mb))).run Try.prog w = .ok (.pointer (some ⟨w.heap.size, 0, none⟩)) w' ∧ Iter w' mb w.heap.size L ∧ Grow w w' := by
  obtain ⟨es, ck, h1, h2, h3⟩ := h
  have hlt := (Array.getElem?_eq_some_iff.1 h1).1
  refine ⟨_, run_range_map w _ _ _ mb es ck Try.underlying64 h1, ⟨es, ck, ck, #[], ck, ((MapKept.heap_alloc w _).2 mb hlt).trans h1, h2, (MapKept.heap_alloc w _).1, h2.1, Nat.le_refl _, Nat.le_refl _, ?_⟩, Grow.alloc _ _⟩
  rw [← h3]
  unfold leftOf
  rw [Array.toList_filter, List.filter_eq_self.2 (fun x hx => by simp)]
/-- The step: nothing is left, or one of those that are. -/
theorem Iter.next {w : World} {mb r : Nat} {left : List (Nm × Nat)} (h : Iter w mb r left) (ty : TypeId) :
    (left = [] ∧ (Instr.next (.pointer (some ⟨r, 0, none⟩)) false ty).run Try.prog w = .ok (.tuple #[.bool false]) w) ∨
    ∃ (j : Nat) (hj : j < left.length) (w' : World), (Instr.next (.pointer (some ⟨r, 0, none⟩)) false ty).run Try.prog w = .ok (.tuple #[.bool true, nmV left[j].1, .pointer (some ⟨left[j].2, 0, none⟩)]) w' ∧ Iter w' mb r (left.eraseIdx j) ∧ w.grownBy w' (some r) ∧ w'.heap.size = w.heap.size ∧
      (Instr.entry (.pointer (some ⟨r, 0, none⟩))).run Try.prog w' = .ok (.tuple #[nmV left[j].1, .pointer (some ⟨left[j].2, 0, none⟩)]) w' := by
  obtain ⟨es, ck, since, seen, c0, h1, h2, h3, h4, h5, h6, h7⟩ := h
  have hne : r ≠ mb := by
    intro e
    rw [e, h1] at h3
    cases h3
  rcases run_next_at (P := Try.prog) w ty r mb since c0 seen es ck h3 h1 h4 h5 with ⟨h0, hrun⟩ | ⟨e, he, w1, hal, hrun⟩
  · refine .inl ⟨?_, hrun⟩
    have : (leftOf es seen).toList = [] := List.eq_nil_of_length_eq_zero (by rw [Array.length_toList]; exact h0)
    rw [this] at h7
    exact List.map_eq_nil_iff.1 h7.symm
  · obtain ⟨hem, hes⟩ := mem_left he
    have hr1 : w1.heap[r]? = some (.mapIter (some mb) since seen c0) := by rcases hal with rfl | rfl <;> exact h3
    have hb1 : w1.heap[mb]? = some (.map es ck) := by rcases hal with rfl | rfl <;> exact h1
    have hset := heap_set (o' := .mapIter (some mb) since (seen.push e.born) ck) hr1
    have hb' : (setBlock w1 r (.mapIter (some mb) since (seen.push e.born) ck)).heap[mb]? = some (.map es ck) := (hset.2 mb (fun e1 => hne e1.symm)).trans hb1
    obtain ⟨j, hj, hje⟩ := List.getElem_of_mem he
    have hl : (leftOf es seen).toList.length = left.length := by
      have := congrArg List.length h7
      simpa using this
    have hjl : j < left.length := by omega
    have hxe : (e.key, e.val) = entryOf left[j] := by
      have := congrArg (fun q => q[j]?) h7
      simp only [List.getElem?_map, List.getElem?_eq_getElem hj, List.getElem?_eq_getElem hjl, Option.map_some, Option.some.injEq] at this
      rw [hje] at this
      exact this
    simp only [entryOf, Prod.mk.injEq] at hxe
    have hst := (stamped_iff es ck).1 h2
    have hleft : (leftOf es (seen.push e.born)).toList = (leftOf es seen).toList.eraseIdx j := by
      have hnd : ((leftOf es seen).toList.map (fun x => x.born)).Nodup := by
        unfold leftOf
        rw [Array.toList_filter]
        exact (List.filter_sublist.map _).nodup hst.2.1
      have e1 : (leftOf es (seen.push e.born)).toList = (leftOf es seen).toList.filter (fun x => x.born != e.born) := by
        unfold leftOf
        rw [Array.toList_filter, Array.toList_filter, List.filter_filter]
        refine List.filter_congr fun x hx => ?_
        rw [contains_push]
        cases seen.contains x.born <;> cases hb : (x.born == e.born) <;> simp_all [bne]
      rw [e1, ← filter_born _ j hj hnd, hje]
    refine .inr ⟨j, hjl, _, ?_, ⟨es, ck, since, seen.push e.born, ck, hb', h2, hset.1, h4, h6, h6, ?_⟩, ?_, ?_, ?_⟩
    · rw [← hxe.1, ← hxe.2]; exact hrun
    · rw [hleft, map_eraseIdx, h7, ← map_eraseIdx]
    · rcases hal with rfl | rfl <;> exact ⟨rfl, rfl, rfl, by simp [setBlock], fun i _ hi => hset.2 i (fun e1 => hi (by rw [e1]))⟩
    · rcases hal with rfl | rfl <;> simp [setBlock]
    · rw [← hxe.1, ← hxe.2]
      exact run_entry_at _ r mb since seen es ck e hset.1 hb' hem hst.2.1
end Go.Proofs.Ytfjmcfkpbacicaa
/- Contracts: begin, remove. -/
namespace Go.Proofs.Ytfjmcfkpbacicaa
set_option linter.unusedVariables false
set_option linter.unusedSimpArgs false
open Go.ChangeShapes Go.WideShapes Go.ChangeAt Go.RowKit Go.Shelf
attribute [local irreducible] wpQuiet

section
variable {P : Program}
theorem step_del (w : World) {ops : Array Oper} {o : Oper} {a : Act} {K : Act → World → Prop} {Q : Exit → Act → World → Prop} {E : Prop} (hgd : o.guard = none) (m x : Operand)
    (ho : o.op = Op.call { callee := Callee.builtin Builtin.delete, args := #[m, x], argTypes := #[64, 70] }) (mb b j : Nat) (n : Nm) (L : List (Nm × Nat)) (hm : a.eval m = .map (some mb)) (hx : a.eval x = nmV n) (h : MapAt w mb L) (hN : (L.map Prod.fst).Nodup) (hj : L[j]? = some (n, b))
    (hK : ∀ w', MapAt w' mb (L.eraseIdx j) → w.grownBy w' (some mb) → K (a.put o.dst (.tuple #[])) w') :
    if Region.wanted o (yielded ops a.tmps) = true then Oper.wp Try.prog o a w K Q else E := by
  have hw : Region.wanted o (yielded ops a.tmps) = true := by simp [Region.wanted, hgd]
  rw [if_pos hw]
  obtain ⟨w', hrun, h2, h3⟩ := h.del hN hj o.type
  unfold Oper.wp
  simp [execOp, ho, resolve, invoke, builtin, hm, hx, hrun, Result.andThen]
  exact hK w' h2 h3
end

section
variable {w w5 : World} {base tb mb : Nat} {ov ov' : Value} {most life : Int} {L : List Wp}
theorem Tab.more (h : Tab w base tb mb ov most life L) {x : Nm} (hx : x ∉ L.map Wp.nm) (hl : L.length < 64) {till : Int} (ht : 0 ≤ till ∧ till ≤ 2000000000000) {pb : Nat} (hpb : w.heap.size ≤ pb) (o : Only base Zt w w5)
    (htop : w5.heap[tb]? = some (.cells #[.int .i64 most, .int .i64 life, .map (some mb), ov'] 67 (0, 0))) (hm : MapAt w5 mb (L.map pairOf ++ [(x, pb)])) (hord : Nrow w5 base ov' (L.map Wp.nm ++ [x]))
    (hp : w5.heap[pb]? = some (.cells (pcells (fresh x pb till)) 75 (0, 0))) : Tab w5 base tb mb ov' most life (L ++ [fresh x pb till]) := by
  have hpk : ∀ p ∈ L, PktAt w5 base p := fun p hp => (h.pk p hp).only o (zt_no (by decide) (by decide) (by decide)) (fun b _ => zt_no (by decide) (by decide) (by decide)) zt_byte zt_ip
  refine ⟨htop, h.low, h.lowM, by rw [List.map_append]; exact hm, by rw [List.map_append]; exact hord, ?_, ?_, ?_, ?_, by rw [List.length_append]; simp; omega, Nat.le_trans h.sz o.size, h.rng⟩
  · intro p hp2
    rcases List.mem_append.1 hp2 with h1 | h1
    · exact hpk p h1
    · obtain rfl : p = fresh x pb till := by simpa using h1
      exact fresh_at hp (Nat.le_trans h.sz hpb) ht
  · rw [List.map_append, List.nodup_append]
    refine ⟨h.blks, by simp, fun a ha b hb => ?_⟩
    obtain ⟨p, hp2, rfl⟩ := List.mem_map.1 ha
    obtain rfl : b = pb := by simpa [fresh] using hb
    have := (h.pk p hp2).lt
    omega
  · rw [List.pairwise_append]
    refine ⟨h.rblk, by simp, fun p _ q hq b _ => ?_⟩
    obtain rfl : q = fresh x pb till := by simpa using hq
    simp [fresh, Value.ownBlock]
  · rw [List.map_append, List.nodup_append]
    refine ⟨h.nms, by simp, fun a ha b hb => ?_⟩
    obtain rfl : b = x := by simpa [fresh] using hb
    intro e
    subst e
    exact hx ha
theorem Tab.less (h : Tab w base tb mb ov most life L) (i : Nat) (o : Only base Zt w w5)
    (htop : w5.heap[tb]? = some (.cells #[.int .i64 most, .int .i64 life, .map (some mb), ov'] 67 (0, 0))) (hm : MapAt w5 mb ((L.map pairOf).eraseIdx i)) (hord : Nrow w5 base ov' ((L.map Wp.nm).eraseIdx i)) : Tab w5 base tb mb ov' most life (L.eraseIdx i) := by
  have hsub := List.eraseIdx_sublist L i
  have e : ∀ {α : Type} (f : Wp → α), (L.eraseIdx i).map f = (L.map f).eraseIdx i := fun f => ChangeMaps.map_eraseIdx f L i
  refine ⟨htop, h.low, h.lowM, by rw [e]; exact hm, by rw [e]; exact hord, fun p hp => (h.pk p (hsub.subset hp)).only o (zt_no (by decide) (by decide) (by decide)) (fun b _ => zt_no (by decide) (by decide) (by decide)) zt_byte zt_ip, (hsub.map _).nodup h.blks, h.rblk.sublist hsub, (hsub.map _).nodup h.nms, Nat.le_trans hsub.length_le h.few, Nat.le_trans h.sz o.size, h.rng⟩
theorem Tab.tm (h : Tab w base tb mb ov most life L) : tb ≠ mb := by
  intro e
  obtain ⟨es, ck, h1, _⟩ := h.map
  have h2 := h.top
  rw [e, h1] at h2
  cases h2
/-- The map was written. -/
theorem Tab.wrote (h : Tab w base tb mb ov most life L) (hg : w.grownBy w5 (some mb)) : Only base Zt w w5 := Only.grown hg (fun g e => by
  cases e
  obtain ⟨es, ck, h1, _⟩ := h.map
  exact ⟨h.lowM, fun o T ho hT => by rw [h1] at ho; cases ho; cases hT; exact .inr (.inl rfl)⟩) h.sz
end

set_option maxRecDepth 10000 in
set_option maxHeartbeats 8000000 in
theorem begin_any (w : World) (base tb mb : Nat) (ov : Value) (most life : Int) (L : List Wp) (h : Tab w base tb mb ov most life L) (x : Nm) (hx : x ∉ L.map Wp.nm) (hl : L.length < 64) (till : Int) (ht : 0 ≤ till ∧ till ≤ 2000000000000) :
    Calls Try.prog 45 #[.pointer (some ⟨tb, 0, none⟩), nmV x, .int .i64 till] w fun e w' => ∃ ov' pb, e = .returned (.pointer (some ⟨pb, 0, none⟩)) ∧ Tab w' base tb mb ov' most life (L ++ [fresh x pb till]) ∧ Only base Zt w w' ∧ w.heap.size ≤ pb := by
  obtain ⟨W2, hW2⟩ : ∃ W2, W2 = (w.alloc (.cells #[.int .u32 (x.src : Int), .int .u32 (x.dst : Int), .int .u8 (x.proto : Int), .int .u16 (x.ident : Int)] 70)).alloc (.cells #[.int .i64 till, .pointer none, .int .i64 0, .slice none 0 0] 75) := ⟨_, rfl⟩
  have hg2 : Grow w W2 := by rw [hW2]; exact (Grow.alloc _ _).trans (Grow.alloc _ _)
  have hsz : W2.heap.size = w.heap.size + 2 := by rw [hW2]; simp
  have hbx : W2.heap[w.heap.size]? = some (.cells #[.int .u32 (x.src : Int), .int .u32 (x.dst : Int), .int .u8 (x.proto : Int), .int .u16 (x.ident : Int)] 70 (0, 0)) := by
    rw [hW2, Below.heap_alloc _ _ _ (by simp)]
    exact heap_alloc_new w _
  have hpk : W2.heap[w.heap.size + 1]? = some (.cells #[.int .i64 till, .pointer none, .int .i64 0, .slice none 0 0] 75 (0, 0)) := by
    rw [hW2]
    have := heap_alloc_new (w.alloc (.cells #[.int .u32 (x.src : Int), .int .u32 (x.dst : Int), .int .u8 (x.proto : Int), .int .u16 (x.ident : Int)] 70)) (.cells #[.int .i64 till, .pointer none, .int .i64 0, .slice none 0 0] 75)
    rwa [World.size_alloc] at this
  have H2 := h.grow hg2
  have hbm : w.heap.size ≠ mb := by have := h.ltM; omega
  have hbt : w.heap.size ≠ tb := by have := h.lt; omega
  have b0 := cell_of_row W2 w.heap.size 0 _ _ _ hbx
  have b1 := cell_of_row W2 w.heap.size 1 _ _ _ hbx
  have b2 := cell_of_row W2 w.heap.size 2 _ _ _ hbx
  have b3 := cell_of_row W2 w.heap.size 3 _ _ _ hbx
  have t2 := H2.c2
  have t3 := H2.c3
  -- behind the map's store
  have F3 : Hid (∀ w3, MapAt w3 mb (L.map pairOf ++ [(x, w.heap.size + 1)]) → W2.drew.grownBy w3 (some mb) → Only base Zt W2 w3 ∧ w3.heap[w.heap.size]? = some (.cells #[.int .u32 (x.src : Int), .int .u32 (x.dst : Int), .int .u8 (x.proto : Int), .int .u16 (x.ident : Int)] 70 (0, 0)) ∧ w3.heap[tb]? = some (.cells #[.int .i64 most, .int .i64 life, .map (some mb), ov] 67 (0, 0)) ∧ Nrow w3 base ov (L.map Wp.nm)) := by
    intro w3 hm hg
    have hg' := grownBy_undrew hg
    refine ⟨H2.wrote hg', (hg'.block _ (by omega) (fun e => hbm (by cases e; rfl))).trans hbx, (hg'.block _ H2.lt (fun e => H2.tm (by cases e; rfl))).trans H2.top, ?_⟩
    refine ownsRow_other H2.ord fun b cs hb hh => hg'.block b (Array.getElem?_eq_some_iff.1 hh).1 (fun e => ?_)
    cases e
    obtain ⟨es, ck, h1, _⟩ := H2.map
    rw [h1] at hh
    cases hh
  have HT := Lib.hid (And.intro h (And.intro hg2 (And.intro hpk (And.intro hsz H2))))
  have HX := Lib.hid hx
  obtain ⟨w3, hrun, hm3, hg3⟩ := MapAt.upd (show MapAt W2.drew mb (L.map pairOf) from H2.map) (mem_absent hx) (w.heap.size + 1)
  obtain ⟨o3, bx3, tp3, or3⟩ := F3.out w3 hm3 hg3
  have hts : tb < w3.heap.size := Nat.lt_of_lt_of_le H2.lt o3.size
  have hbs : base ≤ w3.heap.size := Nat.le_trans H2.sz o3.size
  have H3 := Lib.hid (And.intro hm3 (And.intro o3 (And.intro tp3 (And.intro or3 hbs))))
  have u0 : w3.cell? ⟨w.heap.size, 0, none⟩ = some (.int .u32 (x.src : Int)) := cell_of_row w3 w.heap.size 0 _ _ _ bx3
  have u1 : w3.cell? ⟨w.heap.size, 1, none⟩ = some (.int .u32 (x.dst : Int)) := cell_of_row w3 w.heap.size 1 _ _ _ bx3
  have u2 : w3.cell? ⟨w.heap.size, 2, none⟩ = some (.int .u8 (x.proto : Int)) := cell_of_row w3 w.heap.size 2 _ _ _ bx3
  have u3 : w3.cell? ⟨w.heap.size, 3, none⟩ = some (.int .u16 (x.ident : Int)) := cell_of_row w3 w.heap.size 3 _ _ _ bx3
  obtain ⟨Ao, co, hov, _⟩ := (RdK.of_own or3).form
  have s3 : w3.cell? ⟨tb, 3, none⟩ = some ov := cell_of_row w3 tb 3 _ _ _ tp3
  have s3A : (w3.drew.alloc (.cells #[.int .u32 (x.src : Int), .int .u32 (x.dst : Int), .int .u8 (x.proto : Int), .int .u16 (x.ident : Int)] 70)).cell? ⟨tb, 3, none⟩ = some ov := ((Grow.alloc w3.drew _).cell (p := ⟨tb, 3, none⟩) hts).trans s3
  have gA : Grow w3 (w3.drew.alloc (.cells #[.int .u32 (x.src : Int), .int .u32 (x.dst : Int), .int .u8 (x.proto : Int), .int .u16 (x.ident : Int)] 70)) := (Grow.drew w3).trans (Grow.alloc w3.drew _)
  have hordA : Hid ((w3.drew.alloc (.cells #[.int .u32 (x.src : Int), .int .u32 (x.dst : Int), .int .u8 (x.proto : Int), .int .u16 (x.ident : Int)] 70)).ownsRow base 70 4 ov (L.map Wp.nm).length (cellsN (L.map Wp.nm))) := ownsRow_other or3 fun b cs _ hh => gA.block b (Array.getElem?_eq_some_iff.1 hh).1
  have hlitA : Hid (RdK (w3.drew.alloc (.cells #[.int .u32 (x.src : Int), .int .u32 (x.dst : Int), .int .u8 (x.proto : Int), .int .u16 (x.ident : Int)] 70)) 4 (.slice (some ⟨w3.heap.size, 0, none⟩) 1 1) 1 (nmC x)) := RdK.of_own (World.ownsRow_lit (base := w3.heap.size) (e := 70) (size := 4) w3.drew #[.int .u32 (x.src : Int), .int .u32 (x.dst : Int), .int .u8 (x.proto : Int), .int .u16 (x.ident : Int)] 1 (Nat.le_refl _) (by unfold maxLen; omega) rfl)
  have hAF : Hid (∀ v4 w4, w4.ownsRow base 70 4 v4 ((L.map Wp.nm).length + 1) (cellsN (L.map Wp.nm) ++ nmC x) → (w3.drew.alloc (.cells #[.int .u32 (x.src : Int), .int .u32 (x.dst : Int), .int .u8 (x.proto : Int), .int .u16 (x.ident : Int)] 70)).grownBy w4 ov.ownBlock →
      w4.cell? ⟨tb, 3, none⟩ = some ov ∧ w4.frozen? ⟨tb, 3, none⟩ = false ∧ Hid (Tab (w4.setCell ⟨tb, 3, none⟩ v4) base tb mb v4 most life (L ++ [fresh x (w.heap.size + 1) till]) ∧ Only base Zt w (w4.setCell ⟨tb, 3, none⟩ v4))) := by
    intro v4 w4 ho4 hg4
    have oA : Only base (fun b T => T = 67 ∨ T = 70) w3 w4 := (Only.grow gA hbs _).trans (Only.grown hg4 (fun b e => by
      obtain ⟨cs, h1, h2⟩ := ownsRow_blk hordA.out e
      exact ⟨h2, fun o T ho hT => by rw [h1] at ho; cases ho; cases hT; exact .inr rfl⟩) (Nat.le_trans hbs gA.size))
    have htb4 : w4.heap[tb]? = some (.cells #[.int .i64 most, .int .i64 life, .map (some mb), ov] 67 (0, 0)) := by
      have h1 := (Only.grow (base := base) gA hbs fun _ _ => False).cells tp3 (fun e => e)
      refine (hg4.block tb (Array.getElem?_eq_some_iff.1 h1).1 fun e => ?_).trans h1
      obtain ⟨cs, h2, _⟩ := ownsRow_blk hordA.out e.symm
      rw [h1] at h2
      cases h2
    have oS : Only base (fun b T => T = 67 ∨ T = 70) w4 (w4.setCell ⟨tb, 3, none⟩ v4) := Only.set htb4 h.low (.inl rfl) v4
    have oAll := oA.trans oS
    have oZ : Only base Zt w3 (w4.setCell ⟨tb, 3, none⟩ v4) := oAll.mono fun _ _ _ _ _ e => by rcases e with e | e; exact .inl e; exact .inr (.inr e)
    have oW : Only base Zt w (w4.setCell ⟨tb, 3, none⟩ v4) := ((Only.grow hg2 h.sz Zt).trans o3).trans oZ
    refine ⟨cell_of_row w4 tb 3 _ _ _ htb4, frozen_of htb4, Tab.more h hx hl ht (Nat.le_succ _) oW (heap_setCell_own (k := 3) htb4 v4) ?_ ?_ ?_, oW⟩
    · exact hm3.of_heap fun es ck hh => oAll.keep _ _ _ hh rfl (fun e => by rcases e with e | e <;> exact absurd e (by decide))
    · have e1 : cellsN (L.map Wp.nm ++ [x]) = cellsN (L.map Wp.nm) ++ nmC x := by simp [cellsN]
      unfold Nrow
      rw [List.length_append, e1]
      refine ownsRow_other ho4 fun b cs _ hh => Below.heap_setCell _ _ _ _ fun e => ?_
      have e : b = tb := e
      rw [e, htb4] at hh
      cases hh
    · exact ((o3.trans oZ).cells hpk (zt_no (by decide) (by decide) (by decide)))
  have sf := frozen_of (o := 3) tp3
  have HBA := Lib.hid (Nat.le_trans hbs gA.size)
  have hnl : (L.map Wp.nm).length ≤ 64 := by rw [List.length_map]; omega
  have HONE : Hid (∀ y ∈ nmC x, y.oneCell' = true) := by
    intro y hy
    simp [nmC] at hy
    rcases hy with rfl | rfl | rfl | rfl <;> rfl
  rw [hov] at s3 s3A hordA hAF
  clear hm3 hg3 o3 bx3 tp3 or3 hg2 hbx hpk H2 h hsz hx gA F3 HT H3 HX
  generalize (L.map Wp.nm).length = N at *
  obtain ⟨x0, x1, x2, x3⟩ := x
  unfold nmV at *
  simp only at *
  go_enter Try.func45, Try.ntmps45
  go_wp2_with fail
  rw [← hW2]
  clear hW2
  go_region
  all_goals
    go_wp2_with fail
    go_region_law (refine step_appK _ rfl (.tmp 21) (.tmp 23) 65 rfl 70 _ 4 12 Try.underlying65 infoName rfl (by decide) base (.slice Ao N co) _ N 1 _ _ rfl rfl hordA.out hlitA.out HONE.out (by omega) (by unfold maxLen; omega) HBA.out ?_; intro v4 w4 ho4 hg4 hat4; obtain ⟨A4, c4, hv4, _⟩ := (RdK.of_own ho4).form; subst hv4; obtain ⟨k3, kf, HZ⟩ := hAF.out _ w4 ho4 hg4; clear ho4 hg4 hat4)
  all_goals
    go_wp2_with fail
    go_ret
    exact ⟨_, _, rfl, HZ.out.1, HZ.out.2, Nat.le_succ _⟩
end Go.Proofs.Ytfjmcfkpbacicaa
