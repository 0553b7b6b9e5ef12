/- Tables of ports as lists: what the document says of their calls. Pure. -/
import Derived.Test.YtkblgigpgpjjlaaRowG
namespace Go.Proofs.Ytkblgigpgpjjlaa
set_option linter.unusedVariables false
set_option linter.unusedSimpArgs false

/-- An end; a quad; who is bound; who is joined. -/
structure Ed where
  ad : Int
  po : Int
  deriving DecidableEq
structure Qd where
  l : Ed
  r : Ed
  deriving DecidableEq
structure Bd where
  e : Ed
  o : Int
structure Jd where
  q : Qd
  o : Int
instance : Inhabited Ed := ⟨⟨0, 0⟩⟩
instance : Inhabited Bd := ⟨⟨default, 0⟩⟩
instance : Inhabited Jd := ⟨⟨⟨default, default⟩, 0⟩⟩
/-- A table: the ports that are picked, the one that was last, who is bound, who is joined. -/
structure Prt where
  lo : Int
  hi : Int
  la : Int
  B : List Bd
  J : List Jd
def noneT (lo hi : Int) : Prt := ⟨lo, hi, hi, [], []⟩
/-- One that stands in an end's way. -/
def clash (e : Ed) (b : Bd) : Prop := b.e.po = e.po ∧ (b.e.ad = e.ad ∨ b.e.ad = 0 ∨ e.ad = 0)
instance (e : Ed) (b : Bd) : Decidable (clash e b) := inferInstanceAs (Decidable (_ ∧ _))
def takenT (B : List Bd) (e : Ed) : Prop := ∃ b ∈ B, clash e b
instance (B : List Bd) (e : Ed) : Decidable (takenT B e) := inferInstanceAs (Decidable (∃ b ∈ B, clash e b))
/-- Bind. -/
def bdE (t : Prt) (e : Ed) : Int := if e.po = 0 then 8 else if takenT t.B e then 140 else if 1024 ≤ t.B.length then 5 else 0
def bdT (t : Prt) (e : Ed) (o : Int) : Prt := if bdE t e = 0 then { t with B := t.B ++ [⟨e, o⟩] } else t
/-- Unbind. -/
def isBd (e : Ed) (o : Int) (b : Bd) : Prop := b.e = e ∧ b.o = o
instance (e : Ed) (o : Int) (b : Bd) : Decidable (isBd e o b) := inferInstanceAs (Decidable (_ ∧ _))
def hasB (B : List Bd) (e : Ed) (o : Int) : Prop := ∃ b ∈ B, isBd e o b
instance (B : List Bd) (e : Ed) (o : Int) : Decidable (hasB B e o) := inferInstanceAs (Decidable (∃ b ∈ B, isBd e o b))
def ixB (B : List Bd) (e : Ed) (o : Int) : Nat := B.findIdx fun b => decide (isBd e o b)
def ubE (t : Prt) (e : Ed) (o : Int) : Int := if hasB t.B e o then 0 else 6
def ubT (t : Prt) (e : Ed) (o : Int) : Prt := if hasB t.B e o then { t with B := t.B.eraseIdx (ixB t.B e o) } else t
/-- Owner. -/
def owS (B : List Bd) (e : Ed) : Int × Bool :=
  match B.find? fun b => decide (b.e = e) with
  | some b => (b.o, true)
  | none => match B.find? fun b => decide (b.e.po = e.po ∧ b.e.ad = 0) with
    | some b => (b.o, true)
    | none => (0, false)
/-- Pick. -/
def portsT (t : Prt) : List Int := (List.range (t.hi - t.lo + 1).toNat).map fun (i : Nat) => t.lo + (i : Int)
def fits (t : Prt) (a : Int) (up : Bool) (p : Int) : Prop := (decide (t.la < p) = up) ∧ ¬ takenT t.B ⟨a, p⟩
instance (t : Prt) (a : Int) (up : Bool) (p : Int) : Decidable (fits t a up p) := inferInstanceAs (Decidable (_ ∧ _))
def pkS (t : Prt) (a : Int) : Option Int :=
  match (portsT t).find? fun p => decide (fits t a true p) with
  | some p => some p
  | none => (portsT t).find? fun p => decide (fits t a false p)
def pkE (t : Prt) (a : Int) : Int := match pkS t a with | some _ => 0 | none => 5
def pkP (t : Prt) (a : Int) : Int := match pkS t a with | some p => p | none => 0
def pkT (t : Prt) (a : Int) : Prt := match pkS t a with | some p => { t with la := p } | none => t
/-- Join, Part, Talks. -/
def tlS (J : List Jd) (q : Qd) : Int × Bool :=
  match J.find? fun j => decide (j.q = q) with
  | some j => (j.o, true)
  | none => (0, false)
def hasJ (J : List Jd) (q : Qd) : Prop := ∃ j ∈ J, j.q = q
instance (J : List Jd) (q : Qd) : Decidable (hasJ J q) := inferInstanceAs (Decidable (∃ j ∈ J, j.q = q))
def ixJ (J : List Jd) (q : Qd) : Nat := J.findIdx fun j => decide (j.q = q)
def joE (t : Prt) (q : Qd) : Int := if q.l.po = 0 ∨ q.r.po = 0 then 8 else if hasJ t.J q then 140 else if 1024 ≤ t.J.length then 5 else 0
def joT (t : Prt) (q : Qd) (o : Int) : Prt := if joE t q = 0 then { t with J := t.J ++ [⟨q, o⟩] } else t
def paE (t : Prt) (q : Qd) : Int := if hasJ t.J q then 0 else 6
def paT (t : Prt) (q : Qd) : Prt := if hasJ t.J q then { t with J := t.J.eraseIdx (ixJ t.J q) } else t
/-- Find. -/
def fdS (t : Prt) (q : Qd) : Int × Bool × Bool :=
  match tlS t.J q with
  | (o, true) => (o, true, true)
  | (_, false) => match owS t.B q.l with | (o, k) => (o, false, k)

/-- The first of a list, found one by one. -/
theorem find_first {α : Type} {l : List α} {P : α → Bool} {k : Nat} {x : α} (hx : l[k]? = some x) (hp : P x = true) (hno : ∀ j y, j < k → l[j]? = some y → P y = false) : l.find? P = some x := by
  induction l generalizing k with
  | nil => simp at hx
  | cons a l ih =>
    cases k with
    | zero =>
      have e : a = x := by simpa using hx
      subst e
      exact List.find?_cons_of_pos hp
    | succ k =>
      have h0 : P a = false := hno 0 a (Nat.succ_pos _) rfl
      rw [List.find?_cons_of_neg (by simp [h0])]
      exact ih (by simpa using hx) fun j y hj hy => hno (j + 1) y (by omega) (by simpa using hy)
theorem find_none {α : Type} {l : List α} {P : α → Bool} (hno : ∀ (j : Nat) y, l[j]? = some y → P y = false) : l.find? P = none := List.find?_eq_none.2 fun y hy => by
  obtain ⟨j, hj⟩ := List.mem_iff_getElem?.1 hy
  simp [hno j y hj]
theorem findIdx_first {α : Type} {l : List α} {P : α → Bool} {k : Nat} {x : α} (hx : l[k]? = some x) (hp : P x = true) (hno : ∀ j y, j < k → l[j]? = some y → P y = false) : l.findIdx P = k := by
  induction l generalizing k with
  | nil => simp at hx
  | cons a l ih =>
    cases k with
    | zero =>
      have e : a = x := by simpa using hx
      subst e
      simp [List.findIdx_cons, hp]
    | succ k =>
      have h0 : P a = false := hno 0 a (Nat.succ_pos _) rfl
      rw [List.findIdx_cons, h0]
      simp only [cond_false]
      rw [ih (by simpa using hx) fun j y hj hy => hno (j + 1) y (by omega) (by simpa using hy)]
/-- What always holds of a table. -/
structure TOk (t : Prt) : Prop where
  lo : 1 ≤ t.lo
  le : t.lo ≤ t.hi
  hi : t.hi ≤ 65535
  la : t.lo ≤ t.la ∧ t.la ≤ t.hi
  bl : t.B.length ≤ 1024
  jl : t.J.length ≤ 1024
  ap : t.B.Pairwise fun a b => ¬ clash a.e b
  po : ∀ b ∈ t.B, b.e.po ≠ 0
  jn : (t.J.map Jd.q).Nodup
theorem mem_ports {t : Prt} {p : Int} : p ∈ portsT t ↔ t.lo ≤ p ∧ p ≤ t.hi := by
  unfold portsT
  rw [List.mem_map]
  constructor
  · rintro ⟨i, hi, rfl⟩
    rw [List.mem_range] at hi
    omega
  · rintro ⟨h1, h2⟩
    exact ⟨(p - t.lo).toNat, by rw [List.mem_range]; omega, by omega⟩
theorem pkS_some {t : Prt} {a p : Int} (h : pkS t a = some p) : (t.lo ≤ p ∧ p ≤ t.hi) ∧ ¬ takenT t.B ⟨a, p⟩ := by
  unfold pkS at h
  split at h
  · rename_i p' h'
    cases h
    have := List.find?_some h'
    exact ⟨mem_ports.1 (List.mem_of_find?_eq_some h'), (of_decide_eq_true this).2⟩
  · have := List.find?_some h
    exact ⟨mem_ports.1 (List.mem_of_find?_eq_some h), (of_decide_eq_true this).2⟩
theorem tok_none {lo hi : Int} (h : 1 ≤ lo ∧ lo ≤ hi ∧ hi ≤ 65535) : TOk (noneT lo hi) := ⟨h.1, h.2.1, h.2.2, ⟨h.2.1, Int.le_refl _⟩, by simp [noneT], by simp [noneT], List.Pairwise.nil, by simp [noneT], List.nodup_nil⟩
theorem clash_symm {a b : Bd} (h : clash a.e b) : clash b.e a := ⟨h.1.symm, by
  rcases h.2 with q | q | q
  · exact .inl q.symm
  · exact .inr (.inr q)
  · exact .inr (.inl q)⟩
theorem TOk.bd {t : Prt} (h : TOk t) (e : Ed) (o : Int) : TOk (bdT t e o) := by
  unfold bdT
  by_cases q : bdE t e = 0
  · rw [if_pos q]
    unfold bdE at q
    by_cases q1 : e.po = 0
    · rw [if_pos q1] at q; exact absurd q (by decide)
    rw [if_neg q1] at q
    by_cases q2 : takenT t.B e
    · rw [if_pos q2] at q; exact absurd q (by decide)
    rw [if_neg q2] at q
    by_cases q3 : 1024 ≤ t.B.length
    · rw [if_pos q3] at q; exact absurd q (by decide)
    refine ⟨h.lo, h.le, h.hi, h.la, ?_, h.jl, ?_, ?_, h.jn⟩
    · show (t.B ++ [(⟨e, o⟩ : Bd)]).length ≤ 1024
      rw [List.length_append, List.length_singleton]
      omega
    · refine List.pairwise_append.2 ⟨h.ap, List.pairwise_singleton _ _, fun a ha b hb => ?_⟩
      rw [List.mem_singleton.1 hb]
      exact fun c => q2 ⟨a, ha, clash_symm (a := a) (b := ⟨e, o⟩) c⟩
    · intro b hb
      rcases List.mem_append.1 hb with hb | hb
      · exact h.po b hb
      · rw [List.mem_singleton.1 hb]
        exact q1
  · rw [if_neg q]
    exact h
theorem TOk.ub {t : Prt} (h : TOk t) (e : Ed) (o : Int) : TOk (ubT t e o) := by
  unfold ubT
  by_cases q : hasB t.B e o
  · rw [if_pos q]
    have hs := List.eraseIdx_sublist t.B (ixB t.B e o)
    exact ⟨h.lo, h.le, h.hi, h.la, Nat.le_trans hs.length_le h.bl, h.jl, List.Pairwise.sublist hs h.ap, fun b hb => h.po b (hs.subset hb), h.jn⟩
  · rw [if_neg q]
    exact h
theorem TOk.pk {t : Prt} (h : TOk t) (a : Int) : TOk (pkT t a) := by
  unfold pkT
  cases hq : pkS t a with
  | none => exact h
  | some p => exact ⟨h.lo, h.le, h.hi, (pkS_some hq).1, h.bl, h.jl, h.ap, h.po, h.jn⟩
theorem TOk.jo {t : Prt} (h : TOk t) (q : Qd) (o : Int) : TOk (joT t q o) := by
  unfold joT
  by_cases k : joE t q = 0
  · rw [if_pos k]
    unfold joE at k
    by_cases q1 : q.l.po = 0 ∨ q.r.po = 0
    · rw [if_pos q1] at k; exact absurd k (by decide)
    rw [if_neg q1] at k
    by_cases q2 : hasJ t.J q
    · rw [if_pos q2] at k; exact absurd k (by decide)
    rw [if_neg q2] at k
    by_cases q3 : 1024 ≤ t.J.length
    · rw [if_pos q3] at k; exact absurd k (by decide)
    refine ⟨h.lo, h.le, h.hi, h.la, h.bl, ?_, h.ap, h.po, ?_⟩
    · show (t.J ++ [(⟨q, o⟩ : Jd)]).length ≤ 1024
      rw [List.length_append, List.length_singleton]
      omega
    · show ((t.J ++ [(⟨q, o⟩ : Jd)]).map Jd.q).Nodup
      rw [List.map_append]
      refine List.nodup_append.2 ⟨h.jn, by simp, fun a ha b hb e => ?_⟩
      obtain ⟨j, hj, rfl⟩ := List.mem_map.1 ha
      have hb' : b = q := by simpa using hb
      exact q2 ⟨j, hj, e.trans hb'⟩
  · rw [if_neg k]
    exact h
theorem TOk.pa {t : Prt} (h : TOk t) (q : Qd) : TOk (paT t q) := by
  unfold paT
  by_cases k : hasJ t.J q
  · rw [if_pos k]
    have hs := List.eraseIdx_sublist t.J (ixJ t.J q)
    exact ⟨h.lo, h.le, h.hi, h.la, h.bl, Nat.le_trans hs.length_le h.jl, h.ap, h.po, (hs.map _).nodup h.jn⟩
  · rw [if_neg k]
    exact h
theorem tlS_at {J : List Jd} {q : Qd} {k : Nat} {x : Jd} (hx : J[k]? = some x) (hp : x.q = q) (hno : ∀ j y, j < k → J[j]? = some y → y.q ≠ q) : tlS J q = (x.o, true) := by
  unfold tlS
  rw [find_first (P := fun j : Jd => decide (j.q = q)) hx (decide_eq_true hp) fun j y hj hy => decide_eq_false (hno j y hj hy)]
theorem tlS_none {J : List Jd} {q : Qd} (hno : ∀ (j : Nat) y, J[j]? = some y → y.q ≠ q) : tlS J q = (0, false) := by
  unfold tlS
  rw [find_none (P := fun j : Jd => decide (j.q = q)) fun j y hy => decide_eq_false (hno j y hy)]
theorem owS_at1 {B : List Bd} {e : Ed} {k : Nat} {x : Bd} (hx : B[k]? = some x) (hp : x.e = e) (hno : ∀ j y, j < k → B[j]? = some y → y.e ≠ e) : owS B e = (x.o, true) := by
  unfold owS
  rw [find_first (P := fun b : Bd => decide (b.e = e)) hx (decide_eq_true hp) fun j y hj hy => decide_eq_false (hno j y hj hy)]
theorem owS_at2 {B : List Bd} {e : Ed} {k : Nat} {x : Bd} (hn : ∀ (j : Nat) y, B[j]? = some y → y.e ≠ e) (hx : B[k]? = some x) (hp : x.e.po = e.po ∧ x.e.ad = 0) (hno : ∀ j y, j < k → B[j]? = some y → ¬ (y.e.po = e.po ∧ y.e.ad = 0)) : owS B e = (x.o, true) := by
  unfold owS
  rw [find_none (P := fun b : Bd => decide (b.e = e)) fun j y hy => decide_eq_false (hn j y hy)]
  show (match B.find? fun b => decide (b.e.po = e.po ∧ b.e.ad = 0) with | some b => (b.o, true) | none => (0, false)) = _
  rw [find_first (P := fun b : Bd => decide (b.e.po = e.po ∧ b.e.ad = 0)) hx (decide_eq_true hp) fun j y hj hy => decide_eq_false (hno j y hj hy)]
theorem owS_none {B : List Bd} {e : Ed} (hn : ∀ (j : Nat) y, B[j]? = some y → y.e ≠ e) (hno : ∀ (j : Nat) y, B[j]? = some y → ¬ (y.e.po = e.po ∧ y.e.ad = 0)) : owS B e = (0, false) := by
  unfold owS
  rw [find_none (P := fun b : Bd => decide (b.e = e)) fun j y hy => decide_eq_false (hn j y hy)]
  show (match B.find? fun b => decide (b.e.po = e.po ∧ b.e.ad = 0) with | some b => (b.o, true) | none => (0, false)) = _
  rw [find_none (P := fun b : Bd => decide (b.e.po = e.po ∧ b.e.ad = 0)) fun j y hy => decide_eq_false (hno j y hy)]
end Go.Proofs.Ytkblgigpgpjjlaa
