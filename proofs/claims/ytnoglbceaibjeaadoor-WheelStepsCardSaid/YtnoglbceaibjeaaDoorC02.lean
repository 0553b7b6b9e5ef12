/- Ticks as numbers of base 64: which wheel, which slot; in numbers alone. -/
import Derived.Lib.BitFns
import Derived.Lib.TrailingZeros
import Derived.Test.YtnoglbceaibjeaaDoorRows
import Derived.Test.YtnoglbceaibjeaaDoorC01
import Derived.ChangeMaps5
import Derived.Maps.RangeWalk
import Derived.Deep.DeepCutAuto
import Derived.WalkKit
import Derived.WalkSpells
import Derived.BigQuiet
import Derived.Lib.Hide
import Derived.StillTailTactics
namespace Go.Proofs.YtnoglbceaibjeaaDoor
set_option linter.unusedVariables false
set_option linter.unusedSimpArgs false

/-- All digits of a from the d-th on. -/
def top (a d : Nat) : Nat := a / 64 ^ d
def dig (a d : Nat) : Nat := top a d % 64
theorem top_zero (a : Nat) : top a 0 = a := by simp [top]
theorem top_succ (a d : Nat) : top a (d + 1) = top a d / 64 := by
  unfold top
  rw [Nat.pow_succ, Nat.div_div_eq_div_mul]
theorem top_eq (a d : Nat) : top a d = 64 * top a (d + 1) + dig a d := by
  rw [top_succ]
  unfold dig
  omega
theorem dig_lt (a d : Nat) : dig a d < 64 := Nat.mod_lt _ (by decide)
theorem top_up {a b d : Nat} (h : top a d = top b d) : ∀ e, d ≤ e → top a e = top b e := by
  intro e he
  induction e with
  | zero =>
    obtain rfl : d = 0 := by omega
    exact h
  | succ e ih =>
    rcases Nat.lt_or_ge e d with h1 | h1
    · obtain rfl : d = e + 1 := by omega
      exact h
    · rw [top_succ, top_succ, ih h1]
theorem top_mono {a b : Nat} (d : Nat) (h : a ≤ b) : top a d ≤ top b d := Nat.div_le_div_right h
theorem lt_of_top {a b d : Nat} (h : top a d < top b d) : a < b := by
  rcases Nat.lt_or_ge a b with h1 | h1
  · exact h1
  · have := top_mono d h1
    omega
/-- d is the number of the most significant digit in which a and b differ, 0 if they do in none. -/
structure Dif (a b d : Nat) : Prop where
  eq : top a (d + 1) = top b (d + 1)
  ne : d ≠ 0 → top a d ≠ top b d
theorem Dif.uniq {a b d e : Nat} (h : Dif a b d) (k : Dif a b e) : d = e := by
  rcases Nat.lt_trichotomy d e with h1 | h1 | h1
  · exact absurd (top_up h.eq e (by omega)) (k.ne (by omega))
  · exact h1
  · exact absurd (top_up k.eq d (by omega)) (h.ne (by omega))
theorem Dif.digne {a b d : Nat} (h : Dif a b d) (hd : d ≠ 0) : dig a d ≠ dig b d := by
  have h1 := top_eq a d
  have h2 := top_eq b d
  have h3 := h.ne hd
  have h4 := h.eq
  intro e
  omega
theorem Dif.above {a b d : Nat} (h : Dif a b d) (e : Nat) (he : d < e) : dig a e = dig b e := by
  show top a e % 64 = top b e % 64
  rw [top_up h.eq e (by omega)]
theorem Dif.self (a : Nat) : Dif a a 0 := ⟨rfl, fun h => absurd rfl h⟩
theorem Dif.symm {a b d : Nat} (h : Dif a b d) : Dif b a d := ⟨h.eq.symm, fun hd e => h.ne hd e.symm⟩

theorem bitLen_spec : ∀ (f m : Nat), m ≠ 0 → m < 2 ^ f → f ≤ 64 → 1 ≤ Lib.bitLen m ∧ 2 ^ (Lib.bitLen m - 1) ≤ m ∧ m < 2 ^ Lib.bitLen m ∧ Lib.bitLen m ≤ f
  | 0, m, h0, h, _ => by simp at h; omega
  | f + 1, m, h0, h, hf => by
    have h64 : m < 2 ^ 64 := Nat.lt_of_lt_of_le h (Nat.pow_le_pow_right (by decide) hf)
    have hb := Lib.bitLen_half m h0 h64
    by_cases h1 : m / 2 = 0
    · have e0 : Lib.bitLen 0 = 0 := by decide
      rw [h1, e0] at hb
      rw [hb]
      refine ⟨by omega, ?_, ?_, by omega⟩
      · simp; omega
      · simp; omega
    · obtain ⟨q1, q2, q3, q4⟩ := bitLen_spec f (m / 2) h1 (by rw [Nat.pow_succ] at h; omega) (by omega)
      rw [hb]
      refine ⟨by omega, ?_, ?_, by omega⟩
      · have e : 1 + Lib.bitLen (m / 2) - 1 = (Lib.bitLen (m / 2) - 1) + 1 := by omega
        rw [e, Nat.pow_succ]
        omega
      · rw [Nat.add_comm, Nat.pow_succ]
        omega
theorem pow64 (d : Nat) : 64 ^ d = 2 ^ (6 * d) := by
  rw [Nat.pow_mul]
theorem top_shift (a d : Nat) : top a d = a >>> (6 * d) := by
  rw [Nat.shiftRight_eq_div_pow, ← pow64]
  rfl
theorem xor_zero {x y : Nat} (h : x ^^^ y = 0) : x = y := by
  refine Nat.eq_of_testBit_eq fun i => ?_
  have h1 := Nat.testBit_xor x y i
  rw [h, Nat.zero_testBit] at h1
  cases hx : x.testBit i <;> cases hy : y.testBit i <;> simp [hx, hy] at h1 ⊢
/-- What differ reckons. -/
def difS (a b : Nat) : Nat := (Lib.bitLen ((a ^^^ b) ||| 1) - 1) / 6
theorem difS_spec {a b : Nat} (ha : a < 2 ^ 41) (hb : b < 2 ^ 41) : Dif a b (difS a b) ∧ difS a b ≤ 6 ∧ 1 ≤ Lib.bitLen ((a ^^^ b) ||| 1) ∧ Lib.bitLen ((a ^^^ b) ||| 1) ≤ 41 := by
  have hx : a ^^^ b < 2 ^ 41 := Nat.xor_lt_two_pow ha hb
  have hm : (a ^^^ b) ||| 1 < 2 ^ 41 := Nat.or_lt_two_pow hx (by decide)
  have h0 : (a ^^^ b) ||| 1 ≠ 0 := by
    intro e
    have := Nat.testBit_or (a ^^^ b) 1 0
    rw [e] at this
    simp at this
  obtain ⟨q1, q2, q3, q4⟩ := bitLen_spec 41 _ h0 hm (by decide)
  obtain ⟨L, hL⟩ : ∃ L, L = Lib.bitLen ((a ^^^ b) ||| 1) - 1 := ⟨_, rfl⟩
  have hd : difS a b = L / 6 := by unfold difS; rw [hL]
  rw [← hL] at q2
  refine ⟨?_, by rw [hd]; omega, q1, q4⟩
  rw [hd]
  have key : ∀ k, (a >>> k = b >>> k) ↔ a ^^^ b < 2 ^ k := by
    intro k
    constructor
    · intro e
      rcases Nat.lt_or_ge (a ^^^ b) (2 ^ k) with h | h
      · exact h
      · exfalso
        have h1 : (a ^^^ b) >>> k = 0 := by rw [Nat.shiftRight_xor_distrib, e, Nat.xor_self]
        rw [Nat.shiftRight_eq_div_pow] at h1
        have := Nat.div_pos h (Nat.two_pow_pos k)
        omega
    · intro h
      have h1 : (a ^^^ b) >>> k = 0 := by rw [Nat.shiftRight_eq_div_pow]; exact Nat.div_eq_of_lt h
      rw [Nat.shiftRight_xor_distrib] at h1
      exact xor_zero h1
  have hor : a ^^^ b ≤ (a ^^^ b) ||| 1 := Nat.left_le_or
  constructor
  · rw [top_shift, top_shift, key]
    refine Nat.lt_of_le_of_lt hor (Nat.lt_of_lt_of_le q3 (Nat.pow_le_pow_right (by decide) ?_))
    omega
  · intro hne e
    rw [top_shift, top_shift, key] at e
    have h2 : (a ^^^ b) ||| 1 < 2 ^ (6 * (L / 6)) := Nat.or_lt_two_pow e (Nat.one_lt_two_pow (by omega))
    have h3 : 2 ^ (6 * (L / 6)) ≤ 2 ^ L := Nat.pow_le_pow_right (by decide) (by omega)
    omega
end Go.Proofs.YtnoglbceaibjeaaDoor
/- Stable sorting, on lists alone: lists that hold the same elements of each key in the same order. -/
namespace Go.Proofs.YtnoglbceaibjeaaDoor
set_option linter.unusedVariables false
set_option linter.unusedSimpArgs false

section
variable {α : Type} (key : α → Int)
def Srt (l : List α) : Prop := l.Pairwise fun a b => key a ≤ key b
/-- The same elements of each key, in the same order. -/
def Stb (l l' : List α) : Prop := ∀ k, l.filter (fun a => decide (key a = k)) = l'.filter (fun a => decide (key a = k))
end
section
variable {α : Type} {key : α → Int} {l l' l'' r r' : List α}
theorem Stb.refl (l : List α) : Stb key l l := fun _ => rfl
theorem Stb.symm (h : Stb key l l') : Stb key l' l := fun k => (h k).symm
theorem Stb.trans (h : Stb key l l') (h' : Stb key l' l'') : Stb key l l'' := fun k => (h k).trans (h' k)
theorem Stb.app (h : Stb key l l') (h' : Stb key r r') : Stb key (l ++ r) (l' ++ r') := fun k => by rw [List.filter_append, List.filter_append, h k, h' k]
theorem Stb.mem (h : Stb key l l') {a : α} (ha : a ∈ l) : a ∈ l' := by
  have h1 : a ∈ l.filter (fun b => decide (key b = key a)) := List.mem_filter.2 ⟨ha, by simp⟩
  rw [h (key a)] at h1
  exact (List.mem_filter.1 h1).1
/-- Two that follow one another, with keys that are parted, may be exchanged. -/
theorem Stb.comm {u v : List α} (h : ∀ a ∈ u, ∀ b ∈ v, key a ≠ key b) : Stb key (u ++ v) (v ++ u) := fun k => by
  rw [List.filter_append, List.filter_append]
  by_cases hu : u.filter (fun a => decide (key a = k)) = []
  · rw [hu]; simp
  · have hv : v.filter (fun a => decide (key a = k)) = [] := by
      rw [List.filter_eq_nil_iff]
      intro b hb e
      obtain ⟨a, ha⟩ := List.exists_mem_of_ne_nil _ hu
      obtain ⟨ha1, ha2⟩ := List.mem_filter.1 ha
      simp only [decide_eq_true_eq] at ha2 e
      exact h a ha1 b hb (by rw [ha2, e])
    rw [hv]; simp
theorem srt_uniq : ∀ (l l' : List α), Srt key l → Srt key l' → Stb key l l' → l = l'
  | [], [], _, _, _ => rfl
  | [], b :: r', _, _, h => by
    have := h.symm.mem (a := b) (by simp)
    cases this
  | a :: r, [], _, _, h => by
    have := h.mem (a := a) (by simp)
    cases this
  | a :: r, b :: r', hs, hs', h => by
    have h1 := List.pairwise_cons.1 hs
    have h2 := List.pairwise_cons.1 hs'
    have hk : key a = key b := by
      have q1 : key a ≤ key b := by
        rcases List.mem_cons.1 (h.symm.mem (a := b) (by simp)) with e | e
        · rw [e]; exact Int.le_refl _
        · exact h1.1 b e
      have q2 : key b ≤ key a := by
        rcases List.mem_cons.1 (h.mem (a := a) (by simp)) with e | e
        · rw [e]; exact Int.le_refl _
        · exact h2.1 a e
      omega
    have h3 := h (key a)
    rw [List.filter_cons, List.filter_cons, if_pos (by simp), if_pos (by simp [hk])] at h3
    injection h3 with e1 e2
    subst e1
    congr 1
    refine srt_uniq r r' h1.2 h2.2 fun k => ?_
    have h4 := h k
    rw [List.filter_cons, List.filter_cons] at h4
    split at h4
    · injection h4
    · exact h4
theorem srt_app {u v : List α} : Srt key (u ++ v) ↔ Srt key u ∧ Srt key v ∧ ∀ a ∈ u, ∀ b ∈ v, key a ≤ key b := List.pairwise_append
/-- Two sorted lists merged, whose parts lie right. -/
theorem merge_parts {u1 u2 v1 v2 w1 w2 : List α} (hu : Srt key (u1 ++ u2)) (hv : Srt key (v1 ++ v2)) (h12 : ∀ a ∈ u1, ∀ b ∈ v2, key a ≤ key b) (h21 : ∀ b ∈ v1, ∀ a ∈ u2, key b < key a)
    (hw1 : Srt key w1) (hw2 : Srt key w2) (s1 : Stb key w1 (u1 ++ v1)) (s2 : Stb key w2 (u2 ++ v2)) : Srt key (w1 ++ w2) ∧ Stb key (w1 ++ w2) ((u1 ++ u2) ++ (v1 ++ v2)) := by
  obtain ⟨_, _, hu12⟩ := srt_app.1 hu
  obtain ⟨_, _, hv12⟩ := srt_app.1 hv
  refine ⟨srt_app.2 ⟨hw1, hw2, fun a ha b hb => ?_⟩, (s1.app s2).trans ?_⟩
  · rcases List.mem_append.1 (s1.mem ha) with h1 | h1 <;> rcases List.mem_append.1 (s2.mem hb) with h2 | h2
    · exact hu12 a h1 b h2
    · exact h12 a h1 b h2
    · have := h21 a h1 b h2; omega
    · exact hv12 a h1 b h2
  · have e1 : (u1 ++ v1) ++ (u2 ++ v2) = u1 ++ ((v1 ++ u2) ++ v2) := by simp
    have e2 : (u1 ++ u2) ++ (v1 ++ v2) = u1 ++ ((u2 ++ v1) ++ v2) := by simp
    rw [e1, e2]
    exact (Stb.refl u1).app ((Stb.comm fun a ha b hb e => by have := h21 a ha b hb; omega).app (Stb.refl v2))
end
end Go.Proofs.YtnoglbceaibjeaaDoor
/- Timers on the wheels: what a step meets, and where the others lie from then on; on lists alone. -/
namespace Go.Proofs.YtnoglbceaibjeaaDoor
set_option linter.unusedVariables false
set_option linter.unusedSimpArgs false

/-- A timer: its number, its tick, its block. -/
structure Tm where
  id : Int
  tk : Nat
  blk : Nat
deriving DecidableEq
def maxT : Nat := 1099511627776
/-- Which wheel, which slot. -/
def plc (now t : Nat) : Nat × Nat := (difS now t, dig t (difS now t))
theorem maxT_lt {t : Nat} (h : t ≤ maxT) : t < 2 ^ 41 := by unfold maxT at h; omega
theorem plc_dif {now t : Nat} (h1 : now ≤ maxT) (h2 : t ≤ maxT) : Dif now t (plc now t).1 := (difS_spec (maxT_lt h1) (maxT_lt h2)).1
theorem plc_lt {now t : Nat} (h1 : now ≤ maxT) (h2 : t ≤ maxT) : (plc now t).1 < 7 ∧ (plc now t).2 < 64 := ⟨Nat.lt_succ_of_le (difS_spec (maxT_lt h1) (maxT_lt h2)).2.1, dig_lt _ _⟩
theorem plc_of {now t d : Nat} (h1 : now ≤ maxT) (h2 : t ≤ maxT) (h : Dif now t d) : plc now t = (d, dig t d) := by
  have e : difS now t = d := (plc_dif h1 h2).uniq h
  unfold plc
  rw [e]
theorem plc_two {now t : Nat} : (plc now t).2 = dig t (plc now t).1 := rfl
/-- The slots that a step from now to now' meets. -/
def metB (now now' no s : Nat) : Bool := decide (no < difS now now') || decide (s ≤ dig now' no)
section
variable {now now' t : Nat}
theorem met_of_due (h : now ≤ now') (h1 : now' ≤ maxT) (h2 : t ≤ maxT) (ht : t ≤ now') : metB now now' (plc now t).1 (plc now t).2 = true := by
  have D := plc_dif (Nat.le_trans h h1) h2
  have T := (difS_spec (maxT_lt (Nat.le_trans h h1)) (maxT_lt h1)).1
  obtain ⟨d, hd⟩ : ∃ d, d = (plc now t).1 := ⟨_, rfl⟩
  rw [plc_two, ← hd]
  rw [← hd] at D
  unfold metB
  by_cases hl : d < difS now now'
  · simp [hl]
  · have e1 : top now (d + 1) = top now' (d + 1) := top_up T.eq _ (by omega)
    have e2 := D.eq
    have e3 := top_mono d ht
    have e4 := top_eq t d
    have e5 := top_eq now' d
    simp only [Bool.or_eq_true, decide_eq_true_eq]
    right
    omega
theorem unmet (h : now ≤ now') (h1 : now' ≤ maxT) (h2 : t ≤ maxT) (hm : metB now now' (plc now t).1 (plc now t).2 = false) : now' < t ∧ plc now' t = plc now t := by
  have D := plc_dif (Nat.le_trans h h1) h2
  have T := (difS_spec (maxT_lt (Nat.le_trans h h1)) (maxT_lt h1)).1
  obtain ⟨d, hd⟩ : ∃ d, d = (plc now t).1 := ⟨_, rfl⟩
  have hp : plc now t = (d, dig t d) := by rw [hd]; rfl
  rw [plc_two, ← hd] at hm
  rw [← hd] at D
  unfold metB at hm
  simp only [Bool.or_eq_false_iff, decide_eq_false_iff_not] at hm
  have e1 : top now (d + 1) = top now' (d + 1) := top_up T.eq _ (by omega)
  have e2 := D.eq
  have e4 := top_eq t d
  have e5 := top_eq now' d
  have hlt : top now' d < top t d := by omega
  refine ⟨lt_of_top hlt, ?_⟩
  rw [hp]
  exact plc_of h1 h2 ⟨by omega, fun _ => by omega⟩
theorem met_late (h : now ≤ now') (h1 : now' ≤ maxT) (h2 : t ≤ maxT) (hm : metB now now' (plc now t).1 (plc now t).2 = true) (ht : now' < t) :
    plc now t = (difS now now', dig now' (difS now now')) ∧ (plc now' t).1 < difS now now' := by
  have D := plc_dif (Nat.le_trans h h1) h2
  have T := (difS_spec (maxT_lt (Nat.le_trans h h1)) (maxT_lt h1)).1
  have E := plc_dif h1 h2
  obtain ⟨d, hd⟩ : ∃ d, d = (plc now t).1 := ⟨_, rfl⟩
  obtain ⟨e, he⟩ : ∃ e, e = (plc now' t).1 := ⟨_, rfl⟩
  obtain ⟨T0, hT0⟩ : ∃ T0, T0 = difS now now' := ⟨_, rfl⟩
  have hp : plc now t = (d, dig t d) := by rw [hd]; rfl
  rw [plc_two, ← hd] at hm
  rw [← hd] at D
  rw [← he] at E
  rw [← hT0] at T
  unfold metB at hm
  simp only [Bool.or_eq_true, decide_eq_true_eq] at hm
  rw [← hT0] at hm
  rw [hp, ← hT0, ← he]
  have e4 := top_eq t d
  have e5 := top_eq now' d
  have hge : T0 ≤ d := by
    rcases Nat.lt_or_ge d T0 with q | q
    · exfalso
      have q1 : top now T0 = top t T0 := top_up D.eq _ (by omega)
      have q2 := T.ne (by omega)
      have q3 := top_mono T0 h
      have q4 := top_mono T0 (Nat.le_of_lt ht)
      omega
    · exact q
  have hdg : dig t d ≤ dig now' d := by omega
  have e1 : top now (d + 1) = top now' (d + 1) := top_up T.eq _ (by omega)
  have e2 := D.eq
  have q4 := top_mono d (Nat.le_of_lt ht)
  have heq : dig t d = dig now' d := by omega
  have htop : top t d = top now' d := by omega
  have hdT : d = T0 := by
    rcases Nat.lt_or_ge T0 d with q | q
    · exfalso
      have q1 : top now d = top now' d := top_up T.eq _ (by omega)
      exact D.ne (by omega) (by omega)
    · omega
  subst hdT
  refine ⟨by rw [heq], ?_⟩
  have hd0 : d ≠ 0 := by
    rintro rfl
    rw [top_zero, top_zero] at htop
    omega
  rcases Nat.lt_or_ge e d with q | q
  · exact q
  · exact absurd (top_up htop.symm e q) (E.ne (by omega))
end

/-- The timers of a slot, in the order in which they were set. -/
def chn (now : Nat) (L : List Tm) (no s : Nat) : List Tm := L.filter fun t => decide (plc now t.tk = (no, s))
theorem chn_app (now : Nat) (L M : List Tm) (no s : Nat) : chn now (L ++ M) no s = chn now L no s ++ chn now M no s := List.filter_append ..
def left (now' : Nat) (L : List Tm) : List Tm := L.filter fun t => decide (now' < t.tk)
section
variable {now now' : Nat} {L : List Tm}
theorem chn_unmet (h : now ≤ now') (h1 : now' ≤ maxT) (hL : ∀ t ∈ L, t.tk ≤ maxT) {no s : Nat} (hm : metB now now' no s = false) : chn now' (left now' L) no s = chn now L no s := by
  unfold chn left
  rw [List.filter_filter]
  refine List.filter_congr fun t ht => ?_
  rw [Bool.eq_iff_iff]
  simp only [Bool.and_eq_true, decide_eq_true_eq]
  constructor
  · rintro ⟨q1, q2⟩
    cases hb : metB now now' (plc now t.tk).1 (plc now t.tk).2 with
    | true =>
      have q3 := (met_late h h1 (hL t ht) hb q2).2
      rw [q1] at q3
      unfold metB at hm
      simp at hm
      omega
    | false =>
      rw [← (unmet h h1 (hL t ht) hb).2]
      exact q1
  · intro q1
    have hb : metB now now' (plc now t.tk).1 (plc now t.tk).2 = false := by rw [q1]; exact hm
    obtain ⟨q2, q3⟩ := unmet h h1 (hL t ht) hb
    exact ⟨by rw [q3]; exact q1, q2⟩
theorem chn_met (h : now ≤ now') (h1 : now' ≤ maxT) (hL : ∀ t ∈ L, t.tk ≤ maxT) {no s : Nat} (hm : metB now now' no s = true) :
    chn now' (left now' L) no s = (left now' (chn now L (difS now now') (dig now' (difS now now')))).filter fun t => decide (plc now' t.tk = (no, s)) := by
  unfold chn left
  rw [List.filter_filter, List.filter_filter, List.filter_filter]
  refine List.filter_congr fun t ht => ?_
  rw [Bool.eq_iff_iff]
  simp only [Bool.and_eq_true, decide_eq_true_eq]
  constructor
  · rintro ⟨q1, q2⟩
    cases hb : metB now now' (plc now t.tk).1 (plc now t.tk).2 with
    | true => exact ⟨⟨q1, q2⟩, (met_late h h1 (hL t ht) hb q2).1⟩
    | false =>
      obtain ⟨_, q3⟩ := unmet h h1 (hL t ht) hb
      rw [← q3, q1] at hb
      simp only at hb
      rw [hm] at hb
      cases hb
  · rintro ⟨⟨q1, q2⟩, _⟩
    exact ⟨q1, q2⟩
end

/-- All that a step meets, as the program gathers them. -/
def metL (now now' : Nat) (L : List Tm) : List Tm := (List.range 7).flatMap fun no => (List.range 64).flatMap fun s => if metB now now' no s then chn now L no s else []
theorem flat_one {α : Type} (n k : Nat) (hk : k < n) (f : Nat → List α) (hf : ∀ i, i ≠ k → f i = []) : (List.range n).flatMap f = f k := by
  induction n with
  | zero => omega
  | succ n ih =>
    rw [List.range_succ, List.flatMap_append]
    simp only [List.flatMap_cons, List.flatMap_nil, List.append_nil]
    by_cases e : k = n
    · subst e
      have : (List.range k).flatMap f = [] := by
        rw [List.flatMap_eq_nil_iff]
        intro i hi
        exact hf i (by have := List.mem_range.1 hi; omega)
      rw [this]; rfl
    · rw [ih (by omega), hf n (fun q => e q.symm)]
      simp
theorem filter_flat {α β : Type} (p : β → Bool) (l : List α) (f : α → List β) : (l.flatMap f).filter p = l.flatMap fun a => (f a).filter p := by
  induction l with
  | nil => rfl
  | cons a r ih => simp [List.flatMap_cons, List.filter_append, ih]
section
variable {now now' : Nat} {L : List Tm}
theorem metL_at (h : now ≤ now') (h1 : now' ≤ maxT) (hL : ∀ t ∈ L, t.tk ≤ maxT) (a : Nat) (ha : a ≤ now') : (metL now now' L).filter (fun t => decide (t.tk = a)) = L.filter (fun t => decide (t.tk = a)) := by
  have hn : now ≤ maxT := Nat.le_trans h h1
  have ham : a ≤ maxT := Nat.le_trans ha h1
  obtain ⟨p1, p2⟩ := plc_lt hn ham
  have hmet := met_of_due h h1 ham ha
  have key : ∀ no s, (if metB now now' no s then chn now L no s else []).filter (fun t => decide (t.tk = a)) = if (no, s) = plc now a then L.filter (fun t => decide (t.tk = a)) else [] := by
    intro no s
    by_cases e : (no, s) = plc now a
    · rw [if_pos e]
      have : metB now now' no s = true := by
        have e1 : no = (plc now a).1 := by rw [← e]
        have e2 : s = (plc now a).2 := by rw [← e]
        rw [e1, e2]; exact hmet
      rw [if_pos this]
      unfold chn
      rw [List.filter_filter]
      refine List.filter_congr fun t _ => ?_
      rw [Bool.eq_iff_iff]
      simp only [Bool.and_eq_true, decide_eq_true_eq]
      exact ⟨fun q => q.1, fun q => ⟨q, by rw [q, e]⟩⟩
    · rw [if_neg e]
      split
      · unfold chn
        rw [List.filter_filter, List.filter_eq_nil_iff]
        intro t _ q
        simp only [Bool.and_eq_true, decide_eq_true_eq] at q
        exact e (by rw [← q.2, q.1])
      · rfl
  unfold metL
  rw [filter_flat]
  have e1 : ∀ no, ((List.range 64).flatMap fun s => if metB now now' no s then chn now L no s else []).filter (fun t => decide (t.tk = a)) = if no = (plc now a).1 then L.filter (fun t => decide (t.tk = a)) else [] := by
    intro no
    rw [filter_flat]
    simp only [key]
    by_cases e : no = (plc now a).1
    · rw [if_pos e, flat_one 64 (plc now a).2 p2]
      · rw [if_pos (by rw [e])]
      · intro i hi
        rw [if_neg (fun q => hi (by rw [← q]))]
    · rw [if_neg e, List.flatMap_eq_nil_iff]
      intro i _
      rw [if_neg (fun q => e (by rw [← q]))]
  simp only [e1]
  rw [flat_one 7 (plc now a).1 p1 _ (fun i hi => by rw [if_neg hi]), if_pos rfl]
/-- Those that are due: the same of each tick, in the same order. -/
theorem due_stb (h : now ≤ now') (h1 : now' ≤ maxT) (hL : ∀ t ∈ L, t.tk ≤ maxT) :
    Stb (fun t : Tm => (t.tk : Int)) ((metL now now' L).filter fun t => decide (t.tk ≤ now')) (L.filter fun t => decide (t.tk ≤ now')) := by
  intro k
  rw [List.filter_filter, List.filter_filter]
  rcases (show k < 0 ∨ 0 ≤ k by omega) with hk | hk
  · have e : ∀ M : List Tm, M.filter (fun t => decide ((t.tk : Int) = k) && decide (t.tk ≤ now')) = [] := fun M => by
      rw [List.filter_eq_nil_iff]
      intro t _ q
      simp only [Bool.and_eq_true, decide_eq_true_eq] at q
      omega
    rw [e, e]
  · obtain ⟨a, rfl⟩ := Int.eq_ofNat_of_zero_le hk
    by_cases ha : a ≤ now'
    · have e : ∀ M : List Tm, M.filter (fun t => decide ((t.tk : Int) = (a : Int)) && decide (t.tk ≤ now')) = M.filter (fun t => decide (t.tk = a)) := fun M => by
        refine List.filter_congr fun t _ => ?_
        rw [Bool.eq_iff_iff]
        simp only [Bool.and_eq_true, decide_eq_true_eq]
        omega
      rw [e, e]
      exact metL_at h h1 hL a ha
    · have e : ∀ M : List Tm, M.filter (fun t => decide ((t.tk : Int) = (a : Int)) && decide (t.tk ≤ now')) = [] := fun M => by
        rw [List.filter_eq_nil_iff]
        intro t _ q
        simp only [Bool.and_eq_true, decide_eq_true_eq] at q
        omega
      rw [e, e]
end
end Go.Proofs.YtnoglbceaibjeaaDoor
/- The map of the timers that are set: looked up, laid into, taken from, counted. -/
namespace Go.Proofs.YtnoglbceaibjeaaDoor
set_option linter.unusedVariables false
set_option linter.unusedSimpArgs false
set_option maxRecDepth 10000
open Go.ChangeShapes Go.WideShapes Go.ChangeAt Go.RowKit Go.MapKept Go.ChangeMaps

theorem ik_under : Tryd.prog.underlying 3 = some (.int .i64) := by kernel_rfl
theorem ik_key (k : Int) : IsKey (.int .i64) (.int .i64 k) := by simp [IsKey]
def ientry (x : Int × Nat) : Value × Value := (.int .i64 x.1, .pointer (some ⟨x.2, 0, none⟩))
/-- The block mb is a map of these numbers to these blocks, in the order in which they were laid. -/
def IMap (w : World) (mb : Nat) (L : List (Int × Nat)) : Prop := ∃ es ck, w.heap[mb]? = some (.map es ck) ∧ Stamped es ck ∧ es.toList.map (fun e => (e.key, e.val)) = L.map ientry

section
variable {w : World} {mb : Nat} {L : List (Int × Nat)} {es : List MapEntry}
theorem ientries_keys (h : es.map (fun e => (e.key, e.val)) = L.map ientry) : ∀ x ∈ es, IsKey (.int .i64) x.key := by
  intro x hx
  have : (x.key, x.val) ∈ L.map ientry := by rw [← h]; exact List.mem_map_of_mem (f := fun e : MapEntry => (e.key, e.val)) hx
  obtain ⟨y, hy, e⟩ := List.mem_map.1 this
  simp only [ientry, Prod.mk.injEq] at e
  rw [← e.1]
  exact ik_key _
theorem ientries_at (h : es.map (fun e => (e.key, e.val)) = L.map ientry) {j : Nat} {e : MapEntry} (hj : es[j]? = some e) : ∃ y, L[j]? = some y ∧ e.key = .int .i64 y.1 ∧ e.val = .pointer (some ⟨y.2, 0, none⟩) := by
  have h1 : (es.map (fun e => (e.key, e.val)))[j]? = some (e.key, e.val) := by rw [List.getElem?_map, hj]; rfl
  rw [h, List.getElem?_map] at h1
  cases hy : L[j]? with
  | none => rw [hy] at h1; cases h1
  | some y =>
    rw [hy] at h1
    simp only [ientry, Option.map_some, Option.some.injEq, Prod.mk.injEq] at h1
    exact ⟨y, rfl, h1.1.symm, h1.2.symm⟩
theorem ifind_none (h : es.map (fun e => (e.key, e.val)) = L.map ientry) {x : Int} (hx : ∀ y ∈ L, y.1 ≠ x) (w : World) : (Instr.findKey 3 (.int .i64 x) es).run Tryd.prog w = .ok none w := by
  rcases findNow_spec (ik_key x) es 0 (ientries_keys h) with ⟨h1, h2⟩ | ⟨j, e, h1, h2, h3⟩
  · exact run_findKey ik_under h1
  · obtain ⟨y, hy, hk, _⟩ := ientries_at h h2
    rw [hk] at h3
    injection h3 with _ h3
    exact absurd h3 (hx y (List.mem_of_getElem? hy))
theorem ifind_some (h : es.map (fun e => (e.key, e.val)) = L.map ientry) (hn : (L.map Prod.fst).Nodup) {x : Int} {b j : Nat} (hj : L[j]? = some (x, b)) (w : World) : (Instr.findKey 3 (.int .i64 x) es).run Tryd.prog w = .ok (some (j, .pointer (some ⟨b, 0, none⟩))) w := by
  rcases findNow_spec (ik_key x) es 0 (ientries_keys h) with ⟨h1, h2⟩ | ⟨i, e, h1, h2, h3⟩
  · have hl : es.length = L.length := by
      have := congrArg List.length h
      simpa using this
    have hjl : j < es.length := by rw [hl]; exact (List.getElem?_eq_some_iff.1 hj).1
    obtain ⟨y, hy, hk, _⟩ := ientries_at h (List.getElem?_eq_getElem hjl)
    rw [hj] at hy
    cases hy
    exact absurd hk (h2 _ (List.getElem_mem hjl))
  · obtain ⟨y, hy, hk, hv⟩ := ientries_at h h2
    rw [hk] at h3
    injection h3 with _ h3
    have hij : i = j := by
      have e1 : (L.map Prod.fst)[i]? = some x := by rw [List.getElem?_map, hy]; exact congrArg some h3
      have e2 : (L.map Prod.fst)[j]? = some x := by rw [List.getElem?_map, hj]; rfl
      have hi := (List.getElem?_eq_some_iff.1 e1).1
      exact (List.getElem?_inj hi hn).1 (e1.trans e2.symm)
    subst hij
    rw [hj] at hy
    cases hy
    rw [hv] at h1
    simpa using run_findKey ik_under h1
theorem IMap.look_some (h : IMap w mb L) (hn : (L.map Prod.fst).Nodup) {x : Int} {b j : Nat} (hj : L[j]? = some (x, b)) : (Instr.lookup 59 (.map (some mb)) (.int .i64 x) false).run Tryd.prog w = .ok (.pointer (some ⟨b, 0, none⟩)) w := by
  obtain ⟨es, ck, h1, h2, h3⟩ := h
  simp only [Instr.lookup, Sem.run_bind, run_underlying Tryd.underlying59, Result.andThen_ok, MapKept.run_getObj_map h1, Sem.run_pure, run_checkKey ik_under (ik_key x) _ 9999, ifind_some h3 hn hj]
  rfl
theorem IMap.look_none (h : IMap w mb L) {x : Int} (hx : ∀ y ∈ L, y.1 ≠ x) : (Instr.lookup 59 (.map (some mb)) (.int .i64 x) false).run Tryd.prog w = .ok (.pointer none) w := by
  obtain ⟨es, ck, h1, h2, h3⟩ := h
  have hz : (zeroValue 60).run Tryd.prog w = .ok (.pointer none) w := by kernel_rfl
  simp only [Instr.lookup, Sem.run_bind, run_underlying Tryd.underlying59, Result.andThen_ok, MapKept.run_getObj_map h1, Sem.run_pure, run_checkKey ik_under (ik_key x) _ 9999, ifind_none h3 hx, hz]
  rfl
theorem IMap.look2_some (h : IMap w mb L) (hn : (L.map Prod.fst).Nodup) {x : Int} {b j : Nat} (hj : L[j]? = some (x, b)) : (Instr.lookup 59 (.map (some mb)) (.int .i64 x) true).run Tryd.prog w = .ok (.tuple #[.pointer (some ⟨b, 0, none⟩), .bool true]) w := by
  obtain ⟨es, ck, h1, h2, h3⟩ := h
  simp only [Instr.lookup, Sem.run_bind, run_underlying Tryd.underlying59, Result.andThen_ok, MapKept.run_getObj_map h1, Sem.run_pure, run_checkKey ik_under (ik_key x) _ 9999, ifind_some h3 hn hj]
  rfl
theorem IMap.look2_none (h : IMap w mb L) {x : Int} (hx : ∀ y ∈ L, y.1 ≠ x) : (Instr.lookup 59 (.map (some mb)) (.int .i64 x) true).run Tryd.prog w = .ok (.tuple #[.pointer none, .bool false]) w := by
  obtain ⟨es, ck, h1, h2, h3⟩ := h
  have hz : (zeroValue 60).run Tryd.prog w = .ok (.pointer none) w := by kernel_rfl
  simp only [Instr.lookup, Sem.run_bind, run_underlying Tryd.underlying59, Result.andThen_ok, MapKept.run_getObj_map h1, Sem.run_pure, run_checkKey ik_under (ik_key x) _ 9999, ifind_none h3 hx, hz]
  rfl
theorem IMap.upd (h : IMap w mb L) {x : Int} (hx : ∀ y ∈ L, y.1 ≠ x) (b : Nat) : ∃ w', (Instr.mapUpdate 59 (.map (some mb)) (.int .i64 x) (.pointer (some ⟨b, 0, none⟩))).run Tryd.prog w = .ok () w' ∧ IMap w' mb (L ++ [(x, b)]) ∧ w.grownBy w' (some mb) := by
  obtain ⟨es, ck, h1, h2, h3⟩ := h
  have hf := ifind_none h3 hx
  have hk : ∀ e ∈ es.toList, e.key ≠ .int .i64 x := by
    intro e he hex
    have : (e.key, e.val) ∈ L.map ientry := by rw [← h3]; exact List.mem_map_of_mem (f := fun e : MapEntry => (e.key, e.val)) he
    obtain ⟨y, hy, e2⟩ := List.mem_map.1 this
    simp only [ientry, Prod.mk.injEq] at e2
    have e3 := e2.1.trans hex
    injection e3 with _ e3
    exact hx y hy e3
  refine ⟨setBlock w mb (.map (es.push ⟨.int .i64 x, .pointer (some ⟨b, 0, none⟩), ck⟩) (ck + 1)), ?_, ⟨_, _, heap_setBlock_same h1 _, stamped_push h2 hk, ?_⟩, ⟨rfl, rfl, rfl, by simp [setBlock], fun i _ hi => heap_setBlock_other h1 _ (fun e => hi (by rw [e]))⟩⟩
  · simp [Instr.mapUpdate, run_underlying Tryd.underlying59, MapKept.run_getObj_map h1, run_checkKey ik_under (ik_key x) _ 9999, hf, MapKept.run_setObj_map _ h1, Result.andThen, setBlock]
  · rw [Array.toList_push, List.map_append, List.map_append, h3]
    rfl
theorem IMap.del (h : IMap w mb L) (hn : (L.map Prod.fst).Nodup) {x : Int} {b j : Nat} (hj : L[j]? = some (x, b)) (ty : TypeId) : ∃ w', (Builtin.delete_ #[59, 3] ty #[.map (some mb), .int .i64 x]).run Tryd.prog w = .ok (.tuple #[]) w' ∧ IMap w' mb (L.eraseIdx j) ∧ w.grownBy w' (some mb) := by
  obtain ⟨es, ck, h1, h2, h3⟩ := h
  have hf := ifind_some h3 hn hj
  have hjl : j < L.length := (List.getElem?_eq_some_iff.1 hj).1
  have hl : es.toList.length = L.length := by
    have := congrArg List.length h3
    simpa using this
  have hjs : j < es.size := by rw [← Array.length_toList, hl]; exact hjl
  refine ⟨setBlock w mb (.map (es.eraseIdxIfInBounds j) ck), ?_, ⟨_, _, heap_setBlock_same h1 _, stamped_erase h2 j, ?_⟩, ⟨rfl, rfl, rfl, by simp [setBlock], fun i _ hi => heap_setBlock_other h1 _ (fun e => hi (by rw [e]))⟩⟩
  · simp [Builtin.delete_, run_underlying Tryd.underlying59, MapKept.run_getObj_map h1, run_checkKey ik_under (ik_key x) _ 9999, hf, MapKept.run_setObj_map _ h1, Result.andThen, setBlock]
  · unfold Array.eraseIdxIfInBounds
    rw [dif_pos hjs, Array.toList_eraseIdx, map_eraseIdx, h3, ← map_eraseIdx]
theorem IMap.len (h : IMap w mb L) (ty : TypeId) : (Builtin.len_ #[59] ty #[.map (some mb)]).run Tryd.prog w = .ok (.int .i64 (L.length : Nat)) w := by
  obtain ⟨es, ck, h1, h2, h3⟩ := h
  have hl : es.size = L.length := by
    have := congrArg List.length h3
    simpa using this
  simp [Builtin.len_, run_underlying Tryd.underlying59, MapKept.run_getObj_map h1, hl, goInt]
theorem IMap.keep (h : IMap w mb L) {w' : World} (e : w'.heap[mb]? = w.heap[mb]?) : IMap w' mb L := by
  obtain ⟨es, ck, h1, h2, h3⟩ := h
  exact ⟨es, ck, e.trans h1, h2, h3⟩
end
end Go.Proofs.YtnoglbceaibjeaaDoor
/- Contracts: differ, digit, place. -/
namespace Go.Proofs.YtnoglbceaibjeaaDoor
set_option linter.unusedVariables false
set_option linter.unusedSimpArgs false
open Go.ChangeShapes Go.WideShapes Go.ChangeAt Go.RowKit

theorem xor_i64 (a b : Nat) (ha : a < 2 ^ 41) (hb : b < 2 ^ 41) : bits .xor .i64 (a : Int) (b : Int) = ((a ^^^ b : Nat) : Int) := by
  have h : a ^^^ b < 2 ^ 41 := Nat.xor_lt_two_pow ha hb
  show IntKind.i64.wrap (BitVec.toNat (BitVec.ofInt 64 (a : Int) ^^^ BitVec.ofInt 64 (b : Int))) = _
  rw [BitVec.toNat_xor, BitVec.toNat_ofInt, BitVec.toNat_ofInt]
  have e1 : ((a : Int) % ((2 ^ 64 : Nat) : Int)).toNat = a := by omega
  have e2 : ((b : Int) % ((2 ^ 64 : Nat) : Int)).toNat = b := by omega
  rw [e1, e2, IntKind.wrap_i64]
  omega
theorem or_u64 (a : Nat) (ha : a < 2 ^ 41) : bits .or .u64 (a : Int) 1 = ((a ||| 1 : Nat) : Int) := by
  have h : a ||| 1 < 2 ^ 41 := Nat.or_lt_two_pow ha (by decide)
  show IntKind.u64.wrap (BitVec.toNat (BitVec.ofInt 64 (a : Int) ||| BitVec.ofInt 64 (1 : Int))) = _
  rw [BitVec.toNat_or, BitVec.toNat_ofInt, BitVec.toNat_ofInt]
  have e1 : ((a : Int) % ((2 ^ 64 : Nat) : Int)).toNat = a := by omega
  have e2 : ((1 : Int) % ((2 ^ 64 : Nat) : Int)).toNat = 1 := by decide
  rw [e1, e2, IntKind.wrap_u64]
  omega

set_option maxHeartbeats 400000 in
theorem differ_any (a b : Nat) (ha : a ≤ maxT) (hb : b ≤ maxT) (w : World) :
    Calls Tryd.prog 36 #[.int .i64 (a : Int), .int .i64 (b : Int)] w fun e w' => e = .returned (.int .i64 (difS a b : Int)) ∧ w' = w := by
  have ha' := maxT_lt ha
  have hb' := maxT_lt hb
  have e0 := xor_i64 a b ha' hb'
  have h : a ^^^ b < 2 ^ 41 := Nat.xor_lt_two_pow ha' hb'
  have e1 := or_u64 (a ^^^ b) h
  have h2 : (a ^^^ b) ||| 1 < 2 ^ 41 := Nat.or_lt_two_pow h (by decide)
  obtain ⟨_, hd, hl1, hl2⟩ := difS_spec ha' hb'
  unfold difS at hd ⊢
  generalize a ^^^ b = x at *
  generalize x ||| 1 = y at *
  have q1 : IntKind.u64.wrap (x : Int) = (x : Int) := by rw [IntKind.wrap_u64]; omega
  have c0 : Calls Tryd.prog 41 #[.int .u64 (y : Int)] w fun e w' => e = .returned (.int .i64 (Lib.bitLen y)) ∧ w' = w := by
    have := Tryd.bits_Len64 (y : Int) w (by omega) (by omega)
    rwa [Int.toNat_natCast] at this
  generalize Lib.bitLen y = l at *
  clear ha hb ha' hb' h h2 hd
  have q2 : IntKind.i64.wrap ((l : Int) - 1) = (l : Int) - 1 := by rw [IntKind.wrap_i64]; omega
  have q3 : Int.tdiv ((l : Int) - 1) 6 = (((l - 1) / 6 : Nat) : Int) := by rw [Int.tdiv_eq_ediv_of_nonneg (by omega)]; omega
  have q4 : IntKind.i64.wrap (((l - 1) / 6 : Nat) : Int) = (((l - 1) / 6 : Nat) : Int) := by rw [IntKind.wrap_i64]; omega
  go_enter Tryd.func36, Tryd.ntmps36
  go_wp2_with fail
  refine c0.mono ?_
  rintro e w' ⟨rfl, rfl⟩
  go_wp2_with fail
  go_ret
  exact ⟨rfl, rfl⟩

set_option maxHeartbeats 400000 in
theorem digit_any (a d : Nat) (ha : a ≤ maxT) (hd : d < 7) (w : World) :
    Calls Tryd.prog 37 #[.int .i64 (a : Int), .int .i64 (d : Int)] w fun e w' => e = .returned (.int .i64 (dig a d : Int)) ∧ w' = w := by
  have ha' := maxT_lt ha
  have q1 : IntKind.i64.wrap ((d : Int) * 6) = ((d * 6 : Nat) : Int) := by rw [IntKind.wrap_i64]; omega
  have q2 : ((a : Int) / 2 ^ (d * 6)).tmod 64 = (dig a d : Int) := by
    have e0 : ((2 : Int) ^ (d * 6)) = ((2 ^ (d * 6) : Nat) : Int) := by simp
    rw [e0, ← Int.natCast_ediv, Int.tmod_eq_emod_of_nonneg (Int.natCast_nonneg _)]
    unfold dig top
    rw [pow64, Nat.mul_comm 6 d]
    omega
  go_enter Tryd.func37, Tryd.ntmps37
  go_wp2_with fail
  go_ret
  exact ⟨rfl, rfl⟩

set_option maxHeartbeats 400000 in
theorem place_any (b : Nat) (a t : Nat) (ha : a ≤ maxT) (ht : t ≤ maxT) (w : World) (hc : w.cell? ⟨b, 0, none⟩ = some (.int .i64 (a : Int))) :
    Calls Tryd.prog 33 #[.pointer (some ⟨b, 0, none⟩), .int .i64 (t : Int)] w fun e w' => e = .returned (.tuple #[.int .i64 ((plc a t).1 : Int), .int .i64 ((plc a t).2 : Int)]) ∧ w' = w := by
  have hd := (difS_spec (maxT_lt ha) (maxT_lt ht)).2.1
  have c0 := differ_any a t ha ht w
  have c1 := digit_any t (difS a t) ht (by omega) w
  show Calls Tryd.prog 33 #[.pointer (some ⟨b, 0, none⟩), .int .i64 (t : Int)] w fun e w' => e = .returned (.tuple #[.int .i64 (difS a t : Int), .int .i64 (dig t (difS a t) : Int)]) ∧ w' = w
  generalize dig t (difS a t) = y at *
  generalize difS a t = x at *
  clear ha ht hd
  go_enter Tryd.func33, Tryd.ntmps33
  go_wp2_with fail
  refine c0.mono ?_
  rintro e w' ⟨rfl, rfl⟩
  go_wp2_with fail
  refine c1.mono ?_
  rintro e w' ⟨rfl, rfl⟩
  go_wp2_with fail
  go_ret2
  exact ⟨rfl, rfl⟩
end Go.Proofs.YtnoglbceaibjeaaDoor
/- Contracts: a slot's add, remove. -/
namespace Go.Proofs.YtnoglbceaibjeaaDoor
set_option linter.unusedVariables false
set_option linter.unusedSimpArgs false
open Go.ChangeShapes Go.WideShapes Go.ChangeAt Go.RowKit

def pt (b : Nat) : Value := .pointer (some ⟨b, 0, none⟩)

set_option maxHeartbeats 1000000 in
theorem add_nil (w : World) (wb k tb : Nat) (cs ts : Array Value) (T U : TypeId) (f x y : Value) (hB : w.heap[wb]? = some (.cells cs T (0, 0))) (h0 : cs[k]? = some f) (h1 : cs[k + 1]? = some (.pointer none))
    (hT : w.heap[tb]? = some (.cells ts U (0, 0))) (h2 : ts[2]? = some x) (h3 : ts[3]? = some y) (hne : tb ≠ wb) :
    Calls Tryd.prog 34 #[.pointer (some ⟨wb, k, none⟩), .pointer (some ⟨tb, 0, none⟩)] w fun e w' => e = .returned (.tuple #[]) ∧ w' = (((w.setCell ⟨tb, 2, none⟩ (.pointer none)).setCell ⟨tb, 3, none⟩ (.pointer none)).setCell ⟨wb, k, none⟩ (.pointer (some ⟨tb, 0, none⟩))).setCell ⟨wb, k + 1, none⟩ (.pointer (some ⟨tb, 0, none⟩)) := by
  have a0 : w.cell? ⟨wb, k + 1, none⟩ = some (.pointer none) := (cell_of_row w wb (k + 1) cs T _ hB).trans h1
  have a1 : w.cell? ⟨tb, 2, none⟩ = some x := (cell_of_row w tb 2 ts U _ hT).trans h2
  have a2 : w.frozen? ⟨tb, 2, none⟩ = false := frozen_of hT
  have hT1 := heap_setCell_own (k := 2) hT (.pointer none)
  have hB1 : (w.setCell ⟨tb, 2, none⟩ (.pointer none)).heap[wb]? = some (.cells cs T (0, 0)) := by
    rw [Below.heap_setCell _ _ _ _ (fun e => hne e.symm)]; exact hB
  have b1 : (w.setCell ⟨tb, 2, none⟩ (.pointer none)).cell? ⟨tb, 3, none⟩ = some y := by
    exact (cell_of_row _ tb 3 _ U _ hT1).trans (by simpa using h3)
  have b2 : (w.setCell ⟨tb, 2, none⟩ (.pointer none)).frozen? ⟨tb, 3, none⟩ = false := frozen_of hT1
  have hB2 : ((w.setCell ⟨tb, 2, none⟩ (.pointer none)).setCell ⟨tb, 3, none⟩ (.pointer none)).heap[wb]? = some (.cells cs T (0, 0)) := by
    rw [Below.heap_setCell _ _ _ _ (fun e => hne e.symm)]; exact hB1
  obtain ⟨W2, hW2⟩ : ∃ W2, W2 = (w.setCell ⟨tb, 2, none⟩ (.pointer none)).setCell ⟨tb, 3, none⟩ (.pointer none) := ⟨_, rfl⟩
  rw [← hW2] at hB2 ⊢
  have c0 : W2.cell? ⟨wb, k + 1, none⟩ = some (.pointer none) := (cell_of_row W2 wb (k + 1) cs T _ hB2).trans h1
  have c1 : W2.cell? ⟨wb, k, none⟩ = some f := (cell_of_row W2 wb k cs T _ hB2).trans h0
  have c2 : W2.frozen? ⟨wb, k, none⟩ = false := frozen_of hB2
  have hB3 := heap_setCell_own (k := k) hB2 (.pointer (some ⟨tb, 0, none⟩))
  have d1 : (W2.setCell ⟨wb, k, none⟩ (.pointer (some ⟨tb, 0, none⟩))).cell? ⟨wb, k + 1, none⟩ = some (.pointer none) := by
    exact (cell_of_row _ wb (k + 1) _ T _ hB3).trans (by simpa using h1)
  have d2 : (W2.setCell ⟨wb, k, none⟩ (.pointer (some ⟨tb, 0, none⟩))).frozen? ⟨wb, k + 1, none⟩ = false := frozen_of hB3
  have HW := Lib.hid hW2
  subst hW2
  clear hB hT h0 h1 h2 h3 hB1 hT1 hB2 hB3 HW
  go_enter Tryd.func34, Tryd.ntmps34
  go_wp2_with fail
  refine bodyPost_end (results_none rfl _ _ _) rfl ?_
  exact ⟨rfl, rfl⟩
set_option maxHeartbeats 1000000 in
theorem add_cons (w : World) (wb k tb lb : Nat) (cs ts ls : Array Value) (T U : TypeId) (x y z : Value) (hB : w.heap[wb]? = some (.cells cs T (0, 0))) (h1 : cs[k + 1]? = some (.pointer (some ⟨lb, 0, none⟩)))
    (hT : w.heap[tb]? = some (.cells ts U (0, 0))) (h2 : ts[2]? = some x) (h3 : ts[3]? = some y) (hne : tb ≠ wb)
    (hL : w.heap[lb]? = some (.cells ls U (0, 0))) (h4 : ls[3]? = some z) (hlw : lb ≠ wb) (hlt : lb ≠ tb) :
    Calls Tryd.prog 34 #[.pointer (some ⟨wb, k, none⟩), .pointer (some ⟨tb, 0, none⟩)] w fun e w' => e = .returned (.tuple #[]) ∧ w' = (((w.setCell ⟨tb, 2, none⟩ (.pointer (some ⟨lb, 0, none⟩))).setCell ⟨tb, 3, none⟩ (.pointer none)).setCell ⟨lb, 3, none⟩ (.pointer (some ⟨tb, 0, none⟩))).setCell ⟨wb, k + 1, none⟩ (.pointer (some ⟨tb, 0, none⟩)) := by
  have a0 : w.cell? ⟨wb, k + 1, none⟩ = some (.pointer (some ⟨lb, 0, none⟩)) := (cell_of_row w wb (k + 1) cs T _ hB).trans h1
  have a1 : w.cell? ⟨tb, 2, none⟩ = some x := (cell_of_row w tb 2 ts U _ hT).trans h2
  have a2 : w.frozen? ⟨tb, 2, none⟩ = false := frozen_of hT
  have hT1 := heap_setCell_own (k := 2) hT (.pointer (some ⟨lb, 0, none⟩))
  have hB1 : (w.setCell ⟨tb, 2, none⟩ (.pointer (some ⟨lb, 0, none⟩))).heap[wb]? = some (.cells cs T (0, 0)) := by
    rw [Below.heap_setCell _ _ _ _ (fun e => hne e.symm)]; exact hB
  have hL1 : (w.setCell ⟨tb, 2, none⟩ (.pointer (some ⟨lb, 0, none⟩))).heap[lb]? = some (.cells ls U (0, 0)) := by
    rw [Below.heap_setCell _ _ _ _ hlt]; exact hL
  have b1 : (w.setCell ⟨tb, 2, none⟩ (.pointer (some ⟨lb, 0, none⟩))).cell? ⟨tb, 3, none⟩ = some y := by
    exact (cell_of_row _ tb 3 _ U _ hT1).trans (by simpa using h3)
  have b2 : (w.setCell ⟨tb, 2, none⟩ (.pointer (some ⟨lb, 0, none⟩))).frozen? ⟨tb, 3, none⟩ = false := frozen_of hT1
  have hB2 : ((w.setCell ⟨tb, 2, none⟩ (.pointer (some ⟨lb, 0, none⟩))).setCell ⟨tb, 3, none⟩ (.pointer none)).heap[wb]? = some (.cells cs T (0, 0)) := by
    rw [Below.heap_setCell _ _ _ _ (fun e => hne e.symm)]; exact hB1
  have hL2 : ((w.setCell ⟨tb, 2, none⟩ (.pointer (some ⟨lb, 0, none⟩))).setCell ⟨tb, 3, none⟩ (.pointer none)).heap[lb]? = some (.cells ls U (0, 0)) := by
    rw [Below.heap_setCell _ _ _ _ hlt]; exact hL1
  obtain ⟨W2, hW2⟩ : ∃ W2, W2 = (w.setCell ⟨tb, 2, none⟩ (.pointer (some ⟨lb, 0, none⟩))).setCell ⟨tb, 3, none⟩ (.pointer none) := ⟨_, rfl⟩
  rw [← hW2] at hB2 hL2 ⊢
  have c0 : W2.cell? ⟨wb, k + 1, none⟩ = some (.pointer (some ⟨lb, 0, none⟩)) := (cell_of_row W2 wb (k + 1) cs T _ hB2).trans h1
  have c1 : W2.cell? ⟨lb, 3, none⟩ = some z := (cell_of_row W2 lb 3 ls U _ hL2).trans h4
  have c2 : W2.frozen? ⟨lb, 3, none⟩ = false := frozen_of hL2
  have hB3 : (W2.setCell ⟨lb, 3, none⟩ (.pointer (some ⟨tb, 0, none⟩))).heap[wb]? = some (.cells cs T (0, 0)) := by
    rw [Below.heap_setCell _ _ _ _ (fun e => hlw e.symm)]; exact hB2
  have d1 : (W2.setCell ⟨lb, 3, none⟩ (.pointer (some ⟨tb, 0, none⟩))).cell? ⟨wb, k + 1, none⟩ = some (.pointer (some ⟨lb, 0, none⟩)) := by
    exact (cell_of_row _ wb (k + 1) _ T _ hB3).trans h1
  have d2 : (W2.setCell ⟨lb, 3, none⟩ (.pointer (some ⟨tb, 0, none⟩))).frozen? ⟨wb, k + 1, none⟩ = false := frozen_of hB3
  subst hW2
  clear hB hT hL h1 h2 h3 h4 hB1 hT1 hL1 hB2 hL2 hB3
  go_enter Tryd.func34, Tryd.ntmps34
  go_wp2_with fail
  refine bodyPost_end (results_none rfl _ _ _) rfl ?_
  exact ⟨rfl, rfl⟩
end Go.Proofs.YtnoglbceaibjeaaDoor
/- Contract: a slot's remove, in its four ways: with or without a neighbour ahead, behind. -/
namespace Go.Proofs.YtnoglbceaibjeaaDoor
set_option linter.unusedVariables false
set_option linter.unusedSimpArgs false
open Go.ChangeShapes Go.WideShapes Go.ChangeAt Go.RowKit

set_option maxHeartbeats 1000000 in
theorem rem_00 (w : World) (wb k tb : Nat) (cs ts : Array Value) (T U : TypeId) (f g : Value) (hB : w.heap[wb]? = some (.cells cs T (0, 0))) (hT : w.heap[tb]? = some (.cells ts U (0, 0))) (h2 : ts[2]? = some (.pointer none)) (h3 : ts[3]? = some (.pointer none)) (hne : tb ≠ wb) (h0 : cs[k]? = some f) (h1 : cs[k + 1]? = some g) :
    Calls Tryd.prog 35 #[.pointer (some ⟨wb, k, none⟩), .pointer (some ⟨tb, 0, none⟩)] w fun e w' => e = .returned (.tuple #[]) ∧ w' = (w.setCell ⟨wb, k, none⟩ (.pointer none)).setCell ⟨wb, k + 1, none⟩ (.pointer none) := by
  have a0 : w.cell? ⟨tb, 2, none⟩ = some (.pointer none) := (cell_of_row w tb 2 ts U _ hT).trans h2
  have a1 : w.cell? ⟨tb, 3, none⟩ = some (.pointer none) := (cell_of_row w tb 3 ts U _ hT).trans h3
  have r2 : w.cell? ⟨wb, k, none⟩ = some f := (cell_of_row w wb k cs T _ hB).trans h0
  have r3 : w.frozen? ⟨wb, k, none⟩ = false := frozen_of hB
  have hT1 : (w.setCell ⟨wb, k, none⟩ (.pointer none)).heap[tb]? = some (.cells ts U (0, 0)) := by rw [Below.heap_setCell _ _ _ _ hne]; exact hT
  have hB1 := heap_setCell_own (k := k) hB (.pointer none)
  obtain ⟨W1, hW1⟩ : ∃ W1, W1 = w.setCell ⟨wb, k, none⟩ (.pointer none) := ⟨_, rfl⟩
  rw [← hW1]
  rw [← hW1] at hT1 hB1
  have s0 : W1.cell? ⟨tb, 2, none⟩ = some (.pointer none) := (cell_of_row W1 tb 2 ts U _ hT1).trans h2
  have s1 : W1.cell? ⟨tb, 3, none⟩ = some (.pointer none) := (cell_of_row W1 tb 3 ts U _ hT1).trans h3
  have s2 : W1.cell? ⟨wb, k + 1, none⟩ = some g := (cell_of_row W1 wb (k + 1) _ T _ hB1).trans (by simpa using h1)
  have s3 : W1.frozen? ⟨wb, k + 1, none⟩ = false := frozen_of hB1
  subst hW1
  clear hB hT h2 h3 hne hT1 hB1 h0 h1
  go_enter Tryd.func35, Tryd.ntmps35
  go_wp2_with fail
  refine bodyPost_end (results_none rfl _ _ _) rfl ?_
  exact ⟨rfl, rfl⟩

set_option maxHeartbeats 1000000 in
theorem rem_01 (w : World) (wb k tb bb : Nat) (cs ts bs : Array Value) (T U : TypeId) (f y : Value) (hB : w.heap[wb]? = some (.cells cs T (0, 0))) (hT : w.heap[tb]? = some (.cells ts U (0, 0))) (h2 : ts[2]? = some (.pointer none)) (h3 : ts[3]? = some (.pointer (some ⟨bb, 0, none⟩))) (hne : tb ≠ wb) (h0 : cs[k]? = some f) (hC : w.heap[bb]? = some (.cells bs U (0, 0))) (h5 : bs[2]? = some y) (hbt : bb ≠ tb) (hbw : bb ≠ wb) :
    Calls Tryd.prog 35 #[.pointer (some ⟨wb, k, none⟩), .pointer (some ⟨tb, 0, none⟩)] w fun e w' => e = .returned (.tuple #[]) ∧ w' = (w.setCell ⟨wb, k, none⟩ (.pointer (some ⟨bb, 0, none⟩))).drew.setCell ⟨bb, 2, none⟩ (.pointer none) := by
  have a0 : w.cell? ⟨tb, 2, none⟩ = some (.pointer none) := (cell_of_row w tb 2 ts U _ hT).trans h2
  have a1 : w.cell? ⟨tb, 3, none⟩ = some (.pointer (some ⟨bb, 0, none⟩)) := (cell_of_row w tb 3 ts U _ hT).trans h3
  have r2 : w.cell? ⟨wb, k, none⟩ = some f := (cell_of_row w wb k cs T _ hB).trans h0
  have r3 : w.frozen? ⟨wb, k, none⟩ = false := frozen_of hB
  have hT1 : (w.setCell ⟨wb, k, none⟩ (.pointer (some ⟨bb, 0, none⟩))).heap[tb]? = some (.cells ts U (0, 0)) := by rw [Below.heap_setCell _ _ _ _ hne]; exact hT
  have hB1 := heap_setCell_own (k := k) hB (.pointer (some ⟨bb, 0, none⟩))
  have hC1 : (w.setCell ⟨wb, k, none⟩ (.pointer (some ⟨bb, 0, none⟩))).heap[bb]? = some (.cells bs U (0, 0)) := by rw [Below.heap_setCell _ _ _ _ hbw]; exact hC
  obtain ⟨W1, hW1⟩ : ∃ W1, W1 = w.setCell ⟨wb, k, none⟩ (.pointer (some ⟨bb, 0, none⟩)) := ⟨_, rfl⟩
  rw [← hW1]
  rw [← hW1] at hT1 hB1 hC1
  have s0 : W1.cell? ⟨tb, 2, none⟩ = some (.pointer none) := (cell_of_row W1 tb 2 ts U _ hT1).trans h2
  have s1 : W1.cell? ⟨tb, 3, none⟩ = some (.pointer (some ⟨bb, 0, none⟩)) := (cell_of_row W1 tb 3 ts U _ hT1).trans h3
  obtain ⟨wE, hwE⟩ : ∃ wE, wE = W1.drew := ⟨_, rfl⟩
  have hC2 : wE.heap[bb]? = some (.cells bs U (0, 0)) := by rw [hwE]; exact hC1
  have hT2 : wE.heap[tb]? = some (.cells ts U (0, 0)) := by rw [hwE]; exact hT1
  have q0 : wE.cell? ⟨tb, 2, none⟩ = some (.pointer none) := (cell_of_row wE tb 2 ts U _ hT2).trans h2
  have q1 : wE.cell? ⟨tb, 3, none⟩ = some (.pointer (some ⟨bb, 0, none⟩)) := (cell_of_row wE tb 3 ts U _ hT2).trans h3
  have q2 : wE.cell? ⟨bb, 2, none⟩ = some y := (cell_of_row wE bb 2 bs U _ hC2).trans h5
  have q3 : wE.frozen? ⟨bb, 2, none⟩ = false := frozen_of hC2
  rw [← hwE]
  subst hW1
  have HE := Lib.hid hwE
  clear hB hT h2 h3 hne hT1 hB1 h0 hC h5 hC1 hC2 hT2 hbt hbw hwE
  go_enter Tryd.func35, Tryd.ntmps35
  go_upto_region 5 with fail
  refine wp_region_still_tail 10 (by kernel_rfl) (by kernel_rfl) ?_
  simp only [List.take_succ_cons, List.take_zero, List.drop_succ_cons, List.drop_zero]
  change wpStill _ _ (World.drew (w.setCell ⟨wb, k, none⟩ (.pointer (some ⟨bb, 0, none⟩)))) (fun a' => wpList _ _ _ _ a' (World.drew (w.setCell ⟨wb, k, none⟩ (.pointer (some ⟨bb, 0, none⟩))))) _ _
  rw [← HE.out]
  repeat still_step
  refine wpStill_nil ?_
  go_wp2_with fail
  refine bodyPost_end (results_none rfl _ _ _) rfl ?_
  exact ⟨rfl, rfl⟩

set_option maxHeartbeats 1000000 in
theorem rem_10 (w : World) (wb k tb ab : Nat) (cs ts us : Array Value) (T U : TypeId) (x g : Value) (hB : w.heap[wb]? = some (.cells cs T (0, 0))) (hT : w.heap[tb]? = some (.cells ts U (0, 0))) (h2 : ts[2]? = some (.pointer (some ⟨ab, 0, none⟩))) (h3 : ts[3]? = some (.pointer none)) (hne : tb ≠ wb) (hA : w.heap[ab]? = some (.cells us U (0, 0))) (h4 : us[3]? = some x) (hat : ab ≠ tb) (haw : ab ≠ wb) (h1 : cs[k + 1]? = some g) :
    Calls Tryd.prog 35 #[.pointer (some ⟨wb, k, none⟩), .pointer (some ⟨tb, 0, none⟩)] w fun e w' => e = .returned (.tuple #[]) ∧ w' = (w.drew.setCell ⟨ab, 3, none⟩ (.pointer none)).setCell ⟨wb, k + 1, none⟩ (.pointer (some ⟨ab, 0, none⟩)) := by
  have a0 : w.cell? ⟨tb, 2, none⟩ = some (.pointer (some ⟨ab, 0, none⟩)) := (cell_of_row w tb 2 ts U _ hT).trans h2
  have a1 : w.cell? ⟨tb, 3, none⟩ = some (.pointer none) := (cell_of_row w tb 3 ts U _ hT).trans h3
  obtain ⟨wD, hwD⟩ : ∃ wD, wD = w.drew := ⟨_, rfl⟩
  have hA0 : wD.heap[ab]? = some (.cells us U (0, 0)) := by rw [hwD]; exact hA
  have hT0 : wD.heap[tb]? = some (.cells ts U (0, 0)) := by rw [hwD]; exact hT
  have hB0 : wD.heap[wb]? = some (.cells cs T (0, 0)) := by rw [hwD]; exact hB
  have r0 : wD.cell? ⟨tb, 2, none⟩ = some (.pointer (some ⟨ab, 0, none⟩)) := (cell_of_row wD tb 2 ts U _ hT0).trans h2
  have r1 : wD.cell? ⟨tb, 3, none⟩ = some (.pointer none) := (cell_of_row wD tb 3 ts U _ hT0).trans h3
  have r2 : wD.cell? ⟨ab, 3, none⟩ = some x := (cell_of_row wD ab 3 us U _ hA0).trans h4
  have r3 : wD.frozen? ⟨ab, 3, none⟩ = false := frozen_of hA0
  have hT1 : (wD.setCell ⟨ab, 3, none⟩ (.pointer none)).heap[tb]? = some (.cells ts U (0, 0)) := by rw [Below.heap_setCell _ _ _ _ (fun e => hat e.symm)]; exact hT0
  have hB1 : (wD.setCell ⟨ab, 3, none⟩ (.pointer none)).heap[wb]? = some (.cells cs T (0, 0)) := by rw [Below.heap_setCell _ _ _ _ (fun e => haw e.symm)]; exact hB0
  obtain ⟨W1, hW1⟩ : ∃ W1, W1 = wD.setCell ⟨ab, 3, none⟩ (.pointer none) := ⟨_, rfl⟩
  rw [← hwD, ← hW1]
  rw [← hW1] at hT1 hB1
  have s0 : W1.cell? ⟨tb, 2, none⟩ = some (.pointer (some ⟨ab, 0, none⟩)) := (cell_of_row W1 tb 2 ts U _ hT1).trans h2
  have s1 : W1.cell? ⟨tb, 3, none⟩ = some (.pointer none) := (cell_of_row W1 tb 3 ts U _ hT1).trans h3
  have s2 : W1.cell? ⟨wb, k + 1, none⟩ = some g := (cell_of_row W1 wb (k + 1) cs T _ hB1).trans h1
  have s3 : W1.frozen? ⟨wb, k + 1, none⟩ = false := frozen_of hB1
  have HD := Lib.hid hwD
  subst hW1
  clear hB hT h2 h3 hne hT1 hB1 hA h4 hA0 hT0 hB0 hat haw hwD h1
  go_enter Tryd.func35, Tryd.ntmps35
  go_upto_region 2 with fail
  refine wp_region_still_tail 10 (by kernel_rfl) (by kernel_rfl) ?_
  simp only [List.take_succ_cons, List.take_zero, List.drop_succ_cons, List.drop_zero]
  change wpStill _ _ w.drew (fun a' => wpList _ _ _ _ a' w.drew) _ _
  rw [← HD.out]
  repeat still_step
  refine wpStill_nil ?_
  go_wp2_with fail
  refine bodyPost_end (results_none rfl _ _ _) rfl ?_
  exact ⟨rfl, rfl⟩

set_option maxHeartbeats 1000000 in
theorem rem_11 (w : World) (wb k tb ab bb : Nat) (cs ts us bs : Array Value) (T U : TypeId) (x y : Value) (hB : w.heap[wb]? = some (.cells cs T (0, 0))) (hT : w.heap[tb]? = some (.cells ts U (0, 0))) (h2 : ts[2]? = some (.pointer (some ⟨ab, 0, none⟩))) (h3 : ts[3]? = some (.pointer (some ⟨bb, 0, none⟩))) (hne : tb ≠ wb) (hA : w.heap[ab]? = some (.cells us U (0, 0))) (h4 : us[3]? = some x) (hat : ab ≠ tb) (haw : ab ≠ wb) (hC : w.heap[bb]? = some (.cells bs U (0, 0))) (h5 : bs[2]? = some y) (hbt : bb ≠ tb) (hbw : bb ≠ wb) (hab : ab ≠ bb) :
    Calls Tryd.prog 35 #[.pointer (some ⟨wb, k, none⟩), .pointer (some ⟨tb, 0, none⟩)] w fun e w' => e = .returned (.tuple #[]) ∧ w' = (w.drew.setCell ⟨ab, 3, none⟩ (.pointer (some ⟨bb, 0, none⟩))).drew.setCell ⟨bb, 2, none⟩ (.pointer (some ⟨ab, 0, none⟩)) := by
  have a0 : w.cell? ⟨tb, 2, none⟩ = some (.pointer (some ⟨ab, 0, none⟩)) := (cell_of_row w tb 2 ts U _ hT).trans h2
  have a1 : w.cell? ⟨tb, 3, none⟩ = some (.pointer (some ⟨bb, 0, none⟩)) := (cell_of_row w tb 3 ts U _ hT).trans h3
  obtain ⟨wD, hwD⟩ : ∃ wD, wD = w.drew := ⟨_, rfl⟩
  have hA0 : wD.heap[ab]? = some (.cells us U (0, 0)) := by rw [hwD]; exact hA
  have hT0 : wD.heap[tb]? = some (.cells ts U (0, 0)) := by rw [hwD]; exact hT
  have hB0 : wD.heap[wb]? = some (.cells cs T (0, 0)) := by rw [hwD]; exact hB
  have hC0 : wD.heap[bb]? = some (.cells bs U (0, 0)) := by rw [hwD]; exact hC
  have r0 : wD.cell? ⟨tb, 2, none⟩ = some (.pointer (some ⟨ab, 0, none⟩)) := (cell_of_row wD tb 2 ts U _ hT0).trans h2
  have r1 : wD.cell? ⟨tb, 3, none⟩ = some (.pointer (some ⟨bb, 0, none⟩)) := (cell_of_row wD tb 3 ts U _ hT0).trans h3
  have r2 : wD.cell? ⟨ab, 3, none⟩ = some x := (cell_of_row wD ab 3 us U _ hA0).trans h4
  have r3 : wD.frozen? ⟨ab, 3, none⟩ = false := frozen_of hA0
  have hT1 : (wD.setCell ⟨ab, 3, none⟩ (.pointer (some ⟨bb, 0, none⟩))).heap[tb]? = some (.cells ts U (0, 0)) := by rw [Below.heap_setCell _ _ _ _ (fun e => hat e.symm)]; exact hT0
  have hB1 : (wD.setCell ⟨ab, 3, none⟩ (.pointer (some ⟨bb, 0, none⟩))).heap[wb]? = some (.cells cs T (0, 0)) := by rw [Below.heap_setCell _ _ _ _ (fun e => haw e.symm)]; exact hB0
  have hC1 : (wD.setCell ⟨ab, 3, none⟩ (.pointer (some ⟨bb, 0, none⟩))).heap[bb]? = some (.cells bs U (0, 0)) := by rw [Below.heap_setCell _ _ _ _ (fun e => hab e.symm)]; exact hC0
  obtain ⟨W1, hW1⟩ : ∃ W1, W1 = wD.setCell ⟨ab, 3, none⟩ (.pointer (some ⟨bb, 0, none⟩)) := ⟨_, rfl⟩
  rw [← hwD, ← hW1]
  rw [← hW1] at hT1 hB1 hC1
  have s0 : W1.cell? ⟨tb, 2, none⟩ = some (.pointer (some ⟨ab, 0, none⟩)) := (cell_of_row W1 tb 2 ts U _ hT1).trans h2
  have s1 : W1.cell? ⟨tb, 3, none⟩ = some (.pointer (some ⟨bb, 0, none⟩)) := (cell_of_row W1 tb 3 ts U _ hT1).trans h3
  obtain ⟨wE, hwE⟩ : ∃ wE, wE = W1.drew := ⟨_, rfl⟩
  have hC2 : wE.heap[bb]? = some (.cells bs U (0, 0)) := by rw [hwE]; exact hC1
  have hT2 : wE.heap[tb]? = some (.cells ts U (0, 0)) := by rw [hwE]; exact hT1
  have q0 : wE.cell? ⟨tb, 2, none⟩ = some (.pointer (some ⟨ab, 0, none⟩)) := (cell_of_row wE tb 2 ts U _ hT2).trans h2
  have q1 : wE.cell? ⟨tb, 3, none⟩ = some (.pointer (some ⟨bb, 0, none⟩)) := (cell_of_row wE tb 3 ts U _ hT2).trans h3
  have q2 : wE.cell? ⟨bb, 2, none⟩ = some y := (cell_of_row wE bb 2 bs U _ hC2).trans h5
  have q3 : wE.frozen? ⟨bb, 2, none⟩ = false := frozen_of hC2
  rw [← hwE]
  have HD := Lib.hid hwD
  subst hW1
  have HE := Lib.hid hwE
  clear hB hT h2 h3 hne hT1 hB1 hA h4 hA0 hT0 hB0 hat haw hwD hC h5 hC1 hC2 hT2 hbt hbw hwE hC0 hab
  go_enter Tryd.func35, Tryd.ntmps35
  go_upto_region 2 with fail
  refine wp_region_still_tail 10 (by kernel_rfl) (by kernel_rfl) ?_
  simp only [List.take_succ_cons, List.take_zero, List.drop_succ_cons, List.drop_zero]
  change wpStill _ _ w.drew (fun a' => wpList _ _ _ _ a' w.drew) _ _
  rw [← HD.out]
  repeat still_step
  refine wpStill_nil ?_
  go_upto_region 5 with fail
  refine wp_region_still_tail 10 (by kernel_rfl) (by kernel_rfl) ?_
  simp only [List.take_succ_cons, List.take_zero, List.drop_succ_cons, List.drop_zero]
  change wpStill _ _ (World.drew (wD.setCell ⟨ab, 3, none⟩ (.pointer (some ⟨bb, 0, none⟩)))) (fun a' => wpList _ _ _ _ a' (World.drew (wD.setCell ⟨ab, 3, none⟩ (.pointer (some ⟨bb, 0, none⟩))))) _ _
  rw [← HE.out]
  repeat still_step
  refine wpStill_nil ?_
  go_wp2_with fail
  refine bodyPost_end (results_none rfl _ _ _) rfl ?_
  exact ⟨rfl, rfl⟩
end Go.Proofs.YtnoglbceaibjeaaDoor
