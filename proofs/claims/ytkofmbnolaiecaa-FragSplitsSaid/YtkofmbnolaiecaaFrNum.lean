/- The document's answers of layer 11 as functions on lists and packets: options that each piece has, pieces. -/
import Derived.Test.YtkofmbnolaiecaaIpNum
namespace Go.Proofs.Ytkofmbnolaiecaa
set_option linter.unusedVariables false
set_option linter.unusedSimpArgs false

/-- How many bytes the option at the beginning has; 0: none that may be. -/
def fopt (l : List UInt8) : Nat := if l.length < 2 then 0 else if byt l 1 < 2 ∨ l.length < byt l 1 then 0 else byt l 1
theorem fopt_le (l : List UInt8) : fopt l ≤ l.length := by unfold fopt; split <;> (try split) <;> omega
theorem byt_nil (l : List UInt8) (h : l.length = 0) : byt l 0 = 0 := by
  obtain rfl := List.eq_nil_of_length_eq_zero h
  rfl
theorem byt_drop (l : List UInt8) (i j : Nat) : byt (l.drop i) j = byt l (i + j) := by unfold byt; rw [List.getElem?_drop]

/-- The options of at least 128, or none: not to be read. -/
def fscan : Nat → List UInt8 → Option (List UInt8)
  | 0, _ => some []
  | n + 1, l => if byt l 0 = 0 then some [] else if byt l 0 = 1 then fscan n (l.drop 1) else if fopt l = 0 then none else
      (fscan n (l.drop (fopt l))).map fun m => (if 128 ≤ byt l 0 then l.take (fopt l) else []) ++ m
theorem fscan_length : ∀ (n : Nat) (l m : List UInt8), fscan n l = some m → m.length ≤ l.length
  | 0, l, m, h => by unfold fscan at h; cases h; simp
  | n + 1, l, m, h => by
    unfold fscan at h
    split at h
    · cases h; simp
    · split at h
      · have := fscan_length n _ m h
        simp at this
        omega
      · split at h
        · cases h
        · cases hq : fscan n (l.drop (fopt l)) with
          | none => rw [hq] at h; cases h
          | some r =>
            rw [hq] at h
            simp only [Option.map_some, Option.some.injEq] at h
            have h2 := fscan_length n _ r hq
            have h3 := fopt_le l
            rw [List.length_drop] at h2
            subst h
            rw [List.length_append]
            split
            · rw [List.length_take]; omega
            · simp; omega

/-- Zeros up to a multiple of four. -/
def pad4 (l : List UInt8) : List UInt8 := l ++ List.replicate ((4 - l.length % 4) % 4) 0
theorem pad4_length (l : List UInt8) : (pad4 l).length % 4 = 0 ∧ l.length ≤ (pad4 l).length ∧ (pad4 l).length ≤ l.length + 3 := by
  unfold pad4
  rw [List.length_append, List.length_replicate]
  omega
def fcode (l : List UInt8) : Int := if 40 < l.length then 1 else if (fscan l.length l).isNone then 3 else 0
def fcar (l : List UInt8) : List UInt8 := if 40 < l.length then [] else match fscan l.length l with | none => [] | some m => pad4 m
theorem fcar_length (l : List UInt8) : (fcar l).length ≤ 40 ∧ (fcar l).length % 4 = 0 := by
  unfold fcar
  split
  · simp
  · cases h : fscan l.length l with
    | none => simp
    | some m =>
      have h1 := fscan_length _ _ _ h
      have h2 := pad4_length m
      exact ⟨show (pad4 m).length ≤ 40 by omega, h2.1⟩
theorem fcode_cases (l : List UInt8) : (fcode l = 1 ∧ 40 < l.length ∧ fcar l = []) ∨ (fcode l = 3 ∧ l.length ≤ 40 ∧ fscan l.length l = none ∧ fcar l = []) ∨ (fcode l = 0 ∧ l.length ≤ 40 ∧ ∃ m, fscan l.length l = some m ∧ fcar l = pad4 m) := by
  unfold fcode fcar
  by_cases h : 40 < l.length
  · rw [if_pos h, if_pos h]; exact .inl ⟨rfl, h, rfl⟩
  · rw [if_neg h, if_neg h]
    cases hs : fscan l.length l with
    | none => exact .inr (.inl ⟨by simp, by omega, rfl, rfl⟩)
    | some m => exact .inr (.inr ⟨by simp, by omega, m, rfl, rfl⟩)
end Go.Proofs.Ytkofmbnolaiecaa
