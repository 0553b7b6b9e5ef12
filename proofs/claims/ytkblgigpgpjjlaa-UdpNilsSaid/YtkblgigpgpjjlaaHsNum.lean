/- A ring of bytes in numbers: what lies where; written round its end, read round its end. -/
import Derived.Test.YtkblgigpgpjjlaaGen
namespace Go.Proofs.Ytkblgigpgpjjlaa
set_option linter.unusedVariables false
set_option linter.unusedSimpArgs false
open Go.RowKit

/-- The ring R holds r from the number o on. -/
def Ring (R : List Value) (o : Nat) (r : List UInt8) : Prop := (∀ y ∈ R, y.oneCell' = true) ∧ ∀ (j : Nat) (b : UInt8), r[j]? = some b → R[(o + j) % R.length]? = some (bv b)
/-- xs put over R from k on. -/
def over (R : List Value) (k : Nat) (xs : List Value) : List Value := R.take k ++ xs ++ R.drop (k + xs.length)
theorem over_len {R xs : List Value} {k : Nat} (h : k + xs.length ≤ R.length) : (over R k xs).length = R.length := by
  unfold over
  simp only [List.length_append, List.length_take, List.length_drop]
  omega
theorem over_in {R xs : List Value} {k i : Nat} (h : k + xs.length ≤ R.length) (h1 : k ≤ i) (h2 : i < k + xs.length) : (over R k xs)[i]? = xs[i - k]? := by
  have e : (R.take k).length = k := by rw [List.length_take]; omega
  unfold over
  rw [List.getElem?_append_left (by rw [List.length_append, e]; omega), List.getElem?_append_right (by omega), e]
theorem over_out {R xs : List Value} {k i : Nat} (h : k + xs.length ≤ R.length) (h1 : i < k ∨ k + xs.length ≤ i) : (over R k xs)[i]? = R[i]? := by
  have e : (R.take k).length = k := by rw [List.length_take]; omega
  unfold over
  rcases h1 with h1 | h1
  · rw [List.append_assoc, List.getElem?_append_left (by omega), List.getElem?_take_of_lt h1]
  · rw [List.getElem?_append_right (by rw [List.length_append, e]; omega), List.getElem?_drop, List.length_append, e]
    congr 1
    omega
theorem over_one {R xs : List Value} {k : Nat} (h : ∀ y ∈ R, y.oneCell' = true) (h1 : ∀ y ∈ xs, y.oneCell' = true) : ∀ y ∈ over R k xs, y.oneCell' = true := fun y hy => by
  unfold over at hy
  rcases List.mem_append.1 hy with hy | hy
  · rcases List.mem_append.1 hy with hy | hy
    · exact h y (List.mem_of_mem_take hy)
    · exact h1 y hy
  · exact h y (List.mem_of_mem_drop hy)
theorem mod_add {a d m : Nat} (hm : 0 < m) (hd : d ≤ m) : (a + d) % m = if a % m + d < m then a % m + d else a % m + d - m := by
  have h0 := Nat.mod_lt a hm
  rw [Nat.add_mod]
  rcases Nat.lt_or_ge d m with h | h
  · rw [Nat.mod_eq_of_lt h]
    by_cases q : a % m + d < m
    · rw [if_pos q, Nat.mod_eq_of_lt q]
    · rw [if_neg q, Nat.mod_eq_sub_mod (by omega), Nat.mod_eq_of_lt (by omega)]
  · obtain rfl : d = m := by omega
    rw [Nat.mod_self, Nat.add_zero, Nat.mod_mod, if_neg (by omega), Nat.add_sub_cancel]
/-- Written round the end. -/
theorem ring_write {R : List Value} {o k h : Nat} {r bs : List UInt8} (hr : Ring R o r) (hm : 0 < R.length) (hn : r.length + bs.length ≤ R.length) (hk : k = (o + r.length) % R.length) (hh : h = min (R.length - k) bs.length) :
    Ring (over (over R k ((bs.take h).map bv)) 0 ((bs.drop h).map bv)) o (r ++ bs) ∧ (over (over R k ((bs.take h).map bv)) 0 ((bs.drop h).map bv)).length = R.length := by
  obtain ⟨m, hmm⟩ : ∃ m, m = R.length := ⟨_, rfl⟩
  have hkm : k < R.length := by rw [hk]; exact Nat.mod_lt _ hm
  have l1 : ((bs.take h).map bv).length = h := by rw [List.length_map, List.length_take]; omega
  have l2 : ((bs.drop h).map bv).length = bs.length - h := by rw [List.length_map, List.length_drop]
  have L1 := over_len (R := R) (xs := (bs.take h).map bv) (k := k) (by omega)
  have L2 := over_len (R := over R k ((bs.take h).map bv)) (xs := (bs.drop h).map bv) (k := 0) (by rw [L1]; omega)
  refine ⟨⟨over_one (over_one hr.1 (bv_one _)) (bv_one _), fun j b hj => ?_⟩, by omega⟩
  rw [L2, L1]
  rcases Nat.lt_or_ge j r.length with hlt | hge
  · rw [List.getElem?_append_left hlt] at hj
    have hb := hr.2 j b hj
    have e := mod_add (a := o + j) (d := r.length - j) hm (by omega)
    rw [show o + j + (r.length - j) = o + r.length by omega, ← hk] at e
    have hp := Nat.mod_lt (o + j) hm
    generalize (o + j) % R.length = p at *
    rw [over_out (by rw [L1]; omega) (.inr (by rw [l2]; split at e <;> omega)), over_out (by omega) (by rw [l1]; split at e <;> omega)]
    exact hb
  · rw [List.getElem?_append_right hge] at hj
    have hjl := (List.getElem?_eq_some_iff.1 hj).1
    have e := mod_add (a := o + r.length) (d := j - r.length) hm (by omega)
    rw [show o + r.length + (j - r.length) = o + j by omega, ← hk] at e
    generalize (o + j) % R.length = p at *
    by_cases q : k + (j - r.length) < R.length
    · rw [if_pos q] at e
      rw [over_out (by rw [L1]; omega) (.inr (by rw [l2]; omega)), over_in (by omega) (by omega) (by rw [l1]; omega), e, show k + (j - r.length) - k = j - r.length by omega, List.getElem?_map, List.getElem?_take_of_lt (by omega), hj]
      rfl
    · rw [if_neg q] at e
      rw [over_in (by rw [L1]; omega) (Nat.zero_le _) (by rw [l2]; omega), List.getElem?_map, List.getElem?_drop, e, show h + (k + (j - r.length) - R.length - 0) = j - r.length by omega, hj]
      rfl
/-- Read round the end: two parts. -/
theorem ring_read {R : List Value} {o p h at_ n : Nat} {r : List UInt8} (hr : Ring R o r) (hm : 0 < R.length) (hl : r.length ≤ R.length) (hn : at_ + n ≤ r.length) (hp : p = (o + at_) % R.length) (hh : h = min (R.length - p) n) :
    (R.drop p).take h ++ R.take (n - h) = ((r.drop at_).take n).map bv := by
  have hpm : p < R.length := by rw [hp]; exact Nat.mod_lt _ hm
  have l1 : ((R.drop p).take h).length = h := by rw [List.length_take, List.length_drop]; omega
  refine List.ext_getElem? fun j => ?_
  rcases Nat.lt_or_ge j n with hj | hj
  · have hg : r[at_ + j]? = some (r[at_ + j]'(by omega)) := List.getElem?_eq_getElem (by omega)
    have hb := hr.2 _ _ hg
    have e := mod_add (a := o + at_) (d := j) hm (by omega)
    rw [← hp] at e
    rw [← Nat.add_assoc, e] at hb
    rw [List.getElem?_map, List.getElem?_take_of_lt hj, List.getElem?_drop, hg]
    by_cases q : p + j < R.length
    · rw [if_pos q] at hb
      rw [List.getElem?_append_left (by omega), List.getElem?_take_of_lt (by omega), List.getElem?_drop, hb]
      rfl
    · rw [if_neg q] at hb
      rw [List.getElem?_append_right (by omega), l1, List.getElem?_take_of_lt (by omega), show j - h = p + j - R.length by omega, hb]
      rfl
  · rw [List.getElem?_eq_none (by rw [List.length_append, l1, List.length_take]; omega), List.getElem?_eq_none (by rw [List.length_map, List.length_take, List.length_drop]; omega)]
theorem ring_drop {R : List Value} {o n : Nat} {r : List UInt8} (hr : Ring R o r) : Ring R (o + n) (r.drop n) := ⟨hr.1, fun j b hj => by
  rw [List.getElem?_drop] at hj
  rw [Nat.add_assoc]
  exact hr.2 _ b hj⟩
theorem ring_nil (R : List Value) (o : Nat) (h : ∀ y ∈ R, y.oneCell' = true) : Ring R o [] := ⟨h, fun j b hj => by simp at hj⟩
theorem over_two {Z xs ys : List Value} {n h : Nat} (hz : Z.length = n) (hx : xs.length = h) (hy : ys.length = n - h) (hh : h ≤ n) : over (over Z 0 xs) h ys = xs ++ ys := by
  have e : over Z 0 xs = xs ++ Z.drop h := by simp [over, hx]
  rw [e]
  unfold over
  rw [List.take_append_of_le_length (by omega), List.take_of_length_le (by omega), List.drop_of_length_le (by rw [List.length_append, List.length_drop]; omega), List.append_nil]
theorem over_all {Z xs : List Value} {n : Nat} (hz : Z.length = n) (hx : xs.length = n) : over Z 0 xs = xs := by
  unfold over
  rw [List.take_zero, List.nil_append, List.drop_of_length_le (by omega), List.append_nil]
end Go.Proofs.Ytkblgigpgpjjlaa
