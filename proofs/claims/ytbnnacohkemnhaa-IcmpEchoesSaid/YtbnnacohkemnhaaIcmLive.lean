/- The page's example; a byte turned, in numbers. -/
import Derived.Test.YtbnnacohkemnhaaIcmPut
import Derived.Test.YtbnnacohkemnhaaIcmEcho
namespace Go.Proofs.Ytbnnacohkemnhaa
set_option linter.unusedVariables false
set_option linter.unusedSimpArgs false
open Go.ChangeShapes Go.WideShapes Go.ChangeAt Go.RowKit

def exM : Icm := ⟨8, 0, 65538, []⟩
theorem exM_bytes : exM.bytes = [8, 0, 247, 252, 0, 1, 0, 2] := by decide +kernel
theorem exM_ok : exM.Ok := ⟨trivial, by decide, by decide, by decide⟩
theorem icode_le (l : List UInt8) : 0 ≤ icode l ∧ icode l ≤ 4 := by
  unfold icode
  split
  · omega
  · split <;> omega

set_option maxHeartbeats 1000000 in
theorem icmLive_any (w : World) : Calls Try.prog 9 #[] w fun e w' => e = .returned (.bool true) ∧ Grow w w' := by
  go_enter Try.func9, Try.ntmps9
  go_wp2_with fail
  refine (icmEcho_any 1 2 _ [] _ (Byt.nil _) (by omega) (by omega) (by simp)).mono ?_
  rintro e w2 ⟨vd, rfl, ho, hg2⟩
  have hip : isIcm w2 (IcmV exM vd) exM := ⟨_, rfl, ho.byt, exM_ok⟩
  obtain ⟨A4, n4, c4, rfl, _⟩ := ho.byt.form2
  go_wp2_with fail
  refine (icmPut_good _ exM _ hip (by decide)).mono ?_
  rw [exM_bytes]
  rintro e w3 ⟨u, rfl, ho3, hg3⟩
  obtain ⟨A, n, c, rfl, _⟩ := ho3.byt.form2
  go_wp2_with fail
  refine (icmCode_any 0 _ (by omega) (by omega)).mono ?_
  rintro e w' ⟨rfl, rfl⟩
  have c1 := str1 ho3.byt
  unfold strV at c1
  go_wp2_with fail
  go_ret
  exact ⟨rfl, hg2.trans hg3⟩

theorem xor_oct (a b : Nat) (ha : a < 256) (hb : b < 256) : bits .xor .u8 (a : Int) (b : Int) = ((a ^^^ b : Nat) : Int) := by
  have h : a ^^^ b < 2 ^ 8 := Nat.xor_lt_two_pow ha hb
  show IntKind.u8.wrap ((BitVec.ofInt 8 (a : Int) ^^^ BitVec.ofInt 8 (b : Int)).toNat : Int) = _
  rw [BitVec.toNat_xor, BitVec.toNat_ofInt, BitVec.toNat_ofInt]
  rw [show ((a : Int) % ((2 ^ 8 : Nat) : Int)).toNat = a by omega, show ((b : Int) % ((2 ^ 8 : Nat) : Int)).toNat = b by omega]
  simp only [IntKind.wrap, IntKind.signed, IntKind.bits]
  simp
  omega
theorem xor_diff (a b : Nat) (hb : b ≠ 0) : a ^^^ b ≠ a := by
  intro h
  apply hb
  have : a ^^^ (a ^^^ b) = a ^^^ a := by rw [h]
  rwa [← Nat.xor_assoc, Nat.xor_self, Nat.zero_xor] at this
theorem Byt.anywhere {w w' : World} {v : Value} (h : Byt w v []) : Byt w' v [] := by
  obtain ⟨A, c, e, h1, h2, _⟩ := h
  exact ⟨A, c, e, h1, h2, fun h => absurd h (by simp)⟩
end Go.Proofs.Ytbnnacohkemnhaa
