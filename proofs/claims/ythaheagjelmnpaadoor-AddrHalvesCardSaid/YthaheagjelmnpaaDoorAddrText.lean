/- Addresses as texts: Text, the reference's Text. -/
import Derived.Test.YthaheagjelmnpaaDoorAddrAddr
import Derived.Test.YthaheagjelmnpaaDoorShelf
import Derived.Lib.LaidTab
import Derived.Lib.AppendIntMem
namespace Go.Proofs.YthaheagjelmnpaaDoor
set_option linter.unusedVariables false
set_option linter.unusedSimpArgs false
open Go.ChangeShapes Go.WideShapes Go.ChangeAt Go.RowKit

/-- What start-up laid: the table of powers. -/
def Pow (w : World) : Prop := Lib.TabIs Tryd.prog w "internal/strconv.uint64pow10" .u64 Lib.pow10Tab
theorem pow_global : Tryd.prog.globalNamed "internal/strconv.uint64pow10" = some 0 := by kernel_rfl
theorem Pow.grow {w w' : World} (h : Pow w) (g : Grow w w') : Pow w' := by
  have h2 := h
  have hlt : 0 < w.heap.size := by
    rcases Nat.lt_or_ge 0 w.heap.size with h' | h'
    · exact h'
    · unfold Pow Lib.TabIs World.var? at h2
      rw [pow_global] at h2
      simp [Array.getElem?_eq_none h'] at h2
  exact var?_below g pow_global hlt h2
theorem Grow.more (w : World) (n : Nat) : Grow w (w.drewN n) := ⟨rfl, rfl, rfl, Nat.le_refl _, fun _ _ => rfl⟩

theorem PItoa_any (n : Nat) (h : n < 1000) (w : World) (hg : Pow w) :
    Calls Tryd.prog 21 #[.int .i64 (n : Int)] w fun e w' => e = .returned (.string (str (Lib.itoa (n : Int)))) ∧ Grow w w' := by
  refine (Tryd.strconv_Itoa (n : Int) (by omega) (by omega) w hg).mono ?_
  rintro e w' ⟨rfl, k, os, rfl⟩
  exact ⟨rfl, Lib.below_grow _ w (Nat.le_refl _) k os⟩

theorem quad_of {a : Int} (ha : 0 ≤ a ∧ a ≤ 4294967295) : ∃ b0 b1 b2 b3 : Nat, b0 ≤ 255 ∧ b1 ≤ 255 ∧ b2 ≤ 255 ∧ b3 ≤ 255 ∧ a = (quadV b0 b1 b2 b3 : Int) :=
  ⟨(a / 16777216).toNat, (a / 65536 % 256).toNat, (a / 256 % 256).toNat, (a % 256).toNat, by omega, by omega, by omega, by omega, by unfold quadV; omega⟩
theorem quad_parts {a : Int} {b0 b1 b2 b3 : Nat} (h0 : b0 ≤ 255) (h1 : b1 ≤ 255) (h2 : b2 ≤ 255) (h3 : b3 ≤ 255) (e : a = (quadV b0 b1 b2 b3 : Int)) :
    a / 16777216 = b0 ∧ a / 65536 % 256 = b1 ∧ a / 256 % 256 = b2 ∧ a % 256 = b3 ∧ 0 ≤ a ∧ a ≤ 4294967295 := by
  unfold quadV at e; omega

theorem low_byte {x : Int} (h : 0 ≤ x ∧ x ≤ 4294967295) : bits .and .u32 x 255 = x % 256 := by
  rw [u32_and _ _ h.1 (by omega) (by omega) (by omega)]
  have e : (255 : Int).toNat = 255 := rfl
  rw [e, nat_mask8]
  omega

theorem byte_form {x : Int} {b : Nat} (h : 0 ≤ x ∧ x ≤ 4294967295) (hb : b ≤ 255) (e : x % 256 = (b : Int)) : wrap64 (bits .and .u32 x 255) = (b : Int) := by
  rw [low_byte h, e]
  exact IntWalk.wrap64_in _ (by omega)

set_option maxHeartbeats 3200000 in
theorem Text_any (b0 b1 b2 b3 : Nat) (h0 : b0 ≤ 255) (h1 : b1 ≤ 255) (h2 : b2 ≤ 255) (h3 : b3 ≤ 255) (a : Int) (ha : a = (quadV b0 b1 b2 b3 : Int)) (w : World) (hg : Pow w) :
    Calls Tryd.prog 6 #[.int .u32 a] w fun e w' => e = .returned (.string (str (quad b0 b1 b2 b3))) ∧ Grow w w' := by
  obtain ⟨q0, q1, q2, q3, q4, q5⟩ := quad_parts h0 h1 h2 h3 ha
  have z0 := itoa_pos b0 (by omega)
  have z1 := itoa_pos b1 (by omega)
  have z2 := itoa_pos b2 (by omega)
  have z3 := itoa_pos b3 (by omega)
  rw [← str_size] at z0 z1 z2 z3
  have I0 : Hid (∀ w, Pow w → Calls Tryd.prog 21 #[.int .i64 (b0 : Int)] w fun e w' => e = .returned (.string (str (Lib.itoa (b0 : Int)))) ∧ Grow w w') := PItoa_any b0 (by omega)
  have I1 : Hid (∀ w, Pow w → Calls Tryd.prog 21 #[.int .i64 (b1 : Int)] w fun e w' => e = .returned (.string (str (Lib.itoa (b1 : Int)))) ∧ Grow w w') := PItoa_any b1 (by omega)
  have I2 : Hid (∀ w, Pow w → Calls Tryd.prog 21 #[.int .i64 (b2 : Int)] w fun e w' => e = .returned (.string (str (Lib.itoa (b2 : Int)))) ∧ Grow w w') := PItoa_any b2 (by omega)
  have I3 : Hid (∀ w, Pow w → Calls Tryd.prog 21 #[.int .i64 (b3 : Int)] w fun e w' => e = .returned (.string (str (Lib.itoa (b3 : Int)))) ∧ Grow w w') := PItoa_any b3 (by omega)
  obtain ⟨X1, x1⟩ : ∃ X, X = str (Lib.itoa (b0 : Int)) ++ ⟨#[46]⟩ := ⟨_, rfl⟩
  obtain ⟨X2, x2⟩ : ∃ X, X = X1 ++ str (Lib.itoa (b1 : Int)) ++ ⟨#[46]⟩ := ⟨_, rfl⟩
  obtain ⟨X3, x3⟩ : ∃ X, X = X2 ++ str (Lib.itoa (b2 : Int)) ++ ⟨#[46]⟩ := ⟨_, rfl⟩
  have x4 : X3 ++ str (Lib.itoa (b3 : Int)) = str (quad b0 b1 b2 b3) := by
    rw [x3, x2, x1]
    show str (Lib.itoa (b0 : Int)) ++ str [46] ++ str (Lib.itoa (b1 : Int)) ++ str [46] ++ str (Lib.itoa (b2 : Int)) ++ str [46] ++ str (Lib.itoa (b3 : Int)) = _
    simp [str_add, quad]
  have s1 := congrArg ByteArray.size x1
  have s2 := congrArg ByteArray.size x2
  have s3 := congrArg ByteArray.size x3
  simp only [ByteArray.size_append, show (⟨#[46]⟩ : ByteArray).size = 1 from rfl] at s1 s2 s3
  have HX := (show Aside _ from And.intro x1 (And.intro x2 (And.intro x3 x4)))
  clear x1 x2 x3 x4 ha
  generalize str (quad b0 b1 b2 b3) = Q at *
  generalize str (Lib.itoa (b0 : Int)) = N0 at *
  generalize str (Lib.itoa (b1 : Int)) = N1 at *
  generalize str (Lib.itoa (b2 : Int)) = N2 at *
  generalize str (Lib.itoa (b3 : Int)) = N3 at *
  have t1 : X1.size ≤ 20 := by omega
  have t2 : X2.size ≤ 20 := by omega
  have t3 : X3.size ≤ 20 := by omega
  clear s1 s2 s3
  have sd : (⟨#[46]⟩ : ByteArray).size = 1 := rfl
  have Y0 : Hid (wrap64 (bits .and .u32 (a / 16777216) 255) = (b0 : Int)) := byte_form (by omega) h0 (by omega)
  have Y1 : Hid (wrap64 (bits .and .u32 (a / 65536) 255) = (b1 : Int)) := byte_form (by omega) h1 (by omega)
  have Y2 : Hid (wrap64 (bits .and .u32 (a / 256) 255) = (b2 : Int)) := byte_form (by omega) h2 (by omega)
  have Y3 : Hid (wrap64 (bits .and .u32 a 255) = (b3 : Int)) := byte_form (by omega) h3 (by omega)
  clear q0 q1 q2 q3
  go_enter Tryd.func6, Tryd.ntmps6
  go_wp2_with fail
  go_loopg [3, 4] 4 (fun g s3 s4 wr => Grow w wr ∧ ((g = 4 ∧ s3 = .string ⟨#[]⟩ ∧ s4 = .int .i64 24) ∨ (g = 3 ∧ s3 = .string X1 ∧ s4 = .int .i64 16) ∨ (g = 2 ∧ s3 = .string X2 ∧ s4 = .int .i64 8) ∨
    (g = 1 ∧ s3 = .string X3 ∧ s4 = .int .i64 0) ∨ (g = 0 ∧ s3 = .string Q ∧ s4 = .int .i64 (-8))))
  case atStart => exact ⟨Grow.refl _, .inl ⟨rfl, rfl, rfl⟩⟩
  case round =>
    obtain ⟨hgr, hrel⟩ := hrel
    have A0 : Aside (Pow wr ∧ Grow w wr) := ⟨hg.grow hgr, hgr⟩
    clear hgr
    rcases hrel with ⟨rfl, rfl, rfl⟩ | ⟨rfl, rfl, rfl⟩ | ⟨rfl, rfl, rfl⟩ | ⟨rfl, rfl, rfl⟩ | ⟨rfl, rfl, rfl⟩
    · have y0 := Y0.out
      go_wp2_with fail
      refine (I0.out _ A0.out.1).mono ?_
      rintro e w1 ⟨rfl, hg1⟩
      have A1 := (show Aside _ from A0.out.2.trans hg1)
      clear hg1
      go_wp2_with fail
      go_roundg 3
      case measure => omega
      case rel => exact ⟨A1.out, .inr (.inl ⟨rfl, by rw [HX.out.1]; first | rfl | simp, rfl⟩)⟩
    · have y1 := Y1.out
      go_wp2_with fail
      refine (I1.out _ A0.out.1).mono ?_
      rintro e w1 ⟨rfl, hg1⟩
      have A1 := (show Aside _ from A0.out.2.trans hg1)
      clear hg1
      go_wp2_with fail
      go_roundg 2
      case measure => omega
      case rel => exact ⟨A1.out, .inr (.inr (.inl ⟨rfl, by rw [HX.out.2.1], rfl⟩))⟩
    · have y2 := Y2.out
      go_wp2_with fail
      refine (I2.out _ A0.out.1).mono ?_
      rintro e w1 ⟨rfl, hg1⟩
      have A1 := (show Aside _ from A0.out.2.trans hg1)
      clear hg1
      go_wp2_with fail
      go_roundg 1
      case measure => omega
      case rel => exact ⟨A1.out, .inr (.inr (.inr (.inl ⟨rfl, by rw [HX.out.2.2.1], rfl⟩)))⟩
    · have y3 := Y3.out
      go_wp2_with fail
      refine (I3.out _ A0.out.1).mono ?_
      rintro e w1 ⟨rfl, hg1⟩
      have A1 := (show Aside _ from A0.out.2.trans hg1)
      clear hg1
      go_wp2_with fail
      go_roundg 0
      case measure => omega
      case rel => exact ⟨A1.out, .inr (.inr (.inr (.inr ⟨rfl, by rw [HX.out.2.2.2], rfl⟩)))⟩
    · go_wp2_with fail
      go_ret
      exact ⟨rfl, A0.out.2⟩
end Go.Proofs.YthaheagjelmnpaaDoor
