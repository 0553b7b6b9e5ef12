/- Two that are not the same (towrope/towroperef09.Same, the other fields). -/
import Derived.Test.YtbhdpobmooncpaaSegSame
namespace Go.Proofs.Ytbhdpobmooncpaa
set_option linter.unusedVariables false
set_option linter.unusedSimpArgs false
open Go.ChangeShapes Go.WideShapes Go.ChangeAt Go.RowKit

set_option maxHeartbeats 2000000 in
theorem RSame9_5 (a0 b0 : Int) (a1 b1 : Int) (a2 b2 : Int) (a3 b3 : Int) (a4 b4 : Int) (a5 b5 : Int) (a6 b6 : Int) (a7 b7 : Int) (a8 b8 : List UInt8) (A B : Option Addr) (ca cb : Nat) (w : World) (bd1 : Byt ((w.alloc (.cells #[.int .u16 a0, .int .u16 a1, .int .u32 a2, .int .u32 a3, .int .u8 a4, .int .u16 a5, .int .i64 a6, .int .i64 a7, .slice A a8.length ca] 26)).alloc (.cells #[.int .u16 b0, .int .u16 b1, .int .u32 b2, .int .u32 b3, .int .u8 b4, .int .u16 b5, .int .i64 b6, .int .i64 b7, .slice B b8.length cb] 26)) (.slice A a8.length ca) a8) (bd2 : Byt ((w.alloc (.cells #[.int .u16 a0, .int .u16 a1, .int .u32 a2, .int .u32 a3, .int .u8 a4, .int .u16 a5, .int .i64 a6, .int .i64 a7, .slice A a8.length ca] 26)).alloc (.cells #[.int .u16 b0, .int .u16 b1, .int .u32 b2, .int .u32 b3, .int .u8 b4, .int .u16 b5, .int .i64 b6, .int .i64 b7, .slice B b8.length cb] 26)) (.slice B b8.length cb) b8)
    (hg2 : Grow w ((w.alloc (.cells #[.int .u16 a0, .int .u16 a1, .int .u32 a2, .int .u32 a3, .int .u8 a4, .int .u16 a5, .int .i64 a6, .int .i64 a7, .slice A a8.length ca] 26)).alloc (.cells #[.int .u16 b0, .int .u16 b1, .int .u32 b2, .int .u32 b3, .int .u8 b4, .int .u16 b5, .int .i64 b6, .int .i64 b7, .slice B b8.length cb] 26))) (h0 : (a0 == b0) = true) (h1 : (a1 == b1) = true) (h2 : (a2 == b2) = true) (h3 : (a3 == b3) = true) (h4 : (a4 == b4) = true) (h5 : (a5 == b5) = false) :
    Calls Try.prog 17 #[(.agg #[.int .u16 a0, .int .u16 a1, .int .u32 a2, .int .u32 a3, .int .u8 a4, .int .u16 a5, .int .i64 a6, .int .i64 a7, .slice A a8.length ca]), (.agg #[.int .u16 b0, .int .u16 b1, .int .u32 b2, .int .u32 b3, .int .u8 b4, .int .u16 b5, .int .i64 b6, .int .i64 b7, .slice B b8.length cb])] w fun e w' => e = .returned (.bool false) ∧ Grow w w' := by
  clear bd1 bd2
  go_enter Try.func17, Try.ntmps17
  go_wp2_with fail
  go_ret
  exact ⟨rfl, hg2⟩

set_option maxHeartbeats 2000000 in
theorem RSame9_6 (a0 b0 : Int) (a1 b1 : Int) (a2 b2 : Int) (a3 b3 : Int) (a4 b4 : Int) (a5 b5 : Int) (a6 b6 : Int) (a7 b7 : Int) (a8 b8 : List UInt8) (A B : Option Addr) (ca cb : Nat) (w : World) (bd1 : Byt ((w.alloc (.cells #[.int .u16 a0, .int .u16 a1, .int .u32 a2, .int .u32 a3, .int .u8 a4, .int .u16 a5, .int .i64 a6, .int .i64 a7, .slice A a8.length ca] 26)).alloc (.cells #[.int .u16 b0, .int .u16 b1, .int .u32 b2, .int .u32 b3, .int .u8 b4, .int .u16 b5, .int .i64 b6, .int .i64 b7, .slice B b8.length cb] 26)) (.slice A a8.length ca) a8) (bd2 : Byt ((w.alloc (.cells #[.int .u16 a0, .int .u16 a1, .int .u32 a2, .int .u32 a3, .int .u8 a4, .int .u16 a5, .int .i64 a6, .int .i64 a7, .slice A a8.length ca] 26)).alloc (.cells #[.int .u16 b0, .int .u16 b1, .int .u32 b2, .int .u32 b3, .int .u8 b4, .int .u16 b5, .int .i64 b6, .int .i64 b7, .slice B b8.length cb] 26)) (.slice B b8.length cb) b8)
    (hg2 : Grow w ((w.alloc (.cells #[.int .u16 a0, .int .u16 a1, .int .u32 a2, .int .u32 a3, .int .u8 a4, .int .u16 a5, .int .i64 a6, .int .i64 a7, .slice A a8.length ca] 26)).alloc (.cells #[.int .u16 b0, .int .u16 b1, .int .u32 b2, .int .u32 b3, .int .u8 b4, .int .u16 b5, .int .i64 b6, .int .i64 b7, .slice B b8.length cb] 26))) (h0 : (a0 == b0) = true) (h1 : (a1 == b1) = true) (h2 : (a2 == b2) = true) (h3 : (a3 == b3) = true) (h4 : (a4 == b4) = true) (h5 : (a5 == b5) = true) (h6 : (a6 == b6) = false) :
    Calls Try.prog 17 #[(.agg #[.int .u16 a0, .int .u16 a1, .int .u32 a2, .int .u32 a3, .int .u8 a4, .int .u16 a5, .int .i64 a6, .int .i64 a7, .slice A a8.length ca]), (.agg #[.int .u16 b0, .int .u16 b1, .int .u32 b2, .int .u32 b3, .int .u8 b4, .int .u16 b5, .int .i64 b6, .int .i64 b7, .slice B b8.length cb])] w fun e w' => e = .returned (.bool false) ∧ Grow w w' := by
  clear bd1 bd2
  go_enter Try.func17, Try.ntmps17
  go_wp2_with fail
  go_ret
  exact ⟨rfl, hg2⟩

set_option maxHeartbeats 2000000 in
theorem RSame9_7 (a0 b0 : Int) (a1 b1 : Int) (a2 b2 : Int) (a3 b3 : Int) (a4 b4 : Int) (a5 b5 : Int) (a6 b6 : Int) (a7 b7 : Int) (a8 b8 : List UInt8) (A B : Option Addr) (ca cb : Nat) (w : World) (bd1 : Byt ((w.alloc (.cells #[.int .u16 a0, .int .u16 a1, .int .u32 a2, .int .u32 a3, .int .u8 a4, .int .u16 a5, .int .i64 a6, .int .i64 a7, .slice A a8.length ca] 26)).alloc (.cells #[.int .u16 b0, .int .u16 b1, .int .u32 b2, .int .u32 b3, .int .u8 b4, .int .u16 b5, .int .i64 b6, .int .i64 b7, .slice B b8.length cb] 26)) (.slice A a8.length ca) a8) (bd2 : Byt ((w.alloc (.cells #[.int .u16 a0, .int .u16 a1, .int .u32 a2, .int .u32 a3, .int .u8 a4, .int .u16 a5, .int .i64 a6, .int .i64 a7, .slice A a8.length ca] 26)).alloc (.cells #[.int .u16 b0, .int .u16 b1, .int .u32 b2, .int .u32 b3, .int .u8 b4, .int .u16 b5, .int .i64 b6, .int .i64 b7, .slice B b8.length cb] 26)) (.slice B b8.length cb) b8)
    (hg2 : Grow w ((w.alloc (.cells #[.int .u16 a0, .int .u16 a1, .int .u32 a2, .int .u32 a3, .int .u8 a4, .int .u16 a5, .int .i64 a6, .int .i64 a7, .slice A a8.length ca] 26)).alloc (.cells #[.int .u16 b0, .int .u16 b1, .int .u32 b2, .int .u32 b3, .int .u8 b4, .int .u16 b5, .int .i64 b6, .int .i64 b7, .slice B b8.length cb] 26))) (h0 : (a0 == b0) = true) (h1 : (a1 == b1) = true) (h2 : (a2 == b2) = true) (h3 : (a3 == b3) = true) (h4 : (a4 == b4) = true) (h5 : (a5 == b5) = true) (h6 : (a6 == b6) = true) (h7 : (a7 == b7) = false) :
    Calls Try.prog 17 #[(.agg #[.int .u16 a0, .int .u16 a1, .int .u32 a2, .int .u32 a3, .int .u8 a4, .int .u16 a5, .int .i64 a6, .int .i64 a7, .slice A a8.length ca]), (.agg #[.int .u16 b0, .int .u16 b1, .int .u32 b2, .int .u32 b3, .int .u8 b4, .int .u16 b5, .int .i64 b6, .int .i64 b7, .slice B b8.length cb])] w fun e w' => e = .returned (.bool false) ∧ Grow w w' := by
  clear bd1 bd2
  go_enter Try.func17, Try.ntmps17
  go_wp2_with fail
  go_ret
  exact ⟨rfl, hg2⟩

set_option maxHeartbeats 2000000 in
theorem RSame9_8 (a0 b0 : Int) (a1 b1 : Int) (a2 b2 : Int) (a3 b3 : Int) (a4 b4 : Int) (a5 b5 : Int) (a6 b6 : Int) (a7 b7 : Int) (a8 b8 : List UInt8) (A B : Option Addr) (ca cb : Nat) (w : World) (bd1 : Byt ((w.alloc (.cells #[.int .u16 a0, .int .u16 a1, .int .u32 a2, .int .u32 a3, .int .u8 a4, .int .u16 a5, .int .i64 a6, .int .i64 a7, .slice A a8.length ca] 26)).alloc (.cells #[.int .u16 b0, .int .u16 b1, .int .u32 b2, .int .u32 b3, .int .u8 b4, .int .u16 b5, .int .i64 b6, .int .i64 b7, .slice B b8.length cb] 26)) (.slice A a8.length ca) a8) (bd2 : Byt ((w.alloc (.cells #[.int .u16 a0, .int .u16 a1, .int .u32 a2, .int .u32 a3, .int .u8 a4, .int .u16 a5, .int .i64 a6, .int .i64 a7, .slice A a8.length ca] 26)).alloc (.cells #[.int .u16 b0, .int .u16 b1, .int .u32 b2, .int .u32 b3, .int .u8 b4, .int .u16 b5, .int .i64 b6, .int .i64 b7, .slice B b8.length cb] 26)) (.slice B b8.length cb) b8)
    (hg2 : Grow w ((w.alloc (.cells #[.int .u16 a0, .int .u16 a1, .int .u32 a2, .int .u32 a3, .int .u8 a4, .int .u16 a5, .int .i64 a6, .int .i64 a7, .slice A a8.length ca] 26)).alloc (.cells #[.int .u16 b0, .int .u16 b1, .int .u32 b2, .int .u32 b3, .int .u8 b4, .int .u16 b5, .int .i64 b6, .int .i64 b7, .slice B b8.length cb] 26))) (h0 : (a0 == b0) = true) (h1 : (a1 == b1) = true) (h2 : (a2 == b2) = true) (h3 : (a3 == b3) = true) (h4 : (a4 == b4) = true) (h5 : (a5 == b5) = true) (h6 : (a6 == b6) = true) (h7 : (a7 == b7) = true) (h8 : (a8 == b8) = false) :
    Calls Try.prog 17 #[(.agg #[.int .u16 a0, .int .u16 a1, .int .u32 a2, .int .u32 a3, .int .u8 a4, .int .u16 a5, .int .i64 a6, .int .i64 a7, .slice A a8.length ca]), (.agg #[.int .u16 b0, .int .u16 b1, .int .u32 b2, .int .u32 b3, .int .u8 b4, .int .u16 b5, .int .i64 b6, .int .i64 b7, .slice B b8.length cb])] w fun e w' => e = .returned (.bool false) ∧ Grow w w' := by
  have c1 := str1 bd1
  have c2 := str1 bd2
  unfold strV at *
  clear bd1 bd2
  go_enter Try.func17, Try.ntmps17
  go_wp2_with fail
  go_ret
  exact ⟨rfl, hg2⟩
end Go.Proofs.Ytbhdpobmooncpaa
