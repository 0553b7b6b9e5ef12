/- Two packets that are the same: both walks. -/
import Derived.Test.YtkofmbnolaiecaaIpSame
namespace Go.Proofs.Ytkofmbnolaiecaa
set_option linter.unusedVariables false
set_option linter.unusedSimpArgs false
open Go.ChangeShapes Go.WideShapes Go.ChangeAt Go.RowKit

set_option maxHeartbeats 2000000 in
theorem RSame_11 (a0 b0 : Int) (a1 b1 : Int) (a2 b2 : Bool) (a3 b3 : Bool) (a4 b4 : Int) (a5 b5 : Int) (a6 b6 : Int) (a7 b7 : Int) (a8 b8 : Int) (a9 b9 : List UInt8) (a10 b10 : List UInt8) (A B C D : Option Addr) (ca da cb db : Nat) (w : World) (bo1 : Byt ((w.alloc (.cells #[.int .u8 a0, .int .u16 a1, .bool a2, .bool a3, .int .i64 a4, .int .u8 a5, .int .u8 a6, .int .u32 a7, .int .u32 a8, .slice A a9.length ca, .slice B a10.length da] 27)).alloc (.cells #[.int .u8 b0, .int .u16 b1, .bool b2, .bool b3, .int .i64 b4, .int .u8 b5, .int .u8 b6, .int .u32 b7, .int .u32 b8, .slice C b9.length cb, .slice D b10.length db] 27)) (.slice A a9.length ca) a9) (bd1 : Byt ((w.alloc (.cells #[.int .u8 a0, .int .u16 a1, .bool a2, .bool a3, .int .i64 a4, .int .u8 a5, .int .u8 a6, .int .u32 a7, .int .u32 a8, .slice A a9.length ca, .slice B a10.length da] 27)).alloc (.cells #[.int .u8 b0, .int .u16 b1, .bool b2, .bool b3, .int .i64 b4, .int .u8 b5, .int .u8 b6, .int .u32 b7, .int .u32 b8, .slice C b9.length cb, .slice D b10.length db] 27)) (.slice B a10.length da) a10) (bo2 : Byt ((w.alloc (.cells #[.int .u8 a0, .int .u16 a1, .bool a2, .bool a3, .int .i64 a4, .int .u8 a5, .int .u8 a6, .int .u32 a7, .int .u32 a8, .slice A a9.length ca, .slice B a10.length da] 27)).alloc (.cells #[.int .u8 b0, .int .u16 b1, .bool b2, .bool b3, .int .i64 b4, .int .u8 b5, .int .u8 b6, .int .u32 b7, .int .u32 b8, .slice C b9.length cb, .slice D b10.length db] 27)) (.slice C b9.length cb) b9) (bd2 : Byt ((w.alloc (.cells #[.int .u8 a0, .int .u16 a1, .bool a2, .bool a3, .int .i64 a4, .int .u8 a5, .int .u8 a6, .int .u32 a7, .int .u32 a8, .slice A a9.length ca, .slice B a10.length da] 27)).alloc (.cells #[.int .u8 b0, .int .u16 b1, .bool b2, .bool b3, .int .i64 b4, .int .u8 b5, .int .u8 b6, .int .u32 b7, .int .u32 b8, .slice C b9.length cb, .slice D b10.length db] 27)) (.slice D b10.length db) b10)
    (hg2 : Grow w ((w.alloc (.cells #[.int .u8 a0, .int .u16 a1, .bool a2, .bool a3, .int .i64 a4, .int .u8 a5, .int .u8 a6, .int .u32 a7, .int .u32 a8, .slice A a9.length ca, .slice B a10.length da] 27)).alloc (.cells #[.int .u8 b0, .int .u16 b1, .bool b2, .bool b3, .int .i64 b4, .int .u8 b5, .int .u8 b6, .int .u32 b7, .int .u32 b8, .slice C b9.length cb, .slice D b10.length db] 27))) (h0 : (a0 == b0) = true) (h1 : (a1 == b1) = true) (h2 : (a2 == b2) = true) (h3 : (a3 == b3) = true) (h4 : (a4 == b4) = true) (h5 : (a5 == b5) = true) (h6 : (a6 == b6) = true) (h7 : (a7 == b7) = true) (h8 : (a8 == b8) = true) (h9 : (a9 == b9) = true) (h10 : (a10 == b10) = true) :
    Calls Try.prog 21 #[(.agg #[.int .u8 a0, .int .u16 a1, .bool a2, .bool a3, .int .i64 a4, .int .u8 a5, .int .u8 a6, .int .u32 a7, .int .u32 a8, .slice A a9.length ca, .slice B a10.length da]), (.agg #[.int .u8 b0, .int .u16 b1, .bool b2, .bool b3, .int .i64 b4, .int .u8 b5, .int .u8 b6, .int .u32 b7, .int .u32 b8, .slice C b9.length cb, .slice D b10.length db])] w fun e w' => e = .returned (.bool true) ∧ Grow w w' := by
  have c1 := str1 bo1
  have c3 := str1 bo2
  have c2 := str1 bd1
  have c4 := str1 bd2
  unfold strV at *
  clear bo1 bo2 bd1 bd2
  go_enter Try.func21, Try.ntmps21
  go_wp2_with fail
  go_ret
  exact ⟨rfl, hg2⟩

end Go.Proofs.Ytkofmbnolaiecaa
