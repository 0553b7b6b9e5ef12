/- Two that are the same: both say so. -/
import Derived.Test.YtbhdpobmooncpaaSegSameY
namespace Go.Proofs.Ytbhdpobmooncpaa
set_option linter.unusedVariables false
set_option linter.unusedSimpArgs false
open Go.ChangeShapes Go.WideShapes Go.ChangeAt Go.RowKit

theorem SSame_yes (u v : Value) (k q : Sgm) (w : World) (hu : isSgm w u k) (hv : isSgm w v q) (he : k = q) :
    Calls Try.prog 18 #[u, v] w fun e w' => e = .returned (.bool true) ∧ Grow w w' := by
  obtain ⟨A, ca, rfl, hd1, hk⟩ := hu.form
  subst he
  obtain ⟨B, cb, rfl, hd2, hq⟩ := hv.form
  have hg2 := (Grow.alloc w (.cells #[.int .u16 (k.src : Int), .int .u16 (k.dst : Int), .int .u32 (k.seq : Int), .int .u32 (k.ack : Int), .int .u8 (k.flags : Int), .int .u16 (k.win : Int), .int .i64 k.mss, .int .i64 k.scale, .slice A k.data.length ca] 26)).trans (Grow.alloc _ (.cells #[.int .u16 (k.src : Int), .int .u16 (k.dst : Int), .int .u32 (k.seq : Int), .int .u32 (k.ack : Int), .int .u8 (k.flags : Int), .int .u16 (k.win : Int), .int .i64 k.mss, .int .i64 k.scale, .slice B k.data.length cb] 26))
  exact SSame_9 (k.src : Int) (k.src : Int) (k.dst : Int) (k.dst : Int) (k.seq : Int) (k.seq : Int) (k.ack : Int) (k.ack : Int) (k.flags : Int) (k.flags : Int) (k.win : Int) (k.win : Int) k.mss k.mss k.scale k.scale k.data k.data A B ca cb w (hd1.grow hg2) (hd2.grow hg2) hg2 (beq_self_eq_true _) (beq_self_eq_true _) (beq_self_eq_true _) (beq_self_eq_true _) (beq_self_eq_true _) (beq_self_eq_true _) (beq_self_eq_true _) (beq_self_eq_true _) (beq_self_eq_true _)

theorem RSame9_yes (u v : Value) (k q : Sgm) (w : World) (hu : isSgm w u k) (hv : isSgm w v q) (he : k = q) :
    Calls Try.prog 17 #[u, v] w fun e w' => e = .returned (.bool true) ∧ Grow w w' := by
  obtain ⟨A, ca, rfl, hd1, hk⟩ := hu.form
  subst he
  obtain ⟨B, cb, rfl, hd2, hq⟩ := hv.form
  have hg2 := (Grow.alloc w (.cells #[.int .u16 (k.src : Int), .int .u16 (k.dst : Int), .int .u32 (k.seq : Int), .int .u32 (k.ack : Int), .int .u8 (k.flags : Int), .int .u16 (k.win : Int), .int .i64 k.mss, .int .i64 k.scale, .slice A k.data.length ca] 26)).trans (Grow.alloc _ (.cells #[.int .u16 (k.src : Int), .int .u16 (k.dst : Int), .int .u32 (k.seq : Int), .int .u32 (k.ack : Int), .int .u8 (k.flags : Int), .int .u16 (k.win : Int), .int .i64 k.mss, .int .i64 k.scale, .slice B k.data.length cb] 26))
  exact RSame9_9 (k.src : Int) (k.src : Int) (k.dst : Int) (k.dst : Int) (k.seq : Int) (k.seq : Int) (k.ack : Int) (k.ack : Int) (k.flags : Int) (k.flags : Int) (k.win : Int) (k.win : Int) k.mss k.mss k.scale k.scale k.data k.data A B ca cb w (hd1.grow hg2) (hd2.grow hg2) hg2 (beq_self_eq_true _) (beq_self_eq_true _) (beq_self_eq_true _) (beq_self_eq_true _) (beq_self_eq_true _) (beq_self_eq_true _) (beq_self_eq_true _) (beq_self_eq_true _) (beq_self_eq_true _)
end Go.Proofs.Ytbhdpobmooncpaa
