/- Two packets that are the same: both say so. -/
import Derived.Test.YtkofmbnolaiecaaIpSameY
namespace Go.Proofs.Ytkofmbnolaiecaa
set_option linter.unusedVariables false
set_option linter.unusedSimpArgs false
open Go.ChangeShapes Go.WideShapes Go.ChangeAt Go.RowKit

theorem RSame_yes (u v : Value) (k q : Pkt) (w : World) (hu : Ip w u k) (hv : Ip w v q) (he : k = q) :
    Calls Try.prog 21 #[u, v] w fun e w' => e = .returned (.bool true) ∧ Grow w w' := by
  obtain ⟨A, ca, B, da, rfl, ho1, hd1, hk⟩ := hu.form
  subst he
  obtain ⟨C, cb, D, db, rfl, ho2, hd2, hq⟩ := hv.form
  have hg2 := (Grow.alloc w (.cells #[.int .u8 (k.tos : Int), .int .u16 (k.ident : Int), .bool k.whole, .bool k.more, .int .i64 k.off, .int .u8 (k.ttl : Int), .int .u8 (k.proto : Int), .int .u32 (k.src : Int), .int .u32 (k.dst : Int), .slice A k.opts.length ca, .slice B k.data.length da] 27)).trans (Grow.alloc _ (.cells #[.int .u8 (k.tos : Int), .int .u16 (k.ident : Int), .bool k.whole, .bool k.more, .int .i64 k.off, .int .u8 (k.ttl : Int), .int .u8 (k.proto : Int), .int .u32 (k.src : Int), .int .u32 (k.dst : Int), .slice C k.opts.length cb, .slice D k.data.length db] 27))
  exact RSame_11 (k.tos : Int) (k.tos : Int) (k.ident : Int) (k.ident : Int) k.whole k.whole k.more k.more k.off k.off (k.ttl : Int) (k.ttl : Int) (k.proto : Int) (k.proto : Int) (k.src : Int) (k.src : Int) (k.dst : Int) (k.dst : Int) k.opts k.opts k.data k.data  A B C D ca da cb db w (ho1.grow hg2) (hd1.grow hg2) (ho2.grow hg2) (hd2.grow hg2) hg2 (beq_self_eq_true _) (beq_self_eq_true _) (beq_self_eq_true _) (beq_self_eq_true _) (beq_self_eq_true _) (beq_self_eq_true _) (beq_self_eq_true _) (beq_self_eq_true _) (beq_self_eq_true _) (beq_self_eq_true _) (beq_self_eq_true _)

end Go.Proofs.Ytkofmbnolaiecaa
