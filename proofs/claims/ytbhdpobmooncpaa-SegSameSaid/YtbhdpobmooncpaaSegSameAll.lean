/- Are two the same: any two. -/
import Derived.Test.YtbhdpobmooncpaaSegSameY
import Derived.Test.YtbhdpobmooncpaaSegSameA
import Derived.Test.YtbhdpobmooncpaaSegSameB
import Derived.Test.YtbhdpobmooncpaaSegSameC
import Derived.Test.YtbhdpobmooncpaaSegSameD
namespace Go.Proofs.Ytbhdpobmooncpaa
set_option linter.unusedVariables false
set_option linter.unusedSimpArgs false
open Go.ChangeShapes Go.WideShapes Go.ChangeAt Go.RowKit

theorem SSame_any (u v : Value) (k q : Sgm) (w : World) (hu : isSgm w u k) (hv : isSgm w v q) :
    Calls Try.prog 18 #[u, v] w fun e w' => e = .returned (.bool (k.same q)) ∧ Grow w w' := by
  obtain ⟨A, ca, rfl, hd1, hk⟩ := hu.form
  obtain ⟨B, cb, rfl, hd2, hq⟩ := hv.form
  have hg2 := (Grow.alloc w (.cells #[.int .u16 (k.src : Int), .int .u16 (k.dst : Int), .int .u32 (k.seq : Int), .int .u32 (k.ack : Int), .int .u8 (k.flags : Int), .int .u16 (k.win : Int), .int .i64 k.mss, .int .i64 k.scale, .slice A k.data.length ca] 26)).trans (Grow.alloc _ (.cells #[.int .u16 (q.src : Int), .int .u16 (q.dst : Int), .int .u32 (q.seq : Int), .int .u32 (q.ack : Int), .int .u8 (q.flags : Int), .int .u16 (q.win : Int), .int .i64 q.mss, .int .i64 q.scale, .slice B q.data.length cb] 26))
  by_cases h0 : ((k.src : Int) == (q.src : Int)) = false
  · rw [show k.same q = false from by simp only [Sgm.same, h0, Bool.true_and, Bool.and_true, Bool.false_and, Bool.and_false]]
    exact SSame_0 (k.src : Int) (q.src : Int) (k.dst : Int) (q.dst : Int) (k.seq : Int) (q.seq : Int) (k.ack : Int) (q.ack : Int) (k.flags : Int) (q.flags : Int) (k.win : Int) (q.win : Int) k.mss q.mss k.scale q.scale k.data q.data A B ca cb w (hd1.grow hg2) (hd2.grow hg2) hg2 h0
  rw [Bool.not_eq_false] at h0
  by_cases h1 : ((k.dst : Int) == (q.dst : Int)) = false
  · rw [show k.same q = false from by simp only [Sgm.same, h0, h1, Bool.true_and, Bool.and_true, Bool.false_and, Bool.and_false]]
    exact SSame_1 (k.src : Int) (q.src : Int) (k.dst : Int) (q.dst : Int) (k.seq : Int) (q.seq : Int) (k.ack : Int) (q.ack : Int) (k.flags : Int) (q.flags : Int) (k.win : Int) (q.win : Int) k.mss q.mss k.scale q.scale k.data q.data A B ca cb w (hd1.grow hg2) (hd2.grow hg2) hg2 h0 h1
  rw [Bool.not_eq_false] at h1
  by_cases h2 : ((k.seq : Int) == (q.seq : Int)) = false
  · rw [show k.same q = false from by simp only [Sgm.same, h0, h1, h2, Bool.true_and, Bool.and_true, Bool.false_and, Bool.and_false]]
    exact SSame_2 (k.src : Int) (q.src : Int) (k.dst : Int) (q.dst : Int) (k.seq : Int) (q.seq : Int) (k.ack : Int) (q.ack : Int) (k.flags : Int) (q.flags : Int) (k.win : Int) (q.win : Int) k.mss q.mss k.scale q.scale k.data q.data A B ca cb w (hd1.grow hg2) (hd2.grow hg2) hg2 h0 h1 h2
  rw [Bool.not_eq_false] at h2
  by_cases h3 : ((k.ack : Int) == (q.ack : Int)) = false
  · rw [show k.same q = false from by simp only [Sgm.same, h0, h1, h2, h3, Bool.true_and, Bool.and_true, Bool.false_and, Bool.and_false]]
    exact SSame_3 (k.src : Int) (q.src : Int) (k.dst : Int) (q.dst : Int) (k.seq : Int) (q.seq : Int) (k.ack : Int) (q.ack : Int) (k.flags : Int) (q.flags : Int) (k.win : Int) (q.win : Int) k.mss q.mss k.scale q.scale k.data q.data A B ca cb w (hd1.grow hg2) (hd2.grow hg2) hg2 h0 h1 h2 h3
  rw [Bool.not_eq_false] at h3
  by_cases h4 : ((k.flags : Int) == (q.flags : Int)) = false
  · rw [show k.same q = false from by simp only [Sgm.same, h0, h1, h2, h3, h4, Bool.true_and, Bool.and_true, Bool.false_and, Bool.and_false]]
    exact SSame_4 (k.src : Int) (q.src : Int) (k.dst : Int) (q.dst : Int) (k.seq : Int) (q.seq : Int) (k.ack : Int) (q.ack : Int) (k.flags : Int) (q.flags : Int) (k.win : Int) (q.win : Int) k.mss q.mss k.scale q.scale k.data q.data A B ca cb w (hd1.grow hg2) (hd2.grow hg2) hg2 h0 h1 h2 h3 h4
  rw [Bool.not_eq_false] at h4
  by_cases h5 : ((k.win : Int) == (q.win : Int)) = false
  · rw [show k.same q = false from by simp only [Sgm.same, h0, h1, h2, h3, h4, h5, Bool.true_and, Bool.and_true, Bool.false_and, Bool.and_false]]
    exact SSame_5 (k.src : Int) (q.src : Int) (k.dst : Int) (q.dst : Int) (k.seq : Int) (q.seq : Int) (k.ack : Int) (q.ack : Int) (k.flags : Int) (q.flags : Int) (k.win : Int) (q.win : Int) k.mss q.mss k.scale q.scale k.data q.data A B ca cb w (hd1.grow hg2) (hd2.grow hg2) hg2 h0 h1 h2 h3 h4 h5
  rw [Bool.not_eq_false] at h5
  by_cases h6 : (k.mss == q.mss) = false
  · rw [show k.same q = false from by simp only [Sgm.same, h0, h1, h2, h3, h4, h5, h6, Bool.true_and, Bool.and_true, Bool.false_and, Bool.and_false]]
    exact SSame_6 (k.src : Int) (q.src : Int) (k.dst : Int) (q.dst : Int) (k.seq : Int) (q.seq : Int) (k.ack : Int) (q.ack : Int) (k.flags : Int) (q.flags : Int) (k.win : Int) (q.win : Int) k.mss q.mss k.scale q.scale k.data q.data A B ca cb w (hd1.grow hg2) (hd2.grow hg2) hg2 h0 h1 h2 h3 h4 h5 h6
  rw [Bool.not_eq_false] at h6
  by_cases h7 : (k.scale == q.scale) = false
  · rw [show k.same q = false from by simp only [Sgm.same, h0, h1, h2, h3, h4, h5, h6, h7, Bool.true_and, Bool.and_true, Bool.false_and, Bool.and_false]]
    exact SSame_7 (k.src : Int) (q.src : Int) (k.dst : Int) (q.dst : Int) (k.seq : Int) (q.seq : Int) (k.ack : Int) (q.ack : Int) (k.flags : Int) (q.flags : Int) (k.win : Int) (q.win : Int) k.mss q.mss k.scale q.scale k.data q.data A B ca cb w (hd1.grow hg2) (hd2.grow hg2) hg2 h0 h1 h2 h3 h4 h5 h6 h7
  rw [Bool.not_eq_false] at h7
  by_cases h8 : (k.data == q.data) = false
  · rw [show k.same q = false from by simp only [Sgm.same, h0, h1, h2, h3, h4, h5, h6, h7, h8, Bool.true_and, Bool.and_true, Bool.false_and, Bool.and_false]]
    exact SSame_8 (k.src : Int) (q.src : Int) (k.dst : Int) (q.dst : Int) (k.seq : Int) (q.seq : Int) (k.ack : Int) (q.ack : Int) (k.flags : Int) (q.flags : Int) (k.win : Int) (q.win : Int) k.mss q.mss k.scale q.scale k.data q.data A B ca cb w (hd1.grow hg2) (hd2.grow hg2) hg2 h0 h1 h2 h3 h4 h5 h6 h7 h8
  rw [Bool.not_eq_false] at h8
  rw [show k.same q = true from by simp only [Sgm.same, h0, h1, h2, h3, h4, h5, h6, h7, h8, Bool.true_and, Bool.and_true]]
  exact SSame_9 (k.src : Int) (q.src : Int) (k.dst : Int) (q.dst : Int) (k.seq : Int) (q.seq : Int) (k.ack : Int) (q.ack : Int) (k.flags : Int) (q.flags : Int) (k.win : Int) (q.win : Int) k.mss q.mss k.scale q.scale k.data q.data A B ca cb w (hd1.grow hg2) (hd2.grow hg2) hg2 h0 h1 h2 h3 h4 h5 h6 h7 h8

theorem RSame9_any (u v : Value) (k q : Sgm) (w : World) (hu : isSgm w u k) (hv : isSgm w v q) :
    Calls Try.prog 17 #[u, v] w fun e w' => e = .returned (.bool (k.same q)) ∧ Grow w w' := by
  obtain ⟨A, ca, rfl, hd1, hk⟩ := hu.form
  obtain ⟨B, cb, rfl, hd2, hq⟩ := hv.form
  have hg2 := (Grow.alloc w (.cells #[.int .u16 (k.src : Int), .int .u16 (k.dst : Int), .int .u32 (k.seq : Int), .int .u32 (k.ack : Int), .int .u8 (k.flags : Int), .int .u16 (k.win : Int), .int .i64 k.mss, .int .i64 k.scale, .slice A k.data.length ca] 26)).trans (Grow.alloc _ (.cells #[.int .u16 (q.src : Int), .int .u16 (q.dst : Int), .int .u32 (q.seq : Int), .int .u32 (q.ack : Int), .int .u8 (q.flags : Int), .int .u16 (q.win : Int), .int .i64 q.mss, .int .i64 q.scale, .slice B q.data.length cb] 26))
  by_cases h0 : ((k.src : Int) == (q.src : Int)) = false
  · rw [show k.same q = false from by simp only [Sgm.same, h0, Bool.true_and, Bool.and_true, Bool.false_and, Bool.and_false]]
    exact RSame9_0 (k.src : Int) (q.src : Int) (k.dst : Int) (q.dst : Int) (k.seq : Int) (q.seq : Int) (k.ack : Int) (q.ack : Int) (k.flags : Int) (q.flags : Int) (k.win : Int) (q.win : Int) k.mss q.mss k.scale q.scale k.data q.data A B ca cb w (hd1.grow hg2) (hd2.grow hg2) hg2 h0
  rw [Bool.not_eq_false] at h0
  by_cases h1 : ((k.dst : Int) == (q.dst : Int)) = false
  · rw [show k.same q = false from by simp only [Sgm.same, h0, h1, Bool.true_and, Bool.and_true, Bool.false_and, Bool.and_false]]
    exact RSame9_1 (k.src : Int) (q.src : Int) (k.dst : Int) (q.dst : Int) (k.seq : Int) (q.seq : Int) (k.ack : Int) (q.ack : Int) (k.flags : Int) (q.flags : Int) (k.win : Int) (q.win : Int) k.mss q.mss k.scale q.scale k.data q.data A B ca cb w (hd1.grow hg2) (hd2.grow hg2) hg2 h0 h1
  rw [Bool.not_eq_false] at h1
  by_cases h2 : ((k.seq : Int) == (q.seq : Int)) = false
  · rw [show k.same q = false from by simp only [Sgm.same, h0, h1, h2, Bool.true_and, Bool.and_true, Bool.false_and, Bool.and_false]]
    exact RSame9_2 (k.src : Int) (q.src : Int) (k.dst : Int) (q.dst : Int) (k.seq : Int) (q.seq : Int) (k.ack : Int) (q.ack : Int) (k.flags : Int) (q.flags : Int) (k.win : Int) (q.win : Int) k.mss q.mss k.scale q.scale k.data q.data A B ca cb w (hd1.grow hg2) (hd2.grow hg2) hg2 h0 h1 h2
  rw [Bool.not_eq_false] at h2
  by_cases h3 : ((k.ack : Int) == (q.ack : Int)) = false
  · rw [show k.same q = false from by simp only [Sgm.same, h0, h1, h2, h3, Bool.true_and, Bool.and_true, Bool.false_and, Bool.and_false]]
    exact RSame9_3 (k.src : Int) (q.src : Int) (k.dst : Int) (q.dst : Int) (k.seq : Int) (q.seq : Int) (k.ack : Int) (q.ack : Int) (k.flags : Int) (q.flags : Int) (k.win : Int) (q.win : Int) k.mss q.mss k.scale q.scale k.data q.data A B ca cb w (hd1.grow hg2) (hd2.grow hg2) hg2 h0 h1 h2 h3
  rw [Bool.not_eq_false] at h3
  by_cases h4 : ((k.flags : Int) == (q.flags : Int)) = false
  · rw [show k.same q = false from by simp only [Sgm.same, h0, h1, h2, h3, h4, Bool.true_and, Bool.and_true, Bool.false_and, Bool.and_false]]
    exact RSame9_4 (k.src : Int) (q.src : Int) (k.dst : Int) (q.dst : Int) (k.seq : Int) (q.seq : Int) (k.ack : Int) (q.ack : Int) (k.flags : Int) (q.flags : Int) (k.win : Int) (q.win : Int) k.mss q.mss k.scale q.scale k.data q.data A B ca cb w (hd1.grow hg2) (hd2.grow hg2) hg2 h0 h1 h2 h3 h4
  rw [Bool.not_eq_false] at h4
  by_cases h5 : ((k.win : Int) == (q.win : Int)) = false
  · rw [show k.same q = false from by simp only [Sgm.same, h0, h1, h2, h3, h4, h5, Bool.true_and, Bool.and_true, Bool.false_and, Bool.and_false]]
    exact RSame9_5 (k.src : Int) (q.src : Int) (k.dst : Int) (q.dst : Int) (k.seq : Int) (q.seq : Int) (k.ack : Int) (q.ack : Int) (k.flags : Int) (q.flags : Int) (k.win : Int) (q.win : Int) k.mss q.mss k.scale q.scale k.data q.data A B ca cb w (hd1.grow hg2) (hd2.grow hg2) hg2 h0 h1 h2 h3 h4 h5
  rw [Bool.not_eq_false] at h5
  by_cases h6 : (k.mss == q.mss) = false
  · rw [show k.same q = false from by simp only [Sgm.same, h0, h1, h2, h3, h4, h5, h6, Bool.true_and, Bool.and_true, Bool.false_and, Bool.and_false]]
    exact RSame9_6 (k.src : Int) (q.src : Int) (k.dst : Int) (q.dst : Int) (k.seq : Int) (q.seq : Int) (k.ack : Int) (q.ack : Int) (k.flags : Int) (q.flags : Int) (k.win : Int) (q.win : Int) k.mss q.mss k.scale q.scale k.data q.data A B ca cb w (hd1.grow hg2) (hd2.grow hg2) hg2 h0 h1 h2 h3 h4 h5 h6
  rw [Bool.not_eq_false] at h6
  by_cases h7 : (k.scale == q.scale) = false
  · rw [show k.same q = false from by simp only [Sgm.same, h0, h1, h2, h3, h4, h5, h6, h7, Bool.true_and, Bool.and_true, Bool.false_and, Bool.and_false]]
    exact RSame9_7 (k.src : Int) (q.src : Int) (k.dst : Int) (q.dst : Int) (k.seq : Int) (q.seq : Int) (k.ack : Int) (q.ack : Int) (k.flags : Int) (q.flags : Int) (k.win : Int) (q.win : Int) k.mss q.mss k.scale q.scale k.data q.data A B ca cb w (hd1.grow hg2) (hd2.grow hg2) hg2 h0 h1 h2 h3 h4 h5 h6 h7
  rw [Bool.not_eq_false] at h7
  by_cases h8 : (k.data == q.data) = false
  · rw [show k.same q = false from by simp only [Sgm.same, h0, h1, h2, h3, h4, h5, h6, h7, h8, Bool.true_and, Bool.and_true, Bool.false_and, Bool.and_false]]
    exact RSame9_8 (k.src : Int) (q.src : Int) (k.dst : Int) (q.dst : Int) (k.seq : Int) (q.seq : Int) (k.ack : Int) (q.ack : Int) (k.flags : Int) (q.flags : Int) (k.win : Int) (q.win : Int) k.mss q.mss k.scale q.scale k.data q.data A B ca cb w (hd1.grow hg2) (hd2.grow hg2) hg2 h0 h1 h2 h3 h4 h5 h6 h7 h8
  rw [Bool.not_eq_false] at h8
  rw [show k.same q = true from by simp only [Sgm.same, h0, h1, h2, h3, h4, h5, h6, h7, h8, Bool.true_and, Bool.and_true]]
  exact RSame9_9 (k.src : Int) (q.src : Int) (k.dst : Int) (q.dst : Int) (k.seq : Int) (q.seq : Int) (k.ack : Int) (q.ack : Int) (k.flags : Int) (q.flags : Int) (k.win : Int) (q.win : Int) k.mss q.mss k.scale q.scale k.data q.data A B ca cb w (hd1.grow hg2) (hd2.grow hg2) hg2 h0 h1 h2 h3 h4 h5 h6 h7 h8
end Go.Proofs.Ytbhdpobmooncpaa
