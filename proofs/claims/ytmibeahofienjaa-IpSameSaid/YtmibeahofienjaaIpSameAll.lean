/- Are two packets the same: any two. -/
import Derived.Test.YtmibeahofienjaaIpSameZ
import Derived.Test.YtmibeahofienjaaIpSameA
import Derived.Test.YtmibeahofienjaaIpSameB
import Derived.Test.YtmibeahofienjaaIpSameC
import Derived.Test.YtmibeahofienjaaIpSameD
namespace Go.Proofs.Ytmibeahofienjaa
set_option linter.unusedVariables false
set_option linter.unusedSimpArgs false
open Go.ChangeShapes Go.WideShapes Go.ChangeAt Go.RowKit

theorem RSame_any (u v : Value) (k q : Pkt) (w : World) (hu : Ip w u k) (hv : Ip w v q) :
    Calls Try.prog 19 #[u, v] w fun e w' => e = .returned (.bool (k.same q)) ∧ Grow w w' := by
  obtain ⟨A, ca, B, da, rfl, ho1, hd1, hk⟩ := hu.form
  obtain ⟨C, cb, D, db, rfl, ho2, hd2, hq⟩ := hv.form
  have hg2 := (Grow.alloc w (.cells #[.int .u8 (k.tos : Int), .int .u16 (k.ident : Int), .bool k.whole, .bool k.more, .int .i64 k.off, .int .u8 (k.ttl : Int), .int .u8 (k.proto : Int), .int .u32 (k.src : Int), .int .u32 (k.dst : Int), .slice A k.opts.length ca, .slice B k.data.length da] 27)).trans (Grow.alloc _ (.cells #[.int .u8 (q.tos : Int), .int .u16 (q.ident : Int), .bool q.whole, .bool q.more, .int .i64 q.off, .int .u8 (q.ttl : Int), .int .u8 (q.proto : Int), .int .u32 (q.src : Int), .int .u32 (q.dst : Int), .slice C q.opts.length cb, .slice D q.data.length db] 27))
  by_cases h0 : ((k.tos : Int) == (q.tos : Int)) = false
  · rw [show k.same q = false from by simp only [Pkt.same, h0, Bool.true_and, Bool.and_true, Bool.false_and, Bool.and_false]]
    exact RSame_0 (k.tos : Int) (q.tos : Int) (k.ident : Int) (q.ident : Int) k.whole q.whole k.more q.more k.off q.off (k.ttl : Int) (q.ttl : Int) (k.proto : Int) (q.proto : Int) (k.src : Int) (q.src : Int) (k.dst : Int) (q.dst : Int) k.opts q.opts k.data q.data  A B C D ca da cb db w (ho1.grow hg2) (hd1.grow hg2) (ho2.grow hg2) (hd2.grow hg2) hg2 h0
  rw [Bool.not_eq_false] at h0
  by_cases h1 : ((k.ident : Int) == (q.ident : Int)) = false
  · rw [show k.same q = false from by simp only [Pkt.same, h0, h1, Bool.true_and, Bool.and_true, Bool.false_and, Bool.and_false]]
    exact RSame_1 (k.tos : Int) (q.tos : Int) (k.ident : Int) (q.ident : Int) k.whole q.whole k.more q.more k.off q.off (k.ttl : Int) (q.ttl : Int) (k.proto : Int) (q.proto : Int) (k.src : Int) (q.src : Int) (k.dst : Int) (q.dst : Int) k.opts q.opts k.data q.data  A B C D ca da cb db w (ho1.grow hg2) (hd1.grow hg2) (ho2.grow hg2) (hd2.grow hg2) hg2 h0 h1
  rw [Bool.not_eq_false] at h1
  by_cases h2 : (k.whole == q.whole) = false
  · rw [show k.same q = false from by simp only [Pkt.same, h0, h1, h2, Bool.true_and, Bool.and_true, Bool.false_and, Bool.and_false]]
    exact RSame_2 (k.tos : Int) (q.tos : Int) (k.ident : Int) (q.ident : Int) k.whole q.whole k.more q.more k.off q.off (k.ttl : Int) (q.ttl : Int) (k.proto : Int) (q.proto : Int) (k.src : Int) (q.src : Int) (k.dst : Int) (q.dst : Int) k.opts q.opts k.data q.data  A B C D ca da cb db w (ho1.grow hg2) (hd1.grow hg2) (ho2.grow hg2) (hd2.grow hg2) hg2 h0 h1 h2
  rw [Bool.not_eq_false] at h2
  by_cases h3 : (k.more == q.more) = false
  · rw [show k.same q = false from by simp only [Pkt.same, h0, h1, h2, h3, Bool.true_and, Bool.and_true, Bool.false_and, Bool.and_false]]
    exact RSame_3 (k.tos : Int) (q.tos : Int) (k.ident : Int) (q.ident : Int) k.whole q.whole k.more q.more k.off q.off (k.ttl : Int) (q.ttl : Int) (k.proto : Int) (q.proto : Int) (k.src : Int) (q.src : Int) (k.dst : Int) (q.dst : Int) k.opts q.opts k.data q.data  A B C D ca da cb db w (ho1.grow hg2) (hd1.grow hg2) (ho2.grow hg2) (hd2.grow hg2) hg2 h0 h1 h2 h3
  rw [Bool.not_eq_false] at h3
  by_cases h4 : (k.off == q.off) = false
  · rw [show k.same q = false from by simp only [Pkt.same, h0, h1, h2, h3, h4, Bool.true_and, Bool.and_true, Bool.false_and, Bool.and_false]]
    exact RSame_4 (k.tos : Int) (q.tos : Int) (k.ident : Int) (q.ident : Int) k.whole q.whole k.more q.more k.off q.off (k.ttl : Int) (q.ttl : Int) (k.proto : Int) (q.proto : Int) (k.src : Int) (q.src : Int) (k.dst : Int) (q.dst : Int) k.opts q.opts k.data q.data  A B C D ca da cb db w (ho1.grow hg2) (hd1.grow hg2) (ho2.grow hg2) (hd2.grow hg2) hg2 h0 h1 h2 h3 h4
  rw [Bool.not_eq_false] at h4
  by_cases h5 : ((k.ttl : Int) == (q.ttl : Int)) = false
  · rw [show k.same q = false from by simp only [Pkt.same, h0, h1, h2, h3, h4, h5, Bool.true_and, Bool.and_true, Bool.false_and, Bool.and_false]]
    exact RSame_5 (k.tos : Int) (q.tos : Int) (k.ident : Int) (q.ident : Int) k.whole q.whole k.more q.more k.off q.off (k.ttl : Int) (q.ttl : Int) (k.proto : Int) (q.proto : Int) (k.src : Int) (q.src : Int) (k.dst : Int) (q.dst : Int) k.opts q.opts k.data q.data  A B C D ca da cb db w (ho1.grow hg2) (hd1.grow hg2) (ho2.grow hg2) (hd2.grow hg2) hg2 h0 h1 h2 h3 h4 h5
  rw [Bool.not_eq_false] at h5
  by_cases h6 : ((k.proto : Int) == (q.proto : Int)) = false
  · rw [show k.same q = false from by simp only [Pkt.same, h0, h1, h2, h3, h4, h5, h6, Bool.true_and, Bool.and_true, Bool.false_and, Bool.and_false]]
    exact RSame_6 (k.tos : Int) (q.tos : Int) (k.ident : Int) (q.ident : Int) k.whole q.whole k.more q.more k.off q.off (k.ttl : Int) (q.ttl : Int) (k.proto : Int) (q.proto : Int) (k.src : Int) (q.src : Int) (k.dst : Int) (q.dst : Int) k.opts q.opts k.data q.data  A B C D ca da cb db w (ho1.grow hg2) (hd1.grow hg2) (ho2.grow hg2) (hd2.grow hg2) hg2 h0 h1 h2 h3 h4 h5 h6
  rw [Bool.not_eq_false] at h6
  by_cases h7 : ((k.src : Int) == (q.src : Int)) = false
  · rw [show k.same q = false from by simp only [Pkt.same, h0, h1, h2, h3, h4, h5, h6, h7, Bool.true_and, Bool.and_true, Bool.false_and, Bool.and_false]]
    exact RSame_7 (k.tos : Int) (q.tos : Int) (k.ident : Int) (q.ident : Int) k.whole q.whole k.more q.more k.off q.off (k.ttl : Int) (q.ttl : Int) (k.proto : Int) (q.proto : Int) (k.src : Int) (q.src : Int) (k.dst : Int) (q.dst : Int) k.opts q.opts k.data q.data  A B C D ca da cb db w (ho1.grow hg2) (hd1.grow hg2) (ho2.grow hg2) (hd2.grow hg2) hg2 h0 h1 h2 h3 h4 h5 h6 h7
  rw [Bool.not_eq_false] at h7
  by_cases h8 : ((k.dst : Int) == (q.dst : Int)) = false
  · rw [show k.same q = false from by simp only [Pkt.same, h0, h1, h2, h3, h4, h5, h6, h7, h8, Bool.true_and, Bool.and_true, Bool.false_and, Bool.and_false]]
    exact RSame_8 (k.tos : Int) (q.tos : Int) (k.ident : Int) (q.ident : Int) k.whole q.whole k.more q.more k.off q.off (k.ttl : Int) (q.ttl : Int) (k.proto : Int) (q.proto : Int) (k.src : Int) (q.src : Int) (k.dst : Int) (q.dst : Int) k.opts q.opts k.data q.data  A B C D ca da cb db w (ho1.grow hg2) (hd1.grow hg2) (ho2.grow hg2) (hd2.grow hg2) hg2 h0 h1 h2 h3 h4 h5 h6 h7 h8
  rw [Bool.not_eq_false] at h8
  by_cases h9 : (k.opts == q.opts) = false
  · rw [show k.same q = false from by simp only [Pkt.same, h0, h1, h2, h3, h4, h5, h6, h7, h8, h9, Bool.true_and, Bool.and_true, Bool.false_and, Bool.and_false]]
    exact RSame_9 (k.tos : Int) (q.tos : Int) (k.ident : Int) (q.ident : Int) k.whole q.whole k.more q.more k.off q.off (k.ttl : Int) (q.ttl : Int) (k.proto : Int) (q.proto : Int) (k.src : Int) (q.src : Int) (k.dst : Int) (q.dst : Int) k.opts q.opts k.data q.data  A B C D ca da cb db w (ho1.grow hg2) (hd1.grow hg2) (ho2.grow hg2) (hd2.grow hg2) hg2 h0 h1 h2 h3 h4 h5 h6 h7 h8 h9
  rw [Bool.not_eq_false] at h9
  by_cases h10 : (k.data == q.data) = false
  · rw [show k.same q = false from by simp only [Pkt.same, h0, h1, h2, h3, h4, h5, h6, h7, h8, h9, h10, Bool.true_and, Bool.and_true, Bool.false_and, Bool.and_false]]
    exact RSame_10 (k.tos : Int) (q.tos : Int) (k.ident : Int) (q.ident : Int) k.whole q.whole k.more q.more k.off q.off (k.ttl : Int) (q.ttl : Int) (k.proto : Int) (q.proto : Int) (k.src : Int) (q.src : Int) (k.dst : Int) (q.dst : Int) k.opts q.opts k.data q.data  A B C D ca da cb db w (ho1.grow hg2) (hd1.grow hg2) (ho2.grow hg2) (hd2.grow hg2) hg2 h0 h1 h2 h3 h4 h5 h6 h7 h8 h9 h10
  rw [Bool.not_eq_false] at h10
  rw [show k.same q = true from by simp only [Pkt.same, h0, h1, h2, h3, h4, h5, h6, h7, h8, h9, h10, Bool.true_and, Bool.and_true]]
  exact RSame_11 (k.tos : Int) (q.tos : Int) (k.ident : Int) (q.ident : Int) k.whole q.whole k.more q.more k.off q.off (k.ttl : Int) (q.ttl : Int) (k.proto : Int) (q.proto : Int) (k.src : Int) (q.src : Int) (k.dst : Int) (q.dst : Int) k.opts q.opts k.data q.data  A B C D ca da cb db w (ho1.grow hg2) (hd1.grow hg2) (ho2.grow hg2) (hd2.grow hg2) hg2 h0 h1 h2 h3 h4 h5 h6 h7 h8 h9 h10

theorem Same_any (u v : Value) (k q : Pkt) (w : World) (hu : Ip w u k) (hv : Ip w v q) :
    Calls Try.prog 20 #[u, v] w fun e w' => e = .returned (.bool (k.same q)) ∧ Grow w w' := by
  obtain ⟨A, ca, B, da, rfl, ho1, hd1, hk⟩ := hu.form
  obtain ⟨C, cb, D, db, rfl, ho2, hd2, hq⟩ := hv.form
  have hg2 := (Grow.alloc w (.cells #[.int .u8 (k.tos : Int), .int .u16 (k.ident : Int), .bool k.whole, .bool k.more, .int .i64 k.off, .int .u8 (k.ttl : Int), .int .u8 (k.proto : Int), .int .u32 (k.src : Int), .int .u32 (k.dst : Int), .slice A k.opts.length ca, .slice B k.data.length da] 27)).trans (Grow.alloc _ (.cells #[.int .u8 (q.tos : Int), .int .u16 (q.ident : Int), .bool q.whole, .bool q.more, .int .i64 q.off, .int .u8 (q.ttl : Int), .int .u8 (q.proto : Int), .int .u32 (q.src : Int), .int .u32 (q.dst : Int), .slice C q.opts.length cb, .slice D q.data.length db] 27))
  by_cases h0 : ((k.tos : Int) == (q.tos : Int)) = false
  · rw [show k.same q = false from by simp only [Pkt.same, h0, Bool.true_and, Bool.and_true, Bool.false_and, Bool.and_false]]
    exact Same_0 (k.tos : Int) (q.tos : Int) (k.ident : Int) (q.ident : Int) k.whole q.whole k.more q.more k.off q.off (k.ttl : Int) (q.ttl : Int) (k.proto : Int) (q.proto : Int) (k.src : Int) (q.src : Int) (k.dst : Int) (q.dst : Int) k.opts q.opts k.data q.data  A B C D ca da cb db w (ho1.grow hg2) (hd1.grow hg2) (ho2.grow hg2) (hd2.grow hg2) hg2 h0
  rw [Bool.not_eq_false] at h0
  by_cases h1 : ((k.ident : Int) == (q.ident : Int)) = false
  · rw [show k.same q = false from by simp only [Pkt.same, h0, h1, Bool.true_and, Bool.and_true, Bool.false_and, Bool.and_false]]
    exact Same_1 (k.tos : Int) (q.tos : Int) (k.ident : Int) (q.ident : Int) k.whole q.whole k.more q.more k.off q.off (k.ttl : Int) (q.ttl : Int) (k.proto : Int) (q.proto : Int) (k.src : Int) (q.src : Int) (k.dst : Int) (q.dst : Int) k.opts q.opts k.data q.data  A B C D ca da cb db w (ho1.grow hg2) (hd1.grow hg2) (ho2.grow hg2) (hd2.grow hg2) hg2 h0 h1
  rw [Bool.not_eq_false] at h1
  by_cases h2 : (k.whole == q.whole) = false
  · rw [show k.same q = false from by simp only [Pkt.same, h0, h1, h2, Bool.true_and, Bool.and_true, Bool.false_and, Bool.and_false]]
    exact Same_2 (k.tos : Int) (q.tos : Int) (k.ident : Int) (q.ident : Int) k.whole q.whole k.more q.more k.off q.off (k.ttl : Int) (q.ttl : Int) (k.proto : Int) (q.proto : Int) (k.src : Int) (q.src : Int) (k.dst : Int) (q.dst : Int) k.opts q.opts k.data q.data  A B C D ca da cb db w (ho1.grow hg2) (hd1.grow hg2) (ho2.grow hg2) (hd2.grow hg2) hg2 h0 h1 h2
  rw [Bool.not_eq_false] at h2
  by_cases h3 : (k.more == q.more) = false
  · rw [show k.same q = false from by simp only [Pkt.same, h0, h1, h2, h3, Bool.true_and, Bool.and_true, Bool.false_and, Bool.and_false]]
    exact Same_3 (k.tos : Int) (q.tos : Int) (k.ident : Int) (q.ident : Int) k.whole q.whole k.more q.more k.off q.off (k.ttl : Int) (q.ttl : Int) (k.proto : Int) (q.proto : Int) (k.src : Int) (q.src : Int) (k.dst : Int) (q.dst : Int) k.opts q.opts k.data q.data  A B C D ca da cb db w (ho1.grow hg2) (hd1.grow hg2) (ho2.grow hg2) (hd2.grow hg2) hg2 h0 h1 h2 h3
  rw [Bool.not_eq_false] at h3
  by_cases h4 : (k.off == q.off) = false
  · rw [show k.same q = false from by simp only [Pkt.same, h0, h1, h2, h3, h4, Bool.true_and, Bool.and_true, Bool.false_and, Bool.and_false]]
    exact Same_4 (k.tos : Int) (q.tos : Int) (k.ident : Int) (q.ident : Int) k.whole q.whole k.more q.more k.off q.off (k.ttl : Int) (q.ttl : Int) (k.proto : Int) (q.proto : Int) (k.src : Int) (q.src : Int) (k.dst : Int) (q.dst : Int) k.opts q.opts k.data q.data  A B C D ca da cb db w (ho1.grow hg2) (hd1.grow hg2) (ho2.grow hg2) (hd2.grow hg2) hg2 h0 h1 h2 h3 h4
  rw [Bool.not_eq_false] at h4
  by_cases h5 : ((k.ttl : Int) == (q.ttl : Int)) = false
  · rw [show k.same q = false from by simp only [Pkt.same, h0, h1, h2, h3, h4, h5, Bool.true_and, Bool.and_true, Bool.false_and, Bool.and_false]]
    exact Same_5 (k.tos : Int) (q.tos : Int) (k.ident : Int) (q.ident : Int) k.whole q.whole k.more q.more k.off q.off (k.ttl : Int) (q.ttl : Int) (k.proto : Int) (q.proto : Int) (k.src : Int) (q.src : Int) (k.dst : Int) (q.dst : Int) k.opts q.opts k.data q.data  A B C D ca da cb db w (ho1.grow hg2) (hd1.grow hg2) (ho2.grow hg2) (hd2.grow hg2) hg2 h0 h1 h2 h3 h4 h5
  rw [Bool.not_eq_false] at h5
  by_cases h6 : ((k.proto : Int) == (q.proto : Int)) = false
  · rw [show k.same q = false from by simp only [Pkt.same, h0, h1, h2, h3, h4, h5, h6, Bool.true_and, Bool.and_true, Bool.false_and, Bool.and_false]]
    exact Same_6 (k.tos : Int) (q.tos : Int) (k.ident : Int) (q.ident : Int) k.whole q.whole k.more q.more k.off q.off (k.ttl : Int) (q.ttl : Int) (k.proto : Int) (q.proto : Int) (k.src : Int) (q.src : Int) (k.dst : Int) (q.dst : Int) k.opts q.opts k.data q.data  A B C D ca da cb db w (ho1.grow hg2) (hd1.grow hg2) (ho2.grow hg2) (hd2.grow hg2) hg2 h0 h1 h2 h3 h4 h5 h6
  rw [Bool.not_eq_false] at h6
  by_cases h7 : ((k.src : Int) == (q.src : Int)) = false
  · rw [show k.same q = false from by simp only [Pkt.same, h0, h1, h2, h3, h4, h5, h6, h7, Bool.true_and, Bool.and_true, Bool.false_and, Bool.and_false]]
    exact Same_7 (k.tos : Int) (q.tos : Int) (k.ident : Int) (q.ident : Int) k.whole q.whole k.more q.more k.off q.off (k.ttl : Int) (q.ttl : Int) (k.proto : Int) (q.proto : Int) (k.src : Int) (q.src : Int) (k.dst : Int) (q.dst : Int) k.opts q.opts k.data q.data  A B C D ca da cb db w (ho1.grow hg2) (hd1.grow hg2) (ho2.grow hg2) (hd2.grow hg2) hg2 h0 h1 h2 h3 h4 h5 h6 h7
  rw [Bool.not_eq_false] at h7
  by_cases h8 : ((k.dst : Int) == (q.dst : Int)) = false
  · rw [show k.same q = false from by simp only [Pkt.same, h0, h1, h2, h3, h4, h5, h6, h7, h8, Bool.true_and, Bool.and_true, Bool.false_and, Bool.and_false]]
    exact Same_8 (k.tos : Int) (q.tos : Int) (k.ident : Int) (q.ident : Int) k.whole q.whole k.more q.more k.off q.off (k.ttl : Int) (q.ttl : Int) (k.proto : Int) (q.proto : Int) (k.src : Int) (q.src : Int) (k.dst : Int) (q.dst : Int) k.opts q.opts k.data q.data  A B C D ca da cb db w (ho1.grow hg2) (hd1.grow hg2) (ho2.grow hg2) (hd2.grow hg2) hg2 h0 h1 h2 h3 h4 h5 h6 h7 h8
  rw [Bool.not_eq_false] at h8
  by_cases h9 : (k.opts == q.opts) = false
  · rw [show k.same q = false from by simp only [Pkt.same, h0, h1, h2, h3, h4, h5, h6, h7, h8, h9, Bool.true_and, Bool.and_true, Bool.false_and, Bool.and_false]]
    exact Same_9 (k.tos : Int) (q.tos : Int) (k.ident : Int) (q.ident : Int) k.whole q.whole k.more q.more k.off q.off (k.ttl : Int) (q.ttl : Int) (k.proto : Int) (q.proto : Int) (k.src : Int) (q.src : Int) (k.dst : Int) (q.dst : Int) k.opts q.opts k.data q.data  A B C D ca da cb db w (ho1.grow hg2) (hd1.grow hg2) (ho2.grow hg2) (hd2.grow hg2) hg2 h0 h1 h2 h3 h4 h5 h6 h7 h8 h9
  rw [Bool.not_eq_false] at h9
  by_cases h10 : (k.data == q.data) = false
  · rw [show k.same q = false from by simp only [Pkt.same, h0, h1, h2, h3, h4, h5, h6, h7, h8, h9, h10, Bool.true_and, Bool.and_true, Bool.false_and, Bool.and_false]]
    exact Same_10 (k.tos : Int) (q.tos : Int) (k.ident : Int) (q.ident : Int) k.whole q.whole k.more q.more k.off q.off (k.ttl : Int) (q.ttl : Int) (k.proto : Int) (q.proto : Int) (k.src : Int) (q.src : Int) (k.dst : Int) (q.dst : Int) k.opts q.opts k.data q.data  A B C D ca da cb db w (ho1.grow hg2) (hd1.grow hg2) (ho2.grow hg2) (hd2.grow hg2) hg2 h0 h1 h2 h3 h4 h5 h6 h7 h8 h9 h10
  rw [Bool.not_eq_false] at h10
  rw [show k.same q = true from by simp only [Pkt.same, h0, h1, h2, h3, h4, h5, h6, h7, h8, h9, h10, Bool.true_and, Bool.and_true]]
  exact Same_11 (k.tos : Int) (q.tos : Int) (k.ident : Int) (q.ident : Int) k.whole q.whole k.more q.more k.off q.off (k.ttl : Int) (q.ttl : Int) (k.proto : Int) (q.proto : Int) (k.src : Int) (q.src : Int) (k.dst : Int) (q.dst : Int) k.opts q.opts k.data q.data  A B C D ca da cb db w (ho1.grow hg2) (hd1.grow hg2) (ho2.grow hg2) (hd2.grow hg2) hg2 h0 h1 h2 h3 h4 h5 h6 h7 h8 h9 h10
end Go.Proofs.Ytmibeahofienjaa
