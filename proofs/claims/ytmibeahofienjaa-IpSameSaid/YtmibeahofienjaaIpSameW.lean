/- The walk of the law on packets that are the same. -/
import Derived.Test.YtmibeahofienjaaIpLive
import Derived.Test.YtmibeahofienjaaIpSameAll
namespace Go.Proofs.Ytmibeahofienjaa
set_option linter.unusedVariables false
set_option linter.unusedSimpArgs false
open Go.ChangeShapes Go.WideShapes Go.ChangeAt Go.RowKit

set_option maxHeartbeats 4000000 in
theorem ipSame_walk (w : World) {u v : Value} {k q : Pkt} (hu : Ip w u k) (hv : Ip w v q) :
    Calls Try.prog 7 #[u, v] w fun e w' => e = .returned (.bool true) ∧ Grow w w' := by
  obtain ⟨A, a, B, b, rfl, ho1, hd1, hk⟩ := hu.form
  obtain ⟨C, c, D, d, rfl, ho2, hd2, hq⟩ := hv.form
  obtain ⟨W1, hW1⟩ : ∃ W1, W1 = w.alloc (.cells #[.int .u8 (k.tos : Int), .int .u16 (k.ident : Int), .bool k.whole, .bool k.more, .int .i64 k.off, .int .u8 (k.ttl : Int), .int .u8 (k.proto : Int), .int .u32 (k.src : Int), .int .u32 (k.dst : Int), .slice A k.opts.length a, .slice B k.data.length b] 27) := ⟨_, rfl⟩
  obtain ⟨W2, hW2⟩ : ∃ W2, W2 = W1.alloc (.cells #[.int .u8 (q.tos : Int), .int .u16 (q.ident : Int), .bool q.whole, .bool q.more, .int .i64 q.off, .int .u8 (q.ttl : Int), .int .u8 (q.proto : Int), .int .u32 (q.src : Int), .int .u32 (q.dst : Int), .slice C q.opts.length c, .slice D q.data.length d] 27) := ⟨_, rfl⟩
  have hs1 : W1.heap.size = w.heap.size + 1 := by rw [hW1]; simp
  have hg1 : Grow w W1 := by rw [hW1]; exact Grow.alloc _ _
  have hg2 : Grow W1 W2 := by rw [hW2]; exact Grow.alloc _ _
  have hbx : Boxd W2 w.heap.size k (.slice A k.opts.length a) (.slice B k.data.length b) := Boxd.grow (w := W1) (by rw [hW1]; exact Boxd.new _ _ _ _) hg2
  have hby : Boxd W2 (w.heap.size + 1) q (.slice C q.opts.length c) (.slice D q.data.length d) := by rw [← hs1, hW2]; exact Boxd.new _ _ _ _
  have hu1 := hu.grow (hg1.trans hg2)
  have hv1 := hv.grow (hg1.trans hg2)
  go_enter Try.func7, Try.ntmps7
  go_wp2_with fail
  rw [← hW1, ← hW2]
  refine wp_region_loose (A := ?frame) (inList (isV (ipV k (.slice A k.opts.length a) (.slice B k.data.length b)) :: isV (ipV q (.slice C q.opts.length c) (.slice D q.data.length d)) :: isV (.bool (k.same q)) :: isV (ipV k (.slice A k.opts.length a) (.slice B k.data.length b)) :: isV (ipV q (.slice C q.opts.length c) (.slice D q.data.length d)) :: isV (.bool (k.same q)) :: isV (.bool true) :: isV (.bool true) :: isV (ipV k (.slice A k.opts.length a) (.slice B k.data.length b)) :: isV (ipV k (.slice A k.opts.length a) (.slice B k.data.length b)) :: isV (.bool true) :: isV (.bool true) :: isV (.bool true) :: isV (.bool true) :: isV (.bool true) :: isV (.bool true) :: [])) (by kernel_rfl) (by kernel_rfl) (inList_stays ?_) (fun x => ?frameEq) ?_ ?_
  case frameEq => go_simp; rfl
  · intro f hf
    simp only [List.mem_cons, List.not_mem_nil, or_false] at hf
    rcases hf with rfl | rfl | rfl | rfl | rfl | rfl | rfl | rfl | rfl | rfl | rfl | rfl | rfl | rfl | rfl | rfl <;> first | exact isV_stays _ | exact isB_stays _ | exact isBs_stays _
  · refine ⟨fun x w1 hg hd post hp => ?_, fun x w1 hg hd post hp => ?_, fun x w1 hg hd post hp => ?_, fun x w1 hg hd post hp => ?_, fun x w1 hg hd post hp => ?_, fun x w1 hg hd post hp => ?_, fun x w1 hg hd post hp => ?_, fun x w1 hg hd post hp => ?_, fun x w1 hg hd post hp => ?_, fun x w1 hg hd post hp => ?_, fun x w1 hg hd post hp => ?_, fun x w1 hg hd post hp => ?_, fun x w1 hg hd post hp => ?_, fun x w1 hg hd post hp => ?_, fun x w1 hg hd post hp => ?_, fun x w1 hg hd post hp => ?_, trivial⟩
    · -- 0: slot 5: Op.load 27 t2
      clear hd
      obtain ⟨d0, d1, d2, d3, d4, d5, d6, d7, d8, d9, d10⟩ := hbx.grow hg
      go_simp
      exact hp _ _ (Grow.refl _) rfl
    · -- 1: slot 6: Op.load 27 t3
      clear hd
      obtain ⟨d0, d1, d2, d3, d4, d5, d6, d7, d8, d9, d10⟩ := hby.grow hg
      go_simp
      exact hp _ _ (Grow.refl _) rfl
    · -- 2: slot 7: Op.call { value (Operand.func 20), args := #[t5, t6], argTypes := #[27, 27] }
      have h5 : x 5 = ipV k (.slice A k.opts.length a) (.slice B k.data.length b) := hd 0 (by decide) _ rfl
      have h6 : x 6 = ipV q (.slice C q.opts.length c) (.slice D q.data.length d) := hd 1 (by decide) _ rfl
      clear hd
      go_simp
      refine (Same_any _ _ k q _ (hu1.grow hg) (hv1.grow hg)).mono ?_
      rintro e w2 ⟨rfl, hg2⟩
      exact ⟨_, rfl, hp _ _ hg2 rfl⟩
    · -- 3: slot 8: Op.load 27 t2
      clear hd
      obtain ⟨d0, d1, d2, d3, d4, d5, d6, d7, d8, d9, d10⟩ := hbx.grow hg
      go_simp
      exact hp _ _ (Grow.refl _) rfl
    · -- 4: slot 9: Op.load 27 t3
      clear hd
      obtain ⟨d0, d1, d2, d3, d4, d5, d6, d7, d8, d9, d10⟩ := hby.grow hg
      go_simp
      exact hp _ _ (Grow.refl _) rfl
    · -- 5: slot 10: Op.call { value (Operand.func 19), args := #[t8, t9], argTypes := #[27, 27] }
      have h8 : x 8 = ipV k (.slice A k.opts.length a) (.slice B k.data.length b) := hd 3 (by decide) _ rfl
      have h9 : x 9 = ipV q (.slice C q.opts.length c) (.slice D q.data.length d) := hd 4 (by decide) _ rfl
      clear hd
      go_simp
      refine (RSame_any _ _ k q _ (hu1.grow hg) (hv1.grow hg)).mono ?_
      rintro e w2 ⟨rfl, hg2⟩
      exact ⟨_, rfl, hp _ _ hg2 rfl⟩
    · -- 6: slot 11: Op.binOp BinOp.eql 4 t7 t10 4
      have h7 : x 7 = .bool (k.same q) := hd 2 (by decide) _ rfl
      have h10 : x 10 = .bool (k.same q) := hd 5 (by decide) _ rfl
      clear hd
      go_simp
      exact hp _ _ (Grow.refl _) (by show Value.bool _ = Value.bool true; simp)
    · -- 7: slot 12: Op.move t11
      have h11 : x 11 = .bool true := hd 6 (by decide) _ rfl
      clear hd
      go_simp
      exact hp _ _ (Grow.refl _) rfl
    · -- 8: slot 13: Op.load 27 t2
      have h12 : x 12 = .bool true := hd 7 (by decide) _ rfl
      clear hd
      obtain ⟨d0, d1, d2, d3, d4, d5, d6, d7, d8, d9, d10⟩ := hbx.grow hg
      go_simp
      exact hp _ _ (Grow.refl _) rfl
    · -- 9: slot 14: Op.load 27 t2
      have h12 : x 12 = .bool true := hd 7 (by decide) _ rfl
      clear hd
      obtain ⟨d0, d1, d2, d3, d4, d5, d6, d7, d8, d9, d10⟩ := hbx.grow hg
      go_simp
      exact hp _ _ (Grow.refl _) rfl
    · -- 10: slot 15: Op.call { value (Operand.func 20), args := #[t13, t14], argTypes := #[27, 27] }
      have h13 : x 13 = ipV k (.slice A k.opts.length a) (.slice B k.data.length b) := hd 8 (by decide) _ rfl
      have h14 : x 14 = ipV k (.slice A k.opts.length a) (.slice B k.data.length b) := hd 9 (by decide) _ rfl
      have h12 : x 12 = .bool true := hd 7 (by decide) _ rfl
      clear hd
      go_simp
      refine (Same_any _ _ k k _ (hu1.grow hg) (hu1.grow hg)).mono ?_
      rw [(same_iff k k).2 rfl]
      rintro e w2 ⟨rfl, hg2⟩
      exact ⟨_, rfl, hp _ _ hg2 rfl⟩
    · -- 11: slot 16: Op.pick t12 t15 (const (Value.bool false))
      have h12 : x 12 = .bool true := hd 7 (by decide) _ rfl
      have h15 : x 15 = .bool true := hd 10 (by decide) _ rfl
      clear hd
      go_simp
      exact hp _ _ (Grow.refl _) rfl
    · -- 12: slot 17: Op.move t16
      have h16 : x 16 = .bool true := hd 11 (by decide) _ rfl
      clear hd
      go_simp
      exact hp _ _ (Grow.refl _) rfl
    · -- 13: slot 18: Op.call { value (Operand.func 10), args := #[], argTypes := #[] }
      have h17 : x 17 = .bool true := hd 12 (by decide) _ rfl
      clear hd
      go_simp
      refine (ipLive_any _).mono ?_
      rintro e w2 ⟨rfl, hg2⟩
      exact ⟨_, rfl, hp _ _ hg2 rfl⟩
    · -- 14: slot 19: Op.pick t17 t18 (const (Value.bool false))
      have h17 : x 17 = .bool true := hd 12 (by decide) _ rfl
      have h18 : x 18 = .bool true := hd 13 (by decide) _ rfl
      clear hd
      go_simp
      exact hp _ _ (Grow.refl _) rfl
    · -- 15: slot 4: Op.assign t19
      have h19 : x 19 = .bool true := hd 14 (by decide) _ rfl
      clear hd
      go_simp
      exact hp _ _ (Grow.refl _) rfl
  · intro x w1 hg hd
    have h4 : x 4 = .bool true := hd 15 _ rfl
    clear hd
    go_wp2
    go_ret
    exact ⟨by go_simp, (hg1.trans hg2).trans hg⟩
end Go.Proofs.Ytmibeahofienjaa
