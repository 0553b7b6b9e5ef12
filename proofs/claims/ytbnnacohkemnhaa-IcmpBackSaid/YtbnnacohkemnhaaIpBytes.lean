/- The document's own answer: a packet's bytes. -/
import Derived.Test.YtbnnacohkemnhaaIpBlk
import Derived.Test.YtbnnacohkemnhaaIpPutW
import Derived.Test.YtbnnacohkemnhaaWeave
namespace Go.Proofs.Ytbnnacohkemnhaa
set_option linter.unusedVariables false
set_option linter.unusedSimpArgs false
open Go.ChangeShapes Go.WideShapes Go.ChangeAt Go.RowKit

theorem upon_app (w₀ w : World) {ops : Array Oper} {o : Oper} {a : Act} {post : Value → World → Prop} (hgd : o.guard = none) (s x : Operand)
    (ho : o.op = .call { callee := .builtin .append, args := #[s, x], argTypes := #[23, 23] })
    (v u : Value) (l m : List UInt8) (hs : a.eval s = v) (hx : a.eval x = u) (hown : Own w w₀.heap.size v l) (hg : Grow w₀ w) (hr : Byt w u m) (hl : l.length + m.length ≤ 140737488355328)
    (h : ∀ v' w', Own w' w₀.heap.size v' (l ++ m) → Grow w₀ w' → post v' w') :
    if Region.wanted o (yielded ops a.tmps) = true then looseUpon Try.prog post ((execOp a.eval o).run Try.prog w) else post undef w := by
  have hw : Region.wanted o (yielded ops a.tmps) = true := by simp [Region.wanted, hgd]
  rw [if_pos hw]
  have f2 : (m.map bv).length = m.length := by simp
  have hb := hg.size
  have q : (l.map bv).length = l.length := by simp
  obtain ⟨v', w', hrun, h2, h3, h4⟩ := run_append_rd (P := Try.prog) w w₀.heap.size 23 o.type 5 (.int .u8 0) 1 Try.underlying23 infoByte rfl v (l.map bv) (by rw [q]; exact hown) u (m.map bv) hr (bv_one _) (by rw [q, f2]; omega) (by rw [q, f2]; unfold maxLen; omega) hb
  unfold execOp
  simp only [ho, resolve, invoke, builtin, Sem.run_bind, Sem.run_pure, Result.andThen_ok, List.map_toArray, List.map_cons, List.map_nil, hs, hx, hrun, looseUpon]
  refine h v' w' ?_ (hg.grown h3 hb fun k hk => own_block hown k hk)
  unfold Own
  rw [← List.map_append, List.length_map] at h2
  exact h2

theorem own26 (w : World) (k : Pkt) (k1 : k.tos < 256) : Own (w.alloc (.cells #[.int .u8 ((69 + (k.opts.length : Int) / 4) % 256), .int .u8 (k.tos : Int)] 5)) w.heap.size (.slice (some ⟨w.heap.size, 0, none⟩) 2 2) [UInt8.ofNat (69 + k.opts.length / 4), UInt8.ofNat k.tos] := by
  refine Own.lit w _ [UInt8.ofNat (69 + k.opts.length / 4), UInt8.ofNat k.tos] ?_ (by unfold maxLen; simp)
  simp only [bv, List.map_cons, List.map_nil, UInt8.toNat_ofNat', List.cons.injEq, Value.int.injEq, true_and, and_true]
  constructor <;> omega

theorem lit2 (w : World) (k : Pkt) (k3 : k.ttl < 256) (k4 : k.proto < 256) : Byt (w.alloc (.cells #[.int .u8 (k.ttl : Int), .int .u8 (k.proto : Int)] 5)) (.slice (some ⟨w.heap.size, 0, none⟩) 2 2) [UInt8.ofNat k.ttl, UInt8.ofNat k.proto] := by
  refine (Own.lit w _ [UInt8.ofNat k.ttl, UInt8.ofNat k.proto] ?_ (by unfold maxLen; simp)).byt
  simp only [bv, List.map_cons, List.map_nil, UInt8.toNat_ofNat', List.cons.injEq, Value.int.injEq, true_and, and_true]
  constructor <;> omega
theorem lit00 (w : World) : Byt (w.alloc (.cells #[.int .u8 0, .int .u8 0] 5)) (.slice (some ⟨w.heap.size, 0, none⟩) 2 2) [0, 0] := (Own.lit w #[.int .u8 0, .int .u8 0] [0, 0] rfl (by unfold maxLen; simp)).byt

set_option maxRecDepth 10000 in
set_option maxHeartbeats 8000000 in
theorem Bytes_any (v : Value) (k : Pkt) (w : World) (h : Ip w v k) (hsm : k.Small) (hc : k.check = 0) :
    Calls Try.prog 27 #[v] w fun e w' => ∃ u, e = .returned u ∧ Byt w' u k.bytes ∧ Grow w w' := by
  obtain ⟨o1, o2, o3, o4, o5⟩ := check_zero hc
  obtain ⟨A, c, B, d, rfl, ho, hd, hk⟩ := h.form
  obtain ⟨hs1, hs2⟩ := id hsm
  have k1 := hk.tos
  have k2 := hk.ident
  have k3 := hk.ttl
  have k4 := hk.proto
  have k5 := hk.src
  have k6 := hk.dst
  have k7 : 0 ≤ k.flag ∧ k.flag ≤ 24576 := by unfold Pkt.flag; cases k.whole <;> cases k.more <;> simp
  obtain ⟨k7, k8⟩ := k7
  obtain ⟨W1, hW1⟩ : ∃ W1, W1 = w.alloc (.cells #[.int .u8 (k.tos : Int), .int .u16 (k.ident : Int), .bool k.whole, .bool k.more, .int .i64 k.off, .int .u8 (k.ttl : Int), .int .u8 (k.proto : Int), .int .u32 (k.src : Int), .int .u32 (k.dst : Int), .slice A k.opts.length c, .slice B k.data.length d] 47) := ⟨_, rfl⟩
  have hg1 : Grow w W1 := by rw [hW1]; exact Grow.alloc w _
  have hB1 : Boxd W1 w.heap.size k (.slice A k.opts.length c) (.slice B k.data.length d) := by rw [hW1]; exact Boxd.new _ _ _ _
  have hs0 : W1.heap.size = w.heap.size + 1 := by rw [hW1]; simp
  have hip := h.grow hg1
  have l1 := ones_lt k.bare
  have e1 : (65535 : Int) - (ones k.bare : Int) = ((k.csum : Nat) : Int) := by unfold Pkt.csum; omega
  have hcs : k.csum ≤ 65535 := by unfold Pkt.csum; omega
  go_enter Try.func27, Try.ntmps27
  go_upto_if 11 with fail
  rw [← hW1]
  clear hW1
  obtain ⟨b0, b1, b2, b3, b4, b5, b6, b7, b8, b9, b10⟩ := id hB1
  go_cut [3] (fun s3 wx => s3 = .int .i64 (k.off + (if k.whole then 16384 else 0)) ∧ W1 = wx)
  case first =>
    go_wp2_with fail
    all_goals
      go_meet
      exact ⟨by simp [*], rfl⟩
  case rest =>
  obtain ⟨rfl, rfl⟩ := hcut
  have w1a : 0 ≤ (if k.whole = true then (16384 : Int) else 0) ∧ (if k.whole = true then (16384 : Int) else 0) ≤ 16384 := by split <;> decide
  obtain ⟨w1a, w1b⟩ := w1a
  have ef : k.flag = (if k.whole = true then (16384 : Int) else 0) + (if k.more = true then 8192 else 0) := rfl
  have EF := Lib.hid ef
  clear ef
  obtain ⟨fw, hfw⟩ : ∃ fw, fw = (if k.whole = true then (16384 : Int) else 0) := ⟨_, rfl⟩
  rw [← hfw] at w1a w1b EF ⊢
  clear hfw
  go_upto_if 15 with fail
  go_cut [3] (fun s3 wx => s3 = .int .i64 (k.off + k.flag) ∧ W1 = wx)
  case first =>
    go_wp2_with fail
    all_goals
      go_meet
      exact ⟨by have hEF := EF.out; simp [*] at hEF; rw [hEF]; try rw [Int.add_assoc], rfl⟩
  case rest =>
  obtain ⟨rfl, rfl⟩ := hcut
  clear EF w1a w1b
  have hbx := hB1
  go_wp2_with fail
  refine wp_region_phase (A := ?frame) (inList (isV (.pointer (some ⟨w.heap.size, 9, none⟩)) :: isV (.slice A k.opts.length c) :: isV (.int .i64 (k.opts.length : Int)) :: isV (.int .i64 ((k.opts.length : Int) / 4)) :: isV (.int .i64 (69 + (k.opts.length : Int) / 4)) :: isV (.int .u8 ((69 + (k.opts.length : Int) / 4) % 256)) :: isV (.pointer (some ⟨w.heap.size, 0, none⟩)) :: isV (.int .u8 (k.tos : Int)) :: (isO W1.heap.size [UInt8.ofNat (69 + k.opts.length / 4), UInt8.ofNat k.tos]) :: isV (ipV k (.slice A k.opts.length c) (.slice B k.data.length d)) :: isV (.int .i64 (k.len : Nat)) :: (isO W1.heap.size (two (k.len : Nat))) :: [])) 12 (by kernel_rfl) (by kernel_rfl) (by kernel_rfl) (inList_stays ?_) (fun x => ?frameEq) ?_ ?_
  case frameEq => go_simp; rfl
  · intro f hf
    simp only [List.mem_cons, List.not_mem_nil, or_false] at hf
    rcases hf with rfl | rfl | rfl | rfl | rfl | rfl | rfl | rfl | rfl | rfl | rfl | rfl <;> first | exact isV_stays _ | exact isB_stays _ | exact isBs_stays _ | exact isO_stays _
  · refine ⟨fun x w1 hg hd post hp => ?_, fun x w1 hg hd post hp => ?_, fun x w1 hg hd post hp => ?_, fun x w1 hg hd post hp => ?_, fun x w1 hg hd post hp => ?_, fun x w1 hg hd post hp => ?_, fun x w1 hg hd post hp => ?_, fun x w1 hg hd post hp => ?_, fun x w1 hg hd post hp => ?_, fun x w1 hg hd post hp => ?_, fun x w1 hg hd post hp => ?_, fun x w1 hg hd post hp => ?_, trivial⟩
    · -- 0: slot 18: Op.fieldAddr 27 t1 9
      clear hd
      go_simp
      exact hp _ _ (Grow.refl _) rfl
    · -- 1: slot 19: Op.load 25 t18
      have h18 : x 18 = .pointer (some ⟨w.heap.size, 9, none⟩) := hd 0 (by decide) _ rfl
      clear hd
      obtain ⟨d0, d1, d2, d3, d4, d5, d6, d7, d8, d9, d10⟩ := hB1.grow hg
      go_simp
      exact hp _ _ (Grow.refl _) rfl
    · -- 2: slot 20: Op.call { builtin len, args := #[t19], argTypes := #[25] }
      have h19 : x 19 = .slice A k.opts.length c := hd 1 (by decide) _ rfl
      clear hd
      go_simp
      exact hp _ _ (Grow.refl _) rfl
    · -- 3: slot 21: Op.binOp BinOp.quo 3 t20 (const (4:i64)) 3
      have h20 : x 20 = .int .i64 (k.opts.length : Int) := hd 2 (by decide) _ rfl
      clear hd
      have e21 : IntKind.i64.wrap ((k.opts.length : Int) / 4) = (k.opts.length : Int) / 4 := IntWalk.i64_in _ (by omega)
      go_simp
      exact hp _ _ (Grow.refl _) rfl
    · -- 4: slot 22: Op.binOp BinOp.add 3 (const (69:i64)) t21 3
      have h21 : x 21 = .int .i64 ((k.opts.length : Int) / 4) := hd 3 (by decide) _ rfl
      clear hd
      have e22 : IntKind.i64.wrap (69 + (k.opts.length : Int) / 4) = 69 + (k.opts.length : Int) / 4 := IntWalk.i64_in _ (by omega)
      go_simp
      exact hp _ _ (Grow.refl _) rfl
    · -- 5: slot 23: Op.convert 3 5 t22
      have h22 : x 22 = .int .i64 (69 + (k.opts.length : Int) / 4) := hd 4 (by decide) _ rfl
      clear hd
      go_simp
      exact hp _ _ (Grow.refl _) rfl
    · -- 6: slot 24: Op.fieldAddr 27 t1 0
      clear hd
      go_simp
      exact hp _ _ (Grow.refl _) rfl
    · -- 7: slot 25: Op.load 5 t24
      have h24 : x 24 = .pointer (some ⟨w.heap.size, 0, none⟩) := hd 6 (by decide) _ rfl
      clear hd
      obtain ⟨d0, d1, d2, d3, d4, d5, d6, d7, d8, d9, d10⟩ := hB1.grow hg
      go_simp
      exact hp _ _ (Grow.refl _) rfl
    · -- 8: slot 26: Op.buildSlice 25 2 #[(0, t23), (1, t25)]
      have h23 : x 23 = .int .u8 ((69 + (k.opts.length : Int) / 4) % 256) := hd 5 (by decide) _ rfl
      have h25 : x 25 = .int .u8 (k.tos : Int) := hd 7 (by decide) _ rfl
      clear hd
      have hz := hg.size
      have ho1 := own26 w1 k k1
      go_simp
      exact hp _ _ (Grow.alloc _ _) (Own.base ho1 hz)
    · -- 9: slot 27: Op.load 27 t1
      clear hd
      obtain ⟨d0, d1, d2, d3, d4, d5, d6, d7, d8, d9, d10⟩ := hB1.grow hg
      go_simp
      exact hp _ _ (Grow.refl _) rfl
    · -- 10: slot 28: Op.call { value (Operand.func 16), args := #[t27], argTypes := #[27] }
      have h27 : x 27 = ipV k (.slice A k.opts.length c) (.slice B k.data.length d) := hd 9 (by decide) _ rfl
      clear hd
      go_simp
      refine (RLen_any _ k _ (hip.grow hg) hsm).mono ?_
      rintro e w2 ⟨rfl, hg2⟩
      exact ⟨_, rfl, hp _ _ hg2 rfl⟩
    · -- 11: slot 29: Op.call { value (Operand.func 31), args := #[t28], argTypes := #[3] }
      have h28 : x 28 = .int .i64 (k.len : Nat) := hd 10 (by decide) _ rfl
      clear hd
      have hz := hg.size
      go_simp
      refine (Two_any _ _ (by omega) (by omega)).mono ?_
      rintro e w2 ⟨u, rfl, ho, hg2⟩
      exact ⟨_, rfl, hp _ _ hg2 (Own.base ho hz)⟩
  · intro x w1 hg hd
    have h26 : (isO W1.heap.size [UInt8.ofNat (69 + k.opts.length / 4), UInt8.ofNat k.tos]) (x 26) w1 := hd 8 _ (by decide) rfl
    have h29 : (isO W1.heap.size (two (k.len : Nat))) (x 29) w1 := hd 11 _ (by decide) rfl
    clear hd
    have g0 : Grow W1 W1 := Grow.refl _
    simp only [List.drop_succ_cons, List.drop_zero]
    have hBw := hB1.grow hg
    obtain ⟨c0, c1, c2, c3, c4, c5, c6, c7, c8, c9, c10⟩ := id hBw
    go_wp2_with (at_builtin; refine wpList_app W1 w1 rfl (.tmp 26) (.tmp 29) rfl (x 26) (x 29) _ _ rfl rfl h26 hg (Own.byt h29) (by simp [two_length]) ?_; intro v2 w2 ho2 hg2; obtain ⟨c0, c1, c2, c3, c4, c5, c6, c7, c8, c9, c10⟩ := hB1.grow hg2)
    refine (Two_any _ _ (by omega) (by omega)).mono ?_
    rintro e w3 ⟨v3, rfl, ho3, hg3⟩
    have f3 : ([UInt8.ofNat (69 + k.opts.length / 4), UInt8.ofNat k.tos] ++ two (k.len : Nat)).length + (two (k.ident : Nat)).length ≤ 140737488355328 := by simp [two_length]
    have p3 := ho2.grow hg3
    have g3 := hg2.trans hg3
    have q3 := ho3.byt
    clear ho2 ho3
    go_wp2_with (at_builtin; refine wpList_app W1 w3 rfl _ _ rfl v2 v3 _ _ rfl rfl p3 g3 q3 f3 ?_; intro v4 w4 ho4 hg4; clear p3 q3)
    refine (Two_any _ _ (by omega) (by omega)).mono ?_
    rintro e w5 ⟨v5, rfl, ho5, hg5⟩
    obtain ⟨M2, hM2⟩ : ∃ M2, M2 = [UInt8.ofNat (69 + k.opts.length / 4), UInt8.ofNat k.tos] ++ two (k.len : Nat) ++ two (k.ident : Nat) := ⟨_, rfl⟩
    rw [← hM2] at ho4
    have m2 : M2.length = 6 := by rw [hM2]; rfl
    have f5 : M2.length + (two (k.off + k.flag)).length ≤ 140737488355328 := by rw [two_length]; omega
    have p5 := ho4.grow hg5
    have g5 := hg4.trans hg5
    have q5 := ho5.byt
    clear ho4 ho5
    obtain ⟨M3, hM3⟩ : ∃ M3, M3 = M2 ++ two (k.off + k.flag) := ⟨_, rfl⟩
    have m3 : M3.length = 8 := by rw [hM3, List.length_append, m2, two_length]
    have f6 : M3.length + [UInt8.ofNat k.ttl, UInt8.ofNat k.proto].length ≤ 140737488355328 := by rw [m3]; simp
    go_wp2_with (first | (at_builtin; refine wpList_app W1 w5 rfl _ _ rfl v4 v5 _ _ rfl rfl p5 g5 q5 f5 ?_; rw [← hM3]; intro v6 w6 ho6 hg6; obtain ⟨c0, c1, c2, c3, c4, c5, c6, c7, c8, c9, c10⟩ := hB1.grow hg6; clear p5 q5) | (at_builtin; refine wpList_app W1 _ rfl _ _ rfl v6 _ M3 _ rfl rfl (ho6.grow (Grow.alloc _ _)) (hg6.trans (Grow.alloc _ _)) (lit2 w6 k k3 k4) f6 ?_; intro v8 w8 ho8 hg8; clear ho6))
    have ep : M3 ++ [UInt8.ofNat k.ttl, UInt8.ofNat k.proto] = k.pre := by rw [hM3, hM2]; rfl
    rw [ep] at ho8
    have hB8 := hB1.grow hg8
    have ho8s := ho.grow (hg1.trans hg8)
    refine wp_region_weave (A := ?frame9) [2, 5, 6, 9, 10] (fun q => Grow w8 q) (inVals (isW (.pointer (some ⟨w.heap.size, 7, none⟩)) :: isW (.int .u32 (k.src : Int)) :: isAll :: isW (.pointer (some ⟨w.heap.size, 8, none⟩)) :: isW (.int .u32 (k.dst : Int)) :: isAll :: isAll :: isW (.pointer (some ⟨w.heap.size, 9, none⟩)) :: isW (.slice A k.opts.length c) :: isAll :: isAll :: [])) (fun j vs q => match j, vs with | 0, [] => True | 1, [v1] => Own q w8.heap.size v1 (dig k.src 4) | 2, [v1, v2] => Own q w8.heap.size v1 (dig k.src 4) ∧ Own q w8.heap.size v2 (dig k.dst 4) | 3, [_, _, v3] => Own q w8.heap.size v3 (dig k.src 4 ++ dig k.dst 4) | 4, [_, _, _, v4] => Own q w8.heap.size v4 k.post | 5, [_, _, _, _, v5] => Own q w8.heap.size v5 k.post | _, _ => False) (by kernel_rfl) (by kernel_rfl) (by kernel_rfl) (by kernel_rfl) (fun y => ?frameEq9) (Grow.drew w8) trivial ?_ ?_ ?_
    case frameEq9 => go_simp; rfl
    · refine ⟨fun _ y wy hI hd post hp => ?_, fun _ y wy hI hd post hp => ?_, fun hn => absurd hn (by decide), fun _ y wy hI hd post hp => ?_, fun _ y wy hI hd post hp => ?_, fun hn => absurd hn (by decide), fun hn => absurd hn (by decide), fun _ y wy hI hd post hp => ?_, fun _ y wy hI hd post hp => ?_, fun hn => absurd hn (by decide), fun hn => absurd hn (by decide), trivial⟩
      · -- 0: slot 47: Op.fieldAddr 27 t1 7
        clear hd
        go_simp
        exact hp _ rfl
      · -- 1: slot 48: Op.load 24 t47
        have h47 : y 47 = .pointer (some ⟨w.heap.size, 7, none⟩) := hd 0 (by decide) (by decide) _ rfl
        clear hd
        obtain ⟨d0, d1, d2, d3, d4, d5, d6, d7, d8, d9, d10⟩ := hB8.grow hI
        go_simp
        exact hp _ rfl
      · -- 3: slot 50: Op.fieldAddr 27 t1 8
        clear hd
        go_simp
        exact hp _ rfl
      · -- 4: slot 51: Op.load 24 t50
        have h50 : y 50 = .pointer (some ⟨w.heap.size, 8, none⟩) := hd 3 (by decide) (by decide) _ rfl
        clear hd
        obtain ⟨d0, d1, d2, d3, d4, d5, d6, d7, d8, d9, d10⟩ := hB8.grow hI
        go_simp
        exact hp _ rfl
      · -- 7: slot 54: Op.fieldAddr 27 t1 9
        clear hd
        go_simp
        exact hp _ rfl
      · -- 8: slot 55: Op.load 25 t54
        have h54 : y 54 = .pointer (some ⟨w.heap.size, 9, none⟩) := hd 7 (by decide) (by decide) _ rfl
        clear hd
        obtain ⟨d0, d1, d2, d3, d4, d5, d6, d7, d8, d9, d10⟩ := hB8.grow hI
        go_simp
        exact hp _ rfl
    · refine ⟨fun y wy hI hd hs post hp => ?_, fun y wy hI hd hs post hp => ?_, fun y wy hI hd hs post hp => ?_, fun y wy hI hd hs post hp => ?_, fun y wy hI hd hs post hp => ?_, trivial⟩
      · -- 2: slot 49: Op.call { value (Operand.func 32), args := #[t48], argTypes := #[23] }
        have h48 : y 48 = .int .u32 (k.src : Int) := hd 1 (by decide) (by decide) _ rfl
        clear hd
        go_simp
        refine (Four_any k.src _ k5).mono ?_
        rintro e w2 ⟨u, rfl, ho, hg2⟩
        exact ⟨_, rfl, hp _ _ (hI.trans hg2) (Own.base ho hI.size)⟩
      · -- 5: slot 52: Op.call { value (Operand.func 32), args := #[t51], argTypes := #[23] }
        have h51 : y 51 = .int .u32 (k.dst : Int) := hd 4 (by decide) (by decide) _ rfl
        clear hd
        have s1 : Own wy w8.heap.size (y 49) (dig k.src 4) := hs
        go_simp
        refine (Four_any k.dst _ k6).mono ?_
        rintro e w2 ⟨u, rfl, ho, hg2⟩
        exact ⟨_, rfl, hp _ _ (hI.trans hg2) ⟨s1.grow hg2, Own.base ho hI.size⟩⟩
      · -- 6: slot 53: Op.call { builtin append, args := #[t49, t52], argTypes := #[25, 25] }
        clear hd
        obtain ⟨s1, s2⟩ : Own wy w8.heap.size (y 49) (dig k.src 4) ∧ Own wy w8.heap.size (y 52) (dig k.dst 4) := hs
        exact upon_app w8 wy rfl (.tmp 49) (.tmp 52) rfl (y 49) (y 52) _ _ rfl rfl s1 hI s2.byt (by simp [dig_length]) fun v' w' h1 h2 => hp v' w' h2 h1
      · -- 9: slot 56: Op.call { builtin append, args := #[t53, t55], argTypes := #[25, 25] }
        have h55 : y 55 = .slice A k.opts.length c := hd 8 (by decide) (by decide) _ rfl
        clear hd
        have s3 : Own wy w8.heap.size (y 53) (dig k.src 4 ++ dig k.dst 4) := hs
        exact upon_app w8 wy rfl (.tmp 53) (.tmp 55) rfl (y 53) _ _ _ rfl h55 s3 hI (ho8s.grow hI) (by simp [dig_length]; omega) fun v' w' h1 h2 => hp v' w' h2 h1
      · -- 10: slot 5: Op.assign t56
        clear hd
        have s4 : Own wy w8.heap.size (y 56) k.post := hs
        go_simp
        exact hp _ _ hI s4
    · intro y wy hI hd hs
      have h5 : Own wy w8.heap.size (y 5) k.post := hs
      clear hd hs
      have hbf := ho8.byt.grow hI
      have hb5 := h5.byt
      have n1 : ([] : List UInt8).length + k.pre.length ≤ 140737488355328 := by simp [pre_length]
      have n2 : k.pre.length + ([0, 0] : List UInt8).length ≤ 140737488355328 := by simp [pre_length]
      have n3 : (k.pre ++ [0, 0]).length + k.post.length ≤ 140737488355328 := by simp [pre_length, post_length]; omega
      go_wp2_with (first | (at_builtin; refine wpList_app wy _ rfl (.tmp 57) (.tmp 58) rfl _ v8 [] _ rfl rfl (Own.empty wy) (Grow.alloc _ _) (hbf.grow (Grow.alloc _ _)) n1 ?_; rw [List.nil_append]; intro a1 q1 hoa1 hga1) | (at_builtin; refine wpList_app wy _ rfl (.tmp 59) (.tmp 60) rfl a1 _ k.pre _ rfl rfl (hoa1.grow (Grow.alloc _ _)) (hga1.trans (Grow.alloc _ _)) (lit00 q1) n2 ?_; intro a2 q2 hoa2 hga2; clear hoa1) | (at_builtin; refine wpList_app wy q2 rfl (.tmp 61) (.tmp 62) rfl a2 (y 5) _ _ rfl rfl hoa2 hga2 (hb5.grow hga2) n3 ?_; intro a3 q3 hoa3 hga3; clear hoa2))
      have eb : k.pre ++ [0, 0] ++ k.post = k.bare := rfl
      rw [eb] at hoa3
      refine (RSum_any _ k.bare _ hoa3.byt (by rw [bare_length]; omega)).mono ?_
      rintro e w' ⟨rfl, rfl⟩
      go_wp2_with fail
      refine (Two_any _ _ (by omega) (by omega)).mono ?_
      rintro e w11 ⟨v11, rfl, ho11, hg11⟩
      have gy := hg8.trans (hI.trans (hga3.trans hg11))
      have hB11 := hB1.grow gy
      have hd11 := hd.grow (hg1.trans gy)
      have hbf := hbf.grow (hga3.trans hg11)
      have hbl := hb5.grow (hga3.trans hg11)
      have hbc := ho11.byt
      go_wp2_with fail
      refine wp_region_weave (A := ?frame12) [0, 2, 4, 6, 9, 10] (fun q => Grow w11 q) (inVals (isAll :: isW (v8) :: isAll :: isW (v11) :: isAll :: isW (y 5) :: isAll :: isW (.pointer (some ⟨w.heap.size, 10, none⟩)) :: isW (.slice B k.data.length d) :: isAll :: isAll :: [])) (fun j vs q => match j, vs with | 0, [] => True | 1, [v1] => Own q w11.heap.size v1 [] | 2, [_, v2] => Own q w11.heap.size v2 k.pre | 3, [_, _, v3] => Own q w11.heap.size v3 (k.pre ++ two (k.csum : Nat)) | 4, [_, _, _, v4] => Own q w11.heap.size v4 k.head | 5, [_, _, _, _, v5] => Own q w11.heap.size v5 k.bytes | 6, [_, _, _, _, _, v6] => Own q w11.heap.size v6 k.bytes | _, _ => False) (by kernel_rfl) (by kernel_rfl) (by kernel_rfl) (by kernel_rfl) (fun z => ?frameEq12) (Grow.drew w11) trivial ?_ ?_ ?_
      case frameEq12 => go_simp; rfl
      · refine ⟨fun hn => absurd hn (by decide), fun _ z wz hI hd post hp => ?_, fun hn => absurd hn (by decide), fun _ z wz hI hd post hp => ?_, fun hn => absurd hn (by decide), fun _ z wz hI hd post hp => ?_, fun hn => absurd hn (by decide), fun _ z wz hI hd post hp => ?_, fun _ z wz hI hd post hp => ?_, fun hn => absurd hn (by decide), fun hn => absurd hn (by decide), trivial⟩
        · -- 1: slot 69: Op.move t4
          clear hd
          go_simp
          exact hp _ rfl
        · -- 3: slot 71: Op.move t7
          clear hd
          go_simp
          exact hp _ rfl
        · -- 5: slot 73: Op.move t5
          clear hd
          go_simp
          exact hp _ rfl
        · -- 7: slot 75: Op.fieldAddr 27 t1 10
          clear hd
          go_simp
          exact hp _ rfl
        · -- 8: slot 76: Op.load 25 t75
          have h75 : z 75 = .pointer (some ⟨w.heap.size, 10, none⟩) := hd 7 (by decide) (by decide) _ rfl
          clear hd
          obtain ⟨d0, d1, d2, d3, d4, d5, d6, d7, d8, d9, d10⟩ := hB11.grow hI
          go_simp
          exact hp _ rfl
      · refine ⟨fun z wz hI hd hs post hp => ?_, fun z wz hI hd hs post hp => ?_, fun z wz hI hd hs post hp => ?_, fun z wz hI hd hs post hp => ?_, fun z wz hI hd hs post hp => ?_, fun z wz hI hd hs post hp => ?_, trivial⟩
        · -- 0: slot 68: Op.buildSlice 25 0 #[]
          clear hd
          go_simp
          exact hp _ _ (hI.trans (Grow.alloc _ _)) (Own.base (Own.empty wz) hI.size)
        · -- 2: slot 70: Op.call { builtin append, args := #[t68, t69], argTypes := #[25, 25] }
          have h69 : z 69 = v8 := hd 1 (by decide) (by decide) _ rfl
          clear hd
          have s1 : Own wz w11.heap.size (z 68) [] := hs
          exact upon_app w11 wz rfl (.tmp 68) (.tmp 69) rfl (z 68) _ _ _ rfl h69 s1 hI (hbf.grow hI) (by simp [pre_length]) fun v' w' h1 h2 => hp v' w' h2 h1
        · -- 4: slot 72: Op.call { builtin append, args := #[t70, t71], argTypes := #[25, 25] }
          have h71 : z 71 = v11 := hd 3 (by decide) (by decide) _ rfl
          clear hd
          have s2 : Own wz w11.heap.size (z 70) k.pre := hs
          exact upon_app w11 wz rfl (.tmp 70) (.tmp 71) rfl (z 70) _ _ _ rfl h71 s2 hI (hbc.grow hI) (by simp [pre_length, two_length]) fun v' w' h1 h2 => hp v' w' h2 h1
        · -- 6: slot 74: Op.call { builtin append, args := #[t72, t73], argTypes := #[25, 25] }
          have h73 : z 73 = y 5 := hd 5 (by decide) (by decide) _ rfl
          clear hd
          have s3 : Own wz w11.heap.size (z 72) (k.pre ++ two (k.csum : Nat)) := hs
          exact upon_app w11 wz rfl (.tmp 72) (.tmp 73) rfl (z 72) _ _ _ rfl h73 s3 hI (hbl.grow hI) (by simp [pre_length, two_length, post_length]; omega) fun v' w' h1 h2 => hp v' w' h2 h1
        · -- 9: slot 77: Op.call { builtin append, args := #[t74, t76], argTypes := #[25, 25] }
          have h76 : z 76 = .slice B k.data.length d := hd 8 (by decide) (by decide) _ rfl
          clear hd
          have s4 : Own wz w11.heap.size (z 74) k.head := hs
          exact upon_app w11 wz rfl (.tmp 74) (.tmp 76) rfl (z 74) _ _ _ rfl h76 s4 hI (hd11.grow hI) (by simp [head_length]; omega) fun v' w' h1 h2 => hp v' w' h2 h1
        · -- 10: slot 2: Op.assign t77
          clear hd
          have s5 : Own wz w11.heap.size (z 77) k.bytes := hs
          go_simp
          exact hp _ _ hI s5
      · intro z wz hI hd hs
        have h2 : Own wz w11.heap.size (z 2) k.bytes := hs
        clear hd hs
        go_wp2_with fail
        go_ret
        exact ⟨_, rfl, h2.byt, (hg1.trans gy).trans hI⟩
end Go.Proofs.Ytbnnacohkemnhaa
