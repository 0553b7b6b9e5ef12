/- The walk of the law on packets as bytes. -/
import Derived.Test.YtmibeahofienjaaIpLive
import Derived.Test.YtmibeahofienjaaIpGet
import Derived.Test.YtmibeahofienjaaIpBytes
import Derived.Test.YtmibeahofienjaaIpSameZ
import Derived.Test.YtmibeahofienjaaIpPure
namespace Go.Proofs.Ytmibeahofienjaa
set_option linter.unusedVariables false
set_option linter.unusedSimpArgs false
open Go.ChangeShapes Go.WideShapes Go.ChangeAt Go.RowKit

theorem Put_any (v : Value) (k : Pkt) (w : World) (h : Ip w v k) (hs : k.Small) :
    Calls Try.prog 11 #[v] w fun e w' => ∃ u, e = .returned (.tuple #[u, .int .i64 k.check]) ∧ (k.check = 0 → Own w' w.heap.size u k.bytes) ∧ (k.check ≠ 0 → u = .slice none 0 0) ∧ Grow w w' := by
  by_cases hc : k.check = 0
  · refine (Put_good v k w h hs hc).mono ?_
    rw [hc]
    rintro e w' ⟨u, rfl, ho, hg⟩
    exact ⟨u, rfl, fun _ => ho, fun h' => absurd rfl h', hg⟩
  · refine (Put_bad v k w h hs hc).mono ?_
    rintro e w' ⟨rfl, hg⟩
    exact ⟨_, rfl, fun h' => absurd h' hc, fun _ => rfl, hg⟩

set_option maxRecDepth 10000 in
set_option maxHeartbeats 8000000 in
theorem ipPuts_walk (w : World) {v : Value} {k : Pkt} (h : Ip w v k) {vm : Value} {m : List UInt8} (hm : Byt w vm m) (hml0 : m.length ≤ 140737488351232) :
    Calls Try.prog 3 #[v, vm] w fun e w' => e = .returned (.bool true) ∧ Grow w w' := by
  obtain ⟨A, c, B, d, rfl, ho, hd, hk⟩ := h.form
  obtain ⟨M, cm, rfl, hmc, hmm⟩ := hm.form
  obtain ⟨W1, hW1⟩ : ∃ W1, W1 = w.alloc (.cells #[.int .u8 (k.tos : Int), .int .u16 (k.ident : Int), .bool k.whole, .bool k.more, .int .i64 k.off, .int .u8 (k.ttl : Int), .int .u8 (k.proto : Int), .int .u32 (k.src : Int), .int .u32 (k.dst : Int), .slice A k.opts.length c, .slice B k.data.length d] 27) := ⟨_, rfl⟩
  have hg1 : Grow w W1 := by rw [hW1]; exact Grow.alloc w _
  have hB1 : Boxd W1 w.heap.size k (.slice A k.opts.length c) (.slice B k.data.length d) := by rw [hW1]; exact Boxd.new _ _ _ _
  have hip := h.grow hg1
  go_enter Try.func3, Try.ntmps3
  go_wp2_with fail
  rw [← hW1]
  clear hW1
  refine (Long_any _ k _ hip).mono ?_
  rintro e w2 ⟨rfl, hg2⟩
  have hg02 := hg1.trans hg2
  by_cases hL : 100 < k.opts.length ∨ 70000 < k.data.length
  · rw [decide_eq_true hL]
    go_wp2_with fail
    refine (ipLive_any _).mono ?_
    rintro e wl ⟨rfl, hgl⟩
    go_wp2_with fail
    go_ret
    exact ⟨rfl, hg02.trans hgl⟩
  rw [decide_eq_false hL]
  by_cases hml : 1000 < m.length
  · go_wp2_with fail
    refine (ipLive_any _).mono ?_
    rintro e wl ⟨rfl, hgl⟩
    go_wp2_with fail
    go_ret
    exact ⟨rfl, hg02.trans hgl⟩
  have hsm : k.Small := ⟨by omega, by omega⟩
  have hcc : 0 ≤ k.check ∧ k.check ≤ 9 := by rcases check_code k with e | e | e <;> rw [e] <;> decide
  obtain ⟨cc1, cc2⟩ := hcc
  obtain ⟨b0, b1, b2, b3, b4, b5, b6, b7, b8, b9, b10⟩ := hB1.grow hg2
  go_wp2_with fail
  refine (Put_any _ k _ (hip.grow hg2) hsm).mono ?_
  rintro e w3 ⟨u, rfl, hu1, hu2, hg3⟩
  have hg13 := hg2.trans hg3
  clear b0 b1 b2 b3 b4 b5 b6 b7 b8 b9 b10
  obtain ⟨b0, b1, b2, b3, b4, b5, b6, b7, b8, b9, b10⟩ := hB1.grow hg13
  go_wp2_with fail
  refine (RCheck_ip _ k _ (hip.grow hg13) hsm).mono ?_
  rintro e w4 ⟨rfl, hg4⟩
  have hg14 := hg13.trans hg4
  clear b0 b1 b2 b3 b4 b5 b6 b7 b8 b9 b10
  have hB4 := hB1.grow hg14
  have hip4 := hip.grow hg14
  go_wp2_with fail
  refine wp_region_loose (A := ?frame5) (inList (isV (.int .i64 k.check) :: isV (.int .i64 k.check) :: isV (.int .i64 k.check) :: isV (.bool false) :: isV (.bool false) :: isV (ipV k (.slice A k.opts.length c) (.slice B k.data.length d)) :: isV (.int .i64 k.check) :: isV (.int .i64 k.check) :: isV (.int .i64 k.check) :: isV (.bool false) :: isV (.bool false) :: isV (.bool false) :: isV (ipV k (.slice A k.opts.length c) (.slice B k.data.length d)) :: isV (.int .i64 (k.len : Nat)) :: isV (ipV k (.slice A k.opts.length c) (.slice B k.data.length d)) :: isV (.int .i64 (k.len : Nat)) :: isV (.bool false) :: isV (.bool false) :: [])) (by kernel_rfl) (by kernel_rfl) (inList_stays ?_) (fun x => ?frameEq5) ?_ ?_
  case frameEq5 => go_simp; rfl
  · intro f hf
    simp only [List.mem_cons, List.not_mem_nil, or_false] at hf
    rcases hf with rfl | rfl | rfl | rfl | rfl | rfl | rfl | rfl | rfl | rfl | rfl | rfl | rfl | rfl | rfl | rfl | rfl | rfl <;> first | exact isV_stays _ | exact isB_stays _ | exact isBs_stays _
  · refine ⟨fun x w1 hg hd post hp => ?_, fun x w1 hg hd post hp => ?_, fun x w1 hg hd post hp => ?_, fun x w1 hg hd post hp => ?_, fun x w1 hg hd post hp => ?_, fun x w1 hg hd post hp => ?_, fun x w1 hg hd post hp => ?_, fun x w1 hg hd post hp => ?_, fun x w1 hg hd post hp => ?_, fun x w1 hg hd post hp => ?_, fun x w1 hg hd post hp => ?_, fun x w1 hg hd post hp => ?_, fun x w1 hg hd post hp => ?_, fun x w1 hg hd post hp => ?_, fun x w1 hg hd post hp => ?_, fun x w1 hg hd post hp => ?_, fun x w1 hg hd post hp => ?_, fun x w1 hg hd post hp => ?_, trivial⟩
    · -- 0: slot 25: Op.move t6
      clear hd
      go_simp
      exact hp _ _ (Grow.refl _) rfl
    · -- 1: slot 26: Op.call { value (Operand.func 13), args := #[t25], argTypes := #[30] }
      have h25 : x 25 = .int .i64 k.check := hd 0 (by decide) _ rfl
      clear hd
      go_simp
      refine (code_any _ _ (by omega) (by omega)).mono ?_
      rintro e w' ⟨rfl, rfl⟩
      exact ⟨_, rfl, hp _ _ (Grow.refl _) rfl⟩
    · -- 2: slot 27: Op.move t7
      clear hd
      go_simp
      exact hp _ _ (Grow.refl _) rfl
    · -- 3: slot 28: Op.binOp BinOp.neq 3 t26 t27 3
      have h26 : x 26 = .int .i64 k.check := hd 1 (by decide) _ rfl
      have h27 : x 27 = .int .i64 k.check := hd 2 (by decide) _ rfl
      clear hd
      go_simp
      exact hp _ _ (Grow.refl _) rfl
    · -- 4: slot 29: Op.move t28
      have h28 : x 28 = .bool false := hd 3 (by decide) _ rfl
      clear hd
      go_simp
      exact hp _ _ (Grow.refl _) rfl
    · -- 5: slot 30: Op.load 27 t2
      have h29 : x 29 = .bool false := hd 4 (by decide) _ rfl
      clear hd
      obtain ⟨d0, d1, d2, d3, d4, d5, d6, d7, d8, d9, d10⟩ := hB4.grow hg
      go_simp
      exact hp _ _ (Grow.refl _) rfl
    · -- 6: slot 31: Op.call { value (Operand.func 14), args := #[t30], argTypes := #[27] }
      have h30 : x 30 = ipV k (.slice A k.opts.length c) (.slice B k.data.length d) := hd 5 (by decide) _ rfl
      have h29 : x 29 = .bool false := hd 4 (by decide) _ rfl
      clear hd
      go_simp
      refine (Check_ip _ k _ (hip4.grow hg) hsm).mono ?_
      rintro e w2 ⟨rfl, hg2⟩
      exact ⟨_, rfl, hp _ _ hg2 rfl⟩
    · -- 7: slot 32: Op.call { value (Operand.func 13), args := #[t31], argTypes := #[30] }
      have h31 : x 31 = .int .i64 k.check := hd 6 (by decide) _ rfl
      have h29 : x 29 = .bool false := hd 4 (by decide) _ rfl
      clear hd
      go_simp
      refine (code_any _ _ (by omega) (by omega)).mono ?_
      rintro e w' ⟨rfl, rfl⟩
      exact ⟨_, rfl, hp _ _ (Grow.refl _) rfl⟩
    · -- 8: slot 33: Op.move t7
      have h29 : x 29 = .bool false := hd 4 (by decide) _ rfl
      clear hd
      go_simp
      exact hp _ _ (Grow.refl _) rfl
    · -- 9: slot 34: Op.binOp BinOp.neq 3 t32 t33 3
      have h32 : x 32 = .int .i64 k.check := hd 7 (by decide) _ rfl
      have h33 : x 33 = .int .i64 k.check := hd 8 (by decide) _ rfl
      have h29 : x 29 = .bool false := hd 4 (by decide) _ rfl
      clear hd
      go_simp
      exact hp _ _ (Grow.refl _) rfl
    · -- 10: slot 35: Op.pick t29 (const (Value.bool true)) t34
      have h29 : x 29 = .bool false := hd 4 (by decide) _ rfl
      have h34 : x 34 = .bool false := hd 9 (by decide) _ rfl
      clear hd
      go_simp
      exact hp _ _ (Grow.refl _) rfl
    · -- 11: slot 36: Op.move t35
      have h35 : x 35 = .bool false := hd 10 (by decide) _ rfl
      clear hd
      go_simp
      exact hp _ _ (Grow.refl _) rfl
    · -- 12: slot 37: Op.load 27 t2
      have h36 : x 36 = .bool false := hd 11 (by decide) _ rfl
      clear hd
      obtain ⟨d0, d1, d2, d3, d4, d5, d6, d7, d8, d9, d10⟩ := hB4.grow hg
      go_simp
      exact hp _ _ (Grow.refl _) rfl
    · -- 13: slot 38: Op.call { value (Operand.func 15), args := #[t37], argTypes := #[27] }
      have h37 : x 37 = ipV k (.slice A k.opts.length c) (.slice B k.data.length d) := hd 12 (by decide) _ rfl
      have h36 : x 36 = .bool false := hd 11 (by decide) _ rfl
      clear hd
      go_simp
      refine (Len_any _ k _ (hip4.grow hg) hsm).mono ?_
      rintro e w2 ⟨rfl, hg2⟩
      exact ⟨_, rfl, hp _ _ hg2 rfl⟩
    · -- 14: slot 39: Op.load 27 t2
      have h36 : x 36 = .bool false := hd 11 (by decide) _ rfl
      clear hd
      obtain ⟨d0, d1, d2, d3, d4, d5, d6, d7, d8, d9, d10⟩ := hB4.grow hg
      go_simp
      exact hp _ _ (Grow.refl _) rfl
    · -- 15: slot 40: Op.call { value (Operand.func 16), args := #[t39], argTypes := #[27] }
      have h39 : x 39 = ipV k (.slice A k.opts.length c) (.slice B k.data.length d) := hd 14 (by decide) _ rfl
      have h36 : x 36 = .bool false := hd 11 (by decide) _ rfl
      clear hd
      go_simp
      refine (RLen_any _ k _ (hip4.grow hg) hsm).mono ?_
      rintro e w2 ⟨rfl, hg2⟩
      exact ⟨_, rfl, hp _ _ hg2 rfl⟩
    · -- 16: slot 41: Op.binOp BinOp.neq 3 t38 t40 3
      have h38 : x 38 = .int .i64 (k.len : Nat) := hd 13 (by decide) _ rfl
      have h40 : x 40 = .int .i64 (k.len : Nat) := hd 15 (by decide) _ rfl
      have h36 : x 36 = .bool false := hd 11 (by decide) _ rfl
      clear hd
      go_simp
      exact hp _ _ (Grow.refl _) rfl
    · -- 17: slot 42: Op.pick t36 (const (Value.bool true)) t41
      have h36 : x 36 = .bool false := hd 11 (by decide) _ rfl
      have h41 : x 41 = .bool false := hd 16 (by decide) _ rfl
      clear hd
      go_simp
      exact hp _ _ (Grow.refl _) rfl
  · intro x w1 hg hd
    have h42 : x 42 = .bool false := hd 17 _ rfl
    clear hd
    rw [h42]
    have hg05 := (hg1.trans hg14).trans hg
    by_cases hc : k.check ≠ 0
    · have hcb : (k.check != 0) = true := by simpa using hc
      obtain rfl := hu2 hc
      go_wp2_with fail
      refine (ipLive_any _).mono ?_
      rintro e wl ⟨rfl, hgl⟩
      go_wp2_with fail
      go_ret
      exact ⟨rfl, hg05.trans hgl⟩
    have hc0 : k.check = 0 := by simpa using hc
    have hou := ((hu1 hc0).grow hg4).grow hg
    have hub := hou.byt
    have hubl := bytes_length k
    obtain ⟨o1, o2, o3, o4, o5⟩ := check_zero hc0
    obtain ⟨hpg1, hpg2⟩ := put_got k hk hc0 m
    have hres : res (k.bytes ++ m) = k := by unfold res; rw [if_pos hpg1, hpg2]
    obtain ⟨Au, nu, cu, rfl, _⟩ := hub.form2
    have n1 : ([] : List UInt8).length + k.bytes.length ≤ 140737488355328 := by simp; omega
    have n2 : k.bytes.length + m.length ≤ 140737488355328 := by omega
    have n3 : (k.bytes ++ m).length ≤ 1000000 := by rw [List.length_append]; omega
    have hm1 := hm.grow hg05
    clear hubl o5
    rw [hc0]
    go_wp2_with (first | (at_builtin; (refine wpList_app w1 _ rfl (.tmp 52) (.tmp 53) rfl _ (.slice Au nu cu) [] _ rfl rfl (Own.empty w1) (Grow.alloc _ _) (hub.grow (Grow.alloc _ _)) n1 ?_); rw [List.nil_append]; intro a1 q1 hoa1 hga1) | (at_builtin; refine wpList_app w1 q1 rfl (.tmp 54) (.tmp 55) rfl a1 _ _ _ rfl rfl hoa1 hga1 (hm1.grow hga1) n2 ?_; intro a2 q2 hoa2 hga2; clear hoa1))
    refine (Get_any _ _ _ hoa2.byt n3).mono ?_
    rw [hres, hpg1]
    rintro e w6 ⟨vo, vd, rfl, hvo, hvd, hg6⟩
    have bo := hvo.byt
    have bd := hvd.byt
    obtain ⟨A6, n6, c6, rfl, _⟩ := bo.form2
    obtain ⟨B6, m6, d6, rfl, _⟩ := bd.form2
    go_wp2_with (refine wpList_store_ip w6 _ rfl _ _ rfl rfl w6.heap.size rfl k zeroP (.slice A6 n6 c6) (.slice B6 m6 d6) (.slice none 0 0) (.slice none 0 0) (by rfl) rfl rfl (Blk.new w6 zeroP (.slice none 0 0) (.slice none 0 0)) (Grow.alloc _ _) (Nat.le_refl _) ?_; intro w9 hk9 _ hg9)
    have hg19 : Grow w1 w9 := (hga2.trans hg6).trans hg9
    have hg09 := hg05.trans hg19
    have hB9 := (hB4.grow hg).grow hg19
    have hip9 := (hip4.grow hg).grow hg19
    have hQ9 := hk9.boxd
    have hiq9 : Ip w9 (ipV k (.slice A6 n6 c6) (.slice B6 m6 d6)) k := ⟨_, _, rfl, bo.grow hg9, bd.grow hg9, hk⟩
    have hub := hub.grow hg19
    refine wp_region_loose (A := ?frame10) (inList (isV (.slice Au nu cu) :: isV (strV k.bytes) :: isV (ipV k (.slice A k.opts.length c) (.slice B k.data.length d)) :: isB (k.bytes) :: isV (strV k.bytes) :: isV (.bool true) :: isV (.bool true) :: isV (.int .i64 0) :: isV (.int .i64 0) :: isV (.bool true) :: isV (.bool true) :: isV (.bool true) :: isV (ipV k (.slice A k.opts.length c) (.slice B k.data.length d)) :: isV (ipV k (.slice A6 n6 c6) (.slice B6 m6 d6)) :: isV (.bool true) :: isV (.bool true) :: isV (.bool true) :: isV (ipV k (.slice A k.opts.length c) (.slice B k.data.length d)) :: isV (ipV k (.slice A6 n6 c6) (.slice B6 m6 d6)) :: isV (.bool true) :: isV (.bool true) :: isV (.bool true) :: isV (.bool true) :: isV (.bool true) :: isV (.bool true) :: [])) (by kernel_rfl) (by kernel_rfl) (inList_stays ?_) (fun z => ?frameEq10) ?_ ?_
    case frameEq10 => go_simp; rfl
    · intro f hf
      simp only [List.mem_cons, List.not_mem_nil, or_false] at hf
      rcases hf with rfl | rfl | rfl | rfl | rfl | rfl | rfl | rfl | rfl | rfl | rfl | rfl | rfl | rfl | rfl | rfl | rfl | rfl | rfl | rfl | rfl | rfl | rfl | rfl | rfl <;> first | exact isV_stays _ | exact isB_stays _ | exact isBs_stays _
    · refine ⟨fun z wz hg hd post hp => ?_, fun z wz hg hd post hp => ?_, fun z wz hg hd post hp => ?_, fun z wz hg hd post hp => ?_, fun z wz hg hd post hp => ?_, fun z wz hg hd post hp => ?_, fun z wz hg hd post hp => ?_, fun z wz hg hd post hp => ?_, fun z wz hg hd post hp => ?_, fun z wz hg hd post hp => ?_, fun z wz hg hd post hp => ?_, fun z wz hg hd post hp => ?_, fun z wz hg hd post hp => ?_, fun z wz hg hd post hp => ?_, fun z wz hg hd post hp => ?_, fun z wz hg hd post hp => ?_, fun z wz hg hd post hp => ?_, fun z wz hg hd post hp => ?_, fun z wz hg hd post hp => ?_, fun z wz hg hd post hp => ?_, fun z wz hg hd post hp => ?_, fun z wz hg hd post hp => ?_, fun z wz hg hd post hp => ?_, fun z wz hg hd post hp => ?_, fun z wz hg hd post hp => ?_, trivial⟩
      · -- 0: slot 60: Op.move t5
        clear hd
        go_simp
        exact hp _ _ (Grow.refl _) rfl
      · -- 1: slot 61: Op.convert 25 9 t60
        have h60 : z 60 = .slice Au nu cu := hd 0 (by decide) _ rfl
        clear hd
        have c1 := str1 (hub.grow hg)
        go_simp
        exact hp _ _ (Grow.refl _) rfl
      · -- 2: slot 62: Op.load 27 t2
        clear hd
        obtain ⟨d0, d1, d2, d3, d4, d5, d6, d7, d8, d9, d10⟩ := hB9.grow hg
        go_simp
        exact hp _ _ (Grow.refl _) rfl
      · -- 3: slot 63: Op.call { value (Operand.func 18), args := #[t62], argTypes := #[27] }
        have h62 : z 62 = ipV k (.slice A k.opts.length c) (.slice B k.data.length d) := hd 2 (by decide) _ rfl
        clear hd
        go_simp
        refine (Bytes_any _ k _ (hip9.grow hg) hsm hc0).mono ?_
        rintro e w2 ⟨u, rfl, ho, hg2⟩
        exact ⟨_, rfl, hp _ _ hg2 ho⟩
      · -- 4: slot 64: Op.convert 25 9 t63
        have h63 : Byt wz (z 63) (k.bytes) := hd 3 (by decide) _ rfl
        clear hd
        have c := str1 h63
        go_simp
        exact hp _ _ (Grow.refl _) rfl
      · -- 5: slot 65: Op.binOp BinOp.eql 9 t61 t64 9
        have h61 : z 61 = strV k.bytes := hd 1 (by decide) _ rfl
        have h64 : z 64 = strV k.bytes := hd 4 (by decide) _ rfl
        clear hd
        unfold strV at *
        go_simp
        exact hp _ _ (Grow.refl _) (by show Value.bool _ = Value.bool true; simp)
      · -- 6: slot 66: Op.move t65
        have h65 : z 65 = .bool true := hd 5 (by decide) _ rfl
        clear hd
        go_simp
        exact hp _ _ (Grow.refl _) rfl
      · -- 7: slot 67: Op.move t9
        have h66 : z 66 = .bool true := hd 6 (by decide) _ rfl
        clear hd
        go_simp
        exact hp _ _ (Grow.refl _) rfl
      · -- 8: slot 68: Op.call { value (Operand.func 13), args := #[t67], argTypes := #[30] }
        have h67 : z 67 = .int .i64 0 := hd 7 (by decide) _ rfl
        have h66 : z 66 = .bool true := hd 6 (by decide) _ rfl
        clear hd
        go_simp
        refine (code_any _ _ (by omega) (by omega)).mono ?_
        rintro e w' ⟨rfl, rfl⟩
        exact ⟨_, rfl, hp _ _ (Grow.refl _) rfl⟩
      · -- 9: slot 69: Op.binOp BinOp.eql 3 t68 (const (0:i64)) 3
        have h68 : z 68 = .int .i64 0 := hd 8 (by decide) _ rfl
        have h66 : z 66 = .bool true := hd 6 (by decide) _ rfl
        clear hd
        go_simp
        exact hp _ _ (Grow.refl _) rfl
      · -- 10: slot 70: Op.pick t66 t69 (const (Value.bool false))
        have h66 : z 66 = .bool true := hd 6 (by decide) _ rfl
        have h69 : z 69 = .bool true := hd 9 (by decide) _ rfl
        clear hd
        go_simp
        exact hp _ _ (Grow.refl _) rfl
      · -- 11: slot 71: Op.move t70
        have h70 : z 70 = .bool true := hd 10 (by decide) _ rfl
        clear hd
        go_simp
        exact hp _ _ (Grow.refl _) rfl
      · -- 12: slot 72: Op.load 27 t2
        have h71 : z 71 = .bool true := hd 11 (by decide) _ rfl
        clear hd
        obtain ⟨d0, d1, d2, d3, d4, d5, d6, d7, d8, d9, d10⟩ := hB9.grow hg
        go_simp
        exact hp _ _ (Grow.refl _) rfl
      · -- 13: slot 73: Op.load 27 t8
        have h71 : z 71 = .bool true := hd 11 (by decide) _ rfl
        clear hd
        obtain ⟨d0, d1, d2, d3, d4, d5, d6', d7, d8, d9, d10⟩ := hQ9.grow hg
        go_simp
        exact hp _ _ (Grow.refl _) rfl
      · -- 14: slot 74: Op.call { value (Operand.func 19), args := #[t72, t73], argTypes := #[27, 27] }
        have h72 : z 72 = ipV k (.slice A k.opts.length c) (.slice B k.data.length d) := hd 12 (by decide) _ rfl
        have h73 : z 73 = ipV k (.slice A6 n6 c6) (.slice B6 m6 d6) := hd 13 (by decide) _ rfl
        have h71 : z 71 = .bool true := hd 11 (by decide) _ rfl
        clear hd
        go_simp
        refine (RSame_yes _ _ k k _ (hip9.grow hg) (hiq9.grow hg) rfl).mono ?_
        rintro e w2 ⟨rfl, hg2⟩
        exact ⟨_, rfl, hp _ _ hg2 rfl⟩
      · -- 15: slot 75: Op.pick t71 t74 (const (Value.bool false))
        have h71 : z 71 = .bool true := hd 11 (by decide) _ rfl
        have h74 : z 74 = .bool true := hd 14 (by decide) _ rfl
        clear hd
        go_simp
        exact hp _ _ (Grow.refl _) rfl
      · -- 16: slot 76: Op.move t75
        have h75 : z 75 = .bool true := hd 15 (by decide) _ rfl
        clear hd
        go_simp
        exact hp _ _ (Grow.refl _) rfl
      · -- 17: slot 77: Op.load 27 t2
        have h76 : z 76 = .bool true := hd 16 (by decide) _ rfl
        clear hd
        obtain ⟨d0, d1, d2, d3, d4, d5, d6, d7, d8, d9, d10⟩ := hB9.grow hg
        go_simp
        exact hp _ _ (Grow.refl _) rfl
      · -- 18: slot 78: Op.load 27 t8
        have h76 : z 76 = .bool true := hd 16 (by decide) _ rfl
        clear hd
        obtain ⟨d0, d1, d2, d3, d4, d5, d6', d7, d8, d9, d10⟩ := hQ9.grow hg
        go_simp
        exact hp _ _ (Grow.refl _) rfl
      · -- 19: slot 79: Op.call { value (Operand.func 20), args := #[t77, t78], argTypes := #[27, 27] }
        have h77 : z 77 = ipV k (.slice A k.opts.length c) (.slice B k.data.length d) := hd 17 (by decide) _ rfl
        have h78 : z 78 = ipV k (.slice A6 n6 c6) (.slice B6 m6 d6) := hd 18 (by decide) _ rfl
        have h76 : z 76 = .bool true := hd 16 (by decide) _ rfl
        clear hd
        go_simp
        refine (Same_yes _ _ k k _ (hip9.grow hg) (hiq9.grow hg) rfl).mono ?_
        rintro e w2 ⟨rfl, hg2⟩
        exact ⟨_, rfl, hp _ _ hg2 rfl⟩
      · -- 20: slot 80: Op.pick t76 t79 (const (Value.bool false))
        have h76 : z 76 = .bool true := hd 16 (by decide) _ rfl
        have h79 : z 79 = .bool true := hd 19 (by decide) _ rfl
        clear hd
        go_simp
        exact hp _ _ (Grow.refl _) rfl
      · -- 21: slot 81: Op.move t80
        have h80 : z 80 = .bool true := hd 20 (by decide) _ rfl
        clear hd
        go_simp
        exact hp _ _ (Grow.refl _) rfl
      · -- 22: slot 82: Op.call { value (Operand.func 10), args := #[], argTypes := #[] }
        have h81 : z 81 = .bool true := hd 21 (by decide) _ rfl
        clear hd
        go_simp
        refine (ipLive_any _).mono ?_
        rintro e w2 ⟨rfl, hg2⟩
        exact ⟨_, rfl, hp _ _ hg2 rfl⟩
      · -- 23: slot 83: Op.pick t81 t82 (const (Value.bool false))
        have h81 : z 81 = .bool true := hd 21 (by decide) _ rfl
        have h82 : z 82 = .bool true := hd 22 (by decide) _ rfl
        clear hd
        go_simp
        exact hp _ _ (Grow.refl _) rfl
      · -- 24: slot 4: Op.assign t83
        have h83 : z 83 = .bool true := hd 23 (by decide) _ rfl
        clear hd
        go_simp
        exact hp _ _ (Grow.refl _) rfl
    · intro z wz hg hd
      have h4 : z 4 = .bool true := hd 24 _ rfl
      clear hd
      go_wp2
      go_ret
      exact ⟨by go_simp, hg09.trans hg⟩
end Go.Proofs.Ytmibeahofienjaa
