/- The document's own answer: a segment as bytes. -/
import Derived.Test.YtbhdpobmooncpaaSegPut
import Derived.Test.YtbhdpobmooncpaaIpBytes
import Derived.Lib.Hide
namespace Go.Proofs.Ytbhdpobmooncpaa
set_option linter.unusedVariables false
set_option linter.unusedSimpArgs false
open Go.ChangeShapes Go.WideShapes Go.ChangeAt Go.RowKit

theorem lit00' (w : World) : Own (w.alloc (.cells #[.int .u8 0, .int .u8 0] 5)) w.heap.size (.slice (some ⟨w.heap.size, 0, none⟩) 2 2) [0, 0] := Own.lit w #[.int .u8 0, .int .u8 0] [0, 0] rfl (by unfold maxLen; simp)
theorem sbytes_zero (k : Sgm) : k.pre ++ [0, 0] ++ k.post = k.bytes 0 := by unfold Sgm.bytes; rfl
theorem sbytes_n (k : Sgm) (n : Nat) : k.pre ++ two (n : Int) ++ k.post = k.bytes n := by unfold Sgm.bytes; rfl
theorem spre_eq (k : Sgm) (t : Nat) (ht : t = 80 + 4 * k.opts.length) : two (k.src : Int) ++ two (k.dst : Int) ++ (dig k.seq 4 ++ dig k.ack 4) ++ [UInt8.ofNat t, UInt8.ofNat k.flags] ++ two (k.win : Int) = k.pre := by
  subst ht
  unfold Sgm.pre
  simp only [List.append_assoc]

set_option maxRecDepth 10000 in
set_option maxHeartbeats 8000000 in
theorem RBytes9_any (s d : Nat) (v : Value) (k : Sgm) (w : World) (hs4 : s < 4294967296) (hd4 : d < 4294967296) (h : isSgm w v k) (hf : k.Fine) :
    Calls Try.prog 16 #[.int .u32 (s : Int), .int .u32 (d : Int), v] w fun e w' => ∃ u, e = .returned u ∧ Byt w' u (k.bytes (tcheck s d k)) ∧ Grow w w' := by
  obtain ⟨hfl, m1, m2, s1, s2, hdl⟩ := hf
  obtain ⟨A, c, rfl, hd, hk⟩ := h.form
  have k1 := hk.src
  have k2 := hk.dst
  have k3 := hk.seq
  have k4 := hk.ack
  have k5 := hk.flags
  have k6 := hk.win
  obtain ⟨W1, hW1⟩ : ∃ W1, W1 = w.alloc (.cells (Sgmcells k (.slice A k.data.length c)) 26) := ⟨_, rfl⟩
  have hg1 : Grow w W1 := by rw [hW1]; exact Grow.alloc w _
  have hB1 : Sgmbox W1 w.heap.size k (.slice A k.data.length c) := by rw [hW1]; exact Sgmbox.new _ _ _
  unfold Sgmcells at hW1
  have hdW := hd.grow hg1
  have hol := sopt_length k
  have hpl := spost_length k
  have hprl := spre_length k
  have hbl0 := sbytes_length k 0
  have hbl7 : Hid ((k.bytes 0).length ≤ 140737488351232) := Lib.hid (by omega)
  have EC := Lib.hid (of_tcheck s d k)
  have hcl := tcheck_lt s d k
  obtain ⟨ck, hck⟩ : ∃ ck, ck = tcheck s d k := ⟨_, rfl⟩
  rw [← hck] at EC hcl ⊢
  clear hck hbl0
  obtain ⟨b0, b1, b2, b3, b4, b5, b6, b7, b8⟩ := id hB1
  go_enter Try.func16, Try.ntmps16
  go_wp2_with fail
  rw [← hW1]
  clear hW1
  refine (ROptions_any k.mss k.scale _ m1 m2 s1 s2).mono ?_
  rintro e w2 ⟨vo0, rfl, hoo, hg2⟩
  have eopt : sopts k.mss k.scale = k.opts := rfl
  rw [eopt] at hoo
  clear eopt
  have hbo := hoo.byt
  obtain ⟨Ao, co, rfl, hoc, hom⟩ := hbo.form
  have hB2 := hB1.grow hg2
  clear b0 b1 b2 b3 b4 b5 b6 b7 b8
  go_wp2_with fail
  refine wp_region_weave (A := ?frame2) [3, 7, 8, 11, 14, 15, 16, 17] (fun q => Grow w2 q) (inVals (isW (.pointer (some ⟨w.heap.size, 0, none⟩)) :: isW (.int .u16 (k.src : Int)) :: isW (.int .i64 (k.src : Int)) :: isAll :: isW (.pointer (some ⟨w.heap.size, 1, none⟩)) :: isW (.int .u16 (k.dst : Int)) :: isW (.int .i64 (k.dst : Int)) :: isAll :: isAll :: isW (.pointer (some ⟨w.heap.size, 2, none⟩)) :: isW (.int .u32 (k.seq : Int)) :: isAll :: isW (.pointer (some ⟨w.heap.size, 3, none⟩)) :: isW (.int .u32 (k.ack : Int)) :: isAll :: isAll :: isAll :: isAll :: [])) (fun j vs q => match j, vs with | 0, [] => True | 1, [v1] => Own q w2.heap.size v1 (two (k.src : Int)) | 2, [v1, v2] => Own q w2.heap.size v1 (two (k.src : Int)) ∧ Own q w2.heap.size v2 (two (k.dst : Int)) | 3, [_, _, v3] => Own q w2.heap.size v3 (two (k.src : Int) ++ two (k.dst : Int)) | 4, [_, _, v3, v4] => ∃ w3, Own w3 w2.heap.size v3 (two (k.src : Int) ++ two (k.dst : Int)) ∧ Grow w2 w3 ∧ Grow w3 q ∧ Own q w3.heap.size v4 (dig k.seq 4) | 5, [_, _, v3, v4, v5] => ∃ w3, Own w3 w2.heap.size v3 (two (k.src : Int) ++ two (k.dst : Int)) ∧ Grow w2 w3 ∧ Grow w3 q ∧ Own q w3.heap.size v4 (dig k.seq 4) ∧ Own q w3.heap.size v5 (dig k.ack 4) | 6, [_, _, v3, _, _, v6] => ∃ w3, Own w3 w2.heap.size v3 (two (k.src : Int) ++ two (k.dst : Int)) ∧ Grow w2 w3 ∧ Grow w3 q ∧ Own q w3.heap.size v6 (dig k.seq 4 ++ dig k.ack 4) | 7, [_, _, _, _, _, _, v7] => Own q w2.heap.size v7 (two (k.src : Int) ++ two (k.dst : Int) ++ (dig k.seq 4 ++ dig k.ack 4)) | 8, [_, _, _, _, _, _, _, v8] => Own q w2.heap.size v8 (two (k.src : Int) ++ two (k.dst : Int) ++ (dig k.seq 4 ++ dig k.ack 4)) | _, _ => False) (by kernel_rfl) (by kernel_rfl) (by kernel_rfl) (by kernel_rfl) (fun x => ?frameEq2) (Grow.drew w2) trivial ?_ ?_ ?_
  case frameEq2 => go_simp; rfl
  · refine ⟨fun _ x w1 hI hd post hp => ?_, fun _ x w1 hI hd post hp => ?_, fun _ x w1 hI hd post hp => ?_, fun hn => absurd hn (by decide), fun _ x w1 hI hd post hp => ?_, fun _ x w1 hI hd post hp => ?_, fun _ x w1 hI hd post hp => ?_, fun hn => absurd hn (by decide), fun hn => absurd hn (by decide), fun _ x w1 hI hd post hp => ?_, fun _ x w1 hI hd post hp => ?_, fun hn => absurd hn (by decide), fun _ x w1 hI hd post hp => ?_, fun _ x w1 hI hd post hp => ?_, fun hn => absurd hn (by decide), fun hn => absurd hn (by decide), fun hn => absurd hn (by decide), fun hn => absurd hn (by decide), trivial⟩
    · -- 0: slot 16: Op.fieldAddr 26 t5 0
      clear hd
      go_simp
      exact hp _ rfl
    · -- 1: slot 17: Op.load 23 t16
      have h16 : x 16 = .pointer (some ⟨w.heap.size, 0, none⟩) := hd 0 (by decide) (by decide) _ rfl
      clear hd
      obtain ⟨d0, d1, d2, d3, d4, d5, d6, d7, d8⟩ := hB2.grow hI
      go_simp
      exact hp _ rfl
    · -- 2: slot 18: Op.convert 23 3 t17
      have h17 : x 17 = .int .u16 (k.src : Int) := hd 1 (by decide) (by decide) _ rfl
      clear hd
      have e8 : IntKind.i64.wrap (k.src : Int) = (k.src : Int) := IntWalk.i64_in _ (by omega)
      go_simp
      exact hp _ rfl
    · -- 4: slot 20: Op.fieldAddr 26 t5 1
      clear hd
      go_simp
      exact hp _ rfl
    · -- 5: slot 21: Op.load 23 t20
      have h20 : x 20 = .pointer (some ⟨w.heap.size, 1, none⟩) := hd 4 (by decide) (by decide) _ rfl
      clear hd
      obtain ⟨d0, d1, d2, d3, d4, d5, d6, d7, d8⟩ := hB2.grow hI
      go_simp
      exact hp _ rfl
    · -- 6: slot 22: Op.convert 23 3 t21
      have h21 : x 21 = .int .u16 (k.dst : Int) := hd 5 (by decide) (by decide) _ rfl
      clear hd
      have e8 : IntKind.i64.wrap (k.dst : Int) = (k.dst : Int) := IntWalk.i64_in _ (by omega)
      go_simp
      exact hp _ rfl
    · -- 9: slot 25: Op.fieldAddr 26 t5 2
      clear hd
      go_simp
      exact hp _ rfl
    · -- 10: slot 26: Op.load 22 t25
      have h25 : x 25 = .pointer (some ⟨w.heap.size, 2, none⟩) := hd 9 (by decide) (by decide) _ rfl
      clear hd
      obtain ⟨d0, d1, d2, d3, d4, d5, d6, d7, d8⟩ := hB2.grow hI
      go_simp
      exact hp _ rfl
    · -- 12: slot 28: Op.fieldAddr 26 t5 3
      clear hd
      go_simp
      exact hp _ rfl
    · -- 13: slot 29: Op.load 22 t28
      have h28 : x 28 = .pointer (some ⟨w.heap.size, 3, none⟩) := hd 12 (by decide) (by decide) _ rfl
      clear hd
      obtain ⟨d0, d1, d2, d3, d4, d5, d6, d7, d8⟩ := hB2.grow hI
      go_simp
      exact hp _ rfl
  · refine ⟨fun x w1 hI hd hs post hp => ?_, fun x w1 hI hd hs post hp => ?_, fun x w1 hI hd hs post hp => ?_, fun x w1 hI hd hs post hp => ?_, fun x w1 hI hd hs post hp => ?_, fun x w1 hI hd hs post hp => ?_, fun x w1 hI hd hs post hp => ?_, fun x w1 hI hd hs post hp => ?_, trivial⟩
    · -- 3: slot 19: Op.call { value (Operand.func 31), args := #[t18], argTypes := #[3] }
      have h18 : x 18 = .int .i64 (k.src : Int) := hd 2 (by decide) (by decide) _ rfl
      clear hd
      go_simp
      refine (Two_any _ _ (by omega) (by omega)).mono ?_
      rintro e w4 ⟨u, rfl, ho, hg2⟩
      exact ⟨_, rfl, hp _ _ (hI.trans hg2) (Own.base ho hI.size)⟩
    · -- 7: slot 23: Op.call { value (Operand.func 31), args := #[t22], argTypes := #[3] }
      have h22 : x 22 = .int .i64 (k.dst : Int) := hd 6 (by decide) (by decide) _ rfl
      clear hd
      have s1 : Own w1 w2.heap.size (x 19) (two (k.src : Int)) := hs
      go_simp
      refine (Two_any _ _ (by omega) (by omega)).mono ?_
      rintro e w4 ⟨u, rfl, ho, hg2⟩
      exact ⟨_, rfl, hp _ _ (hI.trans hg2) ⟨s1.grow hg2, Own.base ho hI.size⟩⟩
    · -- 8: slot 24: Op.call { builtin append, args := #[t19, t23], argTypes := #[24, 24] }
      clear hd
      obtain ⟨s1, s2⟩ : Own w1 w2.heap.size (x 19) (two (k.src : Int)) ∧ Own w1 w2.heap.size (x 23) (two (k.dst : Int)) := hs
      exact upon_app w2 w1 rfl (.tmp 19) (.tmp 23) rfl (x 19) (x 23) _ _ rfl rfl s1 hI s2.byt (by simp [two_length]) fun v' w' h1 h2 => hp v' w' h2 h1
    · -- 11: slot 27: Op.call { value (Operand.func 32), args := #[t26], argTypes := #[22] }
      have h26 : x 26 = .int .u32 (k.seq : Int) := hd 10 (by decide) (by decide) _ rfl
      clear hd
      have s3 : Own w1 w2.heap.size (x 24) (two (k.src : Int) ++ two (k.dst : Int)) := hs
      go_simp
      refine (Four_any k.seq _ k3).mono ?_
      rintro e w4 ⟨u, rfl, ho, hg2⟩
      exact ⟨_, rfl, hp _ _ (hI.trans hg2) ⟨w1, s3, hI, hg2, ho⟩⟩
    · -- 14: slot 30: Op.call { value (Operand.func 32), args := #[t29], argTypes := #[22] }
      have h29 : x 29 = .int .u32 (k.ack : Int) := hd 13 (by decide) (by decide) _ rfl
      clear hd
      obtain ⟨w3, t3, t4, t5, t6⟩ : ∃ w3, Own w3 w2.heap.size (x 24) (two (k.src : Int) ++ two (k.dst : Int)) ∧ Grow w2 w3 ∧ Grow w3 w1 ∧ Own w1 w3.heap.size (x 27) (dig k.seq 4) := hs
      go_simp
      refine (Four_any k.ack _ k4).mono ?_
      rintro e w4 ⟨u, rfl, ho, hg2⟩
      exact ⟨_, rfl, hp _ _ (hI.trans hg2) ⟨w3, t3, t4, t5.trans hg2, t6.grow hg2, Own.base ho t5.size⟩⟩
    · -- 15: slot 31: Op.call { builtin append, args := #[t27, t30], argTypes := #[24, 24] }
      clear hd
      obtain ⟨w3, t3, t4, t5, t6, t7⟩ : ∃ w3, Own w3 w2.heap.size (x 24) (two (k.src : Int) ++ two (k.dst : Int)) ∧ Grow w2 w3 ∧ Grow w3 w1 ∧ Own w1 w3.heap.size (x 27) (dig k.seq 4) ∧ Own w1 w3.heap.size (x 30) (dig k.ack 4) := hs
      exact upon_app w3 w1 rfl (.tmp 27) (.tmp 30) rfl (x 27) (x 30) _ _ rfl rfl t6 t5 t7.byt (by simp [dig_length]) fun v' w' h1 h2 => hp v' w' (t4.trans h2) ⟨w3, t3, t4, h2, h1⟩
    · -- 16: slot 32: Op.call { builtin append, args := #[t24, t31], argTypes := #[24, 24] }
      clear hd
      obtain ⟨w3, t3, t4, t5, t6⟩ : ∃ w3, Own w3 w2.heap.size (x 24) (two (k.src : Int) ++ two (k.dst : Int)) ∧ Grow w2 w3 ∧ Grow w3 w1 ∧ Own w1 w3.heap.size (x 31) (dig k.seq 4 ++ dig k.ack 4) := hs
      exact upon_app w2 w1 rfl (.tmp 24) (.tmp 31) rfl (x 24) (x 31) _ _ rfl rfl (t3.grow t5) hI t6.byt (by simp [dig_length, two_length]) fun v' w' h1 h2 => hp v' w' h2 h1
    · -- 17: slot 8: Op.assign t32
      clear hd
      have s7 : Own w1 w2.heap.size (x 32) (two (k.src : Int) ++ two (k.dst : Int) ++ (dig k.seq 4 ++ dig k.ack 4)) := hs
      go_simp
      exact hp _ _ hI s7
  · intro x w1 hI hd hs
    have h8 : Own w1 w2.heap.size (x 8) (two (k.src : Int) ++ two (k.dst : Int) ++ (dig k.seq 4 ++ dig k.ack 4)) := hs
    clear hd hs
    obtain ⟨va, hva⟩ : ∃ va, va = x 8 := ⟨_, rfl⟩
    rw [← hva] at h8 ⊢
    clear hva
    have hB3 := hB2.grow hI
    have hbo3 := hbo.grow hI
    obtain ⟨n, hn⟩ : ∃ n, n = k.opts.length := ⟨_, rfl⟩
    obtain ⟨t, ht⟩ : ∃ t, t = 80 + 4 * k.opts.length := ⟨_, rfl⟩
    have epre := spre_eq k t ht
    obtain ⟨L4, hL4⟩ : ∃ L4, L4 = two (k.src : Int) ++ two (k.dst : Int) ++ (dig k.seq 4 ++ dig k.ack 4) := ⟨_, rfl⟩
    have l4 : L4.length = 12 := by rw [hL4]; simp [two_length, dig_length]
    rw [← hL4] at h8 epre
    clear hL4
    obtain ⟨q, hq⟩ : ∃ q, q = 4 * n := ⟨_, rfl⟩
    have ht2 : 4 * (n : Int) = (q : Int) := by omega
    have ht3 : 80 + (q : Int) = (t : Int) := by omega
    clear hq
    have htl : t < 256 := by omega
    have hn8 : n ≤ 8 := by omega
    have ho45 : Own w1 w2.heap.size va L4 := h8
    have f1 : L4.length + [UInt8.ofNat t, UInt8.ofNat k.flags].length ≤ 140737488355328 := by simp; omega
    have f2 : (L4 ++ [UInt8.ofNat t, UInt8.ofNat k.flags]).length + (two (k.win : Int)).length ≤ 140737488355328 := by simp [two_length]; omega
    have hlitM : ∀ w' : World, Byt (w'.alloc (.cells #[.int .u8 (t : Int), .int .u8 (k.flags : Int)] 5)) (.slice (some ⟨w'.heap.size, 0, none⟩) 2 2) [UInt8.ofNat t, UInt8.ofNat k.flags] := by
      intro w'
      refine (Own.lit w' #[.int .u8 (t : Int), .int .u8 (k.flags : Int)] [UInt8.ofNat t, UInt8.ofNat k.flags] ?_ (by unfold maxLen; simp)).byt
      simp only [bv, List.map_cons, List.map_nil, UInt8.toNat_ofNat', List.cons.injEq, Value.int.injEq, true_and, and_true]
      constructor <;> omega
    rw [← hn] at hbo3 ⊢
    have HN := Lib.hid hn
    clear hn ht hol hpl hprl hoc hom h8
    obtain ⟨b0, b1, b2, b3, b4, b5, b6, b7, b8⟩ := id hB3
    go_wp2_with (at_builtin; refine wpList_app w2 _ rfl _ _ rfl _ _ _ _ rfl rfl (ho45.grow (Grow.alloc _ _)) (hI.trans (Grow.alloc _ _)) (hlitM _) f1 ?_; intro v6 w6 ho6 hg6; clear ho45 b0 b1 b2 b3 b4 b5 b6 b7 b8; obtain ⟨b0, b1, b2, b3, b4, b5, b6, b7, b8⟩ := hB2.grow hg6)
    refine (Two_any (k.win : Int) _ (by omega) (by omega)).mono ?_
    rintro e w7 ⟨v7, rfl, ho7, hg7⟩
    have ho67 := ho6.grow hg7
    have hb7 := ho7.byt
    have hg67 := hg6.trans hg7
    clear b0 b1 b2 b3 b4 b5 b6 b7 b8
    go_wp2_with (at_builtin; refine wpList_app w2 _ rfl _ _ rfl _ _ _ _ rfl rfl ho67 hg67 hb7 f2 ?_; intro va2 w5 ho5 hg5; clear ho67)
    rw [epre] at ho5
    have hB5 := hB2.grow hg5
    have hd5 := (hdW.grow hg2).grow hg5
    have hbo5 := hbo.grow hg5
    have hon : k.opts.length ≤ 8 := by rw [← HN.out]; exact hn8
    rw [HN.out] at *
    clear f1 f2 epre l4 ht2 ht3 hn8
    obtain ⟨vo, hvo⟩ : ∃ vo : Value, vo = .slice Ao k.opts.length co := ⟨_, rfl⟩
    rw [← hvo] at hbo5 ⊢
    clear hvo
    go_wp2_with fail
    refine wp_region_weave (A := ?frame5) [0, 2, 5, 6] (fun q => Grow w5 q) (inVals (isAll :: isW (vo) :: isAll :: isW (.pointer (some ⟨w.heap.size, 8, none⟩)) :: isW (.slice A k.data.length c) :: isAll :: isAll :: [])) (fun j vs q => match j, vs with | 0, [] => True | 1, [v1] => Own q w5.heap.size v1 [0, 0] | 2, [_, v2] => Own q w5.heap.size v2 ([0, 0] ++ k.opts) | 3, [_, _, v3] => Own q w5.heap.size v3 k.post | 4, [_, _, _, v4] => Own q w5.heap.size v4 k.post | _, _ => False) (by kernel_rfl) (by kernel_rfl) (by kernel_rfl) (by kernel_rfl) (fun x => ?frameEq5) (Grow.drew w5) trivial ?_ ?_ ?_
    case frameEq5 => go_simp; rfl
    · refine ⟨fun hn => absurd hn (by decide), fun _ z z1 hI hd post hp => ?_, fun hn => absurd hn (by decide), fun _ z z1 hI hd post hp => ?_, fun _ z z1 hI hd post hp => ?_, fun hn => absurd hn (by decide), fun hn => absurd hn (by decide), trivial⟩
      · -- 1: slot 50: Op.move t7
        clear hd
        go_simp
        exact hp _ rfl
      · -- 3: slot 52: Op.fieldAddr 26 t5 8
        clear hd
        go_simp
        exact hp _ rfl
      · -- 4: slot 53: Op.load 24 t52
        have h52 : z 52 = .pointer (some ⟨w.heap.size, 8, none⟩) := hd 3 (by decide) (by decide) _ rfl
        clear hd
        obtain ⟨d0, d1, d2, d3, d4, d5, d6, d7, d8⟩ := hB5.grow hI
        go_simp
        exact hp _ rfl
    · refine ⟨fun z z1 hI hd hs post hp => ?_, fun z z1 hI hd hs post hp => ?_, fun z z1 hI hd hs post hp => ?_, fun z z1 hI hd hs post hp => ?_, trivial⟩
      · -- 0: slot 49: Op.buildSlice 24 2 #[(0, const (0:u8)), (1, const (0:u8))]
        clear hd
        have ho0 := lit00' z1
        go_simp
        exact hp _ _ (hI.trans (Grow.alloc _ _)) (Own.base ho0 hI.size)
      · -- 2: slot 51: Op.call { builtin append, args := #[t49, t50], argTypes := #[24, 24] }
        have h50 : z 50 = vo := hd 1 (by decide) (by decide) _ rfl
        clear hd
        have s1 : Own z1 w5.heap.size (z 49) [0, 0] := hs
        exact upon_app w5 z1 rfl (.tmp 49) (.tmp 50) rfl (z 49) _ _ _ rfl h50 s1 hI (hbo5.grow hI) (by simp; omega) fun v' w' h1 h2 => hp v' w' h2 h1
      · -- 5: slot 54: Op.call { builtin append, args := #[t51, t53], argTypes := #[24, 24] }
        have h53 : z 53 = .slice A k.data.length c := hd 4 (by decide) (by decide) _ rfl
        clear hd
        have s2 : Own z1 w5.heap.size (z 51) ([0, 0] ++ k.opts) := hs
        exact upon_app w5 z1 rfl (.tmp 51) (.tmp 53) rfl (z 51) _ _ _ rfl h53 s2 hI (hd5.grow hI) (by simp; omega) fun v' w' h1 h2 => hp v' w' h2 h1
      · -- 6: slot 9: Op.assign t54
        clear hd
        have s3 : Own z1 w5.heap.size (z 54) k.post := hs
        go_simp
        exact hp _ _ hI s3
    · intro z z1 hI5 hd hs
      have h9 : Own z1 w5.heap.size (z 9) k.post := hs
      clear hd hs
      obtain ⟨vz, hvz⟩ : ∃ vz, vz = z 9 := ⟨_, rfl⟩
      rw [← hvz] at h9 ⊢
      clear hvz
      have hbz : Byt z1 vz k.post := h9.byt
      have hba : Byt z1 va2 k.pre := ho5.byt.grow hI5
      have e1 : [] ++ k.pre = k.pre := List.nil_append _
      have e2 := sbytes_zero k
      have e3 := sbytes_n k ck
      have u1 : ([] : List UInt8).length + k.pre.length ≤ 140737488355328 := by simp [spre_length]
      have u1' := u1
      have u2 : k.pre.length + [0, 0].length ≤ 140737488355328 := by simp [spre_length]
      have u3 : (k.pre ++ [0, 0]).length + k.post.length ≤ 140737488355328 := by have := sopt_length k; simp [spre_length, spost_length]; omega
      have u4 : k.pre.length + (two (ck : Int)).length ≤ 140737488355328 := by simp [spre_length, two_length]
      have u5 : (k.pre ++ two (ck : Int)).length + k.post.length ≤ 140737488355328 := by have := sopt_length k; simp [spre_length, spost_length, two_length]; omega
      go_wp2_with (first | (at_builtin; refine wpList_app z1 _ rfl _ _ rfl _ _ _ _ rfl rfl (Own.empty z1) (Grow.alloc z1 _) (hba.grow (Grow.alloc z1 _)) u1 ?_; intro v6 w6 ho6 hg6; rw [e1] at ho6; clear u1) | (at_builtin; refine wpList_app z1 _ rfl _ _ rfl _ _ _ _ rfl rfl (ho6.grow (Grow.alloc w6 _)) (hg6.trans (Grow.alloc w6 _)) (lit00 w6) u2 ?_; intro v7 w7 ho7 hg7; clear ho6 u2) | (at_builtin; refine wpList_app z1 _ rfl _ _ rfl _ _ _ _ rfl rfl ho7 hg7 (hbz.grow hg7) u3 ?_; intro v8 w8 ho8 hg8; clear ho7 u3))
      rw [e2] at ho8
      refine (ROf_any s d 6 _ (k.bytes 0) _ hs4 hd4 (by decide) ho8.byt hbl7.out).mono ?_
      rw [EC.out]
      rintro e w9 ⟨rfl, hg9⟩
      have g89 := hg8.trans hg9
      have hba9 := hba.grow g89
      have hbz9 := hbz.grow g89
      clear ho8 EC hbl7 hba hbz
      go_wp2_with (at_builtin; refine wpList_app w9 _ rfl _ _ rfl _ _ _ _ rfl rfl (Own.empty w9) (Grow.alloc w9 _) (hba9.grow (Grow.alloc w9 _)) u1' ?_; intro v10 w10 ho10 hg10; rw [e1] at ho10; clear u1')
      refine (Two_any (ck : Int) _ (by omega) (by omega)).mono ?_
      rintro e w11 ⟨v11, rfl, ho11, hg11⟩
      have ho101 := ho10.grow hg11
      have hb11 := ho11.byt
      have hg1011 := hg10.trans hg11
      go_wp2_with (first | (at_builtin; refine wpList_app w9 _ rfl _ _ rfl _ _ _ _ rfl rfl ho101 hg1011 hb11 u4 ?_; intro v12 w12 ho12 hg12; clear ho101 u4) | (at_builtin; refine wpList_app w9 _ rfl _ _ rfl _ _ _ _ rfl rfl ho12 hg12 (hbz9.grow hg12) u5 ?_; intro v13 w13 ho13 hg13; clear ho12 u5))
      rw [e3] at ho13
      go_ret
      exact ⟨_, rfl, ho13.byt, ((hg1.trans hg2).trans hg5).trans ((hI5.trans g89).trans hg13)⟩
end Go.Proofs.Ytbhdpobmooncpaa
