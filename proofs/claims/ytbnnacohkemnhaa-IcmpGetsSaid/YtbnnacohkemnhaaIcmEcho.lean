/- A question, its answer, an error about a packet: Echo, Reply, About. -/
import Derived.Test.YtbnnacohkemnhaaIcmGet
namespace Go.Proofs.Ytbnnacohkemnhaa
set_option linter.unusedVariables false
set_option linter.unusedSimpArgs false
open Go.ChangeShapes Go.WideShapes Go.ChangeAt Go.RowKit

theorem or_half (a b : Nat) (ha : a < 65536) (hb : b < 65536) : bits .or .u32 ((a : Int) * 65536) (b : Int) = ((65536 * a + b : Nat) : Int) := by
  show IntKind.u32.wrap ((BitVec.ofInt 32 ((a : Int) * 65536) ||| BitVec.ofInt 32 (b : Int)).toNat : Int) = _
  rw [BitVec.toNat_or, BitVec.toNat_ofInt, BitVec.toNat_ofInt]
  rw [show (((a : Int) * 65536) % ((2 ^ 32 : Nat) : Int)).toNat = 2 ^ 16 * a by omega, show ((b : Int) % ((2 ^ 32 : Nat) : Int)).toNat = b by omega]
  rw [← Nat.two_pow_add_eq_or_of_lt (show b < 2 ^ 16 by omega)]
  simp only [IntKind.wrap, IntKind.signed, IntKind.bits]
  simp
  omega

set_option maxHeartbeats 400000 in
/-- A message, handed back alone out of its block. -/
theorem results1_Icm {fn : Func} (j : Nat) (h : fn.results = #[.cell j 25]) (tmps : Array Value) (w : World) (g : Nat) (k : Icm) (v_data : Value) (ht : tmps.getD j undef = .pointer (some ⟨g, 0, none⟩)) (hb : Icmblk w g k v_data) :
    (results fn tmps).run Try.prog w = .ok (IcmV k v_data) w := by
  obtain ⟨c0, c1, c2, c3⟩ := hb.boxd
  have ht' : tmps[j]?.getD undef = .pointer (some ⟨g, 0, none⟩) := by simpa using ht
  simp only [results, h, go_sem]
  simp [ht', c0, c1, c2, c3, go_sem]

set_option maxHeartbeats 2000000 in
theorem icmEcho_any (a b : Nat) (v : Value) (l : List UInt8) (w : World) (h : Byt w v l) (ha : a < 65536) (hb : b < 65536) (hl : l.length ≤ 1000000) :
    Calls Try.prog 17 #[.int .u16 (a : Int), .int .u16 (b : Int), v] w fun e w' => ∃ vd, e = .returned (IcmV ⟨8, 0, 65536 * a + b, l⟩ vd) ∧ Own w' (w.heap.size + 1) vd l ∧ Grow w w' := by
  obtain ⟨A, c, rfl, hcl, hcm⟩ := h.form
  obtain ⟨W1, hW1⟩ : ∃ W1, W1 = w.alloc (.cells #[.int .u8 0, .int .u8 0, .int .u32 0, .slice none 0 0] 25) := ⟨_, rfl⟩
  have hs0 : W1.heap.size = w.heap.size + 1 := by rw [hW1]; simp
  have hg1 : Grow w W1 := by rw [hW1]; exact Grow.alloc w _
  have hk1 : Icmblk W1 w.heap.size zeroM (.slice none 0 0) := by rw [hW1]; exact Icmblk.new w zeroM _
  have K := or_half a b ha hb
  have hb1 := h.grow hg1
  have n3 : 0 < [l].length := by simp
  have n4 : [l].length ≤ maxLen := by simp [maxLen]
  have n5 : lens [l] ≤ 281474976710656 := by simp [lens]; omega
  go_enter Try.func17, Try.ntmps17
  go_wp2_with fail
  rw [← hW1]
  refine (Join_lit_at W1 _ (Grow.refl _) _ 1 _ hs0.symm [l] rfl rfl n3 n4 n5 (byt_one hb1)).mono ?_
  rintro e w2 ⟨v2, rfl, ho2, hg2⟩
  rw [hs0] at ho2
  have e2 : [l].flatten = l := by simp
  rw [e2] at ho2
  obtain ⟨A4, n4, c4, rfl, _⟩ := ho2.byt.form2
  go_wp2_with (refine wpList_store_Icm w w2 rfl _ _ rfl rfl w.heap.size rfl ⟨8, 0, 65536 * a + b, l⟩ zeroM (.slice A4 n4 c4) (.slice none 0 0) (by first | rfl | simp) rfl (hk1.grow hg2) (hg1.trans hg2) (Nat.le_refl _) ?_; intro w4 hk4 hbut hg4)
  refine bodyPost_ret (results1_Icm 6 rfl _ w4 w.heap.size _ _ rfl hk4) rfl ?_
  exact ⟨_, rfl, Own.but ho2 hbut (by omega), hg4⟩

set_option maxHeartbeats 2000000 in
theorem icmReply_bad (v : Value) (k : Icm) (w : World) (h : isIcm w v k) (hk8 : ¬ (k.kind = 8 ∧ k.code = 0)) :
    Calls Try.prog 18 #[v] w fun e w' => e = .returned (.tuple #[IcmV zeroM (.slice none 0 0), .int .i64 6]) ∧ Grow w w' := by
  obtain ⟨A, c, rfl, hd, hk⟩ := h.form
  obtain ⟨W1, hW1⟩ : ∃ W1, W1 = (w.alloc (.cells #[.int .u8 (k.kind : Int), .int .u8 (k.code : Int), .int .u32 (k.rest : Int), .slice A k.data.length c] 25)).alloc (.cells #[.int .u8 0, .int .u8 0, .int .u32 0, .slice none 0 0] 25) := ⟨_, rfl⟩
  have hs0 : W1.heap.size = w.heap.size + 2 := by rw [hW1]; simp
  have hg1 : Grow w W1 := by rw [hW1]; exact (Grow.alloc w _).trans (Grow.alloc _ _)
  have hB1 : Icmbox W1 w.heap.size k (.slice A k.data.length c) := by rw [hW1]; exact (Icmbox.new _ _ _).grow (Grow.alloc _ _)
  have hk1 : Icmblk W1 (w.heap.size + 1) zeroM (.slice none 0 0) := by
    have := Icmblk.new (w.alloc (.cells #[.int .u8 (k.kind : Int), .int .u8 (k.code : Int), .int .u32 (k.rest : Int), .slice A k.data.length c] 25)) zeroM (.slice none 0 0)
    rw [World.size_alloc] at this
    rw [hW1]
    exact this
  obtain ⟨b0, b1, b2, b3⟩ := id hB1
  obtain ⟨_, k1, k2, k3⟩ := hk
  have hsz : w.heap.size ≤ w.heap.size + 1 := by omega
  by_cases h8 : k.kind = 8
  · have e1 : ((k.kind : Int) != 8) = false := by rw [h8]; rfl
    have e2 : ((k.code : Int) != 0) = true := bne_iff_ne.2 (by omega)
    clear h8
    go_enter Try.func18, Try.ntmps18
    go_upto_if 11 with fail
    rw [← hW1]
    clear hW1
    go_wp2_with (refine wpList_store_Icm w W1 rfl _ _ rfl rfl (w.heap.size + 1) rfl zeroM zeroM (.slice none 0 0) (.slice none 0 0) rfl rfl hk1 hg1 hsz ?_; intro w3 hk3 hbut hg3)
    refine bodyPost_ret (results_Icm rfl _ w3 (w.heap.size + 1) _ _ rfl hk3) rfl ?_
    exact ⟨rfl, hg3⟩
  · have e1 : ((k.kind : Int) != 8) = true := bne_iff_ne.2 (by omega)
    clear h8
    go_enter Try.func18, Try.ntmps18
    go_upto_if 11 with fail
    rw [← hW1]
    clear hW1
    go_wp2_with (refine wpList_store_Icm w W1 rfl _ _ rfl rfl (w.heap.size + 1) rfl zeroM zeroM (.slice none 0 0) (.slice none 0 0) rfl rfl hk1 hg1 hsz ?_; intro w3 hk3 hbut hg3)
    refine bodyPost_ret (results_Icm rfl _ w3 (w.heap.size + 1) _ _ rfl hk3) rfl ?_
    exact ⟨rfl, hg3⟩

set_option maxHeartbeats 4000000 in
theorem icmReply_good (v : Value) (k : Icm) (w : World) (h : isIcm w v k) (hl : k.data.length ≤ 1000000) (h8 : k.kind = 8) (h0 : k.code = 0) :
    Calls Try.prog 18 #[v] w fun e w' => ∃ vd, e = .returned (.tuple #[IcmV ⟨0, 0, k.rest, k.data⟩ vd, .int .i64 0]) ∧ Own w' (w.heap.size + 2) vd k.data ∧ Grow w w' := by
  obtain ⟨A, c, rfl, hd, hk⟩ := h.form
  obtain ⟨W1, hW1⟩ : ∃ W1, W1 = (w.alloc (.cells #[.int .u8 (k.kind : Int), .int .u8 (k.code : Int), .int .u32 (k.rest : Int), .slice A k.data.length c] 25)).alloc (.cells #[.int .u8 0, .int .u8 0, .int .u32 0, .slice none 0 0] 25) := ⟨_, rfl⟩
  have hs0 : W1.heap.size = w.heap.size + 2 := by rw [hW1]; simp
  have hg1 : Grow w W1 := by rw [hW1]; exact (Grow.alloc w _).trans (Grow.alloc _ _)
  have hB1 : Icmbox W1 w.heap.size k (.slice A k.data.length c) := by rw [hW1]; exact (Icmbox.new _ _ _).grow (Grow.alloc _ _)
  have hk1 : Icmblk W1 (w.heap.size + 1) zeroM (.slice none 0 0) := by
    have := Icmblk.new (w.alloc (.cells #[.int .u8 (k.kind : Int), .int .u8 (k.code : Int), .int .u32 (k.rest : Int), .slice A k.data.length c] 25)) zeroM (.slice none 0 0)
    rw [World.size_alloc] at this
    rw [hW1]
    exact this
  obtain ⟨b0, b1, b2, b3⟩ := id hB1
  obtain ⟨_, k1, k2, k3⟩ := hk
  have hsz : w.heap.size ≤ w.heap.size + 1 := by omega
  have e1 : ((k.kind : Int) != 8) = false := by rw [h8]; rfl
  have e2 : ((k.code : Int) != 0) = false := by rw [h0]; rfl
  have hdW := hd.grow hg1
  have g23 : lens [k.data] ≤ 281474976710656 := by simp [lens]; omega
  clear h8 h0
  go_enter Try.func18, Try.ntmps18
  go_upto_if 11 with fail
  rw [← hW1]
  clear hW1
  go_wp2_with fail
  refine wp_region_phase (A := ?frame3) (inList (isV (.pointer (some ⟨w.heap.size, 2, none⟩)) :: isV (.int .u32 (k.rest : Int)) :: isV (.pointer (some ⟨w.heap.size, 3, none⟩)) :: isV (.slice A k.data.length c) :: (isBs [k.data]) :: (isO (w.heap.size + 2) k.data) :: (isIcmO (w.heap.size + 2) ⟨0, 0, k.rest, k.data⟩) :: [])) 7 (by kernel_rfl) (by kernel_rfl) (by kernel_rfl) (inList_stays ?_) (fun x => ?frameEq3) ?_ ?_
  case frameEq3 => go_simp; rfl
  · intro f hf
    simp only [List.mem_cons, List.not_mem_nil, or_false] at hf
    rcases hf with rfl | rfl | rfl | rfl | rfl | rfl | rfl <;> first | exact isV_stays _ | exact isB_stays _ | exact isBs_stays _ | exact isO_stays _ | exact isIcmO_stays _
  · refine ⟨fun x w1 hg hd post hp => ?_, fun x w1 hg hd post hp => ?_, fun x w1 hg hd post hp => ?_, fun x w1 hg hd post hp => ?_, fun x w1 hg hd post hp => ?_, fun x w1 hg hd post hp => ?_, fun x w1 hg hd post hp => ?_, trivial⟩
    · -- 0: slot 13: Op.fieldAddr 25 t1 2
      clear hd
      go_simp
      exact hp _ _ (Grow.refl _) rfl
    · -- 1: slot 14: Op.load 22 t13
      have h13 : x 13 = .pointer (some ⟨w.heap.size, 2, none⟩) := hd 0 (by decide) _ rfl
      clear hd
      obtain ⟨d0, d1, d2, d3⟩ := hB1.grow hg
      go_simp
      exact hp _ _ (Grow.refl _) rfl
    · -- 2: slot 15: Op.fieldAddr 25 t1 3
      clear hd
      go_simp
      exact hp _ _ (Grow.refl _) rfl
    · -- 3: slot 16: Op.load 23 t15
      have h15 : x 15 = .pointer (some ⟨w.heap.size, 3, none⟩) := hd 2 (by decide) _ rfl
      clear hd
      obtain ⟨d0, d1, d2, d3⟩ := hB1.grow hg
      go_simp
      exact hp _ _ (Grow.refl _) rfl
    · -- 4: slot 17: Op.buildSlice 72 1 #[(0, t16)]
      have h16 : x 16 = .slice A k.data.length c := hd 3 (by decide) _ rfl
      clear hd
      have q1 := hdW.grow hg
      go_simp
      exact hp _ _ (Grow.alloc _ _) (Byts.lit w1 #[.slice A k.data.length c] _ [k.data] 1 rfl rfl (by simp [maxLen]) (byt_one q1))
    · -- 5: slot 18: Op.call { value (Operand.func 29), args := #[t17], argTypes := #[72] }
      have h17 : (isBs [k.data]) (x 17) w1 := hd 4 (by decide) _ rfl
      clear hd
      go_simp
      refine (Join_any _ _ _ h17 (by simp) g23).mono ?_
      rintro e w2 ⟨u, rfl, ho, hg2⟩
      have hz := hg.size
      have ho1 : Own w2 (w.heap.size + 2) u k.data := Own.base (b := w1.heap.size) (by simpa using ho) (by omega)
      exact ⟨_, rfl, hp _ _ hg2 ho1⟩
    · -- 6: slot 19: Op.build 25 #[(0, const (0:u8)), (2, t14), (3, t18)]
      have h14 : x 14 = .int .u32 (k.rest : Int) := hd 1 (by decide) _ rfl
      have h18 : (isO (w.heap.size + 2) k.data) (x 18) w1 := hd 5 (by decide) _ rfl
      clear hd
      have p18 : Own w1 _ (x 18) _ := h18
      obtain ⟨A4, n4, d4, e4, _⟩ := p18.byt.form2
      rw [e4] at p18
      go_simp
      exact hp _ _ (Grow.refl _) ⟨_, rfl, p18⟩
  · intro x w1 hg hd
    have h19 : (isIcmO (w.heap.size + 2) ⟨0, 0, k.rest, k.data⟩) (x 19) w1 := hd 6 _ (by decide) rfl
    clear hd
    obtain ⟨vd, e19, hvd⟩ := h19
    simp only [List.drop_succ_cons, List.drop_zero]
    go_wp2_with (refine wpList_store_Icm w w1 rfl _ _ rfl rfl (w.heap.size + 1) rfl ⟨0, 0, k.rest, k.data⟩ zeroM vd (.slice none 0 0) e19 hvd.one (hk1.grow hg) (hg1.trans hg) hsz ?_; intro w4 hk4 hbut hg4)
    refine bodyPost_ret (results_Icm rfl _ w4 (w.heap.size + 1) _ _ rfl hk4) rfl ?_
    exact ⟨_, rfl, Own.but hvd hbut (by omega), hg4⟩

set_option maxHeartbeats 2000000 in
theorem icmAbout_any (a b : Nat) (v : Value) (l : List UInt8) (w : World) (h : Byt w v l) (ha : a < 256) (hb : b < 256) (hl : l.length ≤ 1000000) :
    Calls Try.prog 19 #[.int .u8 (a : Int), .int .u8 (b : Int), v] w fun e w' => ∃ vd, e = .returned (IcmV ⟨a, b, 0, l.take (about l)⟩ vd) ∧ Own w' (w.heap.size + 1) vd (l.take (about l)) ∧ Grow w w' := by
  obtain ⟨A, c, rfl, hcl, hcm⟩ := h.form
  obtain ⟨W1, hW1⟩ : ∃ W1, W1 = w.alloc (.cells #[.int .u8 0, .int .u8 0, .int .u32 0, .slice none 0 0] 25) := ⟨_, rfl⟩
  have hs0 : W1.heap.size = w.heap.size + 1 := by rw [hW1]; simp
  have hg1 : Grow w W1 := by rw [hW1]; exact Grow.alloc w _
  have hk1 : Icmblk W1 w.heap.size zeroM (.slice none 0 0) := by rw [hW1]; exact Icmblk.new w zeroM _
  have hb1 := h.grow hg1
  obtain ⟨q1, q2⟩ := ahead_le l
  have q3 := about_le l
  obtain ⟨L, hL⟩ : ∃ L, L = l.take (about l) := ⟨_, rfl⟩
  have hbf : Byt W1 (.slice A (about l) c) L := by rw [hL]; exact hb1.front q3
  rw [← hL]
  have n3 : 0 < [L].length := by simp
  have n4 : [L].length ≤ maxLen := by simp [maxLen]
  have n5 : lens [L] ≤ 281474976710656 := by rw [hL]; simp [lens]; omega
  have e2 : [L].flatten = L := by simp
  clear hL
  by_cases h8 : ahead l + 8 ≤ l.length
  · have e8 : about l = ahead l + 8 := by unfold about; rw [if_pos h8]
    rw [e8] at hbf q3
    clear e8
    go_enter Try.func19, Try.ntmps19
    go_wp2_with fail
    rw [← hW1]
    clear hW1
    refine (iheader_any _ l _ hb1).mono ?_
    rintro e w' ⟨rfl, rfl⟩
    generalize ahead l = m at *
    have h8' : (m : Int) + 8 ≤ (l.length : Int) := by omega
    have i4 : m + 8 ≤ c := by omega
    go_wp2_with fail
    refine (Join_lit_at W1 _ (Grow.refl _) _ 1 _ hs0.symm [L] rfl rfl n3 n4 n5 (byt_one hbf)).mono ?_
    rintro e w2 ⟨v2, rfl, ho2, hg2⟩
    rw [hs0] at ho2
    rw [e2] at ho2
    obtain ⟨A4, n4, c4, rfl, _⟩ := ho2.byt.form2
    go_wp2_with (refine wpList_store_Icm w w2 rfl _ _ rfl rfl w.heap.size rfl ⟨a, b, 0, L⟩ zeroM (.slice A4 n4 c4) (.slice none 0 0) (by rfl) rfl (hk1.grow hg2) (hg1.trans hg2) (Nat.le_refl _) ?_; intro w4 hk4 hbut hg4)
    refine bodyPost_ret (results1_Icm 6 rfl _ w4 w.heap.size _ _ rfl hk4) rfl ?_
    exact ⟨_, rfl, Own.but ho2 hbut (by omega), hg4⟩
  · have e8 : about l = l.length := by unfold about; rw [if_neg h8]
    rw [e8] at hbf q3
    clear e8
    go_enter Try.func19, Try.ntmps19
    go_wp2_with fail
    rw [← hW1]
    clear hW1
    refine (iheader_any _ l _ hb1).mono ?_
    rintro e w' ⟨rfl, rfl⟩
    generalize ahead l = m at *
    have h8' : ¬ (m : Int) + 8 ≤ (l.length : Int) := by omega
    go_wp2_with fail
    refine (Join_lit_at W1 _ (Grow.refl _) _ 1 _ hs0.symm [L] rfl rfl n3 n4 n5 (byt_one hbf)).mono ?_
    rintro e w2 ⟨v2, rfl, ho2, hg2⟩
    rw [hs0] at ho2
    rw [e2] at ho2
    obtain ⟨A4, n4, c4, rfl, _⟩ := ho2.byt.form2
    go_wp2_with (refine wpList_store_Icm w w2 rfl _ _ rfl rfl w.heap.size rfl ⟨a, b, 0, L⟩ zeroM (.slice A4 n4 c4) (.slice none 0 0) (by rfl) rfl (hk1.grow hg2) (hg1.trans hg2) (Nat.le_refl _) ?_; intro w4 hk4 hbut hg4)
    refine bodyPost_ret (results1_Icm 6 rfl _ w4 w.heap.size _ _ rfl hk4) rfl ?_
    exact ⟨_, rfl, Own.but ho2 hbut (by omega), hg4⟩
end Go.Proofs.Ytbnnacohkemnhaa
