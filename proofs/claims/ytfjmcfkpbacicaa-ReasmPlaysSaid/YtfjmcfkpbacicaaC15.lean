/- Contract: the reference's Add, refused ahead of all else. -/
import Derived.Test.YtfjmcfkpbacicaaC14
namespace Go.Proofs.Ytfjmcfkpbacicaa
set_option linter.unusedVariables false
set_option linter.unusedSimpArgs false
open Go.ChangeShapes Go.WideShapes Go.ChangeAt Go.RowKit

set_option maxRecDepth 10000 in
set_option maxHeartbeats 600000 in
theorem rAdd_range (w : World) (base : Nat) (v : Value) (most life : Int) (A1 : List Wt) (hT : RTab w base v most life A1) (hb : base ≤ w.heap.size) (now : Int) (k : Pkt) (vo vd : Value) (hp : Piece base w k vo vd) (hr : now < 0 ∨ 1099511627776 < now ∨ k.off < 0 ∨ 8191 < k.off) :
    Calls Try.prog 15 #[v, .int .i64 now, ipV k vo vd] w fun e w' => RAdded w base most life ⟨A1, zeroPk, false, 8⟩ e w' := by
  obtain ⟨vL0, l0, rfl, hrow, hok, hA⟩ := id hT
  obtain ⟨A0, n0, cp0, e0⟩ : ∃ A n c, vL0 = .slice A n c := by
    obtain ⟨A0, cp0, e0, _, _⟩ := (RdK.of_own hrow).form
    exact ⟨_, _, _, e0⟩
  subst e0
  obtain ⟨A, c, rfl, _⟩ := hp.o.1.form
  obtain ⟨B, d, rfl, _⟩ := hp.d.1.form
  obtain ⟨W1, hW1⟩ : ∃ W1, W1 = (((w.alloc (.cells #[.int .i64 most, .int .i64 life, .slice A0 n0 cp0] 32)).alloc (.cells #[.int .u8 (k.tos : Int), .int .u16 (k.ident : Int), .bool k.whole, .bool k.more, .int .i64 k.off, .int .u8 (k.ttl : Int), .int .u8 (k.proto : Int), .int .u32 (k.src : Int), .int .u32 (k.dst : Int), .slice A k.opts.length c, .slice B k.data.length d] 38)).alloc (.cells #[.int .i64 0, .int .i64 0, .slice none 0 0] 32)).alloc (.cells #[.int .u8 0, .int .u16 0, .bool false, .bool false, .int .i64 0, .int .u8 0, .int .u8 0, .int .u32 0, .int .u32 0, .slice none 0 0, .slice none 0 0] 38) := ⟨_, rfl⟩
  obtain ⟨ha, hsz⟩ := ra_start w most life _ k _ _ hW1
  have HA := Lib.hid ha
  have HT := Lib.hid (And.intro hT hp)
  obtain ⟨b0, b1, b2, b3, b4, b5, b6, b7, b8, b9, b10⟩ := ha.pk.boxd
  have c0 := ha.tb.c0
  have c1 := ha.tb.c1
  have c2 := ha.tb.c2
  clear ha hrow hok hA hT hp hsz
  by_cases q0 : now < 0
  · have d0 : decide (now < 0) = true := decide_eq_true q0
    clear hr q0
    go_enter Try.func15, Try.ntmps15
    go_upto_region 1 with fail
    rw [← hW1]
    clear hW1
    go_upto_region 2 with fail
    go_wp2_with (first | (show wpList _ _ _ (⟨none, .store 32 (.tmp 6) (.tmp 34), _, _, _, _⟩ :: _) _ _; refine wpList_store_tb w W1 rfl _ _ rfl rfl (w.heap.size + 2) rfl most life (.slice A0 n0 cp0) rfl rfl 0 0 (.slice none 0 0) HA.out.rt HA.out.gr (by omega) ?_; intro wA hA hbA gA; have FA := Lib.hid (And.intro hA (And.intro gA ((hbA.2 (w.heap.size + 3) (by omega)).trans HA.out.ri))); clear hA hbA gA) | (show wpList _ _ _ (⟨none, .store 38 (.tmp 7) (.tmp 35), _, _, _, _⟩ :: _) _ _; refine wpList_store_ip w wA rfl _ _ rfl rfl (w.heap.size + 3) rfl zeroPk zeroPk (.slice none 0 0) (.slice none 0 0) (.slice none 0 0) (.slice none 0 0) rfl rfl rfl FA.out.2.2 FA.out.2.1 (by omega) ?_; intro wB hB hbB gB; have FB := Lib.hid (And.intro hB (And.intro (TbBlk.but FA.out.1 hbB (by omega)) gB)); clear hB hbB gB))
    refine bodyPost_ret (results4_ra rfl _ wB (w.heap.size + 2) (w.heap.size + 3) most life (.slice A0 n0 cp0) zeroPk (.slice none 0 0) (.slice none 0 0) rfl rfl FB.out.2.1 FB.out.1) rfl ?_
    exact ⟨_, _, _, rfl, HT.out.1.grow FB.out.2.2 hb, zero_ipF _ _, FB.out.2.2⟩
  have d0 : decide (now < 0) = false := decide_eq_false q0
  by_cases q1 : 1099511627776 < now
  · have d1 : decide (1099511627776 < now) = true := decide_eq_true q1
    clear hr q0 q1
    go_enter Try.func15, Try.ntmps15
    go_upto_region 1 with fail
    rw [← hW1]
    clear hW1
    go_upto_region 2 with fail
    go_wp2_with (first | (show wpList _ _ _ (⟨none, .store 32 (.tmp 6) (.tmp 34), _, _, _, _⟩ :: _) _ _; refine wpList_store_tb w W1 rfl _ _ rfl rfl (w.heap.size + 2) rfl most life (.slice A0 n0 cp0) rfl rfl 0 0 (.slice none 0 0) HA.out.rt HA.out.gr (by omega) ?_; intro wA hA hbA gA; have FA := Lib.hid (And.intro hA (And.intro gA ((hbA.2 (w.heap.size + 3) (by omega)).trans HA.out.ri))); clear hA hbA gA) | (show wpList _ _ _ (⟨none, .store 38 (.tmp 7) (.tmp 35), _, _, _, _⟩ :: _) _ _; refine wpList_store_ip w wA rfl _ _ rfl rfl (w.heap.size + 3) rfl zeroPk zeroPk (.slice none 0 0) (.slice none 0 0) (.slice none 0 0) (.slice none 0 0) rfl rfl rfl FA.out.2.2 FA.out.2.1 (by omega) ?_; intro wB hB hbB gB; have FB := Lib.hid (And.intro hB (And.intro (TbBlk.but FA.out.1 hbB (by omega)) gB)); clear hB hbB gB))
    refine bodyPost_ret (results4_ra rfl _ wB (w.heap.size + 2) (w.heap.size + 3) most life (.slice A0 n0 cp0) zeroPk (.slice none 0 0) (.slice none 0 0) rfl rfl FB.out.2.1 FB.out.1) rfl ?_
    exact ⟨_, _, _, rfl, HT.out.1.grow FB.out.2.2 hb, zero_ipF _ _, FB.out.2.2⟩
  have d1 : decide (1099511627776 < now) = false := decide_eq_false q1
  by_cases q2 : k.off < 0
  · have d2 : decide (k.off < 0) = true := decide_eq_true q2
    clear hr q0 q1 q2
    go_enter Try.func15, Try.ntmps15
    go_upto_region 1 with fail
    rw [← hW1]
    clear hW1
    go_upto_region 2 with fail
    go_wp2_with (first | (show wpList _ _ _ (⟨none, .store 32 (.tmp 6) (.tmp 34), _, _, _, _⟩ :: _) _ _; refine wpList_store_tb w W1 rfl _ _ rfl rfl (w.heap.size + 2) rfl most life (.slice A0 n0 cp0) rfl rfl 0 0 (.slice none 0 0) HA.out.rt HA.out.gr (by omega) ?_; intro wA hA hbA gA; have FA := Lib.hid (And.intro hA (And.intro gA ((hbA.2 (w.heap.size + 3) (by omega)).trans HA.out.ri))); clear hA hbA gA) | (show wpList _ _ _ (⟨none, .store 38 (.tmp 7) (.tmp 35), _, _, _, _⟩ :: _) _ _; refine wpList_store_ip w wA rfl _ _ rfl rfl (w.heap.size + 3) rfl zeroPk zeroPk (.slice none 0 0) (.slice none 0 0) (.slice none 0 0) (.slice none 0 0) rfl rfl rfl FA.out.2.2 FA.out.2.1 (by omega) ?_; intro wB hB hbB gB; have FB := Lib.hid (And.intro hB (And.intro (TbBlk.but FA.out.1 hbB (by omega)) gB)); clear hB hbB gB))
    refine bodyPost_ret (results4_ra rfl _ wB (w.heap.size + 2) (w.heap.size + 3) most life (.slice A0 n0 cp0) zeroPk (.slice none 0 0) (.slice none 0 0) rfl rfl FB.out.2.1 FB.out.1) rfl ?_
    exact ⟨_, _, _, rfl, HT.out.1.grow FB.out.2.2 hb, zero_ipF _ _, FB.out.2.2⟩
  have d2 : decide (k.off < 0) = false := decide_eq_false q2
  by_cases q3 : 8191 < k.off
  · have d3 : decide (8191 < k.off) = true := decide_eq_true q3
    clear hr q0 q1 q2 q3
    go_enter Try.func15, Try.ntmps15
    go_upto_region 1 with fail
    rw [← hW1]
    clear hW1
    go_upto_region 2 with fail
    go_wp2_with (first | (show wpList _ _ _ (⟨none, .store 32 (.tmp 6) (.tmp 34), _, _, _, _⟩ :: _) _ _; refine wpList_store_tb w W1 rfl _ _ rfl rfl (w.heap.size + 2) rfl most life (.slice A0 n0 cp0) rfl rfl 0 0 (.slice none 0 0) HA.out.rt HA.out.gr (by omega) ?_; intro wA hA hbA gA; have FA := Lib.hid (And.intro hA (And.intro gA ((hbA.2 (w.heap.size + 3) (by omega)).trans HA.out.ri))); clear hA hbA gA) | (show wpList _ _ _ (⟨none, .store 38 (.tmp 7) (.tmp 35), _, _, _, _⟩ :: _) _ _; refine wpList_store_ip w wA rfl _ _ rfl rfl (w.heap.size + 3) rfl zeroPk zeroPk (.slice none 0 0) (.slice none 0 0) (.slice none 0 0) (.slice none 0 0) rfl rfl rfl FA.out.2.2 FA.out.2.1 (by omega) ?_; intro wB hB hbB gB; have FB := Lib.hid (And.intro hB (And.intro (TbBlk.but FA.out.1 hbB (by omega)) gB)); clear hB hbB gB))
    refine bodyPost_ret (results4_ra rfl _ wB (w.heap.size + 2) (w.heap.size + 3) most life (.slice A0 n0 cp0) zeroPk (.slice none 0 0) (.slice none 0 0) rfl rfl FB.out.2.1 FB.out.1) rfl ?_
    exact ⟨_, _, _, rfl, HT.out.1.grow FB.out.2.2 hb, zero_ipF _ _, FB.out.2.2⟩
  have d3 : decide (8191 < k.off) = false := decide_eq_false q3
  omega
set_option maxRecDepth 10000 in
set_option maxHeartbeats 600000 in
theorem rAdd_check (w : World) (base : Nat) (v : Value) (most life : Int) (A1 : List Wt) (hT : RTab w base v most life A1) (hb : base ≤ w.heap.size) (now : Int) (k : Pkt) (vo vd : Value) (hp : Piece base w k vo vd) (hr : ¬ (now < 0 ∨ 1099511627776 < now ∨ k.off < 0 ∨ 8191 < k.off)) (hcp : ¬ (k.off = 0 ∧ k.more = false)) (hc : chk k ≠ 0) :
    Calls Try.prog 15 #[v, .int .i64 now, ipV k vo vd] w fun e w' => RAdded w base most life ⟨A1, zeroPk, false, chk k⟩ e w' := by
  obtain ⟨vL0, l0, rfl, hrow, hok, hA⟩ := id hT
  obtain ⟨A0, n0, cp0, e0⟩ : ∃ A n c, vL0 = .slice A n c := by
    obtain ⟨A0, cp0, e0, _, _⟩ := (RdK.of_own hrow).form
    exact ⟨_, _, _, e0⟩
  subst e0
  obtain ⟨A, c, rfl, _⟩ := hp.o.1.form
  obtain ⟨B, d, rfl, _⟩ := hp.d.1.form
  obtain ⟨W1, hW1⟩ : ∃ W1, W1 = (((w.alloc (.cells #[.int .i64 most, .int .i64 life, .slice A0 n0 cp0] 32)).alloc (.cells #[.int .u8 (k.tos : Int), .int .u16 (k.ident : Int), .bool k.whole, .bool k.more, .int .i64 k.off, .int .u8 (k.ttl : Int), .int .u8 (k.proto : Int), .int .u32 (k.src : Int), .int .u32 (k.dst : Int), .slice A k.opts.length c, .slice B k.data.length d] 38)).alloc (.cells #[.int .i64 0, .int .i64 0, .slice none 0 0] 32)).alloc (.cells #[.int .u8 0, .int .u16 0, .bool false, .bool false, .int .i64 0, .int .u8 0, .int .u8 0, .int .u32 0, .int .u32 0, .slice none 0 0, .slice none 0 0] 38) := ⟨_, rfl⟩
  obtain ⟨ha, hsz⟩ := ra_start w most life _ k _ _ hW1
  have HA := Lib.hid ha
  have HT := Lib.hid (And.intro hT hp)
  obtain ⟨b0, b1, b2, b3, b4, b5, b6, b7, b8, b9, b10⟩ := ha.pk.boxd
  have c0 := ha.tb.c0
  have c1 := ha.tb.c1
  have c2 := ha.tb.c2
  have hsm := hp.small.2
  clear ha hrow hok hA hT hp hsz
  have d1 : decide (now < 0) = false := decide_eq_false (by omega)
  have d2 : decide (1099511627776 < now) = false := decide_eq_false (by omega)
  have d3 : decide (k.off < 0) = false := decide_eq_false (by omega)
  have d4 : decide (8191 < k.off) = false := decide_eq_false (by omega)
  have h0 : 0 ≤ k.off := by omega
  have h1 : k.off ≤ 8191 := by omega
  have HC : Hid (k.data.length = 0 ∨ (k.more = true ∧ k.data.length % 8 ≠ 0) → chk k = 3) := fun h => by unfold chk; rw [if_pos h]
  have HC9 : Hid (¬ (k.data.length = 0 ∨ (k.more = true ∧ k.data.length % 8 ≠ 0)) → 65515 < endOf k ∧ chk k = 9) := fun h => by
    unfold chk at hc ⊢
    rw [if_neg h] at hc ⊢
    split at hc
    · rename_i h2
      exact ⟨h2, by rw [if_pos h2]⟩
    · exact absurd rfl hc
  have HCP := Lib.hid hcp
  clear hr hcp hc
  by_cases o0 : k.off = 0
  · have hmo : k.more = true := by
      cases hm : k.more with
      | true => rfl
      | false => exact absurd ⟨o0, hm⟩ HCP.out
    have HM := Lib.hid hmo
    rw [hmo] at b3
    rw [o0] at b4
    have HO := Lib.hid o0
    clear o0 hmo d3 d4 h0 h1
    by_cases l0 : k.data.length = 0
    · have HE : Hid (chk k = 3) := HC.out (.inl l0)
      rw [l0] at b10
      clear l0
      go_enter Try.func15, Try.ntmps15
      go_upto_region 1 with fail
      rw [← hW1]
      clear hW1
      go_upto_region 6 with fail
      go_wp2_with (first | (show wpList _ _ _ (⟨none, .store 32 (.tmp 6) (.tmp 61), _, _, _, _⟩ :: _) _ _; refine wpList_store_tb w W1 rfl _ _ rfl rfl (w.heap.size + 2) rfl most life (.slice A0 n0 cp0) rfl rfl 0 0 (.slice none 0 0) HA.out.rt HA.out.gr (by omega) ?_; intro wA hA hbA gA; have FA := Lib.hid (And.intro hA (And.intro gA ((hbA.2 (w.heap.size + 3) (by omega)).trans HA.out.ri))); clear hA hbA gA) | (show wpList _ _ _ (⟨none, .store 38 (.tmp 7) (.tmp 62), _, _, _, _⟩ :: _) _ _; refine wpList_store_ip w wA rfl _ _ rfl rfl (w.heap.size + 3) rfl zeroPk zeroPk (.slice none 0 0) (.slice none 0 0) (.slice none 0 0) (.slice none 0 0) rfl rfl rfl FA.out.2.2 FA.out.2.1 (by omega) ?_; intro wB hB hbB gB; have FB := Lib.hid (And.intro hB (And.intro (TbBlk.but FA.out.1 hbB (by omega)) gB)); clear hB hbB gB))
      refine bodyPost_ret (results4_ra rfl _ wB (w.heap.size + 2) (w.heap.size + 3) most life (.slice A0 n0 cp0) zeroPk (.slice none 0 0) (.slice none 0 0) rfl rfl FB.out.2.1 FB.out.1) rfl ?_
      exact ⟨_, _, _, by rw [HE.out]; rfl, HT.out.1.grow FB.out.2.2 hb, zero_ipF _ _, FB.out.2.2⟩
    have e0 : ((k.data.length : Int) == 0) = false := by rw [beq_eq_false_iff_ne]; omega
    have e1 : decide ((k.data.length : Int) = 0) = false := decide_eq_false (by omega)
    have m1 : ((k.data.length : Int)).tmod 8 = ((k.data.length % 8 : Nat) : Int) := (Int.ofNat_tmod k.data.length 8).symm
    have m2 : ((k.data.length : Int)) % 8 = ((k.data.length % 8 : Nat) : Int) := by omega
    by_cases l8 : k.data.length % 8 = 0
    case neg =>
      have f0 : (((k.data.length % 8 : Nat) : Int) != 0) = true := by rw [bne_iff_ne]; omega
      have HE : Hid (chk k = 3) := HC.out (.inr ⟨HM.out, l8⟩)
      generalize k.data.length % 8 = r8 at *
      clear l8 l0
      go_enter Try.func15, Try.ntmps15
      go_upto_region 1 with fail
      rw [← hW1]
      clear hW1
      go_upto_region 6 with fail
      go_wp2_with (first | (show wpList _ _ _ (⟨none, .store 32 (.tmp 6) (.tmp 61), _, _, _, _⟩ :: _) _ _; refine wpList_store_tb w W1 rfl _ _ rfl rfl (w.heap.size + 2) rfl most life (.slice A0 n0 cp0) rfl rfl 0 0 (.slice none 0 0) HA.out.rt HA.out.gr (by omega) ?_; intro wA hA hbA gA; have FA := Lib.hid (And.intro hA (And.intro gA ((hbA.2 (w.heap.size + 3) (by omega)).trans HA.out.ri))); clear hA hbA gA) | (show wpList _ _ _ (⟨none, .store 38 (.tmp 7) (.tmp 62), _, _, _, _⟩ :: _) _ _; refine wpList_store_ip w wA rfl _ _ rfl rfl (w.heap.size + 3) rfl zeroPk zeroPk (.slice none 0 0) (.slice none 0 0) (.slice none 0 0) (.slice none 0 0) rfl rfl rfl FA.out.2.2 FA.out.2.1 (by omega) ?_; intro wB hB hbB gB; have FB := Lib.hid (And.intro hB (And.intro (TbBlk.but FA.out.1 hbB (by omega)) gB)); clear hB hbB gB))
      refine bodyPost_ret (results4_ra rfl _ wB (w.heap.size + 2) (w.heap.size + 3) most life (.slice A0 n0 cp0) zeroPk (.slice none 0 0) (.slice none 0 0) rfl rfl FB.out.2.1 FB.out.1) rfl ?_
      exact ⟨_, _, _, by rw [HE.out]; rfl, HT.out.1.grow FB.out.2.2 hb, zero_ipF _ _, FB.out.2.2⟩
    rw [l8] at m1 m2
    have HE2 := Lib.hid (HC9.out (by rintro (h | ⟨_, h⟩); exact l0 h; exact h l8))
    clear l8
    have HE := Lib.hid HE2.out.2
    have he : 65515 < (k.data.length : Int) := by have h1 := HE2.out.1; have h2 := HO.out; unfold endOf at h1; omega
    have f9 : decide (65515 < (k.data.length : Int)) = true := decide_eq_true he
    clear l0 he
    go_enter Try.func15, Try.ntmps15
    go_upto_region 1 with fail
    rw [← hW1]
    clear hW1
    go_upto_region 10 with fail
    go_wp2_with (first | (show wpList _ _ _ (⟨none, .store 32 (.tmp 6) (.tmp 73), _, _, _, _⟩ :: _) _ _; refine wpList_store_tb w W1 rfl _ _ rfl rfl (w.heap.size + 2) rfl most life (.slice A0 n0 cp0) rfl rfl 0 0 (.slice none 0 0) HA.out.rt HA.out.gr (by omega) ?_; intro wA hA hbA gA; have FA := Lib.hid (And.intro hA (And.intro gA ((hbA.2 (w.heap.size + 3) (by omega)).trans HA.out.ri))); clear hA hbA gA) | (show wpList _ _ _ (⟨none, .store 38 (.tmp 7) (.tmp 74), _, _, _, _⟩ :: _) _ _; refine wpList_store_ip w wA rfl _ _ rfl rfl (w.heap.size + 3) rfl zeroPk zeroPk (.slice none 0 0) (.slice none 0 0) (.slice none 0 0) (.slice none 0 0) rfl rfl rfl FA.out.2.2 FA.out.2.1 (by omega) ?_; intro wB hB hbB gB; have FB := Lib.hid (And.intro hB (And.intro (TbBlk.but FA.out.1 hbB (by omega)) gB)); clear hB hbB gB))
    refine bodyPost_ret (results4_ra rfl _ wB (w.heap.size + 2) (w.heap.size + 3) most life (.slice A0 n0 cp0) zeroPk (.slice none 0 0) (.slice none 0 0) rfl rfl FB.out.2.1 FB.out.1) rfl ?_
    exact ⟨_, _, _, by rw [HE.out]; rfl, HT.out.1.grow FB.out.2.2 hb, zero_ipF _ _, FB.out.2.2⟩
  · have q0 : (k.off == 0) = false := by rw [beq_eq_false_iff_ne]; exact o0
    have q1 : decide (k.off = 0) = false := decide_eq_false o0
    clear o0
    cases hmo : k.more with
    | true =>
      have HM := Lib.hid hmo
      rw [hmo] at b3
      clear hmo
      by_cases l0 : k.data.length = 0
      · have HE : Hid (chk k = 3) := HC.out (.inl l0)
        rw [l0] at b10
        clear l0
        go_enter Try.func15, Try.ntmps15
        go_upto_region 1 with fail
        rw [← hW1]
        clear hW1
        go_upto_region 6 with fail
        go_wp2_with (first | (show wpList _ _ _ (⟨none, .store 32 (.tmp 6) (.tmp 61), _, _, _, _⟩ :: _) _ _; refine wpList_store_tb w W1 rfl _ _ rfl rfl (w.heap.size + 2) rfl most life (.slice A0 n0 cp0) rfl rfl 0 0 (.slice none 0 0) HA.out.rt HA.out.gr (by omega) ?_; intro wA hA hbA gA; have FA := Lib.hid (And.intro hA (And.intro gA ((hbA.2 (w.heap.size + 3) (by omega)).trans HA.out.ri))); clear hA hbA gA) | (show wpList _ _ _ (⟨none, .store 38 (.tmp 7) (.tmp 62), _, _, _, _⟩ :: _) _ _; refine wpList_store_ip w wA rfl _ _ rfl rfl (w.heap.size + 3) rfl zeroPk zeroPk (.slice none 0 0) (.slice none 0 0) (.slice none 0 0) (.slice none 0 0) rfl rfl rfl FA.out.2.2 FA.out.2.1 (by omega) ?_; intro wB hB hbB gB; have FB := Lib.hid (And.intro hB (And.intro (TbBlk.but FA.out.1 hbB (by omega)) gB)); clear hB hbB gB))
        refine bodyPost_ret (results4_ra rfl _ wB (w.heap.size + 2) (w.heap.size + 3) most life (.slice A0 n0 cp0) zeroPk (.slice none 0 0) (.slice none 0 0) rfl rfl FB.out.2.1 FB.out.1) rfl ?_
        exact ⟨_, _, _, by rw [HE.out]; rfl, HT.out.1.grow FB.out.2.2 hb, zero_ipF _ _, FB.out.2.2⟩
      have e0 : ((k.data.length : Int) == 0) = false := by rw [beq_eq_false_iff_ne]; omega
      have e1 : decide ((k.data.length : Int) = 0) = false := decide_eq_false (by omega)
      have m1 : ((k.data.length : Int)).tmod 8 = ((k.data.length % 8 : Nat) : Int) := (Int.ofNat_tmod k.data.length 8).symm
      have m2 : ((k.data.length : Int)) % 8 = ((k.data.length % 8 : Nat) : Int) := by omega
      by_cases l8 : k.data.length % 8 = 0
      case neg =>
        have f0 : (((k.data.length % 8 : Nat) : Int) != 0) = true := by rw [bne_iff_ne]; omega
        have HE : Hid (chk k = 3) := HC.out (.inr ⟨HM.out, l8⟩)
        generalize k.data.length % 8 = r8 at *
        clear l8 l0
        go_enter Try.func15, Try.ntmps15
        go_upto_region 1 with fail
        rw [← hW1]
        clear hW1
        go_upto_region 6 with fail
        go_wp2_with (first | (show wpList _ _ _ (⟨none, .store 32 (.tmp 6) (.tmp 61), _, _, _, _⟩ :: _) _ _; refine wpList_store_tb w W1 rfl _ _ rfl rfl (w.heap.size + 2) rfl most life (.slice A0 n0 cp0) rfl rfl 0 0 (.slice none 0 0) HA.out.rt HA.out.gr (by omega) ?_; intro wA hA hbA gA; have FA := Lib.hid (And.intro hA (And.intro gA ((hbA.2 (w.heap.size + 3) (by omega)).trans HA.out.ri))); clear hA hbA gA) | (show wpList _ _ _ (⟨none, .store 38 (.tmp 7) (.tmp 62), _, _, _, _⟩ :: _) _ _; refine wpList_store_ip w wA rfl _ _ rfl rfl (w.heap.size + 3) rfl zeroPk zeroPk (.slice none 0 0) (.slice none 0 0) (.slice none 0 0) (.slice none 0 0) rfl rfl rfl FA.out.2.2 FA.out.2.1 (by omega) ?_; intro wB hB hbB gB; have FB := Lib.hid (And.intro hB (And.intro (TbBlk.but FA.out.1 hbB (by omega)) gB)); clear hB hbB gB))
        refine bodyPost_ret (results4_ra rfl _ wB (w.heap.size + 2) (w.heap.size + 3) most life (.slice A0 n0 cp0) zeroPk (.slice none 0 0) (.slice none 0 0) rfl rfl FB.out.2.1 FB.out.1) rfl ?_
        exact ⟨_, _, _, by rw [HE.out]; rfl, HT.out.1.grow FB.out.2.2 hb, zero_ipF _ _, FB.out.2.2⟩
      rw [l8] at m1 m2
      have HE2 := Lib.hid (HC9.out (by rintro (h | ⟨_, h⟩); exact l0 h; exact h l8))
      clear l8
      have HE := Lib.hid HE2.out.2
      have he : 65515 < 8 * k.off + (k.data.length : Int) := HE2.out.1
      have f9 : decide (65515 < 8 * k.off + (k.data.length : Int)) = true := decide_eq_true he
      clear l0 he
      go_enter Try.func15, Try.ntmps15
      go_upto_region 1 with fail
      rw [← hW1]
      clear hW1
      go_upto_region 10 with fail
      go_wp2_with (first | (show wpList _ _ _ (⟨none, .store 32 (.tmp 6) (.tmp 73), _, _, _, _⟩ :: _) _ _; refine wpList_store_tb w W1 rfl _ _ rfl rfl (w.heap.size + 2) rfl most life (.slice A0 n0 cp0) rfl rfl 0 0 (.slice none 0 0) HA.out.rt HA.out.gr (by omega) ?_; intro wA hA hbA gA; have FA := Lib.hid (And.intro hA (And.intro gA ((hbA.2 (w.heap.size + 3) (by omega)).trans HA.out.ri))); clear hA hbA gA) | (show wpList _ _ _ (⟨none, .store 38 (.tmp 7) (.tmp 74), _, _, _, _⟩ :: _) _ _; refine wpList_store_ip w wA rfl _ _ rfl rfl (w.heap.size + 3) rfl zeroPk zeroPk (.slice none 0 0) (.slice none 0 0) (.slice none 0 0) (.slice none 0 0) rfl rfl rfl FA.out.2.2 FA.out.2.1 (by omega) ?_; intro wB hB hbB gB; have FB := Lib.hid (And.intro hB (And.intro (TbBlk.but FA.out.1 hbB (by omega)) gB)); clear hB hbB gB))
      refine bodyPost_ret (results4_ra rfl _ wB (w.heap.size + 2) (w.heap.size + 3) most life (.slice A0 n0 cp0) zeroPk (.slice none 0 0) (.slice none 0 0) rfl rfl FB.out.2.1 FB.out.1) rfl ?_
      exact ⟨_, _, _, by rw [HE.out]; rfl, HT.out.1.grow FB.out.2.2 hb, zero_ipF _ _, FB.out.2.2⟩
    | false =>
      have HM := Lib.hid hmo
      rw [hmo] at b3
      clear hmo
      by_cases l0 : k.data.length = 0
      · have HE : Hid (chk k = 3) := HC.out (.inl l0)
        rw [l0] at b10
        clear l0
        go_enter Try.func15, Try.ntmps15
        go_upto_region 1 with fail
        rw [← hW1]
        clear hW1
        go_upto_region 6 with fail
        go_wp2_with (first | (show wpList _ _ _ (⟨none, .store 32 (.tmp 6) (.tmp 61), _, _, _, _⟩ :: _) _ _; refine wpList_store_tb w W1 rfl _ _ rfl rfl (w.heap.size + 2) rfl most life (.slice A0 n0 cp0) rfl rfl 0 0 (.slice none 0 0) HA.out.rt HA.out.gr (by omega) ?_; intro wA hA hbA gA; have FA := Lib.hid (And.intro hA (And.intro gA ((hbA.2 (w.heap.size + 3) (by omega)).trans HA.out.ri))); clear hA hbA gA) | (show wpList _ _ _ (⟨none, .store 38 (.tmp 7) (.tmp 62), _, _, _, _⟩ :: _) _ _; refine wpList_store_ip w wA rfl _ _ rfl rfl (w.heap.size + 3) rfl zeroPk zeroPk (.slice none 0 0) (.slice none 0 0) (.slice none 0 0) (.slice none 0 0) rfl rfl rfl FA.out.2.2 FA.out.2.1 (by omega) ?_; intro wB hB hbB gB; have FB := Lib.hid (And.intro hB (And.intro (TbBlk.but FA.out.1 hbB (by omega)) gB)); clear hB hbB gB))
        refine bodyPost_ret (results4_ra rfl _ wB (w.heap.size + 2) (w.heap.size + 3) most life (.slice A0 n0 cp0) zeroPk (.slice none 0 0) (.slice none 0 0) rfl rfl FB.out.2.1 FB.out.1) rfl ?_
        exact ⟨_, _, _, by rw [HE.out]; rfl, HT.out.1.grow FB.out.2.2 hb, zero_ipF _ _, FB.out.2.2⟩
      have e0 : ((k.data.length : Int) == 0) = false := by rw [beq_eq_false_iff_ne]; omega
      have e1 : decide ((k.data.length : Int) = 0) = false := decide_eq_false (by omega)
      have HE2 := Lib.hid (HC9.out (by rintro (h | ⟨h, _⟩); exact l0 h; rw [HM.out] at h; cases h))
      have HE := Lib.hid HE2.out.2
      have he : 65515 < 8 * k.off + (k.data.length : Int) := HE2.out.1
      have f9 : decide (65515 < 8 * k.off + (k.data.length : Int)) = true := decide_eq_true he
      clear l0 he
      go_enter Try.func15, Try.ntmps15
      go_upto_region 1 with fail
      rw [← hW1]
      clear hW1
      go_upto_region 10 with fail
      go_wp2_with (first | (show wpList _ _ _ (⟨none, .store 32 (.tmp 6) (.tmp 73), _, _, _, _⟩ :: _) _ _; refine wpList_store_tb w W1 rfl _ _ rfl rfl (w.heap.size + 2) rfl most life (.slice A0 n0 cp0) rfl rfl 0 0 (.slice none 0 0) HA.out.rt HA.out.gr (by omega) ?_; intro wA hA hbA gA; have FA := Lib.hid (And.intro hA (And.intro gA ((hbA.2 (w.heap.size + 3) (by omega)).trans HA.out.ri))); clear hA hbA gA) | (show wpList _ _ _ (⟨none, .store 38 (.tmp 7) (.tmp 74), _, _, _, _⟩ :: _) _ _; refine wpList_store_ip w wA rfl _ _ rfl rfl (w.heap.size + 3) rfl zeroPk zeroPk (.slice none 0 0) (.slice none 0 0) (.slice none 0 0) (.slice none 0 0) rfl rfl rfl FA.out.2.2 FA.out.2.1 (by omega) ?_; intro wB hB hbB gB; have FB := Lib.hid (And.intro hB (And.intro (TbBlk.but FA.out.1 hbB (by omega)) gB)); clear hB hbB gB))
      refine bodyPost_ret (results4_ra rfl _ wB (w.heap.size + 2) (w.heap.size + 3) most life (.slice A0 n0 cp0) zeroPk (.slice none 0 0) (.slice none 0 0) rfl rfl FB.out.2.1 FB.out.1) rfl ?_
      exact ⟨_, _, _, by rw [HE.out]; rfl, HT.out.1.grow FB.out.2.2 hb, zero_ipF _ _, FB.out.2.2⟩
end Go.Proofs.Ytfjmcfkpbacicaa
/- Contract: the reference's Add of a whole packet. -/
namespace Go.Proofs.Ytfjmcfkpbacicaa
set_option linter.unusedVariables false
set_option linter.unusedSimpArgs false
open Go.ChangeShapes Go.WideShapes Go.ChangeAt Go.RowKit

set_option maxRecDepth 10000 in
set_option maxHeartbeats 4000000 in
theorem rAdd_whole (w : World) (base : Nat) (v : Value) (most life : Int) (A1 : List Wt) (hT : RTab w base v most life A1) (hb : base ≤ w.heap.size) (now : Int) (k : Pkt) (vo vd : Value) (hp : Piece base w k vo vd) (hr : ¬ (now < 0 ∨ 1099511627776 < now ∨ k.off < 0 ∨ 8191 < k.off)) (h0 : k.off = 0) (hm : k.more = false) :
    Calls Try.prog 15 #[v, .int .i64 now, ipV k vo vd] w fun e w' => RAdded w base most life ⟨A1, k, true, 0⟩ e w' := by
  obtain ⟨vL0, l0, rfl, hrow, hok, hA⟩ := id hT
  obtain ⟨A0, n0, cp0, e0⟩ : ∃ A n c, vL0 = .slice A n c := by
    obtain ⟨A0, cp0, e0, _, _⟩ := (RdK.of_own hrow).form
    exact ⟨_, _, _, e0⟩
  subst e0
  obtain ⟨A, c, rfl, _⟩ := hp.o.1.form
  obtain ⟨B, d, rfl, _⟩ := hp.d.1.form
  obtain ⟨W1, hW1⟩ : ∃ W1, W1 = (((w.alloc (.cells #[.int .i64 most, .int .i64 life, .slice A0 n0 cp0] 32)).alloc (.cells #[.int .u8 (k.tos : Int), .int .u16 (k.ident : Int), .bool k.whole, .bool k.more, .int .i64 k.off, .int .u8 (k.ttl : Int), .int .u8 (k.proto : Int), .int .u32 (k.src : Int), .int .u32 (k.dst : Int), .slice A k.opts.length c, .slice B k.data.length d] 38)).alloc (.cells #[.int .i64 0, .int .i64 0, .slice none 0 0] 32)).alloc (.cells #[.int .u8 0, .int .u16 0, .bool false, .bool false, .int .i64 0, .int .u8 0, .int .u8 0, .int .u32 0, .int .u32 0, .slice none 0 0, .slice none 0 0] 38) := ⟨_, rfl⟩
  obtain ⟨ha, hsz⟩ := ra_start w most life _ k _ _ hW1
  have HA := Lib.hid ha
  have HT := Lib.hid (And.intro hT hp)
  obtain ⟨b0, b1, b2, b3, b4, b5, b6, b7, b8, b9, b10⟩ := ha.pk.boxd
  have c0 := ha.tb.c0
  have c1 := ha.tb.c1
  have c2 := ha.tb.c2
  have d1 : decide (now < 0) = false := decide_eq_false (by omega)
  have d2 : decide (1099511627776 < now) = false := decide_eq_false (by omega)
  have HD : Hid (Ra w most life (.slice A0 n0 cp0) k (.slice A k.opts.length c) (.slice B k.data.length d) W1.drew) := ha.grow (Grow.drew _)
  have b3' : W1.cell? ⟨w.heap.size + 1, 3, none⟩ = some (.bool false) := by rw [← hm]; exact b3
  have b4' : W1.cell? ⟨w.heap.size + 1, 4, none⟩ = some (.int .i64 0) := by rw [← h0]; exact b4
  have HM := Lib.hid (And.intro h0 hm)
  clear ha hrow hok hA hT hp hsz hr h0 hm b3 b4
  go_enter Try.func15, Try.ntmps15
  go_upto_region 1 with fail
  rw [← hW1]
  clear hW1
  go_upto_region 4 with fail
  clear b3' b4' b0 b1 b2 b5 b6 b7 b8 b9 b10
  obtain ⟨b0, b1, b2, b3, b4, b5, b6, b7, b8, b9, b10⟩ := HA.out.pk.boxd
  refine wp_region_weave (A := ?frame4) [2, 3] (fun q => TbBlk q w.heap.size most life (.slice A0 n0 cp0) ∧ Blk q (w.heap.size + 1) k (.slice A k.opts.length c) (.slice B k.data.length d) ∧ Grow w q) (inVals (isW (.agg #[.int .i64 most, .int .i64 life, .slice A0 n0 cp0]) :: isW (ipV k (.slice A k.opts.length c) (.slice B k.data.length d)) :: isAll :: isAll :: isW (.bool true) :: isW (.int .i64 0) :: [])) (fun j vs q => match j, vs with | 0, [] => TbBlk q (w.heap.size + 2) 0 0 (.slice none 0 0) ∧ Blk q (w.heap.size + 3) zeroPk (.slice none 0 0) (.slice none 0 0) | 1, [_] => TbBlk q (w.heap.size + 2) most life (.slice A0 n0 cp0) ∧ Blk q (w.heap.size + 3) zeroPk (.slice none 0 0) (.slice none 0 0) | 2, [_, _] => TbBlk q (w.heap.size + 2) most life (.slice A0 n0 cp0) ∧ Blk q (w.heap.size + 3) k (.slice A k.opts.length c) (.slice B k.data.length d) | _, _ => False) (by kernel_rfl) (by kernel_rfl) (by kernel_rfl) (by kernel_rfl) (fun x => ?frameEq4) ⟨HD.out.tb, HD.out.pk, HD.out.gr⟩ ⟨HD.out.rt, HD.out.ri⟩ ?_ ?_ ?_
  case frameEq4 => go_simp; rfl
  · refine ⟨fun _ x w1 hI hd post hp => ?_, fun _ x w1 hI hd post hp => ?_, fun hn => absurd hn (by decide), fun hn => absurd hn (by decide), fun _ x w1 hI hd post hp => ?_, fun _ x w1 hI hd post hp => ?_, trivial⟩
    · -- 0: slot 44: Op.load 32 t3
      clear hd
      have d0 := hI.1.c0
      have d1' := hI.1.c1
      have d2' := hI.1.c2
      go_simp
      exact hp _ rfl
    · -- 1: slot 45: Op.load 38 t5
      clear hd
      obtain ⟨d0, d1', d2', d3, d4, d5, d6, d7, d8, d9, d10⟩ := hI.2.1.boxd
      go_simp
      exact hp _ rfl
    · -- 4: slot 8: Op.assign (const (Value.bool true))
      clear hd
      go_simp
      exact hp _ rfl
    · -- 5: slot 9: Op.assign (const (0:i64))
      clear hd
      go_simp
      exact hp _ rfl
  · refine ⟨fun x w1 hI hd hs post hp => ?_, fun x w1 hI hd hs post hp => ?_, trivial⟩
    · -- 2: slot none:0: Op.store 32 t6 t44
      have h44 : x 44 = .agg #[.int .i64 most, .int .i64 life, .slice A0 n0 cp0] := hd 0 (by decide) (by decide) _ rfl
      clear hd
      have s0 : TbBlk w1 (w.heap.size + 2) 0 0 (.slice none 0 0) ∧ Blk w1 (w.heap.size + 3) zeroPk (.slice none 0 0) (.slice none 0 0) := hs
      exact upon_cs w w1 rfl 32 (.tmp 6) (.tmp 44) rfl (w.heap.size + 2) 0 (.agg #[.int .i64 most, .int .i64 life, .slice A0 n0 cp0]) rfl h44 [.int .i64 most, .int .i64 life, .slice A0 n0 cp0] rfl 32 _ #[.int .i64 most, .int .i64 life, .slice A0 n0 cp0] s0.1 (by kernel_rfl) (tb_one rfl) (Nat.le_refl 3) rfl hI.2.2 (by omega) (fun w2 h2 hb2 g2 => hp _ _ ⟨TbBlk.but hI.1 hb2 (by omega), (hb2.2 (w.heap.size + 1) (by omega)).trans hI.2.1, g2⟩ ⟨h2, (hb2.2 (w.heap.size + 3) (by omega)).trans s0.2⟩)
    · -- 3: slot none:1: Op.store 38 t7 t45
      have h45 : x 45 = ipV k (.slice A k.opts.length c) (.slice B k.data.length d) := hd 1 (by decide) (by decide) _ rfl
      clear hd
      have s1 : TbBlk w1 (w.heap.size + 2) most life (.slice A0 n0 cp0) ∧ Blk w1 (w.heap.size + 3) zeroPk (.slice none 0 0) (.slice none 0 0) := hs
      exact upon_cs w w1 rfl 38 (.tmp 7) (.tmp 45) rfl (w.heap.size + 3) 0 (ipV k (.slice A k.opts.length c) (.slice B k.data.length d)) rfl h45 (pc ⟨k, .slice A k.opts.length c, .slice B k.data.length d⟩) rfl 38 _ (cellsP k (.slice A k.opts.length c) (.slice B k.data.length d)) s1.2 (by kernel_rfl) (pc_one rfl rfl) (Nat.le_refl 11) rfl hI.2.2 (by omega) (fun w2 h2 hb2 g2 => hp _ _ ⟨TbBlk.but hI.1 hb2 (by omega), (hb2.2 (w.heap.size + 1) (by omega)).trans hI.2.1, g2⟩ ⟨TbBlk.but s1.1 hb2 (by omega), h2⟩)
  · intro x w1 hI hd hs
    have HW : Hid (TbBlk w1 (w.heap.size + 2) most life (.slice A0 n0 cp0) ∧ Blk w1 (w.heap.size + 3) k (.slice A k.opts.length c) (.slice B k.data.length d) ∧ Grow w w1) := ⟨hs.1, hs.2, hI.2.2⟩
    have h8 : x 8 = .bool true := hd 4 _ rfl (by decide)
    have h9 : x 9 = .int .i64 0 := hd 5 _ rfl (by decide)
    clear hd hs hI
    go_wp2_with fail
    refine bodyPost_ret (results4_ra rfl _ w1 (w.heap.size + 2) (w.heap.size + 3) most life (.slice A0 n0 cp0) k (.slice A k.opts.length c) (.slice B k.data.length d) rfl rfl HW.out.1 HW.out.2.1) rfl ?_
    exact ⟨_, _, _, by show Ending.returned (.tuple #[_, _, x 8, x 9]) = _; rw [h8, h9], HT.out.1.grow HW.out.2.2 hb, ⟨HT.out.2.o.grow HW.out.2.2 hb, HT.out.2.d.grow HW.out.2.2 hb, HT.out.2.ok⟩, HW.out.2.2⟩
end Go.Proofs.Ytfjmcfkpbacicaa
/- Contract: the reference's Add, where no more may wait. -/
namespace Go.Proofs.Ytfjmcfkpbacicaa
set_option linter.unusedVariables false
set_option linter.unusedSimpArgs false
open Go.ChangeShapes Go.WideShapes Go.ChangeAt Go.RowKit

/-- A packet that has just begun to wait. -/
@[reducible] def rfNew (k : Pkt) (till : Int) : Rf := ⟨nmOf k, .slice none 0 0, .slice none 0 0, -1, false, zeroPk, .slice none 0 0, .slice none 0 0, till⟩
theorem rfNew_one (k : Pkt) (till : Int) : (rfNew k till).One := ⟨rfl, rfl, rfl, rfl⟩
theorem rfNew_ok (base : Nat) (w : World) (k : Pkt) (till : Int) : Rq.Ok base w ⟨rfNew k till, freshW (nmOf k) till⟩ :=
  ⟨rfl, World.ownsRow_nil _ _ _ _, World.ownsRow_nil _ _ _ _, rfl, rfl, rfl, Firm.nil _ _, Firm.nil _ _, rfl⟩
theorem chk_parts {k : Pkt} (h : chk k = 0) : k.data.length ≠ 0 ∧ (k.more = true → k.data.length % 8 = 0) ∧ endOf k ≤ 65515 := by
  obtain ⟨h1, h2, h3⟩ := chk_zero h
  exact ⟨fun e => h1 (List.eq_nil_of_length_eq_zero e), h2, h3⟩

set_option maxRecDepth 10000 in
set_option maxHeartbeats 4000000 in
theorem rAdd_full (w : World) (base : Nat) (v : Value) (most life : Int) (A1 : List Wt) (hT : RTab w base v most life A1) (hb : base ≤ w.heap.size) (now : Int) (k : Pkt) (vo vd : Value) (hp : Piece base w k vo vd) (hl : 1 ≤ life ∧ life ≤ 65535) (h64 : A1.length ≤ 64) (hr : ¬ (now < 0 ∨ 1099511627776 < now ∨ k.off < 0 ∨ 8191 < k.off)) (hcp : ¬ (k.off = 0 ∧ k.more = false)) (hc : chk k = 0) (hix : idxOf A1 (nmOf k) = none) (hful : most ≤ (A1.length : Int)) :
    Calls Try.prog 15 #[v, .int .i64 now, ipV k vo vd] w fun e w' => RAdded w base most life ⟨A1, zeroPk, false, 5⟩ e w' := by
  obtain ⟨vL0, l0, rfl, hrow, hok, hA⟩ := id hT
  obtain ⟨A0, n0, cp0, e0⟩ : ∃ A n c, vL0 = .slice A n c := by
    obtain ⟨A0, cp0, e0, _, _⟩ := (RdK.of_own hrow).form
    exact ⟨_, _, _, e0⟩
  subst e0
  obtain ⟨A, c, rfl, _⟩ := hp.o.1.form
  obtain ⟨B, d, rfl, _⟩ := hp.d.1.form
  obtain ⟨W1, hW1⟩ : ∃ W1, W1 = (((w.alloc (.cells #[.int .i64 most, .int .i64 life, .slice A0 n0 cp0] 32)).alloc (.cells #[.int .u8 (k.tos : Int), .int .u16 (k.ident : Int), .bool k.whole, .bool k.more, .int .i64 k.off, .int .u8 (k.ttl : Int), .int .u8 (k.proto : Int), .int .u32 (k.src : Int), .int .u32 (k.dst : Int), .slice A k.opts.length c, .slice B k.data.length d] 38)).alloc (.cells #[.int .i64 0, .int .i64 0, .slice none 0 0] 32)).alloc (.cells #[.int .u8 0, .int .u16 0, .bool false, .bool false, .int .i64 0, .int .u8 0, .int .u8 0, .int .u32 0, .int .u32 0, .slice none 0 0, .slice none 0 0] 38) := ⟨_, rfl⟩
  obtain ⟨ha, hsz⟩ := ra_start w most life _ k _ _ hW1
  have HA := Lib.hid ha
  have HT := Lib.hid (And.intro hT hp)
  obtain ⟨b0, b1, b2, b3, b4, b5, b6, b7, b8, b9, b10⟩ := ha.pk.boxd
  have c0 := ha.tb.c0
  have c1 := ha.tb.c1
  have c2 := ha.tb.c2
  have cF := rFind_any W1 base _ most life A1 (hT.grow ha.gr hb) h64 k _ _ (hp.ip.grow ha.gr)
  have hidx : idxI A1 (nmOf k) = -1 := by unfold idxI; rw [hix]
  rw [hidx] at cF
  have hn0 : n0 = A1.length := by
    obtain ⟨A', N', c', l', e', h1, _⟩ := hT.box
    simp only [Value.agg.injEq, Array.mk.injEq, List.cons.injEq, and_true, true_and, Value.slice.injEq] at e'
    omega
  obtain ⟨p1, p2, p3⟩ := chk_parts hc
  have hsm := hp.small.2
  have d1 : decide (now < 0) = false := decide_eq_false (by omega)
  have d2 : decide (1099511627776 < now) = false := decide_eq_false (by omega)
  have d3 : decide (k.off < 0) = false := decide_eq_false (by omega)
  have d4 : decide (8191 < k.off) = false := decide_eq_false (by omega)
  have h0 : 0 ≤ k.off := by omega
  have h1 : k.off ≤ 8191 := by omega
  have hnow0 : 0 ≤ now := by omega
  have hnow1 : now ≤ 1099511627776 := by omega
  have hfm : most ≤ (n0 : Int) := by omega
  have dful : decide (most ≤ (n0 : Int)) = true := decide_eq_true hfm
  have he9 : 8 * k.off + (k.data.length : Int) ≤ 65515 := p3
  have f9 : decide (65515 < 8 * k.off + (k.data.length : Int)) = false := decide_eq_false (by omega)
  have e0 : ((k.data.length : Int) == 0) = false := by rw [beq_eq_false_iff_ne]; omega
  have e1 : decide ((k.data.length : Int) = 0) = false := decide_eq_false (by omega)
  have HM8 := Lib.hid p2
  have HCP := Lib.hid hcp
  obtain ⟨hl1, hl2⟩ := hl
  clear ha hrow hok hA hT hp hsz hr hc p1 p2 p3 hcp hix hful hidx hn0
  unfold ipV at cF
  go_enter Try.func15, Try.ntmps15
  go_upto_region 1 with fail
  rw [← hW1]
  clear hW1
  go_upto_region 3 with fail
  go_cut [43] (fun s43 wx => s43 = .bool false ∧ W1 = wx)
  case first =>
    by_cases o0 : k.off = 0
    · have hmo : k.more = true := by
        cases hm : k.more with
        | true => rfl
        | false => exact absurd ⟨o0, hm⟩ HCP.out
      rw [hmo] at b3
      rw [o0] at b4
      clear o0 hmo
      go_wp2_with fail
      go_meet
      exact ⟨rfl, rfl⟩
    · have q0 : (k.off == 0) = false := by rw [beq_eq_false_iff_ne]; exact o0
      have q1 : decide (k.off = 0) = false := decide_eq_false o0
      clear o0
      go_wp2_with fail
      go_meet
      exact ⟨rfl, rfl⟩
  case rest =>
    obtain ⟨rfl, rfl⟩ := hcut
    go_upto_region 5 with fail
    go_cut [60] (fun s60 wx => s60 = .bool false ∧ W1 = wx)
    case first =>
      cases hmo : k.more with
      | true =>
        have m1 : ((k.data.length : Int)).tmod 8 = 0 := by have h1 := Int.ofNat_tmod k.data.length 8; have h2 := HM8.out hmo; rw [h2] at h1; exact h1.symm
        rw [hmo] at b3
        clear hmo
        go_wp2_with fail
        go_meet
        exact ⟨rfl, rfl⟩
      | false =>
        rw [hmo] at b3
        clear hmo
        go_wp2_with fail
        go_meet
        exact ⟨rfl, rfl⟩
    case rest =>
      obtain ⟨rfl, rfl⟩ := hcut
      go_upto_region 11 with fail
      go_wp2_with fail
      refine cF.mono ?_
      rintro e w2 ⟨rfl, hg2⟩
      have HA2 := Lib.hid (HA.out.grow hg2)
      clear cF hg2 b0 b1 b2 b3 b4 b5 b6 b7 b8 b9 b10 c0 c1 c2
      obtain ⟨b0, b1, b2, b3, b4, b5, b6, b7, b8, b9, b10⟩ := HA2.out.pk.boxd
      have c0 := HA2.out.tb.c0
      have c1 := HA2.out.tb.c1
      have c2 := HA2.out.tb.c2
      go_upto_region 13 with (show wpList _ _ _ (⟨none, .store 78 (.tmp 13) (.tmp 90), _, _, _, _⟩ :: _) _ _; refine wpList_store_rf w2 _ rfl _ _ rfl rfl w2.heap.size rfl (rfNew k (now + life)) rfl (rfNew_one _ _) _ (heap_alloc_new w2 _) rfl (Grow.alloc w2 _) (Nat.le_refl _) ?_; intro w3 hX hbX gX; have HX := Lib.hid (And.intro hX (And.intro gX (HA2.out.grow gX))); clear hX hbX gX b0 b1 b2 b3 b4 b5 b6 b7 b8 b9 b10 c0 c1 c2; obtain ⟨b0, b1, b2, b3, b4, b5, b6, b7, b8, b9, b10⟩ := HX.out.2.2.pk.boxd; have c0 := HX.out.2.2.tb.c0; have c1 := HX.out.2.2.tb.c1; have c2 := HX.out.2.2.tb.c2)
      go_upto_region 14 with fail
      go_wp2_with (first | (show wpList _ _ _ (⟨none, .store 32 (.tmp 6) (.tmp 101), _, _, _, _⟩ :: _) _ _; refine wpList_store_tb w w3 rfl _ _ rfl rfl (w.heap.size + 2) rfl most life (.slice A0 n0 cp0) rfl rfl 0 0 (.slice none 0 0) HX.out.2.2.rt HX.out.2.2.gr (by omega) ?_; intro wA hA hbA gA; have FA := Lib.hid (And.intro hA (And.intro gA ((hbA.2 (w.heap.size + 3) (by omega)).trans HX.out.2.2.ri))); clear hA hbA gA) | (show wpList _ _ _ (⟨none, .store 38 (.tmp 7) (.tmp 102), _, _, _, _⟩ :: _) _ _; refine wpList_store_ip w wA rfl _ _ rfl rfl (w.heap.size + 3) rfl zeroPk zeroPk (.slice none 0 0) (.slice none 0 0) (.slice none 0 0) (.slice none 0 0) rfl rfl rfl FA.out.2.2 FA.out.2.1 (by omega) ?_; intro wB hB hbB gB; have FB := Lib.hid (And.intro hB (And.intro (TbBlk.but FA.out.1 hbB (by omega)) gB)); clear hB hbB gB))
      refine bodyPost_ret (results4_ra rfl _ wB (w.heap.size + 2) (w.heap.size + 3) most life (.slice A0 n0 cp0) zeroPk (.slice none 0 0) (.slice none 0 0) rfl rfl FB.out.2.1 FB.out.1) rfl ?_
      exact ⟨_, _, _, rfl, HT.out.1.grow FB.out.2.2 hb, zero_ipF _ _, FB.out.2.2⟩
end Go.Proofs.Ytfjmcfkpbacicaa
/- Bytes painted one by one; what the reference's flags and bytes say, in numbers. -/
namespace Go.Proofs.Ytfjmcfkpbacicaa
set_option linter.unusedVariables false
set_option linter.unusedSimpArgs false
open Go.ChangeShapes Go.WideShapes Go.ChangeAt Go.RowKit

theorem paint_next (c : Cont) (p i : Nat) (d : List UInt8) (hi : i < d.length) : paint c p (d.take (i + 1)) = paint (paint c p (d.take i)) (p + i) [d[i]] := by
  have h := paint_step c p d i 1 (by omega)
  rw [← h]
  congr 1
  rw [List.drop_eq_getElem_cons hi]
  rfl
theorem paint_one_some {c : Cont} {j : Nat} {b b0 : UInt8} (h : look c j = some b0) : paint c j [b] = c := by
  refine paint_same c j [b] fun q h1 h2 => ⟨b0, ?_⟩
  have : q = j := by simp at h2; omega
  rw [this, h]
theorem look_set {c : Cont} {j q : Nat} {o : Option UInt8} (hj : j < c.length) : look (c.set j o) q = if j = q then o else look c q := by
  unfold look
  rw [List.getElem?_set]
  by_cases e : j = q
  · rw [if_pos e, if_pos e, if_pos (by omega)]
    rfl
  · rw [if_neg e, if_neg e]
theorem paint_one_none {c : Cont} {j : Nat} {b : UInt8} (hj : j < c.length) (h : look c j = none) : paint c j [b] = c.set j (some b) := by
  have hl : (paint c j [b]).length = c.length := by rw [paint_length _ _ (by simp)]; simp; omega
  refine cont_ext (by rw [hl, List.length_set]) fun q hq => ?_
  rw [paint_look, look_set hj]
  by_cases e : j = q
  · subst e
    rw [if_pos rfl, h, if_pos (Nat.le_refl _), Nat.sub_self]
    rfl
  · rw [if_neg e]
    by_cases hlt : j ≤ q
    · rw [if_pos hlt, List.getElem?_eq_none (by simp; omega), Option.or_none]
    · rw [if_neg hlt, Option.or_none]
theorem pad_look (c : Cont) (n q : Nat) : look (pad c n) q = look c q := by
  unfold pad
  by_cases h : q < c.length
  · exact look_append_left h
  · rw [look_append_right (by omega), look_none, look_past (by omega)]
/-- Painted within what is there. -/
theorem paint_pad (c : Cont) (p : Nat) (d : List UInt8) (hd : d ≠ []) : paint (pad c (p + d.length)) p d = paint c p d := by
  refine cont_ext ?_ fun q _ => ?_
  · rw [paint_length _ _ hd, paint_length _ _ hd, pad_length]
    omega
  · rw [paint_look, paint_look, pad_look]
theorem paint_take_length (c : Cont) (p i : Nat) (d : List UInt8) : (paint (pad c (p + d.length)) p (d.take i)).length = max c.length (p + d.length) := by
  by_cases h : d.take i = []
  · rw [h, paint_nil, pad_length]
  · rw [paint_length _ _ h, pad_length, List.length_take]
    omega
theorem paint_take_look (c : Cont) (p i q : Nat) (d : List UInt8) (hq : p + i ≤ q) : look (paint (pad c (p + d.length)) p (d.take i)) q = look c q := by
  rw [paint_look, pad_look]
  by_cases h : p ≤ q
  · rw [if_pos h, List.getElem?_eq_none (by rw [List.length_take]; omega), Option.or_none]
  · rw [if_neg h, Option.or_none]
theorem byteOf_some (b : UInt8) : byteOf (some b) = b := rfl
/-- All is there just when every flag says so. -/
theorem full_flags {t : Wt} (h : WOk t) : fullW t = true ↔ t.first.isSome = true ∧ t.fin ≠ 0 ∧ ∀ i, i < t.fin → (look t.c i).isSome = true := by
  constructor
  · intro hf
    obtain ⟨k, hk⟩ := fullW_first h hf
    unfold fullW at hf
    obtain ⟨h1, h2⟩ := of_decide_eq_true hf
    have hl := h.fin h1
    refine ⟨by rw [hk]; rfl, h1, fun i hi => ?_⟩
    obtain ⟨b, hb⟩ := cnt_all (c := t.c) (by omega) i (by omega)
    rw [hb]
    rfl
  · rintro ⟨_, h1, h2⟩
    have hl := h.fin h1
    unfold fullW
    rw [decide_eq_true_iff]
    refine ⟨h1, ?_⟩
    have := cnt_of_all (c := t.c) fun i hi => by
      have h3 := h2 i (by omega)
      exact Option.isSome_iff_exists.1 h3
    omega
theorem bytes_full {t : Wt} (h : WOk t) (hf : fullW t = true) : (t.c.map byteOf).take t.fin = bytesC t.c ∧ t.c.length = t.fin := by
  have hl := h.fin (by unfold fullW at hf; exact (of_decide_eq_true hf).1)
  refine ⟨?_, hl⟩
  rw [List.take_of_length_le (by rw [List.length_map]; omega)]
  have hall : ∀ i, i < t.c.length → ∃ b, look t.c i = some b := fun i hi => by
    have := ((full_flags h).1 hf).2.2 i (by omega)
    exact Option.isSome_iff_exists.1 this
  have e : t.c = (t.c.map byteOf).map some := by
    refine cont_ext (by simp) fun i hi => ?_
    obtain ⟨b, hb⟩ := hall i hi
    rw [look_some, List.getElem?_map, hb]
    unfold look at hb
    rw [List.getElem?_eq_getElem hi] at hb ⊢
    have hb : t.c[i] = some b := hb
    rw [hb]
    rfl
  conv => rhs; rw [e]
  rw [bytesC_some]
end Go.Proofs.Ytfjmcfkpbacicaa
