/- Contract: the reference's Split. -/
import Derived.Test.YtkofmbnolaiecaaFrRSp
namespace Go.Proofs.Ytkofmbnolaiecaa
set_option linter.unusedVariables false
set_option linter.unusedSimpArgs false
open Go.ChangeShapes Go.WideShapes Go.ChangeAt Go.RowKit

set_option maxRecDepth 10000 in
set_option maxHeartbeats 8000000 in
theorem RSplit_late (v : Value) (k : Pkt) (m : Nat) (w : World) (h : Ip w v k) (hs : k.Small) (hw0 : fwhy k (m : Int) = 0) (hml : m < k.len) :
    Calls Try.prog 9 #[v, .int .i64 (m : Int)] w (Rsplitted w k (m : Int)) := by
  obtain ⟨A, ca, B, d, rfl, ho, hd, hk⟩ := h.form
  have hsm := hs
  obtain ⟨hs1, hs2⟩ := hs
  obtain ⟨hck, hmt1, hmt2⟩ := fwhy_ok hw0
  obtain ⟨ck0, ck1, ck2, ck3⟩ := Pkt.check_ok hck
  have hm68 : 68 ≤ m := by omega
  have hm65 : m ≤ 65535 := by omega
  have hkd : k.data.length ≤ 65535 := by unfold Pkt.len at ck3; omega
  have hk0 := len_nil hm68 ck2 hml
  have hwh : ¬ (k.len : Int) ≤ (m : Int) := by omega
  have hw1 : k.whole = false ∧ fcode k.opts = 0 := by
    have h1 := hw0
    unfold fwhy at h1
    rw [if_neg (by omega), if_neg (by omega), if_neg hwh] at h1
    by_cases h4 : k.whole = true
    · rw [if_pos h4] at h1; cases h1
    · rw [if_neg h4] at h1; exact ⟨by simpa using h4, h1⟩
  have HR := Lib.hid (fun (h : fgo k (m : Int) = none) => fsplit_none hw0 h)
  have HS := Lib.hid (fun l (h : fgo k (m : Int) = some l) => fsplit_some hw0 h)
  obtain ⟨W1, hW1⟩ : ∃ W1, W1 = w.alloc (.cells #[.int .u8 (k.tos : Int), .int .u16 (k.ident : Int), .bool k.whole, .bool k.more, .int .i64 k.off, .int .u8 (k.ttl : Int), .int .u8 (k.proto : Int), .int .u32 (k.src : Int), .int .u32 (k.dst : Int), .slice A k.opts.length ca, .slice B k.data.length d] 27) := ⟨_, rfl⟩
  have hg1 : Grow w W1 := by rw [hW1]; exact Grow.alloc _ _
  have hB : Blk W1 w.heap.size k (.slice A k.opts.length ca) (.slice B k.data.length d) := by rw [hW1]; exact Blk.new _ _ _ _
  have hip : Ip W1 (ipV k (.slice A k.opts.length ca) (.slice B k.data.length d)) k := h.grow hg1
  have T := Lib.hid (And.intro hg1 (And.intro hB (And.intro (ho.grow hg1) (hd.grow hg1))))
  have cC := RCheck_ip _ k W1 hip hsm
  rw [hck] at cC
  have cL := fun w' (g : Grow W1 w') => RLen_any _ k w' (hip.grow g) hsm
  have cR := fun w' (g : Grow W1 w') => RCarried_any _ k.opts w' ((ho.grow hg1).grow g) hs1
  rw [hw1.2] at cR
  obtain ⟨c, hc⟩ : ∃ c, c = fcar k.opts := ⟨_, rfl⟩
  have hc40 : c.length ≤ 40 := by rw [hc]; exact (fcar_length _).1
  have hgo : Hid (fgo k (m : Int) = fpieces c m (k.data.length + 1) (rk c k 0)) := by rw [rk_zero, hc]; rfl
  rw [← hc] at cR
  have H4 := Lib.hid hw1.1
  have HK := Lib.hid hk
  have hlenI : decide (k.len ≤ m) = false := decide_eq_false (by omega)
  have hlen : k.len ≤ 65535 := ck3
  obtain ⟨M20, hM20⟩ : ∃ M20, M20 = m - 20 := ⟨_, rfl⟩
  have eM20 : (m : Int) - 20 = (M20 : Int) := by omega
  have hll : k.len = 20 + k.opts.length + k.data.length := rfl
  have HLL := Lib.hid (And.intro hll hml)
  have hMM := Lib.hid hM20
  have hM20b : 48 ≤ M20 ∧ M20 ≤ 65515 := by omega
  obtain ⟨hM1, hM2⟩ := hM20b
  clear hw0 hck hmt1 hmt2 ck3 hwh hw1 hg1 hB hip ho hd h hk hc hll hml hM20
  go_enter Try.func9, Try.ntmps9
  go_wp2_with fail
  rw [← hW1]
  refine cC.mono ?_
  rintro e w2 ⟨rfl, hg2⟩
  clear hW1
  obtain ⟨b0, b1, b2, b3, b4, b5, b6, b7, b8, b9, b10⟩ := (T.out.2.1.grow hg2).boxd
  have C2 := cL w2 hg2
  clear cL cC
  go_wp2_with fail
  refine C2.mono ?_
  rintro e w3 ⟨rfl, hg3⟩
  clear b0 b1 b2 b3 b4 b5 b6 b7 b8 b9 b10 C2
  obtain ⟨b0, b1, b2, b3, b4, b5, b6, b7, b8, b9, b10⟩ := (T.out.2.1.grow (hg2.trans hg3)).boxd
  rw [H4.out] at b2
  have C3 := cR w3 (hg2.trans hg3)
  clear cR
  go_wp2_with fail
  refine C3.mono ?_
  rintro e W ⟨u, rfl, hu, hg4⟩
  obtain ⟨Au, nu, cu, rfl, hnu⟩ := hu.form2
  have hnu40 : nu ≤ 40 := by have := hnu.out; omega
  have hG := (hg2.trans hg3).trans hg4
  have HW := Lib.hid (And.intro (T.out.1.trans hG) (And.intro hu (And.intro (T.out.2.2.1.grow hG) (T.out.2.2.2.grow hG))))
  have BP : Hid (∀ w', Grow W w' → Blk w' w.heap.size k (.slice A k.opts.length ca) (.slice B k.data.length d)) := fun w' g => T.out.2.1.grow (hG.trans g)
  clear b0 b1 b2 b3 b4 b5 b6 b7 b8 b9 b10 C3 hu hG hg2 hg3 hg4 T
  go_wp2_with fail
  go_loopg [9, 10] (k.data.length + 1) (fun g s9 s10 wr => ∃ (acc : List Pk) (p : Nat), s10 = .int .i64 (p : Int) ∧ Rsp W c m (fgo k (m : Int)) k s9 acc p g wr)
  case atStart =>
    refine ⟨[], 0, rfl, Iprow.nil _ _, fun q hq => by simp at hq, Grow.refl _, .inl ⟨by omega, rfl, by simp, by omega, ?_⟩⟩
    rw [hgo.out]
    cases fpieces c m (k.data.length + 1) (rk c k 0) <;> simp
  case round =>
    obtain ⟨acc, p, rfl, row, good, grow, hgoes⟩ := hrel
    clear hgo
    have p10 := (BP.out wr grow).c10
    rcases hgoes with ⟨hlt, h8, hacc, hf, goes⟩ | ⟨rfl, goes⟩
    · obtain ⟨f, rfl⟩ : ∃ j, gk = j + 1 := ⟨gk - 1, by omega⟩
      rw [fpieces] at goes
      obtain ⟨hdc, hdm⟩ := HW.out.2.2.2.len.2
      obtain ⟨b, off, rfl, hbl, _⟩ := HW.out.2.2.2.at_ (by omega)
      obtain ⟨b0, b1, b2, b3, b4, b5, b6, b7, b8, b9, b10⟩ := (BP.out wr grow).boxd
      have K := Lib.hid (And.intro row (And.intro good grow))
      have hltI : (p : Int) < (k.data.length : Int) := by omega
      clear row good grow hbl b10
      by_cases hp0 : p = 0
      · subst hp0
        rw [rk_zero] at goes
        have hfit : ¬ k.len ≤ m := by have := HLL.out.2; omega
        rw [if_neg (by omega), if_neg hfit] at goes
        obtain ⟨RM, hRM⟩ : ∃ RM, RM = M20 - k.opts.length := ⟨_, rfl⟩
        have eRM : (M20 : Int) - (k.opts.length : Int) = (RM : Int) := by omega
        obtain ⟨Q1, hQ1⟩ : ∃ Q1, Q1 = RM / 8 := ⟨_, rfl⟩
        have eQ1 : (RM : Int) / 8 = (Q1 : Int) := by omega
        obtain ⟨R, hR⟩ : ∃ R, R = Q1 * 8 := ⟨_, rfl⟩
        have eR : (Q1 : Int) * 8 = (R : Int) := by omega
        have hRf : R = froom m k := by rw [hR, hQ1, hRM, hMM.out]; rfl
        have hrb := froom_bounds hm68 ck2 (show m < k.len by omega)
        rw [← hRf] at hrb
        have dfit : decide (k.data.length ≤ RM) = false := decide_eq_false (by have := HLL.out.1; have := hMM.out; omega)
        have hRM2 : RM ≤ 65515 := by omega
        have hRd : R ≤ d := by omega
        have hR65 : R ≤ 65535 := by omega
        have hfr := HW.out.2.2.2.front (show R ≤ k.data.length by omega)
        have EK : Hid (ffirst m k = { k with more := true, data := k.data.take R } ∧ frest c m k = rk c k (0 + R)) := by
          refine ⟨by unfold ffirst; rw [← hRf], ?_⟩
          have := rk_next c k m 0 R (by rw [rk_zero]; exact hRf) rfl hrb.2.2.1 (by omega)
          rwa [rk_zero] at this
        have NEXT : Hid (∀ s' w', Iprow w' W.heap.size s' (acc ++ [⟨{ k with more := true, data := k.data.take R }, (.slice A k.opts.length ca), (.slice (some ⟨b, off, none⟩) R d)⟩]) → Grow W w' → Rsp W c m (fgo k (m : Int)) k s' (acc ++ [⟨{ k with more := true, data := k.data.take R }, (.slice A k.opts.length ca), (.slice (some ⟨b, off, none⟩) R d)⟩]) R f w') := by
          intro s' w' hrow hgrow
          refine ⟨hrow, Rsp.more K.out.2.1 ⟨HW.out.2.2.1, hfr, ⟨HK.out.tos, HK.out.ident, HK.out.off1, HK.out.off2, HK.out.ttl, HK.out.proto, HK.out.src, HK.out.dst⟩⟩, hgrow, .inl ⟨by omega, hrb.2.2.1, by simp; omega, by omega, ?_⟩⟩
          rw [goes, EK.out.1, EK.out.2, Nat.zero_add]
          cases fpieces c m f (rk c k R) <;> simp
        clear goes hRf hrb hRM hQ1 hR hfr
        go_wp2_with (first | (at_builtin; refine wpList_app1 wD rfl (.tmp 98) (.tmp 100) rfl W.heap.size u9 acc _ ⟨{ k with more := true, data := k.data.take R }, (.slice A k.opts.length ca), (.slice (some ⟨b, off, none⟩) R d)⟩ rfl (by rfl) (by rfl) ⟨rfl, rfl⟩ (K.out.1.grow FD.out.2) (by omega) (by have := (K.out.2.2.trans FD.out.2).size; omega) ?_; intro v9 w9 ho9 hg9; have H9 := Lib.hid (And.intro ho9 (Rsp.grown K.out.1 K.out.2.2 FD.out.2 hg9)); clear ho9 hg9) | (show wpList _ _ _ (⟨none, .store 4 (.tmp 94) (.const (.bool true)), _, _, _, _⟩ :: _) _ _; refine wpList_store_fld wr wC rfl _ _ _ rfl rfl wr.heap.size 3 (.bool true) rfl rfl { k with data := k.data.take R } { k with more := true, data := k.data.take R } (.slice A k.opts.length ca) (.slice (some ⟨b, off, none⟩) R d) (.slice A k.opts.length ca) (.slice (some ⟨b, off, none⟩) R d) FC.out.1 (by kernel_rfl) rfl (by omega) rfl FC.out.2 (Nat.le_refl _) ?_; intro wD hN hbN gN; have FD := Lib.hid (And.intro hN gN); clear hN hbN gN p4 p10 x4 x9; have p4 := (BP.out wD (K.out.2.2.trans FD.out.2)).c4; have p10 := (BP.out wD (K.out.2.2.trans FD.out.2)).c10; obtain ⟨x0, x1, x2, x3, x4, x5, x6, x7, x8, x9, x10⟩ := FD.out.1.boxd) | (show wpList _ _ _ (⟨none, .store 25 (.tmp 93) (.tmp 92), _, _, _, _⟩ :: _) _ _; refine wpList_store_fld wr wB rfl _ _ _ rfl rfl wr.heap.size 10 (.slice (some ⟨b, off, none⟩) R d) rfl rfl k { k with data := k.data.take R } (.slice A k.opts.length ca) (.slice (some ⟨b, off, none⟩) k.data.length d) (.slice A k.opts.length ca) (.slice (some ⟨b, off, none⟩) R d) FB.out.1 (by kernel_rfl) rfl (by omega) rfl FB.out.2 (Nat.le_refl _) ?_; intro wC hN hbN gN; have FC := Lib.hid (And.intro hN gN); clear hN hbN gN p4 p10 x4 x9; have p4 := (BP.out wC (K.out.2.2.trans FC.out.2)).c4; have p10 := (BP.out wC (K.out.2.2.trans FC.out.2)).c10; have x4 := FC.out.1.c4; have x9 := FC.out.1.c9) | (show wpList _ _ _ (⟨none, .store 3 (.tmp 68) (.tmp 67), _, _, _, _⟩ :: _) _ _; refine wpList_store_fld wr wA rfl _ _ _ rfl rfl wr.heap.size 4 (.int .i64 k.off) rfl rfl k k (.slice A k.opts.length ca) (.slice (some ⟨b, off, none⟩) k.data.length d) (.slice A k.opts.length ca) (.slice (some ⟨b, off, none⟩) k.data.length d) FA.out.1 (by kernel_rfl) rfl (by omega) rfl FA.out.2 (Nat.le_refl _) ?_; intro wB hN hbN gN; have FB := Lib.hid (And.intro hN gN); clear hN hbN gN p4 p10 x4 x9; have p4 := (BP.out wB (K.out.2.2.trans FB.out.2)).c4; have p10 := (BP.out wB (K.out.2.2.trans FB.out.2)).c10; have x4 := FB.out.1.c4; have x9 := FB.out.1.c9) | (show wpList _ _ _ (⟨none, .store 27 (.tmp 11) (.tmp 47), _, _, _, _⟩ :: _) _ _; refine wpList_store_ip wr _ rfl _ _ rfl rfl wr.heap.size rfl k zeroPk (.slice A k.opts.length ca) (.slice (some ⟨b, off, none⟩) k.data.length d) (.slice none 0 0) (.slice none 0 0) rfl rfl rfl (Blk.new wr zeroPk (.slice none 0 0) (.slice none 0 0)) (Grow.alloc wr _) (Nat.le_refl _) ?_; intro wA hA hbA gA; have FA := Lib.hid (And.intro hA gA); clear hA hbA gA p10 b0 b1 b2 b3 b4 b5 b6 b7 b8 b9; have p4 := (BP.out wA (K.out.2.2.trans FA.out.2)).c4; have p10 := (BP.out wA (K.out.2.2.trans FA.out.2)).c10; have x4 := FA.out.1.c4; have x9 := FA.out.1.c9))
        go_roundg f
        case measure => omega
        case rel => exact ⟨_, R, by go_num, NEXT.out _ _ H9.out.1 H9.out.2⟩
      have hpos : 0 < p := by omega
      rw [rk_pos c k hpos] at goes
      obtain ⟨Q0, hQ0⟩ : ∃ Q0, Q0 = p / 8 := ⟨_, rfl⟩
      have eQ0 : (p : Int) / 8 = (Q0 : Int) := by omega
      obtain ⟨V, hV⟩ : ∃ V, V = k.off + (Q0 : Int) := ⟨_, rfl⟩
      have eV : k.off + (Q0 : Int) = V := hV.symm
      have hVb : 0 ≤ V ∧ V ≤ 100000 := by omega
      obtain ⟨hV1, hV2⟩ := hVb
      rw [← hQ0, eV] at goes
      simp only [] at goes
      by_cases hoff : 8191 < V
      · rw [if_pos hoff] at goes
        have E := Lib.hid (HR.out goes)
        obtain ⟨RM, hRM⟩ : ∃ RM, RM = M20 - nu := ⟨_, rfl⟩
        have eRM : (M20 : Int) - (nu : Int) = (RM : Int) := by omega
        obtain ⟨LF, hLF⟩ : ∃ LF, LF = k.data.length - p := ⟨_, rfl⟩
        have eLF : (k.data.length : Int) - (p : Int) = (LF : Int) := by omega
        have hRM2 : RM ≤ 65515 := by omega
        have hLF2 : LF ≤ 65535 := by omega
        clear goes hRM hLF hQ0 hV
        go_wp2_with (first | (show wpList _ _ _ (⟨none, .store 3 (.tmp 68) (.tmp 67), _, _, _, _⟩ :: _) _ _; refine wpList_store_fld wr wB rfl _ _ _ rfl rfl wr.heap.size 4 (.int .i64 V) rfl rfl { k with opts := c } { k with opts := c, off := V } (.slice Au nu cu) (.slice (some ⟨b, off, none⟩) k.data.length d) (.slice Au nu cu) (.slice (some ⟨b, off, none⟩) k.data.length d) FB.out.1 (by kernel_rfl) rfl (by omega) rfl FB.out.2 (Nat.le_refl _) ?_; intro wC hN hbN gN; have FC := Lib.hid (And.intro hN gN); clear hN hbN gN p4 p10 x4 x9; have p4 := (BP.out wC (K.out.2.2.trans FC.out.2)).c4; have p10 := (BP.out wC (K.out.2.2.trans FC.out.2)).c10; have x4 := FC.out.1.c4; have x9 := FC.out.1.c9) | (show wpList _ _ _ (⟨none, .store 25 (.tmp 51) (.tmp 50), _, _, _, _⟩ :: _) _ _; refine wpList_store_fld wr wA rfl _ _ _ rfl rfl wr.heap.size 9 (.slice Au nu cu) rfl rfl k { k with opts := c } (.slice A k.opts.length ca) (.slice (some ⟨b, off, none⟩) k.data.length d) (.slice Au nu cu) (.slice (some ⟨b, off, none⟩) k.data.length d) FA.out.1 (by kernel_rfl) rfl (by omega) rfl FA.out.2 (Nat.le_refl _) ?_; intro wB hN hbN gN; have FB := Lib.hid (And.intro hN gN); clear hN hbN gN p4 p10 x4 x9; have p4 := (BP.out wB (K.out.2.2.trans FB.out.2)).c4; have p10 := (BP.out wB (K.out.2.2.trans FB.out.2)).c10; have x4 := FB.out.1.c4; have x9 := FB.out.1.c9) | (show wpList _ _ _ (⟨none, .store 27 (.tmp 11) (.tmp 47), _, _, _, _⟩ :: _) _ _; refine wpList_store_ip wr _ rfl _ _ rfl rfl wr.heap.size rfl k zeroPk (.slice A k.opts.length ca) (.slice (some ⟨b, off, none⟩) k.data.length d) (.slice none 0 0) (.slice none 0 0) rfl rfl rfl (Blk.new wr zeroPk (.slice none 0 0) (.slice none 0 0)) (Grow.alloc wr _) (Nat.le_refl _) ?_; intro wA hA hbA gA; have FA := Lib.hid (And.intro hA gA); clear hA hbA gA p10 b0 b1 b2 b3 b4 b5 b6 b7 b8 b9; have p4 := (BP.out wA (K.out.2.2.trans FA.out.2)).c4; have p10 := (BP.out wA (K.out.2.2.trans FA.out.2)).c10; have x4 := FA.out.1.c4; have x9 := FA.out.1.c9))
        go_ret2
        exact Rsplitted.fail E.out.1 E.out.2 (HW.out.1.trans (K.out.2.2.trans FC.out.2))
      rw [if_neg hoff] at goes
      obtain ⟨RM, hRM⟩ : ∃ RM, RM = M20 - nu := ⟨_, rfl⟩
      have eRM : (M20 : Int) - (nu : Int) = (RM : Int) := by omega
      obtain ⟨LF, hLF⟩ : ∃ LF, LF = k.data.length - p := ⟨_, rfl⟩
      have eLF : (k.data.length : Int) - (p : Int) = (LF : Int) := by omega
      have hRM2 : RM ≤ 65515 := by omega
      have hLF2 : LF ≤ 65535 := by omega
      have hlenR : Pkt.len { k with opts := c, data := k.data.drop p, off := V } = 20 + nu + LF := by unfold Pkt.len; rw [hLF, hnu.out]; simp
      have hdp : ¬ d = p := by omega
      have hpd : p ≤ d := by omega
      by_cases hfit : LF ≤ RM
      · rw [hlenR, if_pos (by have := hMM.out; omega)] at goes
        have hby := (leftOn HW.out.2.2.2 (show p ≤ k.data.length by omega)).2 hdp
        rw [List.length_drop] at hby
        have NEXT : Hid (∀ s' w', Iprow w' W.heap.size s' (acc ++ [⟨{ k with opts := c, data := k.data.drop p, off := V }, (.slice Au nu cu), (.slice (some ⟨b, off + p, none⟩) (k.data.length - p) (d - p))⟩]) → Grow W w' → Rsp W c m (fgo k (m : Int)) k s' (acc ++ [⟨{ k with opts := c, data := k.data.drop p, off := V }, (.slice Au nu cu), (.slice (some ⟨b, off + p, none⟩) (k.data.length - p) (d - p))⟩]) k.data.length f w') := by
          intro s' w' hrow hgrow
          refine ⟨hrow, Rsp.more K.out.2.1 ⟨HW.out.2.1, hby, ⟨HK.out.tos, HK.out.ident, by show _ ≤ V; omega, by show V ≤ _; omega, HK.out.ttl, HK.out.proto, HK.out.src, HK.out.dst⟩⟩, hgrow, .inr ⟨rfl, ?_⟩⟩
          rw [goes]
          simp
        clear goes hRM hLF hQ0 hV hlenR hby
        go_wp2_with (first | (at_builtin; refine wpList_app1 wD rfl (.tmp 98) (.tmp 100) rfl W.heap.size u9 acc _ ⟨{ k with opts := c, data := k.data.drop p, off := V }, (.slice Au nu cu), (.slice (some ⟨b, off + p, none⟩) (k.data.length - p) (d - p))⟩ rfl (by rfl) (by rfl) ⟨rfl, rfl⟩ (K.out.1.grow FD.out.2) (by omega) (by have := (K.out.2.2.trans FD.out.2).size; omega) ?_; intro v9 w9 ho9 hg9; have H9 := Lib.hid (And.intro ho9 (Rsp.grown K.out.1 K.out.2.2 FD.out.2 hg9)); clear ho9 hg9) | (show wpList _ _ _ (⟨none, .store 25 (.tmp 79) (.tmp 78), _, _, _, _⟩ :: _) _ _; refine wpList_store_fld wr wC rfl _ _ _ rfl rfl wr.heap.size 10 (.slice (some ⟨b, off + p, none⟩) (k.data.length - p) (d - p)) rfl rfl { k with opts := c, off := V } { k with opts := c, data := k.data.drop p, off := V } (.slice Au nu cu) (.slice (some ⟨b, off, none⟩) k.data.length d) (.slice Au nu cu) (.slice (some ⟨b, off + p, none⟩) (k.data.length - p) (d - p)) FC.out.1 (by kernel_rfl) rfl (by omega) rfl FC.out.2 (Nat.le_refl _) ?_; intro wD hN hbN gN; have FD := Lib.hid (And.intro hN gN); clear hN hbN gN p4 p10 x4 x9; have p4 := (BP.out wD (K.out.2.2.trans FD.out.2)).c4; have p10 := (BP.out wD (K.out.2.2.trans FD.out.2)).c10; obtain ⟨x0, x1, x2, x3, x4, x5, x6, x7, x8, x9, x10⟩ := FD.out.1.boxd) | (show wpList _ _ _ (⟨none, .store 3 (.tmp 68) (.tmp 67), _, _, _, _⟩ :: _) _ _; refine wpList_store_fld wr wB rfl _ _ _ rfl rfl wr.heap.size 4 (.int .i64 V) rfl rfl { k with opts := c } { k with opts := c, off := V } (.slice Au nu cu) (.slice (some ⟨b, off, none⟩) k.data.length d) (.slice Au nu cu) (.slice (some ⟨b, off, none⟩) k.data.length d) FB.out.1 (by kernel_rfl) rfl (by omega) rfl FB.out.2 (Nat.le_refl _) ?_; intro wC hN hbN gN; have FC := Lib.hid (And.intro hN gN); clear hN hbN gN p4 p10 x4 x9; have p4 := (BP.out wC (K.out.2.2.trans FC.out.2)).c4; have p10 := (BP.out wC (K.out.2.2.trans FC.out.2)).c10; have x4 := FC.out.1.c4; have x9 := FC.out.1.c9) | (show wpList _ _ _ (⟨none, .store 25 (.tmp 51) (.tmp 50), _, _, _, _⟩ :: _) _ _; refine wpList_store_fld wr wA rfl _ _ _ rfl rfl wr.heap.size 9 (.slice Au nu cu) rfl rfl k { k with opts := c } (.slice A k.opts.length ca) (.slice (some ⟨b, off, none⟩) k.data.length d) (.slice Au nu cu) (.slice (some ⟨b, off, none⟩) k.data.length d) FA.out.1 (by kernel_rfl) rfl (by omega) rfl FA.out.2 (Nat.le_refl _) ?_; intro wB hN hbN gN; have FB := Lib.hid (And.intro hN gN); clear hN hbN gN p4 p10 x4 x9; have p4 := (BP.out wB (K.out.2.2.trans FB.out.2)).c4; have p10 := (BP.out wB (K.out.2.2.trans FB.out.2)).c10; have x4 := FB.out.1.c4; have x9 := FB.out.1.c9) | (show wpList _ _ _ (⟨none, .store 27 (.tmp 11) (.tmp 47), _, _, _, _⟩ :: _) _ _; refine wpList_store_ip wr _ rfl _ _ rfl rfl wr.heap.size rfl k zeroPk (.slice A k.opts.length ca) (.slice (some ⟨b, off, none⟩) k.data.length d) (.slice none 0 0) (.slice none 0 0) rfl rfl rfl (Blk.new wr zeroPk (.slice none 0 0) (.slice none 0 0)) (Grow.alloc wr _) (Nat.le_refl _) ?_; intro wA hA hbA gA; have FA := Lib.hid (And.intro hA gA); clear hA hbA gA p10 b0 b1 b2 b3 b4 b5 b6 b7 b8 b9; have p4 := (BP.out wA (K.out.2.2.trans FA.out.2)).c4; have p10 := (BP.out wA (K.out.2.2.trans FA.out.2)).c10; have x4 := FA.out.1.c4; have x9 := FA.out.1.c9))
        go_roundg f
        case measure => omega
        case rel => exact ⟨_, k.data.length, by go_num, NEXT.out _ _ H9.out.1 H9.out.2⟩
      · rw [hlenR, if_neg (by have := hMM.out; omega)] at goes
        obtain ⟨Q1, hQ1⟩ : ∃ Q1, Q1 = RM / 8 := ⟨_, rfl⟩
        have eQ1 : (RM : Int) / 8 = (Q1 : Int) := by omega
        obtain ⟨R, hR⟩ : ∃ R, R = Q1 * 8 := ⟨_, rfl⟩
        have eR : (Q1 : Int) * 8 = (R : Int) := by omega
        obtain ⟨t, ht⟩ : ∃ t, t = p + R := ⟨_, rfl⟩
        have et : (p : Int) + (R : Int) = (t : Int) := by omega
        have hRf : R = froom m (rk c k p) := by rw [rk_pos c k hpos, hR, hQ1, hRM, hMM.out, hnu.out]; rfl
        have eRK : rk c k p = { k with opts := c, data := k.data.drop p, off := V } := by rw [rk_pos c k hpos, ← hQ0, eV]
        have hR8 : 8 ≤ R := by omega
        have hRl : p + R ≤ k.data.length := by omega
        have hby := (byt_cut HW.out.2.2.2 hRl).2 hdp
        have etp : t - p = R := by omega
        rw [← etp] at hby
        have EK : Hid (ffirst m { k with opts := c, data := k.data.drop p, off := V } = { k with opts := c, more := true, data := (k.data.drop p).take R, off := V } ∧ frest c m { k with opts := c, data := k.data.drop p, off := V } = rk c k t) := by
          rw [← eRK]
          refine ⟨?_, by rw [ht]; exact rk_next c k m p R hRf h8 (by omega) (by omega)⟩
          unfold ffirst
          rw [← hRf, eRK]
        have NEXT : Hid (∀ s' w', Iprow w' W.heap.size s' (acc ++ [⟨{ k with opts := c, more := true, data := (k.data.drop p).take R, off := V }, (.slice Au nu cu), (.slice (some ⟨b, off + p, none⟩) (t - p) (d - p))⟩]) → Grow W w' → Rsp W c m (fgo k (m : Int)) k s' (acc ++ [⟨{ k with opts := c, more := true, data := (k.data.drop p).take R, off := V }, (.slice Au nu cu), (.slice (some ⟨b, off + p, none⟩) (t - p) (d - p))⟩]) t f w') := by
          intro s' w' hrow hgrow
          rw [etp] at hby
          refine ⟨hrow, Rsp.more K.out.2.1 ⟨HW.out.2.1, by rw [etp]; exact hby, ⟨HK.out.tos, HK.out.ident, by show _ ≤ V; omega, by show V ≤ _; omega, HK.out.ttl, HK.out.proto, HK.out.src, HK.out.dst⟩⟩, hgrow, .inl ⟨by omega, by omega, by simp; omega, by omega, ?_⟩⟩
          rw [goes, EK.out.1, EK.out.2]
          cases fpieces c m f (rk c k t) <;> simp
        have ht1 : p ≤ t := by omega
        have ht2 : t ≤ d := by omega
        have ht3 : t ≤ 65535 := by omega
        have hR65 : R ≤ 65535 := by omega
        have HTM := Lib.hid (And.intro hlt (show k.data.length - t < k.data.length - p by omega))
        clear goes hRM hLF hQ0 hV hlenR hby hRf eRK etp ht hQ1 hR
        go_wp2_with (first | (at_builtin; refine wpList_app1 wE rfl (.tmp 98) (.tmp 100) rfl W.heap.size u9 acc _ ⟨{ k with opts := c, more := true, data := (k.data.drop p).take R, off := V }, (.slice Au nu cu), (.slice (some ⟨b, off + p, none⟩) (t - p) (d - p))⟩ rfl (by rfl) (by rfl) ⟨rfl, rfl⟩ (K.out.1.grow FE.out.2) (by omega) (by have := (K.out.2.2.trans FE.out.2).size; omega) ?_; intro v9 w9 ho9 hg9; have H9 := Lib.hid (And.intro ho9 (Rsp.grown K.out.1 K.out.2.2 FE.out.2 hg9)); clear ho9 hg9) | (show wpList _ _ _ (⟨none, .store 4 (.tmp 94) (.const (.bool true)), _, _, _, _⟩ :: _) _ _; refine wpList_store_fld wr wD rfl _ _ _ rfl rfl wr.heap.size 3 (.bool true) rfl rfl { k with opts := c, data := (k.data.drop p).take R, off := V } { k with opts := c, more := true, data := (k.data.drop p).take R, off := V } (.slice Au nu cu) (.slice (some ⟨b, off + p, none⟩) (t - p) (d - p)) (.slice Au nu cu) (.slice (some ⟨b, off + p, none⟩) (t - p) (d - p)) FD.out.1 (by kernel_rfl) rfl (by omega) rfl FD.out.2 (Nat.le_refl _) ?_; intro wE hN hbN gN; have FE := Lib.hid (And.intro hN gN); clear hN hbN gN p4 p10 x4 x9; have p4 := (BP.out wE (K.out.2.2.trans FE.out.2)).c4; have p10 := (BP.out wE (K.out.2.2.trans FE.out.2)).c10; obtain ⟨x0, x1, x2, x3, x4, x5, x6, x7, x8, x9, x10⟩ := FE.out.1.boxd) | (show wpList _ _ _ (⟨none, .store 25 (.tmp 93) (.tmp 92), _, _, _, _⟩ :: _) _ _; refine wpList_store_fld wr wC rfl _ _ _ rfl rfl wr.heap.size 10 (.slice (some ⟨b, off + p, none⟩) (t - p) (d - p)) rfl rfl { k with opts := c, off := V } { k with opts := c, data := (k.data.drop p).take R, off := V } (.slice Au nu cu) (.slice (some ⟨b, off, none⟩) k.data.length d) (.slice Au nu cu) (.slice (some ⟨b, off + p, none⟩) (t - p) (d - p)) FC.out.1 (by kernel_rfl) rfl (by omega) rfl FC.out.2 (Nat.le_refl _) ?_; intro wD hN hbN gN; have FD := Lib.hid (And.intro hN gN); clear hN hbN gN p4 p10 x4 x9; have p4 := (BP.out wD (K.out.2.2.trans FD.out.2)).c4; have p10 := (BP.out wD (K.out.2.2.trans FD.out.2)).c10; have x4 := FD.out.1.c4; have x9 := FD.out.1.c9) | (show wpList _ _ _ (⟨none, .store 3 (.tmp 68) (.tmp 67), _, _, _, _⟩ :: _) _ _; refine wpList_store_fld wr wB rfl _ _ _ rfl rfl wr.heap.size 4 (.int .i64 V) rfl rfl { k with opts := c } { k with opts := c, off := V } (.slice Au nu cu) (.slice (some ⟨b, off, none⟩) k.data.length d) (.slice Au nu cu) (.slice (some ⟨b, off, none⟩) k.data.length d) FB.out.1 (by kernel_rfl) rfl (by omega) rfl FB.out.2 (Nat.le_refl _) ?_; intro wC hN hbN gN; have FC := Lib.hid (And.intro hN gN); clear hN hbN gN p4 p10 x4 x9; have p4 := (BP.out wC (K.out.2.2.trans FC.out.2)).c4; have p10 := (BP.out wC (K.out.2.2.trans FC.out.2)).c10; have x4 := FC.out.1.c4; have x9 := FC.out.1.c9) | (show wpList _ _ _ (⟨none, .store 25 (.tmp 51) (.tmp 50), _, _, _, _⟩ :: _) _ _; refine wpList_store_fld wr wA rfl _ _ _ rfl rfl wr.heap.size 9 (.slice Au nu cu) rfl rfl k { k with opts := c } (.slice A k.opts.length ca) (.slice (some ⟨b, off, none⟩) k.data.length d) (.slice Au nu cu) (.slice (some ⟨b, off, none⟩) k.data.length d) FA.out.1 (by kernel_rfl) rfl (by omega) rfl FA.out.2 (Nat.le_refl _) ?_; intro wB hN hbN gN; have FB := Lib.hid (And.intro hN gN); clear hN hbN gN p4 p10 x4 x9; have p4 := (BP.out wB (K.out.2.2.trans FB.out.2)).c4; have p10 := (BP.out wB (K.out.2.2.trans FB.out.2)).c10; have x4 := FB.out.1.c4; have x9 := FB.out.1.c9) | (show wpList _ _ _ (⟨none, .store 27 (.tmp 11) (.tmp 47), _, _, _, _⟩ :: _) _ _; refine wpList_store_ip wr _ rfl _ _ rfl rfl wr.heap.size rfl k zeroPk (.slice A k.opts.length ca) (.slice (some ⟨b, off, none⟩) k.data.length d) (.slice none 0 0) (.slice none 0 0) rfl rfl rfl (Blk.new wr zeroPk (.slice none 0 0) (.slice none 0 0)) (Grow.alloc wr _) (Nat.le_refl _) ?_; intro wA hA hbA gA; have FA := Lib.hid (And.intro hA gA); clear hA hbA gA p10 b0 b1 b2 b3 b4 b5 b6 b7 b8 b9; have p4 := (BP.out wA (K.out.2.2.trans FA.out.2)).c4; have p10 := (BP.out wA (K.out.2.2.trans FA.out.2)).c10; have x4 := FA.out.1.c4; have x9 := FA.out.1.c9))
        go_roundg f
        case measure => omega
        case rel => exact ⟨_, t, by go_num, NEXT.out _ _ H9.out.1 H9.out.2⟩
    · have E := Lib.hid (HS.out _ goes)
      have K := Lib.hid (And.intro row (And.intro good grow))
      clear goes row good grow
      go_wp2_with fail
      go_ret2
      exact ⟨_, by rw [E.out.1]; rfl, by rw [E.out.2]; exact ⟨acc, rfl, K.out.1.ips, fun q hq => (K.out.2.1 q hq).grow K.out.2.2⟩, HW.out.1.trans K.out.2.2⟩
end Go.Proofs.Ytkofmbnolaiecaa
