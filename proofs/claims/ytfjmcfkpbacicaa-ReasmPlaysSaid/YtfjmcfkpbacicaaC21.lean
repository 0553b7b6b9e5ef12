/- Contract: the reference's Split. -/
import Derived.Test.YtfjmcfkpbacicaaC11
import Derived.Test.YtfjmcfkpbacicaaC20
import Derived.Test.YtfjmcfkpbacicaaC03
namespace Go.Proofs.Ytfjmcfkpbacicaa
set_option linter.unusedVariables false
set_option linter.unusedSimpArgs false
open Go.ChangeShapes Go.WideShapes Go.ChangeAt Go.RowKit

set_option maxRecDepth 10000 in
set_option maxHeartbeats 8000000 in
theorem RSplit_late (v : Value) (k : Pkt) (m : Nat) (w : World) (h : Ip w v k) (hs : k.Small) (hw0 : fwhy k (m : Int) = 0) (hml : m < k.len) :
    Calls Try.prog 22 #[v, .int .i64 (m : Int)] w (RsplitLow v w k (m : Int)) := by
  obtain ⟨A, ca, B, d, rfl, ho, hd, hk⟩ := h.form
  have hsm := hs
  obtain ⟨hs1, hs2⟩ := hs
  obtain ⟨hck, hmt1, hmt2⟩ := fwhy_ok hw0
  obtain ⟨ck0, ck1, ck2, ck3⟩ := Pkt.check_ok hck
  have hm68 : 68 ≤ m := by omega
  have hm65 : m ≤ 65535 := by omega
  have hkd : k.data.length ≤ 65535 := by unfold Pkt.len at ck3; omega
  have hk0 := len_nil hm68 ck2 hml
  have hwh : ¬ (k.len : Int) ≤ (m : Int) := by omega
  have hw1 : k.whole = false ∧ fcode k.opts = 0 := by
    have h1 := hw0
    unfold fwhy at h1
    rw [if_neg (by omega), if_neg (by omega), if_neg hwh] at h1
    by_cases h4 : k.whole = true
    · rw [if_pos h4] at h1; cases h1
    · rw [if_neg h4] at h1; exact ⟨by simpa using h4, h1⟩
  have HR := Lib.hid (fun (h : fgo k (m : Int) = none) => fsplit_none hw0 h)
  have HS := Lib.hid (fun l (h : fgo k (m : Int) = some l) => fsplit_some hw0 h)
  obtain ⟨W1, hW1⟩ : ∃ W1, W1 = w.alloc (.cells #[.int .u8 (k.tos : Int), .int .u16 (k.ident : Int), .bool k.whole, .bool k.more, .int .i64 k.off, .int .u8 (k.ttl : Int), .int .u8 (k.proto : Int), .int .u32 (k.src : Int), .int .u32 (k.dst : Int), .slice A k.opts.length ca, .slice B k.data.length d] 38) := ⟨_, rfl⟩
  have hg1 : Grow w W1 := by rw [hW1]; exact Grow.alloc _ _
  have hB : Blk W1 w.heap.size k (.slice A k.opts.length ca) (.slice B k.data.length d) := by rw [hW1]; exact Blk.new _ _ _ _
  have hip : Ip W1 (ipV k (.slice A k.opts.length ca) (.slice B k.data.length d)) k := h.grow hg1
  have T := Lib.hid (And.intro hg1 (And.intro hB (And.intro (ho.grow hg1) (hd.grow hg1))))
  have cC := RCheck_ip _ k W1 hip hsm
  rw [hck] at cC
  have cL := fun w' (g : Grow W1 w') => RLen_any _ k w' (hip.grow g) hsm
  have cR := fun w' (g : Grow W1 w') => RCarried_own _ k.opts w' ((ho.grow hg1).grow g) hs1
  rw [hw1.2] at cR
  obtain ⟨c, hc⟩ : ∃ c, c = fcar k.opts := ⟨_, rfl⟩
  have hc40 : c.length ≤ 40 := by rw [hc]; exact (fcar_length _).1
  have hgo : Hid (fgo k (m : Int) = fpieces c m (k.data.length + 1) (rk c k 0)) := by rw [rk_zero, hc]; rfl
  rw [← hc] at cR
  have H4 := Lib.hid hw1.1
  have HK := Lib.hid hk
  have hlenI : decide (k.len ≤ m) = false := decide_eq_false (by omega)
  have hlen : k.len ≤ 65535 := ck3
  obtain ⟨M20, hM20⟩ : ∃ M20, M20 = m - 20 := ⟨_, rfl⟩
  have eM20 : (m : Int) - 20 = (M20 : Int) := by omega
  have hll : k.len = 20 + k.opts.length + k.data.length := rfl
  have HLL := Lib.hid (And.intro hll hml)
  have hMM := Lib.hid hM20
  have hM20b : 48 ≤ M20 ∧ M20 ≤ 65515 := by omega
  obtain ⟨hM1, hM2⟩ := hM20b
  clear hw0 hck hmt1 hmt2 ck3 hwh hw1 hg1 hB hip ho hd h hk hc hll hml hM20
  go_enter Try.func22, Try.ntmps22
  go_wp2_with fail
  rw [← hW1]
  refine cC.mono ?_
  rintro e w2 ⟨rfl, hg2⟩
  clear hW1
  obtain ⟨b0, b1, b2, b3, b4, b5, b6, b7, b8, b9, b10⟩ := (T.out.2.1.grow hg2).boxd
  have C2 := cL w2 hg2
  clear cL cC
  go_wp2_with fail
  refine C2.mono ?_
  rintro e w3 ⟨rfl, hg3⟩
  clear b0 b1 b2 b3 b4 b5 b6 b7 b8 b9 b10 C2
  obtain ⟨b0, b1, b2, b3, b4, b5, b6, b7, b8, b9, b10⟩ := (T.out.2.1.grow (hg2.trans hg3)).boxd
  rw [H4.out] at b2
  have C3 := cR w3 (hg2.trans hg3)
  clear cR
  go_wp2_with fail
  refine C3.mono ?_
  rintro e W ⟨u, rfl, huo, hg4⟩
  have hu := huo.byt
  have hN3 : w.heap.size ≤ w3.heap.size := (T.out.1.trans (hg2.trans hg3)).size
  have KU := Lib.hid (fun b h => Nat.le_trans hN3 (huo.lt b h).1)
  clear huo hN3
  obtain ⟨Au, nu, cu, rfl, hnu⟩ := hu.form2
  have hnu40 : nu ≤ 40 := by have := hnu.out; omega
  have hG := (hg2.trans hg3).trans hg4
  have HW := Lib.hid (And.intro (T.out.1.trans hG) (And.intro hu (And.intro (T.out.2.2.1.grow hG) (T.out.2.2.2.grow hG))))
  have BP : Hid (∀ w', Grow W w' → Blk w' w.heap.size k (.slice A k.opts.length ca) (.slice B k.data.length d)) := fun w' g => T.out.2.1.grow (hG.trans g)
  clear b0 b1 b2 b3 b4 b5 b6 b7 b8 b9 b10 C3 hu hG hg2 hg3 hg4 T
  go_wp2_with fail
  go_loopg [9, 10] (k.data.length + 1) (fun g s9 s10 wr => ∃ (acc : List Pk) (p : Nat), s10 = .int .i64 (p : Int) ∧ Rsp (ipV k (.slice A k.opts.length ca) (.slice B k.data.length d)) w.heap.size W c m (fgo k (m : Int)) k s9 acc p g wr)
  case atStart =>
    refine ⟨[], 0, rfl, fun q hq => by simp at hq, Iprow.nil _ _, fun q hq => by simp at hq, Grow.refl _, .inl ⟨by omega, rfl, by simp, by omega, ?_⟩⟩
    rw [hgo.out]
    cases fpieces c m (k.data.length + 1) (rk c k 0) <;> simp
  case round =>
    obtain ⟨acc, p, rfl, low, row, good, grow, hgoes⟩ := hrel
    have KL := Lib.hid low
    clear low
    clear hgo
    have p10 := (BP.out wr grow).c10
    rcases hgoes with ⟨hlt, h8, hacc, hf, goes⟩ | ⟨rfl, goes⟩
    · obtain ⟨f, rfl⟩ : ∃ j, gk = j + 1 := ⟨gk - 1, by omega⟩
      rw [fpieces] at goes
      obtain ⟨hdc, hdm⟩ := HW.out.2.2.2.len.2
      obtain ⟨b, off, rfl, hbl, _⟩ := HW.out.2.2.2.at_ (by omega)
      obtain ⟨b0, b1, b2, b3, b4, b5, b6, b7, b8, b9, b10⟩ := (BP.out wr grow).boxd
      have K := Lib.hid (And.intro row (And.intro good grow))
      have hltI : (p : Int) < (k.data.length : Int) := by omega
      clear row good grow hbl b10
      by_cases hp0 : p = 0
      · subst hp0
        rw [rk_zero] at goes
        have hfit : ¬ k.len ≤ m := by have := HLL.out.2; omega
        rw [if_neg (by omega), if_neg hfit] at goes
        obtain ⟨RM, hRM⟩ : ∃ RM, RM = M20 - k.opts.length := ⟨_, rfl⟩
        have eRM : (M20 : Int) - (k.opts.length : Int) = (RM : Int) := by omega
        obtain ⟨Q1, hQ1⟩ : ∃ Q1, Q1 = RM / 8 := ⟨_, rfl⟩
        have eQ1 : (RM : Int) / 8 = (Q1 : Int) := by omega
        obtain ⟨R, hR⟩ : ∃ R, R = Q1 * 8 := ⟨_, rfl⟩
        have eR : (Q1 : Int) * 8 = (R : Int) := by omega
        have hRf : R = froom m k := by rw [hR, hQ1, hRM, hMM.out]; rfl
        have hrb := froom_bounds hm68 ck2 (show m < k.len by omega)
        rw [← hRf] at hrb
        have dfit : decide (k.data.length ≤ RM) = false := decide_eq_false (by have := HLL.out.1; have := hMM.out; omega)
        have hRM2 : RM ≤ 65515 := by omega
        have hRd : R ≤ d := by omega
        have hR65 : R ≤ 65535 := by omega
        have hfr := HW.out.2.2.2.front (show R ≤ k.data.length by omega)
        have EK : Hid (ffirst m k = { k with more := true, data := k.data.take R } ∧ frest c m k = rk c k (0 + R)) := by
          refine ⟨by unfold ffirst; rw [← hRf], ?_⟩
          have := rk_next c k m 0 R (by rw [rk_zero]; exact hRf) rfl hrb.2.2.1 (by omega)
          rwa [rk_zero] at this
        have NEXT : Hid (∀ s' w', Iprow w' W.heap.size s' (acc ++ [⟨{ k with more := true, data := k.data.take R }, (.slice A k.opts.length ca), (.slice (some ⟨b, off, none⟩) R d)⟩]) → Grow W w' → Rsp (ipV k (.slice A k.opts.length ca) (.slice (some ⟨b, off, none⟩) k.data.length d)) w.heap.size W c m (fgo k (m : Int)) k s' (acc ++ [⟨{ k with more := true, data := k.data.take R }, (.slice A k.opts.length ca), (.slice (some ⟨b, off, none⟩) R d)⟩]) R f w') := by
          intro s' w' hrow hgrow
          refine ⟨Rsp.lmore KL.out (fun b h => .inl ⟨_, _, rfl, h.imp (fun h => h) (fun h => ⟨by have := h.1; simp only [List.length_take] at this; omega, h.2⟩)⟩), hrow, Rsp.more K.out.2.1 ⟨HW.out.2.2.1, hfr, ⟨HK.out.tos, HK.out.ident, HK.out.off1, HK.out.off2, HK.out.ttl, HK.out.proto, HK.out.src, HK.out.dst⟩⟩, hgrow, .inl ⟨by omega, hrb.2.2.1, by simp; omega, by omega, ?_⟩⟩
          rw [goes, EK.out.1, EK.out.2, Nat.zero_add]
          cases fpieces c m f (rk c k R) <;> simp
        clear goes hRf hrb hRM hQ1 hR hfr
        go_wp2_with (first | (at_builtin; refine wpList_app1 wD rfl (.tmp 98) (.tmp 100) rfl W.heap.size u9 acc _ ⟨{ k with more := true, data := k.data.take R }, (.slice A k.opts.length ca), (.slice (some ⟨b, off, none⟩) R d)⟩ rfl (by rfl) (by rfl) ⟨rfl, rfl⟩ (K.out.1.grow FD.out.2) (by omega) (by have := (K.out.2.2.trans FD.out.2).size; omega) ?_; intro v9 w9 ho9 hg9; have H9 := Lib.hid (And.intro ho9 (Rsp.grown K.out.1 K.out.2.2 FD.out.2 hg9)); clear ho9 hg9) | (show wpList _ _ _ (⟨none, .store 4 (.tmp 94) (.const (.bool true)), _, _, _, _⟩ :: _) _ _; refine wpList_store_fld wr wC rfl _ _ _ rfl rfl wr.heap.size 3 (.bool true) rfl rfl { k with data := k.data.take R } { k with more := true, data := k.data.take R } (.slice A k.opts.length ca) (.slice (some ⟨b, off, none⟩) R d) (.slice A k.opts.length ca) (.slice (some ⟨b, off, none⟩) R d) FC.out.1 (by kernel_rfl) rfl (by omega) rfl FC.out.2 (Nat.le_refl _) ?_; intro wD hN hbN gN; have FD := Lib.hid (And.intro hN gN); clear hN hbN gN p4 p10 x4 x9; have p4 := (BP.out wD (K.out.2.2.trans FD.out.2)).c4; have p10 := (BP.out wD (K.out.2.2.trans FD.out.2)).c10; obtain ⟨x0, x1, x2, x3, x4, x5, x6, x7, x8, x9, x10⟩ := FD.out.1.boxd) | (show wpList _ _ _ (⟨none, .store 36 (.tmp 93) (.tmp 92), _, _, _, _⟩ :: _) _ _; refine wpList_store_fld wr wB rfl _ _ _ rfl rfl wr.heap.size 10 (.slice (some ⟨b, off, none⟩) R d) rfl rfl k { k with data := k.data.take R } (.slice A k.opts.length ca) (.slice (some ⟨b, off, none⟩) k.data.length d) (.slice A k.opts.length ca) (.slice (some ⟨b, off, none⟩) R d) FB.out.1 (by kernel_rfl) rfl (by omega) rfl FB.out.2 (Nat.le_refl _) ?_; intro wC hN hbN gN; have FC := Lib.hid (And.intro hN gN); clear hN hbN gN p4 p10 x4 x9; have p4 := (BP.out wC (K.out.2.2.trans FC.out.2)).c4; have p10 := (BP.out wC (K.out.2.2.trans FC.out.2)).c10; have x4 := FC.out.1.c4; have x9 := FC.out.1.c9) | (show wpList _ _ _ (⟨none, .store 3 (.tmp 68) (.tmp 67), _, _, _, _⟩ :: _) _ _; refine wpList_store_fld wr wA rfl _ _ _ rfl rfl wr.heap.size 4 (.int .i64 k.off) rfl rfl k k (.slice A k.opts.length ca) (.slice (some ⟨b, off, none⟩) k.data.length d) (.slice A k.opts.length ca) (.slice (some ⟨b, off, none⟩) k.data.length d) FA.out.1 (by kernel_rfl) rfl (by omega) rfl FA.out.2 (Nat.le_refl _) ?_; intro wB hN hbN gN; have FB := Lib.hid (And.intro hN gN); clear hN hbN gN p4 p10 x4 x9; have p4 := (BP.out wB (K.out.2.2.trans FB.out.2)).c4; have p10 := (BP.out wB (K.out.2.2.trans FB.out.2)).c10; have x4 := FB.out.1.c4; have x9 := FB.out.1.c9) | (show wpList _ _ _ (⟨none, .store 38 (.tmp 11) (.tmp 47), _, _, _, _⟩ :: _) _ _; refine wpList_store_ip wr _ rfl _ _ rfl rfl wr.heap.size rfl k zeroPk (.slice A k.opts.length ca) (.slice (some ⟨b, off, none⟩) k.data.length d) (.slice none 0 0) (.slice none 0 0) rfl rfl rfl (Blk.new wr zeroPk (.slice none 0 0) (.slice none 0 0)) (Grow.alloc wr _) (Nat.le_refl _) ?_; intro wA hA hbA gA; have FA := Lib.hid (And.intro hA gA); clear hA hbA gA p10 b0 b1 b2 b3 b4 b5 b6 b7 b8 b9; have p4 := (BP.out wA (K.out.2.2.trans FA.out.2)).c4; have p10 := (BP.out wA (K.out.2.2.trans FA.out.2)).c10; have x4 := FA.out.1.c4; have x9 := FA.out.1.c9))
        go_roundg f
        case measure => omega
        case rel => exact ⟨_, R, by go_num, NEXT.out _ _ H9.out.1 H9.out.2⟩
      have hpos : 0 < p := by omega
      rw [rk_pos c k hpos] at goes
      obtain ⟨Q0, hQ0⟩ : ∃ Q0, Q0 = p / 8 := ⟨_, rfl⟩
      have eQ0 : (p : Int) / 8 = (Q0 : Int) := by omega
      obtain ⟨V, hV⟩ : ∃ V, V = k.off + (Q0 : Int) := ⟨_, rfl⟩
      have eV : k.off + (Q0 : Int) = V := hV.symm
      have hVb : 0 ≤ V ∧ V ≤ 100000 := by omega
      obtain ⟨hV1, hV2⟩ := hVb
      rw [← hQ0, eV] at goes
      simp only [] at goes
      by_cases hoff : 8191 < V
      · rw [if_pos hoff] at goes
        have E := Lib.hid (HR.out goes)
        obtain ⟨RM, hRM⟩ : ∃ RM, RM = M20 - nu := ⟨_, rfl⟩
        have eRM : (M20 : Int) - (nu : Int) = (RM : Int) := by omega
        obtain ⟨LF, hLF⟩ : ∃ LF, LF = k.data.length - p := ⟨_, rfl⟩
        have eLF : (k.data.length : Int) - (p : Int) = (LF : Int) := by omega
        have hRM2 : RM ≤ 65515 := by omega
        have hLF2 : LF ≤ 65535 := by omega
        clear goes hRM hLF hQ0 hV
        go_wp2_with (first | (show wpList _ _ _ (⟨none, .store 3 (.tmp 68) (.tmp 67), _, _, _, _⟩ :: _) _ _; refine wpList_store_fld wr wB rfl _ _ _ rfl rfl wr.heap.size 4 (.int .i64 V) rfl rfl { k with opts := c } { k with opts := c, off := V } (.slice Au nu cu) (.slice (some ⟨b, off, none⟩) k.data.length d) (.slice Au nu cu) (.slice (some ⟨b, off, none⟩) k.data.length d) FB.out.1 (by kernel_rfl) rfl (by omega) rfl FB.out.2 (Nat.le_refl _) ?_; intro wC hN hbN gN; have FC := Lib.hid (And.intro hN gN); clear hN hbN gN p4 p10 x4 x9; have p4 := (BP.out wC (K.out.2.2.trans FC.out.2)).c4; have p10 := (BP.out wC (K.out.2.2.trans FC.out.2)).c10; have x4 := FC.out.1.c4; have x9 := FC.out.1.c9) | (show wpList _ _ _ (⟨none, .store 36 (.tmp 51) (.tmp 50), _, _, _, _⟩ :: _) _ _; refine wpList_store_fld wr wA rfl _ _ _ rfl rfl wr.heap.size 9 (.slice Au nu cu) rfl rfl k { k with opts := c } (.slice A k.opts.length ca) (.slice (some ⟨b, off, none⟩) k.data.length d) (.slice Au nu cu) (.slice (some ⟨b, off, none⟩) k.data.length d) FA.out.1 (by kernel_rfl) rfl (by omega) rfl FA.out.2 (Nat.le_refl _) ?_; intro wB hN hbN gN; have FB := Lib.hid (And.intro hN gN); clear hN hbN gN p4 p10 x4 x9; have p4 := (BP.out wB (K.out.2.2.trans FB.out.2)).c4; have p10 := (BP.out wB (K.out.2.2.trans FB.out.2)).c10; have x4 := FB.out.1.c4; have x9 := FB.out.1.c9) | (show wpList _ _ _ (⟨none, .store 38 (.tmp 11) (.tmp 47), _, _, _, _⟩ :: _) _ _; refine wpList_store_ip wr _ rfl _ _ rfl rfl wr.heap.size rfl k zeroPk (.slice A k.opts.length ca) (.slice (some ⟨b, off, none⟩) k.data.length d) (.slice none 0 0) (.slice none 0 0) rfl rfl rfl (Blk.new wr zeroPk (.slice none 0 0) (.slice none 0 0)) (Grow.alloc wr _) (Nat.le_refl _) ?_; intro wA hA hbA gA; have FA := Lib.hid (And.intro hA gA); clear hA hbA gA p10 b0 b1 b2 b3 b4 b5 b6 b7 b8 b9; have p4 := (BP.out wA (K.out.2.2.trans FA.out.2)).c4; have p10 := (BP.out wA (K.out.2.2.trans FA.out.2)).c10; have x4 := FA.out.1.c4; have x9 := FA.out.1.c9))
        go_ret2
        exact RsplitLow.fail E.out.1 E.out.2 (HW.out.1.trans (K.out.2.2.trans FC.out.2))
      rw [if_neg hoff] at goes
      obtain ⟨RM, hRM⟩ : ∃ RM, RM = M20 - nu := ⟨_, rfl⟩
      have eRM : (M20 : Int) - (nu : Int) = (RM : Int) := by omega
      obtain ⟨LF, hLF⟩ : ∃ LF, LF = k.data.length - p := ⟨_, rfl⟩
      have eLF : (k.data.length : Int) - (p : Int) = (LF : Int) := by omega
      have hRM2 : RM ≤ 65515 := by omega
      have hLF2 : LF ≤ 65535 := by omega
      have hlenR : Pkt.len { k with opts := c, data := k.data.drop p, off := V } = 20 + nu + LF := by unfold Pkt.len; rw [hLF, hnu.out]; simp
      have hdp : ¬ d = p := by omega
      have hpd : p ≤ d := by omega
      by_cases hfit : LF ≤ RM
      · rw [hlenR, if_pos (by have := hMM.out; omega)] at goes
        have hby := (leftOn HW.out.2.2.2 (show p ≤ k.data.length by omega)).2 hdp
        rw [List.length_drop] at hby
        have NEXT : Hid (∀ s' w', Iprow w' W.heap.size s' (acc ++ [⟨{ k with opts := c, data := k.data.drop p, off := V }, (.slice Au nu cu), (.slice (some ⟨b, off + p, none⟩) (k.data.length - p) (d - p))⟩]) → Grow W w' → Rsp (ipV k (.slice A k.opts.length ca) (.slice (some ⟨b, off, none⟩) k.data.length d)) w.heap.size W c m (fgo k (m : Int)) k s' (acc ++ [⟨{ k with opts := c, data := k.data.drop p, off := V }, (.slice Au nu cu), (.slice (some ⟨b, off + p, none⟩) (k.data.length - p) (d - p))⟩]) k.data.length f w') := by
          intro s' w' hrow hgrow
          refine ⟨Rsp.lmore KL.out (fun b h => h.elim (fun h => .inr (KU.out b h.2)) (fun h => .inl ⟨_, _, rfl, .inr ⟨by have := h.1; simp only [List.length_take, List.length_drop] at this; omega, h.2⟩⟩)), hrow, Rsp.more K.out.2.1 ⟨HW.out.2.1, hby, ⟨HK.out.tos, HK.out.ident, by show _ ≤ V; omega, by show V ≤ _; omega, HK.out.ttl, HK.out.proto, HK.out.src, HK.out.dst⟩⟩, hgrow, .inr ⟨rfl, ?_⟩⟩
          rw [goes]
          simp
        clear goes hRM hLF hQ0 hV hlenR hby
        go_wp2_with (first | (at_builtin; refine wpList_app1 wD rfl (.tmp 98) (.tmp 100) rfl W.heap.size u9 acc _ ⟨{ k with opts := c, data := k.data.drop p, off := V }, (.slice Au nu cu), (.slice (some ⟨b, off + p, none⟩) (k.data.length - p) (d - p))⟩ rfl (by rfl) (by rfl) ⟨rfl, rfl⟩ (K.out.1.grow FD.out.2) (by omega) (by have := (K.out.2.2.trans FD.out.2).size; omega) ?_; intro v9 w9 ho9 hg9; have H9 := Lib.hid (And.intro ho9 (Rsp.grown K.out.1 K.out.2.2 FD.out.2 hg9)); clear ho9 hg9) | (show wpList _ _ _ (⟨none, .store 36 (.tmp 79) (.tmp 78), _, _, _, _⟩ :: _) _ _; refine wpList_store_fld wr wC rfl _ _ _ rfl rfl wr.heap.size 10 (.slice (some ⟨b, off + p, none⟩) (k.data.length - p) (d - p)) rfl rfl { k with opts := c, off := V } { k with opts := c, data := k.data.drop p, off := V } (.slice Au nu cu) (.slice (some ⟨b, off, none⟩) k.data.length d) (.slice Au nu cu) (.slice (some ⟨b, off + p, none⟩) (k.data.length - p) (d - p)) FC.out.1 (by kernel_rfl) rfl (by omega) rfl FC.out.2 (Nat.le_refl _) ?_; intro wD hN hbN gN; have FD := Lib.hid (And.intro hN gN); clear hN hbN gN p4 p10 x4 x9; have p4 := (BP.out wD (K.out.2.2.trans FD.out.2)).c4; have p10 := (BP.out wD (K.out.2.2.trans FD.out.2)).c10; obtain ⟨x0, x1, x2, x3, x4, x5, x6, x7, x8, x9, x10⟩ := FD.out.1.boxd) | (show wpList _ _ _ (⟨none, .store 3 (.tmp 68) (.tmp 67), _, _, _, _⟩ :: _) _ _; refine wpList_store_fld wr wB rfl _ _ _ rfl rfl wr.heap.size 4 (.int .i64 V) rfl rfl { k with opts := c } { k with opts := c, off := V } (.slice Au nu cu) (.slice (some ⟨b, off, none⟩) k.data.length d) (.slice Au nu cu) (.slice (some ⟨b, off, none⟩) k.data.length d) FB.out.1 (by kernel_rfl) rfl (by omega) rfl FB.out.2 (Nat.le_refl _) ?_; intro wC hN hbN gN; have FC := Lib.hid (And.intro hN gN); clear hN hbN gN p4 p10 x4 x9; have p4 := (BP.out wC (K.out.2.2.trans FC.out.2)).c4; have p10 := (BP.out wC (K.out.2.2.trans FC.out.2)).c10; have x4 := FC.out.1.c4; have x9 := FC.out.1.c9) | (show wpList _ _ _ (⟨none, .store 36 (.tmp 51) (.tmp 50), _, _, _, _⟩ :: _) _ _; refine wpList_store_fld wr wA rfl _ _ _ rfl rfl wr.heap.size 9 (.slice Au nu cu) rfl rfl k { k with opts := c } (.slice A k.opts.length ca) (.slice (some ⟨b, off, none⟩) k.data.length d) (.slice Au nu cu) (.slice (some ⟨b, off, none⟩) k.data.length d) FA.out.1 (by kernel_rfl) rfl (by omega) rfl FA.out.2 (Nat.le_refl _) ?_; intro wB hN hbN gN; have FB := Lib.hid (And.intro hN gN); clear hN hbN gN p4 p10 x4 x9; have p4 := (BP.out wB (K.out.2.2.trans FB.out.2)).c4; have p10 := (BP.out wB (K.out.2.2.trans FB.out.2)).c10; have x4 := FB.out.1.c4; have x9 := FB.out.1.c9) | (show wpList _ _ _ (⟨none, .store 38 (.tmp 11) (.tmp 47), _, _, _, _⟩ :: _) _ _; refine wpList_store_ip wr _ rfl _ _ rfl rfl wr.heap.size rfl k zeroPk (.slice A k.opts.length ca) (.slice (some ⟨b, off, none⟩) k.data.length d) (.slice none 0 0) (.slice none 0 0) rfl rfl rfl (Blk.new wr zeroPk (.slice none 0 0) (.slice none 0 0)) (Grow.alloc wr _) (Nat.le_refl _) ?_; intro wA hA hbA gA; have FA := Lib.hid (And.intro hA gA); clear hA hbA gA p10 b0 b1 b2 b3 b4 b5 b6 b7 b8 b9; have p4 := (BP.out wA (K.out.2.2.trans FA.out.2)).c4; have p10 := (BP.out wA (K.out.2.2.trans FA.out.2)).c10; have x4 := FA.out.1.c4; have x9 := FA.out.1.c9))
        go_roundg f
        case measure => omega
        case rel => exact ⟨_, k.data.length, by go_num, NEXT.out _ _ H9.out.1 H9.out.2⟩
      · rw [hlenR, if_neg (by have := hMM.out; omega)] at goes
        obtain ⟨Q1, hQ1⟩ : ∃ Q1, Q1 = RM / 8 := ⟨_, rfl⟩
        have eQ1 : (RM : Int) / 8 = (Q1 : Int) := by omega
        obtain ⟨R, hR⟩ : ∃ R, R = Q1 * 8 := ⟨_, rfl⟩
        have eR : (Q1 : Int) * 8 = (R : Int) := by omega
        obtain ⟨t, ht⟩ : ∃ t, t = p + R := ⟨_, rfl⟩
        have et : (p : Int) + (R : Int) = (t : Int) := by omega
        have hRf : R = froom m (rk c k p) := by rw [rk_pos c k hpos, hR, hQ1, hRM, hMM.out, hnu.out]; rfl
        have eRK : rk c k p = { k with opts := c, data := k.data.drop p, off := V } := by rw [rk_pos c k hpos, ← hQ0, eV]
        have hR8 : 8 ≤ R := by omega
        have hRl : p + R ≤ k.data.length := by omega
        have hby := (byt_cut HW.out.2.2.2 hRl).2 hdp
        have etp : t - p = R := by omega
        rw [← etp] at hby
        have EK : Hid (ffirst m { k with opts := c, data := k.data.drop p, off := V } = { k with opts := c, more := true, data := (k.data.drop p).take R, off := V } ∧ frest c m { k with opts := c, data := k.data.drop p, off := V } = rk c k t) := by
          rw [← eRK]
          refine ⟨?_, by rw [ht]; exact rk_next c k m p R hRf h8 (by omega) (by omega)⟩
          unfold ffirst
          rw [← hRf, eRK]
        have NEXT : Hid (∀ s' w', Iprow w' W.heap.size s' (acc ++ [⟨{ k with opts := c, more := true, data := (k.data.drop p).take R, off := V }, (.slice Au nu cu), (.slice (some ⟨b, off + p, none⟩) (t - p) (d - p))⟩]) → Grow W w' → Rsp (ipV k (.slice A k.opts.length ca) (.slice (some ⟨b, off, none⟩) k.data.length d)) w.heap.size W c m (fgo k (m : Int)) k s' (acc ++ [⟨{ k with opts := c, more := true, data := (k.data.drop p).take R, off := V }, (.slice Au nu cu), (.slice (some ⟨b, off + p, none⟩) (t - p) (d - p))⟩]) t f w') := by
          intro s' w' hrow hgrow
          rw [etp] at hby
          refine ⟨Rsp.lmore KL.out (fun b h => h.elim (fun h => .inr (KU.out b h.2)) (fun h => .inl ⟨_, _, rfl, .inr ⟨by have := h.1; simp only [List.length_take, List.length_drop] at this; omega, h.2⟩⟩)), hrow, Rsp.more K.out.2.1 ⟨HW.out.2.1, by rw [etp]; exact hby, ⟨HK.out.tos, HK.out.ident, by show _ ≤ V; omega, by show V ≤ _; omega, HK.out.ttl, HK.out.proto, HK.out.src, HK.out.dst⟩⟩, hgrow, .inl ⟨by omega, by omega, by simp; omega, by omega, ?_⟩⟩
          rw [goes, EK.out.1, EK.out.2]
          cases fpieces c m f (rk c k t) <;> simp
        have ht1 : p ≤ t := by omega
        have ht2 : t ≤ d := by omega
        have ht3 : t ≤ 65535 := by omega
        have hR65 : R ≤ 65535 := by omega
        have HTM := Lib.hid (And.intro hlt (show k.data.length - t < k.data.length - p by omega))
        clear goes hRM hLF hQ0 hV hlenR hby hRf eRK etp ht hQ1 hR
        go_wp2_with (first | (at_builtin; refine wpList_app1 wE rfl (.tmp 98) (.tmp 100) rfl W.heap.size u9 acc _ ⟨{ k with opts := c, more := true, data := (k.data.drop p).take R, off := V }, (.slice Au nu cu), (.slice (some ⟨b, off + p, none⟩) (t - p) (d - p))⟩ rfl (by rfl) (by rfl) ⟨rfl, rfl⟩ (K.out.1.grow FE.out.2) (by omega) (by have := (K.out.2.2.trans FE.out.2).size; omega) ?_; intro v9 w9 ho9 hg9; have H9 := Lib.hid (And.intro ho9 (Rsp.grown K.out.1 K.out.2.2 FE.out.2 hg9)); clear ho9 hg9) | (show wpList _ _ _ (⟨none, .store 4 (.tmp 94) (.const (.bool true)), _, _, _, _⟩ :: _) _ _; refine wpList_store_fld wr wD rfl _ _ _ rfl rfl wr.heap.size 3 (.bool true) rfl rfl { k with opts := c, data := (k.data.drop p).take R, off := V } { k with opts := c, more := true, data := (k.data.drop p).take R, off := V } (.slice Au nu cu) (.slice (some ⟨b, off + p, none⟩) (t - p) (d - p)) (.slice Au nu cu) (.slice (some ⟨b, off + p, none⟩) (t - p) (d - p)) FD.out.1 (by kernel_rfl) rfl (by omega) rfl FD.out.2 (Nat.le_refl _) ?_; intro wE hN hbN gN; have FE := Lib.hid (And.intro hN gN); clear hN hbN gN p4 p10 x4 x9; have p4 := (BP.out wE (K.out.2.2.trans FE.out.2)).c4; have p10 := (BP.out wE (K.out.2.2.trans FE.out.2)).c10; obtain ⟨x0, x1, x2, x3, x4, x5, x6, x7, x8, x9, x10⟩ := FE.out.1.boxd) | (show wpList _ _ _ (⟨none, .store 36 (.tmp 93) (.tmp 92), _, _, _, _⟩ :: _) _ _; refine wpList_store_fld wr wC rfl _ _ _ rfl rfl wr.heap.size 10 (.slice (some ⟨b, off + p, none⟩) (t - p) (d - p)) rfl rfl { k with opts := c, off := V } { k with opts := c, data := (k.data.drop p).take R, off := V } (.slice Au nu cu) (.slice (some ⟨b, off, none⟩) k.data.length d) (.slice Au nu cu) (.slice (some ⟨b, off + p, none⟩) (t - p) (d - p)) FC.out.1 (by kernel_rfl) rfl (by omega) rfl FC.out.2 (Nat.le_refl _) ?_; intro wD hN hbN gN; have FD := Lib.hid (And.intro hN gN); clear hN hbN gN p4 p10 x4 x9; have p4 := (BP.out wD (K.out.2.2.trans FD.out.2)).c4; have p10 := (BP.out wD (K.out.2.2.trans FD.out.2)).c10; have x4 := FD.out.1.c4; have x9 := FD.out.1.c9) | (show wpList _ _ _ (⟨none, .store 3 (.tmp 68) (.tmp 67), _, _, _, _⟩ :: _) _ _; refine wpList_store_fld wr wB rfl _ _ _ rfl rfl wr.heap.size 4 (.int .i64 V) rfl rfl { k with opts := c } { k with opts := c, off := V } (.slice Au nu cu) (.slice (some ⟨b, off, none⟩) k.data.length d) (.slice Au nu cu) (.slice (some ⟨b, off, none⟩) k.data.length d) FB.out.1 (by kernel_rfl) rfl (by omega) rfl FB.out.2 (Nat.le_refl _) ?_; intro wC hN hbN gN; have FC := Lib.hid (And.intro hN gN); clear hN hbN gN p4 p10 x4 x9; have p4 := (BP.out wC (K.out.2.2.trans FC.out.2)).c4; have p10 := (BP.out wC (K.out.2.2.trans FC.out.2)).c10; have x4 := FC.out.1.c4; have x9 := FC.out.1.c9) | (show wpList _ _ _ (⟨none, .store 36 (.tmp 51) (.tmp 50), _, _, _, _⟩ :: _) _ _; refine wpList_store_fld wr wA rfl _ _ _ rfl rfl wr.heap.size 9 (.slice Au nu cu) rfl rfl k { k with opts := c } (.slice A k.opts.length ca) (.slice (some ⟨b, off, none⟩) k.data.length d) (.slice Au nu cu) (.slice (some ⟨b, off, none⟩) k.data.length d) FA.out.1 (by kernel_rfl) rfl (by omega) rfl FA.out.2 (Nat.le_refl _) ?_; intro wB hN hbN gN; have FB := Lib.hid (And.intro hN gN); clear hN hbN gN p4 p10 x4 x9; have p4 := (BP.out wB (K.out.2.2.trans FB.out.2)).c4; have p10 := (BP.out wB (K.out.2.2.trans FB.out.2)).c10; have x4 := FB.out.1.c4; have x9 := FB.out.1.c9) | (show wpList _ _ _ (⟨none, .store 38 (.tmp 11) (.tmp 47), _, _, _, _⟩ :: _) _ _; refine wpList_store_ip wr _ rfl _ _ rfl rfl wr.heap.size rfl k zeroPk (.slice A k.opts.length ca) (.slice (some ⟨b, off, none⟩) k.data.length d) (.slice none 0 0) (.slice none 0 0) rfl rfl rfl (Blk.new wr zeroPk (.slice none 0 0) (.slice none 0 0)) (Grow.alloc wr _) (Nat.le_refl _) ?_; intro wA hA hbA gA; have FA := Lib.hid (And.intro hA gA); clear hA hbA gA p10 b0 b1 b2 b3 b4 b5 b6 b7 b8 b9; have p4 := (BP.out wA (K.out.2.2.trans FA.out.2)).c4; have p10 := (BP.out wA (K.out.2.2.trans FA.out.2)).c10; have x4 := FA.out.1.c4; have x9 := FA.out.1.c9))
        go_roundg f
        case measure => omega
        case rel => exact ⟨_, t, by go_num, NEXT.out _ _ H9.out.1 H9.out.2⟩
    · have E := Lib.hid (HS.out _ goes)
      have K := Lib.hid (And.intro row (And.intro good grow))
      clear goes row good grow
      go_wp2_with fail
      go_ret2
      exact ⟨_, acc, by rw [E.out.1]; rfl, by rw [E.out.2], K.out.1.ips, fun q hq => ⟨(K.out.2.1 q hq).grow K.out.2.2, KL.out q hq⟩, HW.out.1.trans K.out.2.2⟩
end Go.Proofs.Ytfjmcfkpbacicaa
/- The reference's Same, of packets that are the same; Many; Split of both as one. -/
namespace Go.Proofs.Ytfjmcfkpbacicaa
set_option linter.unusedVariables false
set_option linter.unusedSimpArgs false
open Go.ChangeShapes Go.WideShapes Go.ChangeAt Go.RowKit
attribute [local irreducible] wpQuiet

/-- Eleven cells in every world of the class. -/
theorem PkAt.gw {w : World} {b o : Nat} {q : Pk} (h : PkAt w b o q) (hb : b < w.heap.size) :
    (∀ p : Gw w, p.v.cell? ⟨b, o, none⟩ = some (.int .u8 (q.k.tos : Int))) ∧ (∀ p : Gw w, p.v.cell? ⟨b, o + 1, none⟩ = some (.int .u16 (q.k.ident : Int))) ∧ (∀ p : Gw w, p.v.cell? ⟨b, o + 2, none⟩ = some (.bool q.k.whole)) ∧ (∀ p : Gw w, p.v.cell? ⟨b, o + 3, none⟩ = some (.bool q.k.more)) ∧
    (∀ p : Gw w, p.v.cell? ⟨b, o + 4, none⟩ = some (.int .i64 q.k.off)) ∧ (∀ p : Gw w, p.v.cell? ⟨b, o + 5, none⟩ = some (.int .u8 (q.k.ttl : Int))) ∧ (∀ p : Gw w, p.v.cell? ⟨b, o + 6, none⟩ = some (.int .u8 (q.k.proto : Int))) ∧ (∀ p : Gw w, p.v.cell? ⟨b, o + 7, none⟩ = some (.int .u32 (q.k.src : Int))) ∧
    (∀ p : Gw w, p.v.cell? ⟨b, o + 8, none⟩ = some (.int .u32 (q.k.dst : Int))) ∧ (∀ p : Gw w, p.v.cell? ⟨b, o + 9, none⟩ = some q.vo) ∧ (∀ p : Gw w, p.v.cell? ⟨b, o + 10, none⟩ = some q.vd) := by
  refine ⟨fun p => ?_, fun p => ?_, fun p => ?_, fun p => ?_, fun p => ?_, fun p => ?_, fun p => ?_, fun p => ?_, fun p => ?_, fun p => ?_, fun p => ?_⟩ <;>
  · obtain ⟨h0, h1, h2, h3, h4, h5, h6, h7, h8, h9, h10⟩ := h.grow p.h hb
    assumption

set_option maxRecDepth 10000 in
set_option maxHeartbeats 4000000 in
theorem RSame11_any (ks : List Pkt) (a b : Value) (w : World) (ha : Psl w a ks) (hz : Psl w b ks) :
    Calls Try.prog 13 #[a, b] w fun e w' => e = .returned (.bool true) ∧ Grow w w' := by
  obtain ⟨la, ela, hia, hga⟩ := ha
  obtain ⟨lb, elb, hib, hgb⟩ := hz
  obtain ⟨A, c, rfl, hlc, hcm⟩ := hia.form
  obtain ⟨A2, c2, rfl, hlc2, hcm2⟩ := hib.form
  have hll : la.length = lb.length := by
    have h1 := congrArg List.length ela
    have h2 := congrArg List.length elb
    rw [List.length_map] at h1 h2
    omega
  have hm : la.length ≤ 9223372036854775807 := Nat.le_trans hlc hcm
  have HA := Lib.hid (And.intro hia (And.intro hib (And.intro hga (And.intro hgb (And.intro ela elb)))))
  obtain ⟨n, hn⟩ : ∃ n, n = lb.length := ⟨_, rfl⟩
  rw [← hn] at hll hlc2 HA ⊢
  have HN := Lib.hid hn
  obtain rfl := hll
  clear hia hib hga hgb ela elb hn
  go_enter Try.func13, Try.ntmps13
  go_wp2_with fail
  go_loopg [5] la.length (fun g s5 wr => ∃ k : Nat, k ≤ la.length ∧ g = la.length - k ∧ s5 = .int .i64 (k : Int) ∧ Grow w wr)
  case atStart => exact ⟨0, Nat.zero_le _, rfl, rfl, Grow.refl _⟩
  case round =>
    obtain ⟨i, hk, rfl, rfl, hgr⟩ := hrel
    rcases Nat.lt_or_ge i la.length with hlt | hge
    · obtain ⟨hia, hib, hga, hgb, ela, elb⟩ := HA.out
      obtain ⟨b, off, rfl, hb, hc⟩ := hia.at_ (by omega)
      obtain ⟨b2, off2, rfl, hb2, hc2⟩ := hib.at_ (by omega)
      have hlt2 : i < lb.length := by have := HN.out; omega
      have X := hc i hlt
      have Y := hc2 i hlt2
      have gx := hga _ (List.getElem_mem hlt)
      have gy := hgb _ (List.getElem_mem hlt2)
      have ek : (la[i]'hlt).k = (lb[i]'hlt2).k := by
        have h1 : (la.map Pk.k)[i]? = (lb.map Pk.k)[i]? := by rw [ela, elb]
        rw [List.getElem?_map, List.getElem?_map, List.getElem?_eq_getElem hlt, List.getElem?_eq_getElem hlt2] at h1
        simpa using h1
      generalize la[i]'hlt = x at *
      generalize lb[i]'hlt2 = y at *
      have hbr : b < wr.heap.size := Nat.lt_of_lt_of_le hb hgr.size
      have hbr2 : b2 < wr.heap.size := Nat.lt_of_lt_of_le hb2 hgr.size
      obtain ⟨x0, x1, x2, x3, x4, x5, x6, x7, x8, x9, x10⟩ := (X.grow hgr hb).gw hbr
      obtain ⟨y0, y1, y2, y3, y4, y5, y6, y7, y8, y9, y10⟩ := (Y.grow hgr hb2).gw hbr2
      have cS : ∀ p : Gw wr, Calls Try.prog 16 #[ipV x.k x.vo x.vd, ipV y.k y.vo y.vd] p.v fun e w' => e = .returned (.bool true) ∧ ∃ q : Gw wr, w' = q.v := fun p =>
        Calls.gw (RSame_yes _ _ x.k y.k p.v (gx.grow (hgr.trans p.h)).ip (gy.grow (hgr.trans p.h)).ip ek)
      have A1 := Lib.hid hgr
      have hkI : (i : Int) < (la.length : Int) := by omega
      clear hc hc2 hgr hb hb2 X Y gx gy ek hia hib hga hgb ela elb hbr hbr2
      go_wp2_with fail
      refine wp_region_gw (by kernel_rfl) (by kernel_rfl) ?_
      repeat (quiet_step ((go_at_call 16; exact cS _)))
      refine wpQuiet_nil ?_
      intro _ hw'
      obtain ⟨⟨wq, hgq⟩, hw2⟩ := hw'
      subst hw2
      clear x0 x1 x2 x3 x4 x5 x6 x7 x8 x9 x10 y0 y1 y2 y3 y4 y5 y6 y7 y8 y9 y10 cS
      go_wp2_with fail
      go_roundg (la.length - (i + 1))
      case measure => omega
      case rel => exact ⟨i + 1, by omega, rfl, by go_num, A1.out.trans hgq⟩
    · have A1 := Lib.hid hgr
      have hkk : i = la.length := by omega
      subst hkk
      clear hgr
      go_wp2_with fail
      go_ret
      exact ⟨rfl, A1.out⟩

theorem RSplit_low (v : Value) (k : Pkt) (mtu : Int) (w : World) (h : Ip w v k) (hs : k.Small) (hm1 : -9223372036854775808 ≤ mtu) (hm2 : mtu ≤ 9223372036854775807) :
    Calls Try.prog 22 #[v, .int .i64 mtu] w (RsplitLow v w k mtu) := by
  by_cases h1 : fwhy k mtu ≠ 0
  · exact RSplit_early v k mtu w h hs hm1 hm2 (.inl h1)
  by_cases h2 : (k.len : Int) ≤ mtu
  · exact RSplit_early v k mtu w h hs hm1 hm2 (.inr h2)
  have h0 : fwhy k mtu = 0 := by simpa using h1
  obtain ⟨_, h3, _⟩ := fwhy_ok h0
  obtain ⟨m, rfl⟩ := Int.eq_ofNat_of_zero_le (show 0 ≤ mtu by omega)
  exact RSplit_late v k m w h hs h0 (by omega)

theorem RSplit_any (v : Value) (k : Pkt) (mtu : Int) (w : World) (h : Ip w v k) (hs : k.Small) (hm1 : -9223372036854775808 ≤ mtu) (hm2 : mtu ≤ 9223372036854775807) :
    Calls Try.prog 22 #[v, .int .i64 mtu] w (Rsplitted w k mtu) := by
  refine (RSplit_low v k mtu w h hs hm1 hm2).mono ?_
  rintro e w' ⟨u, l, rfl, h1, h2, h3, h4⟩
  exact ⟨u, rfl, ⟨l, h1, h2, fun q hq => (h3 q hq).1⟩, h4⟩

theorem Psl.of_mine {w : World} {base : Nat} {v : Value} {l : List Pk} {ks : List Pkt} (h1 : l.map Pk.k = ks) (h2 : Iprow w base v l) (h3 : ∀ q ∈ l, q.Mine w base) : Psl w v ks :=
  ⟨l, h1, h2.ips, fun q hq => (h3 q hq).good⟩

end Go.Proofs.Ytfjmcfkpbacicaa
/- What the first loop of Twice keeps: pieces of pieces in one row. -/
namespace Go.Proofs.Ytfjmcfkpbacicaa
set_option linter.unusedVariables false
set_option linter.unusedSimpArgs false
open Go.ChangeShapes Go.WideShapes Go.ChangeAt Go.RowKit

theorem Byt.other {w w' : World} {v : Value} {l : List UInt8} (h : Byt w v l) (hs : w.heap.size ≤ w'.heap.size) (hb : 0 < l.length → ∀ b, v.ownBlock = some b → b < w.heap.size → w'.heap[b]? = w.heap[b]?) : Byt w' v l := by
  rcases Nat.eq_zero_or_pos l.length with h0 | h0
  · have := List.eq_nil_of_length_eq_zero h0
    subst this
    exact h.anywhere
  · obtain ⟨A, c, rfl, h1, h2, h3⟩ := h
    refine ⟨A, c, rfl, h1, h2, fun hp => ?_⟩
    obtain ⟨b, off, rfl, hlt, hc⟩ := h3 hp
    exact ⟨b, off, rfl, Nat.lt_of_lt_of_le hlt hs, fun j hj => (World.cell?_of_block (w := w) (a := ⟨b, off + j, none⟩) (hb h0 b rfl hlt)).trans (hc j hj)⟩
theorem Byt.lt {w : World} {v : Value} {l : List UInt8} (h : Byt w v l) (hp : 0 < l.length) {b : Nat} (e : v.ownBlock = some b) : b < w.heap.size := by
  obtain ⟨A, c, rfl, h1, h2, h3⟩ := h
  obtain ⟨b', off, rfl, hlt, _⟩ := h3 (by rw [List.length_map]; exact hp)
  cases e
  exact hlt
/-- A block of one of its slices. -/
def Pk.Has (q : Pk) (b : Nat) : Prop := (0 < q.k.opts.length ∧ q.vo.ownBlock = some b) ∨ (0 < q.k.data.length ∧ q.vd.ownBlock = some b)
theorem Pk.Good.lt {w : World} {q : Pk} (h : q.Good w) {b : Nat} (hb : q.Has b) : b < w.heap.size := by
  rcases hb with ⟨h1, h2⟩ | ⟨h1, h2⟩
  · exact h.1.lt h1 h2
  · exact h.2.1.lt h1 h2
theorem Pk.Good.other {w w' : World} {q : Pk} (h : q.Good w) (hs : w.heap.size ≤ w'.heap.size) (hb : ∀ b, q.Has b → b < w.heap.size → w'.heap[b]? = w.heap[b]?) : q.Good w' :=
  ⟨h.1.other hs fun hp b e => hb b (.inl ⟨hp, e⟩), h.2.1.other hs fun hp b e => hb b (.inr ⟨hp, e⟩), h.2.2⟩
theorem ipHas_has {q : Pk} {b : Nat} (h : ipHas (ipV q.k q.vo q.vd) q.k b) : q.Has b := by
  obtain ⟨vo, vd, e, h⟩ := h
  simp only [Value.agg.injEq, Array.mk.injEq, List.cons.injEq, and_true, true_and] at e
  obtain ⟨e1, e2⟩ := e
  rw [← e1, ← e2] at h
  exact h
structure TwA (W3 : World) (L : List Pkt) (small : Int) (i : Nat) (s : Value) (acc : List Pk) (wr : World) : Prop where
  row : Iprow wr W3.heap.size s acc
  ks : acc.map Pk.k = (L.take i).flatMap fun q => flist q small
  good : ∀ q ∈ acc, q.Good wr
  sep : ∀ q ∈ acc, ∀ b, q.Has b → s.ownBlock ≠ some b
  code : ∀ q ∈ L.take i, fcodeS q small = 0
  grow : Grow W3 wr
theorem TwA.start (W3 : World) (L : List Pkt) (small : Int) : TwA W3 L small 0 (.slice none 0 0) [] W3 :=
  ⟨Iprow.nil _ _, by simp, fun q hq => (by cases hq), fun q hq => (by cases hq), fun q hq => (by simp at hq), Grow.refl _⟩
theorem TwA.next {W3 wr wm w' : World} {L : List Pkt} {small : Int} {i : Nat} {s s' : Value} {acc l : List Pk} (h : TwA W3 L small i s acc wr) (hi : i < L.length) {q : Pk} (hq : L[i]? = some q.k) (hqg : q.Good W3)
    (hc : fcodeS q.k small = 0) (hl : l.map Pk.k = flist q.k small) (hgl : ∀ x ∈ l, x.Good wm ∧ x.From wr.heap.size (ipV q.k q.vo q.vd) q.k) (hg : Grow wr wm) (hrow : Iprow w' W3.heap.size s' (acc ++ l)) (hgb : wm.grownBy w' s.ownBlock) (hb : s'.ownBlock = s.ownBlock ∨ s'.ownBlock = some wm.heap.size) :
    TwA W3 L small (i + 1) s' (acc ++ l) w' := by
  have hrl : ∀ g, s.ownBlock = some g → W3.heap.size ≤ g ∧ g < wr.heap.size := fun g e => h.row.lt g e
  have hsz := hg.size
  have htk : L.take (i + 1) = L.take i ++ [q.k] := by
    obtain ⟨h1, h2⟩ := List.getElem?_eq_some_iff.1 hq
    rw [List.take_succ_eq_append_getElem h1, h2]
  have hold : ∀ b, b < wm.heap.size → s.ownBlock ≠ some b → w'.heap[b]? = wm.heap[b]? := fun b h1 h2 => hgb.block b h1 (fun e => h2 e.symm)
  refine ⟨hrow, ?_, fun x hx => ?_, fun x hx b hb2 e => ?_, fun x hx => ?_, ?_⟩
  · rw [htk, List.map_append, List.flatMap_append, h.ks, hl]
    simp
  · rcases List.mem_append.1 hx with h1 | h1
    · exact ((h.good x h1).grow hg).other hgb.size fun b hb hlt => hold b hlt (h.sep x h1 b hb)
    · refine (hgl x h1).1.other hgb.size fun b hb hlt => hold b hlt fun e => ?_
      obtain ⟨e1, e2⟩ := hrl b e
      rcases (hgl x h1).2 b hb with h2 | h2
      · have := hqg.lt (ipHas_has h2)
        omega
      · omega
  · rcases List.mem_append.1 hx with h1 | h1
    · have hlt := (h.good x h1).lt hb2
      rcases hb with h2 | h2
      · exact h.sep x h1 b hb2 (h2.symm.trans e)
      · have := Option.some.inj (h2.symm.trans e)
        omega
    · have hlt := (hgl x h1).1.lt hb2
      rcases hb with h2 | h2
      · obtain ⟨e1, e2⟩ := hrl b (h2.symm.trans e)
        rcases (hgl x h1).2 b hb2 with h3 | h3
        · have := hqg.lt (ipHas_has h3)
          omega
        · omega
      · have := Option.some.inj (h2.symm.trans e)
        omega
  · rw [htk] at hx
    rcases List.mem_append.1 hx with h1 | h1
    · exact h.code x h1
    · rw [List.mem_singleton.1 h1]
      exact hc
  · exact Grow.iprow (h.grow.trans hg) hgb (h.row.grow hg)
/-- What the second loop of Twice keeps. -/
structure TwB (wr : World) (tb : Nat) (k : Pkt) (M : List Pkt) (back : Bool) (i : Nat) (Z : List Wt) (wz : World) : Prop where
  tab : TabA wz wr.heap.size tb 1 100 Z
  st : i < M.length → TwS k M back i Z
  nil : i = M.length → Z = []
  grow : Grow wr wz
end Go.Proofs.Ytfjmcfkpbacicaa
/- ReasmPlays: what a round knows. -/
namespace Go.Proofs.Ytfjmcfkpbacicaa
set_option linter.unusedVariables false
set_option linter.unusedSimpArgs false
open Go.ChangeShapes Go.WideShapes Go.ChangeAt Go.RowKit

theorem rf_za (b : Nat) : ¬ Za b 78 := fun h => by rcases h with (h | h | h) | h | h <;> exact absurd h (by decide)
theorem tb_za (b : Nat) : ¬ Za b 32 := fun h => by rcases h with (h | h | h) | h | h <;> exact absurd h (by decide)
theorem ip_za (b : Nat) : ¬ Za b 38 := fun h => by rcases h with (h | h | h) | h | h <;> exact absurd h (by decide)
theorem TbBlk.only {base : Nat} {Z : Nat → TypeId → Prop} {w w' : World} {g : Nat} {most life : Int} {vL : Value} (h : TbBlk w g most life vL) (o : Only base Z w w') (hz : ¬ Z g 32) : TbBlk w' g most life vL := o.keep _ _ _ h rfl hz
/-- A box that was laid ahead of a call is behind it as it was. -/
theorem tb_old {w5 w6 : World} (h : Grow (w5.drew.alloc (.cells #[.int .i64 0, .int .i64 0, .slice none 0 0] 32)) w6) :
    w6.cell? ⟨w5.heap.size, 0, none⟩ = some (.int .i64 0) ∧ w6.cell? ⟨w5.heap.size, 1, none⟩ = some (.int .i64 0) ∧ w6.cell? ⟨w5.heap.size, 2, none⟩ = some (.slice none 0 0) ∧ w6.frozen? ⟨w5.heap.size, 0, none⟩ = false ∧ w6.frozen? ⟨w5.heap.size, 1, none⟩ = false ∧ w6.frozen? ⟨w5.heap.size, 2, none⟩ = false ∧ Grow w5 w6 := by
  have hb : TbBlk w6 w5.heap.size 0 0 (.slice none 0 0) := TbBlk.grow (heap_alloc_new w5.drew _) h
  exact ⟨hb.c0, hb.c1, hb.c2, hb.fz 0, hb.fz 1, hb.fz 2, ((Grow.drew _).trans (Grow.alloc _ _)).trans h⟩
/-- Both tables, the reference's in its box. -/
structure Pl (w : World) (tb rb : Nat) (most life : Int) (A : List Wt) (vL : Value) (wr : World) : Prop where
  tab : TabA wr w.heap.size tb most life A
  box : TbBlk wr rb most life vL
  rt : RTab wr w.heap.size (.agg #[.int .i64 most, .int .i64 life, vL]) most life A
  len : A.length ≤ 64
  ok : AOk A
  low : w.heap.size ≤ rb
  gr : Grow w wr
section
variable {w wr w' : World} {tb rb : Nat} {most life : Int} {A : List Wt} {vL : Value}
theorem Pl.grow (h : Pl w tb rb most life A vL wr) (g : Grow wr w') : Pl w tb rb most life A vL w' :=
  ⟨h.tab.grow g, h.box.grow g, h.rt.grow g h.gr.size, h.len, h.ok, h.low, h.gr.trans g⟩
theorem leftS_len (now : Int) (A : List Wt) : (leftS now A).length ≤ A.length := List.length_filter_le _ _
theorem leftS_ok {now : Int} {A : List Wt} (h : AOk A) : AOk (leftS now A) := fun t ht => h t (List.mem_filter.1 ht).1
end
/-- The reference's table alone, where the program's has gone on. -/
structure Pm (w : World) (tb rb : Nat) (most life : Int) (A A' : List Wt) (vL : Value) (wr : World) : Prop where
  tab : TabA wr w.heap.size tb most life A'
  box : TbBlk wr rb most life vL
  rt : RTab wr w.heap.size (.agg #[.int .i64 most, .int .i64 life, vL]) most life A
  len : A.length ≤ 64
  ok : AOk A
  low : w.heap.size ≤ rb
  gr : Grow w wr
section
variable {w wr w' : World} {tb rb : Nat} {most life : Int} {A A' : List Wt} {vL : Value}
theorem Pl.went (h : Pl w tb rb most life A vL wr) (ht : TabA w' w.heap.size tb most life A') (o : Only w.heap.size Za wr w') : Pm w tb rb most life A A' vL w' :=
  ⟨ht, h.box.only o (tb_za _), h.rt.only o za_byte bool_za rf_za, h.len, h.ok, h.low, Below.trans h.gr o.low⟩
theorem Pm.grow (h : Pm w tb rb most life A A' vL wr) (g : Grow wr w') : Pm w tb rb most life A A' vL w' :=
  ⟨h.tab.grow g, h.box.grow g, h.rt.grow g h.gr.size, h.len, h.ok, h.low, h.gr.trans g⟩
/-- The reference's table is written into its box. -/
theorem Pm.met {vL' : Value} (h : Pm w tb rb most life A A' vL wr) (hr : RTab wr w.heap.size (.agg #[.int .i64 most, .int .i64 life, vL']) most life A') (hl : A'.length ≤ 64) (hk : AOk A') (hb : TbBlk w' rb most life vL') (hbut : But rb wr w') (hg : Grow w w') : Pl w tb rb most life A' vL' w' := by
  have o := Only.but h.gr hg hbut h.low h.box
  exact ⟨h.tab.only o (fun b => by decide) (fun b => by decide) (fun b => by decide) (fun b => by decide) (fun b => by decide) (fun b => by decide) (fun b => by decide), hb, hr.only o (fun b => by decide) (fun b => by decide) (fun b => by decide), hl, hk, h.low, hg⟩
end
theorem Only.butAt {w0 w w' : World} {base g : Nat} {cs : Array Value} {T : TypeId} (g0 : Grow w0 w) (g1 : Grow w0 w') (hb : But g w w') (hg : base ≤ g) (ho : w.heap[g]? = some (.cells cs T (0, 0))) : Only base (fun b T' => b = g ∧ T' = T) w w' := by
  refine ⟨(Only.but g0 g1 hb hg ho).low, fun i o T' hi hT hz => ?_⟩
  by_cases e : i = g
  · subst e
    rw [ho] at hi
    cases hi
    cases hT
    exact absurd ⟨rfl, rfl⟩ hz
  · rw [hb.2 i e]
    exact hi
theorem Tab.besideO {w w' : World} {base tb mb g : Nat} {ov : Value} {most life : Int} {L : List Wp} (h : Tab w base tb mb ov most life L) (hn : NoG g L) (o : Only base (fun b T => b = g ∧ T = 38) w w') : Tab w' base tb mb ov most life L :=
  ⟨o.cells h.top (fun e => absurd e.2 (by decide)), h.low, h.lowM, h.map.of_heap fun es ck hh => o.keep _ _ _ hh rfl (fun e => absurd e.2 (by decide)), o.row h.ord (fun b _ e => absurd e.2 (by decide)), fun p hp => (h.pk p hp).only2 o (fun e => absurd e.2 (by decide)) (fun b _ e => absurd e.2 (by decide)) (fun b e => absurd e.2 (by decide)) (fun f hf e => hn p hp f hf e.1), h.blks, h.rblk, h.nms, h.few, Nat.le_trans h.sz o.size, h.rng⟩
/-- A box that holds nothing yet is no packet of the table. -/
theorem TabA.besideZ {w w' : World} {base tb g : Nat} {most life : Int} {A : List Wt} (h : TabA w base tb most life A) (hb : Blk w g zeroPk (.slice none 0 0) (.slice none 0 0)) (o : Only base (fun b T => b = g ∧ T = 38) w w') : TabA w' base tb most life A := by
  obtain ⟨mb, ov, L, hT, hA, hk⟩ := h
  refine ⟨mb, ov, L, hT.besideO (fun p hp f hf e => ?_) o, hA, hk⟩
  obtain ⟨_, h2, _, h4, _⟩ := (hT.pk p hp).first f hf
  subst e
  have hne := (hk (absW p) (by rw [← hA]; exact List.mem_map_of_mem hp)).1.dat f.q.k (by show p.fk = _; unfold Wp.fk; rw [hf]; rfl)
  have h3 : Blk w f.blk f.q.k f.q.vo f.q.vd := h2
  unfold Blk at hb h3
  rw [hb] at h3
  simp only [Option.some.injEq, Obj.cells.injEq, Array.mk.injEq, List.cons.injEq, and_true, true_and] at h3
  have hv : f.q.vd = .slice none 0 0 := h3.2.2.2.2.2.2.2.2.2.2.symm
  rw [hv] at h4
  have h5 := h4.1
  rcases h4.2 with ⟨_, e⟩ | ⟨b, cap, cur, e, _⟩
  · exact hne (List.eq_nil_of_length_eq_zero e)
  · cases e
theorem IpF.only {base : Nat} {Z : Nat → TypeId → Prop} {w w' : World} {vo vd : Value} {k : Pkt} (h : IpF base w vo vd k) (o : Only base Z w w') (hz : ∀ b, ¬ Z b 5) : IpF base w' vo vd k := ⟨h.1.only o hz, h.2.1.only o hz, h.2.2⟩
theorem IpF.grow {base : Nat} {w w' : World} {vo vd : Value} {k : Pkt} (h : IpF base w vo vd k) (g : Grow w w') (hb : base ≤ w.heap.size) : IpF base w' vo vd k := ⟨h.1.grow g hb, h.2.1.grow g hb, h.2.2⟩
theorem PkAt.cells {w : World} {b o : Nat} {q : Pk} (h : PkAt w b o q) : ∀ j u, (cellsP q.k q.vo q.vd)[j]? = some u → w.cell? ⟨b, o + j, none⟩ = some u := by
  obtain ⟨h0, h1, h2, h3, h4, h5, h6, h7, h8, h9, h10⟩ := h
  intro j u hu
  match j, hu with
  | 0, hu => cases hu; exact h0
  | 1, hu => cases hu; exact h1
  | 2, hu => cases hu; exact h2
  | 3, hu => cases hu; exact h3
  | 4, hu => cases hu; exact h4
  | 5, hu => cases hu; exact h5
  | 6, hu => cases hu; exact h6
  | 7, hu => cases hu; exact h7
  | 8, hu => cases hu; exact h8
  | 9, hu => cases hu; exact h9
  | 10, hu => cases hu; exact h10
  | (n + 11), hu => simp [cellsP] at hu
/-- A block without bytes. -/
def NoByte (w : World) (n : Nat) : Prop := ∀ o x, w.cell? ⟨n, o, none⟩ ≠ some (.int .u8 x)
theorem TbBlk.noByte {w : World} {n : Nat} {most life : Int} {A : Option Addr} {m c : Nat} (h : TbBlk w n most life (.slice A m c)) : NoByte w n := by
  intro o x e
  rw [h.cell o] at e
  match o, e with
  | 0, e => cases e
  | 1, e => cases e
  | 2, e => cases e
  | (k + 3), e => simp at e
theorem Byt.butN {w w' : World} {v : Value} {l : List UInt8} {n : Nat} (h : Byt w v l) (hb : But n w w') (hn : NoByte w n) : Byt w' v l := by
  refine h.other (by rw [hb.1]; exact Nat.le_refl _) fun hp b e hlt => hb.2 b fun hbn => ?_
  subst hbn
  obtain ⟨A, c, rfl, h1, h2, h3⟩ := h
  obtain ⟨b', off, rfl, _, hc⟩ := h3 (by rw [List.length_map]; exact hp)
  cases e
  have h0 := hc 0 (by rw [List.length_map]; exact hp)
  simp only [List.getElem_map] at h0
  exact hn _ _ h0
theorem Psl.butN {w w' : World} {v : Value} {ks : List Pkt} {n : Nat} (h : Psl w v ks) (hb : But n w w') (hn : NoByte w n) : Psl w' v ks := by
  obtain ⟨l, h1, h2, h3⟩ := h
  refine ⟨l, h1, ?_, fun q hq => ⟨(h3 q hq).1.butN hb hn, (h3 q hq).2.1.butN hb hn, (h3 q hq).2.2⟩⟩
  obtain ⟨A, c, rfl, q1, q2, q3⟩ := h2
  refine ⟨A, c, rfl, q1, q2, fun hp => ?_⟩
  obtain ⟨b, off, rfl, hlt, hc⟩ := q3 hp
  refine ⟨b, off, rfl, by rw [hb.1]; exact hlt, fun j u hj => ?_⟩
  have hne : b ≠ n := by
    rintro rfl
    have h0 := (pkAt_of hc 0 hp).1
    exact hn _ _ h0
  exact (World.cell?_of_block (w := w) (a := ⟨b, off + j, none⟩) (hb.2 b hne)).trans (hc j u hj)
end Go.Proofs.Ytfjmcfkpbacicaa
