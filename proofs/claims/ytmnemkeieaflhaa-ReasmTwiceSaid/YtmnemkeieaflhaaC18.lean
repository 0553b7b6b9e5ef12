/- Contract: the reference's Split. -/
import Derived.Test.YtmnemkeieaflhaaC15
import Derived.Test.YtmnemkeieaflhaaC17
import Derived.Test.YtmnemkeieaflhaaC04
namespace Go.Proofs.Ytmnemkeieaflhaa
set_option linter.unusedVariables false
set_option linter.unusedSimpArgs false
open Go.ChangeShapes Go.WideShapes Go.ChangeAt Go.RowKit

set_option maxRecDepth 10000 in
set_option maxHeartbeats 8000000 in
theorem RSplit_late (v : Value) (k : Pkt) (m : Nat) (w : World) (h : Ip w v k) (hs : k.Small) (hw0 : fwhy k (m : Int) = 0) (hml : m < k.len) :
    Calls Try.prog 22 #[v, .int .i64 (m : Int)] w (RsplitLow v w k (m : Int)) := by
  obtain ⟨A, ca, B, d, rfl, ho, hd, hk⟩ := h.form
  have hsm := hs
  obtain ⟨hs1, hs2⟩ := hs
  obtain ⟨hck, hmt1, hmt2⟩ := fwhy_ok hw0
  obtain ⟨ck0, ck1, ck2, ck3⟩ := Pkt.check_ok hck
  have hm68 : 68 ≤ m := by omega
  have hm65 : m ≤ 65535 := by omega
  have hkd : k.data.length ≤ 65535 := by unfold Pkt.len at ck3; omega
  have hk0 := len_nil hm68 ck2 hml
  have hwh : ¬ (k.len : Int) ≤ (m : Int) := by omega
  have hw1 : k.whole = false ∧ fcode k.opts = 0 := by
    have h1 := hw0
    unfold fwhy at h1
    rw [if_neg (by omega), if_neg (by omega), if_neg hwh] at h1
    by_cases h4 : k.whole = true
    · rw [if_pos h4] at h1; cases h1
    · rw [if_neg h4] at h1; exact ⟨by simpa using h4, h1⟩
  have HR := Lib.hid (fun (h : fgo k (m : Int) = none) => fsplit_none hw0 h)
  have HS := Lib.hid (fun l (h : fgo k (m : Int) = some l) => fsplit_some hw0 h)
  obtain ⟨W1, hW1⟩ : ∃ W1, W1 = w.alloc (.cells #[.int .u8 (k.tos : Int), .int .u16 (k.ident : Int), .bool k.whole, .bool k.more, .int .i64 k.off, .int .u8 (k.ttl : Int), .int .u8 (k.proto : Int), .int .u32 (k.src : Int), .int .u32 (k.dst : Int), .slice A k.opts.length ca, .slice B k.data.length d] 38) := ⟨_, rfl⟩
  have hg1 : Grow w W1 := by rw [hW1]; exact Grow.alloc _ _
  have hB : Blk W1 w.heap.size k (.slice A k.opts.length ca) (.slice B k.data.length d) := by rw [hW1]; exact Blk.new _ _ _ _
  have hip : Ip W1 (ipV k (.slice A k.opts.length ca) (.slice B k.data.length d)) k := h.grow hg1
  have T := Lib.hid (And.intro hg1 (And.intro hB (And.intro (ho.grow hg1) (hd.grow hg1))))
  have cC := RCheck_ip _ k W1 hip hsm
  rw [hck] at cC
  have cL := fun w' (g : Grow W1 w') => RLen_any _ k w' (hip.grow g) hsm
  have cR := fun w' (g : Grow W1 w') => RCarried_own _ k.opts w' ((ho.grow hg1).grow g) hs1
  rw [hw1.2] at cR
  obtain ⟨c, hc⟩ : ∃ c, c = fcar k.opts := ⟨_, rfl⟩
  have hc40 : c.length ≤ 40 := by rw [hc]; exact (fcar_length _).1
  have hgo : Hid (fgo k (m : Int) = fpieces c m (k.data.length + 1) (rk c k 0)) := by rw [rk_zero, hc]; rfl
  rw [← hc] at cR
  have H4 := Lib.hid hw1.1
  have HK := Lib.hid hk
  have hlenI : decide (k.len ≤ m) = false := decide_eq_false (by omega)
  have hlen : k.len ≤ 65535 := ck3
  obtain ⟨M20, hM20⟩ : ∃ M20, M20 = m - 20 := ⟨_, rfl⟩
  have eM20 : (m : Int) - 20 = (M20 : Int) := by omega
  have hll : k.len = 20 + k.opts.length + k.data.length := rfl
  have HLL := Lib.hid (And.intro hll hml)
  have hMM := Lib.hid hM20
  have hM20b : 48 ≤ M20 ∧ M20 ≤ 65515 := by omega
  obtain ⟨hM1, hM2⟩ := hM20b
  clear hw0 hck hmt1 hmt2 ck3 hwh hw1 hg1 hB hip ho hd h hk hc hll hml hM20
  go_enter Try.func22, Try.ntmps22
  go_wp2_with fail
  rw [← hW1]
  refine cC.mono ?_
  rintro e w2 ⟨rfl, hg2⟩
  clear hW1
  obtain ⟨b0, b1, b2, b3, b4, b5, b6, b7, b8, b9, b10⟩ := (T.out.2.1.grow hg2).boxd
  have C2 := cL w2 hg2
  clear cL cC
  go_wp2_with fail
  refine C2.mono ?_
  rintro e w3 ⟨rfl, hg3⟩
  clear b0 b1 b2 b3 b4 b5 b6 b7 b8 b9 b10 C2
  obtain ⟨b0, b1, b2, b3, b4, b5, b6, b7, b8, b9, b10⟩ := (T.out.2.1.grow (hg2.trans hg3)).boxd
  rw [H4.out] at b2
  have C3 := cR w3 (hg2.trans hg3)
  clear cR
  go_wp2_with fail
  refine C3.mono ?_
  rintro e W ⟨u, rfl, huo, hg4⟩
  have hu := huo.byt
  have hN3 : w.heap.size ≤ w3.heap.size := (T.out.1.trans (hg2.trans hg3)).size
  have KU := Lib.hid (fun b h => Nat.le_trans hN3 (huo.lt b h).1)
  clear huo hN3
  obtain ⟨Au, nu, cu, rfl, hnu⟩ := hu.form2
  have hnu40 : nu ≤ 40 := by have := hnu.out; omega
  have hG := (hg2.trans hg3).trans hg4
  have HW := Lib.hid (And.intro (T.out.1.trans hG) (And.intro hu (And.intro (T.out.2.2.1.grow hG) (T.out.2.2.2.grow hG))))
  have BP : Hid (∀ w', Grow W w' → Blk w' w.heap.size k (.slice A k.opts.length ca) (.slice B k.data.length d)) := fun w' g => T.out.2.1.grow (hG.trans g)
  clear b0 b1 b2 b3 b4 b5 b6 b7 b8 b9 b10 C3 hu hG hg2 hg3 hg4 T
  go_wp2_with fail
  go_loopg [9, 10] (k.data.length + 1) (fun g s9 s10 wr => ∃ (acc : List Pk) (p : Nat), s10 = .int .i64 (p : Int) ∧ Rsp (ipV k (.slice A k.opts.length ca) (.slice B k.data.length d)) w.heap.size W c m (fgo k (m : Int)) k s9 acc p g wr)
  case atStart =>
    refine ⟨[], 0, rfl, fun q hq => by simp at hq, Iprow.nil _ _, fun q hq => by simp at hq, Grow.refl _, .inl ⟨by omega, rfl, by simp, by omega, ?_⟩⟩
    rw [hgo.out]
    cases fpieces c m (k.data.length + 1) (rk c k 0) <;> simp
  case round =>
    obtain ⟨acc, p, rfl, low, row, good, grow, hgoes⟩ := hrel
    have KL := Lib.hid low
    clear low
    clear hgo
    have p10 := (BP.out wr grow).c10
    rcases hgoes with ⟨hlt, h8, hacc, hf, goes⟩ | ⟨rfl, goes⟩
    · obtain ⟨f, rfl⟩ : ∃ j, gk = j + 1 := ⟨gk - 1, by omega⟩
      rw [fpieces] at goes
      obtain ⟨hdc, hdm⟩ := HW.out.2.2.2.len.2
      obtain ⟨b, off, rfl, hbl, _⟩ := HW.out.2.2.2.at_ (by omega)
      obtain ⟨b0, b1, b2, b3, b4, b5, b6, b7, b8, b9, b10⟩ := (BP.out wr grow).boxd
      have K := Lib.hid (And.intro row (And.intro good grow))
      have hltI : (p : Int) < (k.data.length : Int) := by omega
      clear row good grow hbl b10
      by_cases hp0 : p = 0
      · subst hp0
        rw [rk_zero] at goes
        have hfit : ¬ k.len ≤ m := by have := HLL.out.2; omega
        rw [if_neg (by omega), if_neg hfit] at goes
        obtain ⟨RM, hRM⟩ : ∃ RM, RM = M20 - k.opts.length := ⟨_, rfl⟩
        have eRM : (M20 : Int) - (k.opts.length : Int) = (RM : Int) := by omega
        obtain ⟨Q1, hQ1⟩ : ∃ Q1, Q1 = RM / 8 := ⟨_, rfl⟩
        have eQ1 : (RM : Int) / 8 = (Q1 : Int) := by omega
        obtain ⟨R, hR⟩ : ∃ R, R = Q1 * 8 := ⟨_, rfl⟩
        have eR : (Q1 : Int) * 8 = (R : Int) := by omega
        have hRf : R = froom m k := by rw [hR, hQ1, hRM, hMM.out]; rfl
        have hrb := froom_bounds hm68 ck2 (show m < k.len by omega)
        rw [← hRf] at hrb
        have dfit : decide (k.data.length ≤ RM) = false := decide_eq_false (by have := HLL.out.1; have := hMM.out; omega)
        have hRM2 : RM ≤ 65515 := by omega
        have hRd : R ≤ d := by omega
        have hR65 : R ≤ 65535 := by omega
        have hfr := HW.out.2.2.2.front (show R ≤ k.data.length by omega)
        have EK : Hid (ffirst m k = { k with more := true, data := k.data.take R } ∧ frest c m k = rk c k (0 + R)) := by
          refine ⟨by unfold ffirst; rw [← hRf], ?_⟩
          have := rk_next c k m 0 R (by rw [rk_zero]; exact hRf) rfl hrb.2.2.1 (by omega)
          rwa [rk_zero] at this
        have NEXT : Hid (∀ s' w', Iprow w' W.heap.size s' (acc ++ [⟨{ k with more := true, data := k.data.take R }, (.slice A k.opts.length ca), (.slice (some ⟨b, off, none⟩) R d)⟩]) → Grow W w' → Rsp (ipV k (.slice A k.opts.length ca) (.slice (some ⟨b, off, none⟩) k.data.length d)) w.heap.size W c m (fgo k (m : Int)) k s' (acc ++ [⟨{ k with more := true, data := k.data.take R }, (.slice A k.opts.length ca), (.slice (some ⟨b, off, none⟩) R d)⟩]) R f w') := by
          intro s' w' hrow hgrow
          refine ⟨Rsp.lmore KL.out (fun b h => .inl ⟨_, _, rfl, h.imp (fun h => h) (fun h => ⟨by have := h.1; simp only [List.length_take] at this; omega, h.2⟩)⟩), hrow, Rsp.more K.out.2.1 ⟨HW.out.2.2.1, hfr, ⟨HK.out.tos, HK.out.ident, HK.out.off1, HK.out.off2, HK.out.ttl, HK.out.proto, HK.out.src, HK.out.dst⟩⟩, hgrow, .inl ⟨by omega, hrb.2.2.1, by simp; omega, by omega, ?_⟩⟩
          rw [goes, EK.out.1, EK.out.2, Nat.zero_add]
          cases fpieces c m f (rk c k R) <;> simp
        clear goes hRf hrb hRM hQ1 hR hfr
        go_wp2_with (first | (at_builtin; refine wpList_app1 wD rfl (.tmp 98) (.tmp 100) rfl W.heap.size u9 acc _ ⟨{ k with more := true, data := k.data.take R }, (.slice A k.opts.length ca), (.slice (some ⟨b, off, none⟩) R d)⟩ rfl (by rfl) (by rfl) ⟨rfl, rfl⟩ (K.out.1.grow FD.out.2) (by omega) (by have := (K.out.2.2.trans FD.out.2).size; omega) ?_; intro v9 w9 ho9 hg9; have H9 := Lib.hid (And.intro ho9 (Rsp.grown K.out.1 K.out.2.2 FD.out.2 hg9)); clear ho9 hg9) | (show wpList _ _ _ (⟨none, .store 4 (.tmp 94) (.const (.bool true)), _, _, _, _⟩ :: _) _ _; refine wpList_store_fld wr wC rfl _ _ _ rfl rfl wr.heap.size 3 (.bool true) rfl rfl { k with data := k.data.take R } { k with more := true, data := k.data.take R } (.slice A k.opts.length ca) (.slice (some ⟨b, off, none⟩) R d) (.slice A k.opts.length ca) (.slice (some ⟨b, off, none⟩) R d) FC.out.1 (by kernel_rfl) rfl (by omega) rfl FC.out.2 (Nat.le_refl _) ?_; intro wD hN hbN gN; have FD := Lib.hid (And.intro hN gN); clear hN hbN gN p4 p10 x4 x9; have p4 := (BP.out wD (K.out.2.2.trans FD.out.2)).c4; have p10 := (BP.out wD (K.out.2.2.trans FD.out.2)).c10; obtain ⟨x0, x1, x2, x3, x4, x5, x6, x7, x8, x9, x10⟩ := FD.out.1.boxd) | (show wpList _ _ _ (⟨none, .store 36 (.tmp 93) (.tmp 92), _, _, _, _⟩ :: _) _ _; refine wpList_store_fld wr wB rfl _ _ _ rfl rfl wr.heap.size 10 (.slice (some ⟨b, off, none⟩) R d) rfl rfl k { k with data := k.data.take R } (.slice A k.opts.length ca) (.slice (some ⟨b, off, none⟩) k.data.length d) (.slice A k.opts.length ca) (.slice (some ⟨b, off, none⟩) R d) FB.out.1 (by kernel_rfl) rfl (by omega) rfl FB.out.2 (Nat.le_refl _) ?_; intro wC hN hbN gN; have FC := Lib.hid (And.intro hN gN); clear hN hbN gN p4 p10 x4 x9; have p4 := (BP.out wC (K.out.2.2.trans FC.out.2)).c4; have p10 := (BP.out wC (K.out.2.2.trans FC.out.2)).c10; have x4 := FC.out.1.c4; have x9 := FC.out.1.c9) | (show wpList _ _ _ (⟨none, .store 3 (.tmp 68) (.tmp 67), _, _, _, _⟩ :: _) _ _; refine wpList_store_fld wr wA rfl _ _ _ rfl rfl wr.heap.size 4 (.int .i64 k.off) rfl rfl k k (.slice A k.opts.length ca) (.slice (some ⟨b, off, none⟩) k.data.length d) (.slice A k.opts.length ca) (.slice (some ⟨b, off, none⟩) k.data.length d) FA.out.1 (by kernel_rfl) rfl (by omega) rfl FA.out.2 (Nat.le_refl _) ?_; intro wB hN hbN gN; have FB := Lib.hid (And.intro hN gN); clear hN hbN gN p4 p10 x4 x9; have p4 := (BP.out wB (K.out.2.2.trans FB.out.2)).c4; have p10 := (BP.out wB (K.out.2.2.trans FB.out.2)).c10; have x4 := FB.out.1.c4; have x9 := FB.out.1.c9) | (show wpList _ _ _ (⟨none, .store 38 (.tmp 11) (.tmp 47), _, _, _, _⟩ :: _) _ _; refine wpList_store_ip wr _ rfl _ _ rfl rfl wr.heap.size rfl k zeroPk (.slice A k.opts.length ca) (.slice (some ⟨b, off, none⟩) k.data.length d) (.slice none 0 0) (.slice none 0 0) rfl rfl rfl (Blk.new wr zeroPk (.slice none 0 0) (.slice none 0 0)) (Grow.alloc wr _) (Nat.le_refl _) ?_; intro wA hA hbA gA; have FA := Lib.hid (And.intro hA gA); clear hA hbA gA p10 b0 b1 b2 b3 b4 b5 b6 b7 b8 b9; have p4 := (BP.out wA (K.out.2.2.trans FA.out.2)).c4; have p10 := (BP.out wA (K.out.2.2.trans FA.out.2)).c10; have x4 := FA.out.1.c4; have x9 := FA.out.1.c9))
        go_roundg f
        case measure => omega
        case rel => exact ⟨_, R, by go_num, NEXT.out _ _ H9.out.1 H9.out.2⟩
      have hpos : 0 < p := by omega
      rw [rk_pos c k hpos] at goes
      obtain ⟨Q0, hQ0⟩ : ∃ Q0, Q0 = p / 8 := ⟨_, rfl⟩
      have eQ0 : (p : Int) / 8 = (Q0 : Int) := by omega
      obtain ⟨V, hV⟩ : ∃ V, V = k.off + (Q0 : Int) := ⟨_, rfl⟩
      have eV : k.off + (Q0 : Int) = V := hV.symm
      have hVb : 0 ≤ V ∧ V ≤ 100000 := by omega
      obtain ⟨hV1, hV2⟩ := hVb
      rw [← hQ0, eV] at goes
      simp only [] at goes
      by_cases hoff : 8191 < V
      · rw [if_pos hoff] at goes
        have E := Lib.hid (HR.out goes)
        obtain ⟨RM, hRM⟩ : ∃ RM, RM = M20 - nu := ⟨_, rfl⟩
        have eRM : (M20 : Int) - (nu : Int) = (RM : Int) := by omega
        obtain ⟨LF, hLF⟩ : ∃ LF, LF = k.data.length - p := ⟨_, rfl⟩
        have eLF : (k.data.length : Int) - (p : Int) = (LF : Int) := by omega
        have hRM2 : RM ≤ 65515 := by omega
        have hLF2 : LF ≤ 65535 := by omega
        clear goes hRM hLF hQ0 hV
        go_wp2_with (first | (show wpList _ _ _ (⟨none, .store 3 (.tmp 68) (.tmp 67), _, _, _, _⟩ :: _) _ _; refine wpList_store_fld wr wB rfl _ _ _ rfl rfl wr.heap.size 4 (.int .i64 V) rfl rfl { k with opts := c } { k with opts := c, off := V } (.slice Au nu cu) (.slice (some ⟨b, off, none⟩) k.data.length d) (.slice Au nu cu) (.slice (some ⟨b, off, none⟩) k.data.length d) FB.out.1 (by kernel_rfl) rfl (by omega) rfl FB.out.2 (Nat.le_refl _) ?_; intro wC hN hbN gN; have FC := Lib.hid (And.intro hN gN); clear hN hbN gN p4 p10 x4 x9; have p4 := (BP.out wC (K.out.2.2.trans FC.out.2)).c4; have p10 := (BP.out wC (K.out.2.2.trans FC.out.2)).c10; have x4 := FC.out.1.c4; have x9 := FC.out.1.c9) | (show wpList _ _ _ (⟨none, .store 36 (.tmp 51) (.tmp 50), _, _, _, _⟩ :: _) _ _; refine wpList_store_fld wr wA rfl _ _ _ rfl rfl wr.heap.size 9 (.slice Au nu cu) rfl rfl k { k with opts := c } (.slice A k.opts.length ca) (.slice (some ⟨b, off, none⟩) k.data.length d) (.slice Au nu cu) (.slice (some ⟨b, off, none⟩) k.data.length d) FA.out.1 (by kernel_rfl) rfl (by omega) rfl FA.out.2 (Nat.le_refl _) ?_; intro wB hN hbN gN; have FB := Lib.hid (And.intro hN gN); clear hN hbN gN p4 p10 x4 x9; have p4 := (BP.out wB (K.out.2.2.trans FB.out.2)).c4; have p10 := (BP.out wB (K.out.2.2.trans FB.out.2)).c10; have x4 := FB.out.1.c4; have x9 := FB.out.1.c9) | (show wpList _ _ _ (⟨none, .store 38 (.tmp 11) (.tmp 47), _, _, _, _⟩ :: _) _ _; refine wpList_store_ip wr _ rfl _ _ rfl rfl wr.heap.size rfl k zeroPk (.slice A k.opts.length ca) (.slice (some ⟨b, off, none⟩) k.data.length d) (.slice none 0 0) (.slice none 0 0) rfl rfl rfl (Blk.new wr zeroPk (.slice none 0 0) (.slice none 0 0)) (Grow.alloc wr _) (Nat.le_refl _) ?_; intro wA hA hbA gA; have FA := Lib.hid (And.intro hA gA); clear hA hbA gA p10 b0 b1 b2 b3 b4 b5 b6 b7 b8 b9; have p4 := (BP.out wA (K.out.2.2.trans FA.out.2)).c4; have p10 := (BP.out wA (K.out.2.2.trans FA.out.2)).c10; have x4 := FA.out.1.c4; have x9 := FA.out.1.c9))
        go_ret2
        exact RsplitLow.fail E.out.1 E.out.2 (HW.out.1.trans (K.out.2.2.trans FC.out.2))
      rw [if_neg hoff] at goes
      obtain ⟨RM, hRM⟩ : ∃ RM, RM = M20 - nu := ⟨_, rfl⟩
      have eRM : (M20 : Int) - (nu : Int) = (RM : Int) := by omega
      obtain ⟨LF, hLF⟩ : ∃ LF, LF = k.data.length - p := ⟨_, rfl⟩
      have eLF : (k.data.length : Int) - (p : Int) = (LF : Int) := by omega
      have hRM2 : RM ≤ 65515 := by omega
      have hLF2 : LF ≤ 65535 := by omega
      have hlenR : Pkt.len { k with opts := c, data := k.data.drop p, off := V } = 20 + nu + LF := by unfold Pkt.len; rw [hLF, hnu.out]; simp
      have hdp : ¬ d = p := by omega
      have hpd : p ≤ d := by omega
      by_cases hfit : LF ≤ RM
      · rw [hlenR, if_pos (by have := hMM.out; omega)] at goes
        have hby := (leftOn HW.out.2.2.2 (show p ≤ k.data.length by omega)).2 hdp
        rw [List.length_drop] at hby
        have NEXT : Hid (∀ s' w', Iprow w' W.heap.size s' (acc ++ [⟨{ k with opts := c, data := k.data.drop p, off := V }, (.slice Au nu cu), (.slice (some ⟨b, off + p, none⟩) (k.data.length - p) (d - p))⟩]) → Grow W w' → Rsp (ipV k (.slice A k.opts.length ca) (.slice (some ⟨b, off, none⟩) k.data.length d)) w.heap.size W c m (fgo k (m : Int)) k s' (acc ++ [⟨{ k with opts := c, data := k.data.drop p, off := V }, (.slice Au nu cu), (.slice (some ⟨b, off + p, none⟩) (k.data.length - p) (d - p))⟩]) k.data.length f w') := by
          intro s' w' hrow hgrow
          refine ⟨Rsp.lmore KL.out (fun b h => h.elim (fun h => .inr (KU.out b h.2)) (fun h => .inl ⟨_, _, rfl, .inr ⟨by have := h.1; simp only [List.length_take, List.length_drop] at this; omega, h.2⟩⟩)), hrow, Rsp.more K.out.2.1 ⟨HW.out.2.1, hby, ⟨HK.out.tos, HK.out.ident, by show _ ≤ V; omega, by show V ≤ _; omega, HK.out.ttl, HK.out.proto, HK.out.src, HK.out.dst⟩⟩, hgrow, .inr ⟨rfl, ?_⟩⟩
          rw [goes]
          simp
        clear goes hRM hLF hQ0 hV hlenR hby
        go_wp2_with (first | (at_builtin; refine wpList_app1 wD rfl (.tmp 98) (.tmp 100) rfl W.heap.size u9 acc _ ⟨{ k with opts := c, data := k.data.drop p, off := V }, (.slice Au nu cu), (.slice (some ⟨b, off + p, none⟩) (k.data.length - p) (d - p))⟩ rfl (by rfl) (by rfl) ⟨rfl, rfl⟩ (K.out.1.grow FD.out.2) (by omega) (by have := (K.out.2.2.trans FD.out.2).size; omega) ?_; intro v9 w9 ho9 hg9; have H9 := Lib.hid (And.intro ho9 (Rsp.grown K.out.1 K.out.2.2 FD.out.2 hg9)); clear ho9 hg9) | (show wpList _ _ _ (⟨none, .store 36 (.tmp 79) (.tmp 78), _, _, _, _⟩ :: _) _ _; refine wpList_store_fld wr wC rfl _ _ _ rfl rfl wr.heap.size 10 (.slice (some ⟨b, off + p, none⟩) (k.data.length - p) (d - p)) rfl rfl { k with opts := c, off := V } { k with opts := c, data := k.data.drop p, off := V } (.slice Au nu cu) (.slice (some ⟨b, off, none⟩) k.data.length d) (.slice Au nu cu) (.slice (some ⟨b, off + p, none⟩) (k.data.length - p) (d - p)) FC.out.1 (by kernel_rfl) rfl (by omega) rfl FC.out.2 (Nat.le_refl _) ?_; intro wD hN hbN gN; have FD := Lib.hid (And.intro hN gN); clear hN hbN gN p4 p10 x4 x9; have p4 := (BP.out wD (K.out.2.2.trans FD.out.2)).c4; have p10 := (BP.out wD (K.out.2.2.trans FD.out.2)).c10; obtain ⟨x0, x1, x2, x3, x4, x5, x6, x7, x8, x9, x10⟩ := FD.out.1.boxd) | (show wpList _ _ _ (⟨none, .store 3 (.tmp 68) (.tmp 67), _, _, _, _⟩ :: _) _ _; refine wpList_store_fld wr wB rfl _ _ _ rfl rfl wr.heap.size 4 (.int .i64 V) rfl rfl { k with opts := c } { k with opts := c, off := V } (.slice Au nu cu) (.slice (some ⟨b, off, none⟩) k.data.length d) (.slice Au nu cu) (.slice (some ⟨b, off, none⟩) k.data.length d) FB.out.1 (by kernel_rfl) rfl (by omega) rfl FB.out.2 (Nat.le_refl _) ?_; intro wC hN hbN gN; have FC := Lib.hid (And.intro hN gN); clear hN hbN gN p4 p10 x4 x9; have p4 := (BP.out wC (K.out.2.2.trans FC.out.2)).c4; have p10 := (BP.out wC (K.out.2.2.trans FC.out.2)).c10; have x4 := FC.out.1.c4; have x9 := FC.out.1.c9) | (show wpList _ _ _ (⟨none, .store 36 (.tmp 51) (.tmp 50), _, _, _, _⟩ :: _) _ _; refine wpList_store_fld wr wA rfl _ _ _ rfl rfl wr.heap.size 9 (.slice Au nu cu) rfl rfl k { k with opts := c } (.slice A k.opts.length ca) (.slice (some ⟨b, off, none⟩) k.data.length d) (.slice Au nu cu) (.slice (some ⟨b, off, none⟩) k.data.length d) FA.out.1 (by kernel_rfl) rfl (by omega) rfl FA.out.2 (Nat.le_refl _) ?_; intro wB hN hbN gN; have FB := Lib.hid (And.intro hN gN); clear hN hbN gN p4 p10 x4 x9; have p4 := (BP.out wB (K.out.2.2.trans FB.out.2)).c4; have p10 := (BP.out wB (K.out.2.2.trans FB.out.2)).c10; have x4 := FB.out.1.c4; have x9 := FB.out.1.c9) | (show wpList _ _ _ (⟨none, .store 38 (.tmp 11) (.tmp 47), _, _, _, _⟩ :: _) _ _; refine wpList_store_ip wr _ rfl _ _ rfl rfl wr.heap.size rfl k zeroPk (.slice A k.opts.length ca) (.slice (some ⟨b, off, none⟩) k.data.length d) (.slice none 0 0) (.slice none 0 0) rfl rfl rfl (Blk.new wr zeroPk (.slice none 0 0) (.slice none 0 0)) (Grow.alloc wr _) (Nat.le_refl _) ?_; intro wA hA hbA gA; have FA := Lib.hid (And.intro hA gA); clear hA hbA gA p10 b0 b1 b2 b3 b4 b5 b6 b7 b8 b9; have p4 := (BP.out wA (K.out.2.2.trans FA.out.2)).c4; have p10 := (BP.out wA (K.out.2.2.trans FA.out.2)).c10; have x4 := FA.out.1.c4; have x9 := FA.out.1.c9))
        go_roundg f
        case measure => omega
        case rel => exact ⟨_, k.data.length, by go_num, NEXT.out _ _ H9.out.1 H9.out.2⟩
      · rw [hlenR, if_neg (by have := hMM.out; omega)] at goes
        obtain ⟨Q1, hQ1⟩ : ∃ Q1, Q1 = RM / 8 := ⟨_, rfl⟩
        have eQ1 : (RM : Int) / 8 = (Q1 : Int) := by omega
        obtain ⟨R, hR⟩ : ∃ R, R = Q1 * 8 := ⟨_, rfl⟩
        have eR : (Q1 : Int) * 8 = (R : Int) := by omega
        obtain ⟨t, ht⟩ : ∃ t, t = p + R := ⟨_, rfl⟩
        have et : (p : Int) + (R : Int) = (t : Int) := by omega
        have hRf : R = froom m (rk c k p) := by rw [rk_pos c k hpos, hR, hQ1, hRM, hMM.out, hnu.out]; rfl
        have eRK : rk c k p = { k with opts := c, data := k.data.drop p, off := V } := by rw [rk_pos c k hpos, ← hQ0, eV]
        have hR8 : 8 ≤ R := by omega
        have hRl : p + R ≤ k.data.length := by omega
        have hby := (byt_cut HW.out.2.2.2 hRl).2 hdp
        have etp : t - p = R := by omega
        rw [← etp] at hby
        have EK : Hid (ffirst m { k with opts := c, data := k.data.drop p, off := V } = { k with opts := c, more := true, data := (k.data.drop p).take R, off := V } ∧ frest c m { k with opts := c, data := k.data.drop p, off := V } = rk c k t) := by
          rw [← eRK]
          refine ⟨?_, by rw [ht]; exact rk_next c k m p R hRf h8 (by omega) (by omega)⟩
          unfold ffirst
          rw [← hRf, eRK]
        have NEXT : Hid (∀ s' w', Iprow w' W.heap.size s' (acc ++ [⟨{ k with opts := c, more := true, data := (k.data.drop p).take R, off := V }, (.slice Au nu cu), (.slice (some ⟨b, off + p, none⟩) (t - p) (d - p))⟩]) → Grow W w' → Rsp (ipV k (.slice A k.opts.length ca) (.slice (some ⟨b, off, none⟩) k.data.length d)) w.heap.size W c m (fgo k (m : Int)) k s' (acc ++ [⟨{ k with opts := c, more := true, data := (k.data.drop p).take R, off := V }, (.slice Au nu cu), (.slice (some ⟨b, off + p, none⟩) (t - p) (d - p))⟩]) t f w') := by
          intro s' w' hrow hgrow
          rw [etp] at hby
          refine ⟨Rsp.lmore KL.out (fun b h => h.elim (fun h => .inr (KU.out b h.2)) (fun h => .inl ⟨_, _, rfl, .inr ⟨by have := h.1; simp only [List.length_take, List.length_drop] at this; omega, h.2⟩⟩)), hrow, Rsp.more K.out.2.1 ⟨HW.out.2.1, by rw [etp]; exact hby, ⟨HK.out.tos, HK.out.ident, by show _ ≤ V; omega, by show V ≤ _; omega, HK.out.ttl, HK.out.proto, HK.out.src, HK.out.dst⟩⟩, hgrow, .inl ⟨by omega, by omega, by simp; omega, by omega, ?_⟩⟩
          rw [goes, EK.out.1, EK.out.2]
          cases fpieces c m f (rk c k t) <;> simp
        have ht1 : p ≤ t := by omega
        have ht2 : t ≤ d := by omega
        have ht3 : t ≤ 65535 := by omega
        have hR65 : R ≤ 65535 := by omega
        have HTM := Lib.hid (And.intro hlt (show k.data.length - t < k.data.length - p by omega))
        clear goes hRM hLF hQ0 hV hlenR hby hRf eRK etp ht hQ1 hR
        go_wp2_with (first | (at_builtin; refine wpList_app1 wE rfl (.tmp 98) (.tmp 100) rfl W.heap.size u9 acc _ ⟨{ k with opts := c, more := true, data := (k.data.drop p).take R, off := V }, (.slice Au nu cu), (.slice (some ⟨b, off + p, none⟩) (t - p) (d - p))⟩ rfl (by rfl) (by rfl) ⟨rfl, rfl⟩ (K.out.1.grow FE.out.2) (by omega) (by have := (K.out.2.2.trans FE.out.2).size; omega) ?_; intro v9 w9 ho9 hg9; have H9 := Lib.hid (And.intro ho9 (Rsp.grown K.out.1 K.out.2.2 FE.out.2 hg9)); clear ho9 hg9) | (show wpList _ _ _ (⟨none, .store 4 (.tmp 94) (.const (.bool true)), _, _, _, _⟩ :: _) _ _; refine wpList_store_fld wr wD rfl _ _ _ rfl rfl wr.heap.size 3 (.bool true) rfl rfl { k with opts := c, data := (k.data.drop p).take R, off := V } { k with opts := c, more := true, data := (k.data.drop p).take R, off := V } (.slice Au nu cu) (.slice (some ⟨b, off + p, none⟩) (t - p) (d - p)) (.slice Au nu cu) (.slice (some ⟨b, off + p, none⟩) (t - p) (d - p)) FD.out.1 (by kernel_rfl) rfl (by omega) rfl FD.out.2 (Nat.le_refl _) ?_; intro wE hN hbN gN; have FE := Lib.hid (And.intro hN gN); clear hN hbN gN p4 p10 x4 x9; have p4 := (BP.out wE (K.out.2.2.trans FE.out.2)).c4; have p10 := (BP.out wE (K.out.2.2.trans FE.out.2)).c10; obtain ⟨x0, x1, x2, x3, x4, x5, x6, x7, x8, x9, x10⟩ := FE.out.1.boxd) | (show wpList _ _ _ (⟨none, .store 36 (.tmp 93) (.tmp 92), _, _, _, _⟩ :: _) _ _; refine wpList_store_fld wr wC rfl _ _ _ rfl rfl wr.heap.size 10 (.slice (some ⟨b, off + p, none⟩) (t - p) (d - p)) rfl rfl { k with opts := c, off := V } { k with opts := c, data := (k.data.drop p).take R, off := V } (.slice Au nu cu) (.slice (some ⟨b, off, none⟩) k.data.length d) (.slice Au nu cu) (.slice (some ⟨b, off + p, none⟩) (t - p) (d - p)) FC.out.1 (by kernel_rfl) rfl (by omega) rfl FC.out.2 (Nat.le_refl _) ?_; intro wD hN hbN gN; have FD := Lib.hid (And.intro hN gN); clear hN hbN gN p4 p10 x4 x9; have p4 := (BP.out wD (K.out.2.2.trans FD.out.2)).c4; have p10 := (BP.out wD (K.out.2.2.trans FD.out.2)).c10; have x4 := FD.out.1.c4; have x9 := FD.out.1.c9) | (show wpList _ _ _ (⟨none, .store 3 (.tmp 68) (.tmp 67), _, _, _, _⟩ :: _) _ _; refine wpList_store_fld wr wB rfl _ _ _ rfl rfl wr.heap.size 4 (.int .i64 V) rfl rfl { k with opts := c } { k with opts := c, off := V } (.slice Au nu cu) (.slice (some ⟨b, off, none⟩) k.data.length d) (.slice Au nu cu) (.slice (some ⟨b, off, none⟩) k.data.length d) FB.out.1 (by kernel_rfl) rfl (by omega) rfl FB.out.2 (Nat.le_refl _) ?_; intro wC hN hbN gN; have FC := Lib.hid (And.intro hN gN); clear hN hbN gN p4 p10 x4 x9; have p4 := (BP.out wC (K.out.2.2.trans FC.out.2)).c4; have p10 := (BP.out wC (K.out.2.2.trans FC.out.2)).c10; have x4 := FC.out.1.c4; have x9 := FC.out.1.c9) | (show wpList _ _ _ (⟨none, .store 36 (.tmp 51) (.tmp 50), _, _, _, _⟩ :: _) _ _; refine wpList_store_fld wr wA rfl _ _ _ rfl rfl wr.heap.size 9 (.slice Au nu cu) rfl rfl k { k with opts := c } (.slice A k.opts.length ca) (.slice (some ⟨b, off, none⟩) k.data.length d) (.slice Au nu cu) (.slice (some ⟨b, off, none⟩) k.data.length d) FA.out.1 (by kernel_rfl) rfl (by omega) rfl FA.out.2 (Nat.le_refl _) ?_; intro wB hN hbN gN; have FB := Lib.hid (And.intro hN gN); clear hN hbN gN p4 p10 x4 x9; have p4 := (BP.out wB (K.out.2.2.trans FB.out.2)).c4; have p10 := (BP.out wB (K.out.2.2.trans FB.out.2)).c10; have x4 := FB.out.1.c4; have x9 := FB.out.1.c9) | (show wpList _ _ _ (⟨none, .store 38 (.tmp 11) (.tmp 47), _, _, _, _⟩ :: _) _ _; refine wpList_store_ip wr _ rfl _ _ rfl rfl wr.heap.size rfl k zeroPk (.slice A k.opts.length ca) (.slice (some ⟨b, off, none⟩) k.data.length d) (.slice none 0 0) (.slice none 0 0) rfl rfl rfl (Blk.new wr zeroPk (.slice none 0 0) (.slice none 0 0)) (Grow.alloc wr _) (Nat.le_refl _) ?_; intro wA hA hbA gA; have FA := Lib.hid (And.intro hA gA); clear hA hbA gA p10 b0 b1 b2 b3 b4 b5 b6 b7 b8 b9; have p4 := (BP.out wA (K.out.2.2.trans FA.out.2)).c4; have p10 := (BP.out wA (K.out.2.2.trans FA.out.2)).c10; have x4 := FA.out.1.c4; have x9 := FA.out.1.c9))
        go_roundg f
        case measure => omega
        case rel => exact ⟨_, t, by go_num, NEXT.out _ _ H9.out.1 H9.out.2⟩
    · have E := Lib.hid (HS.out _ goes)
      have K := Lib.hid (And.intro row (And.intro good grow))
      clear goes row good grow
      go_wp2_with fail
      go_ret2
      exact ⟨_, acc, by rw [E.out.1]; rfl, by rw [E.out.2], K.out.1.ips, fun q hq => ⟨(K.out.2.1 q hq).grow K.out.2.2, KL.out q hq⟩, HW.out.1.trans K.out.2.2⟩
end Go.Proofs.Ytmnemkeieaflhaa
/- The reference's Same, of packets that are the same; Many; Split of both as one. -/
namespace Go.Proofs.Ytmnemkeieaflhaa
set_option linter.unusedVariables false
set_option linter.unusedSimpArgs false
open Go.ChangeShapes Go.WideShapes Go.ChangeAt Go.RowKit
attribute [local irreducible] wpQuiet

/-- Eleven cells in every world of the class. -/
theorem PkAt.gw {w : World} {b o : Nat} {q : Pk} (h : PkAt w b o q) (hb : b < w.heap.size) :
    (∀ p : Gw w, p.v.cell? ⟨b, o, none⟩ = some (.int .u8 (q.k.tos : Int))) ∧ (∀ p : Gw w, p.v.cell? ⟨b, o + 1, none⟩ = some (.int .u16 (q.k.ident : Int))) ∧ (∀ p : Gw w, p.v.cell? ⟨b, o + 2, none⟩ = some (.bool q.k.whole)) ∧ (∀ p : Gw w, p.v.cell? ⟨b, o + 3, none⟩ = some (.bool q.k.more)) ∧
    (∀ p : Gw w, p.v.cell? ⟨b, o + 4, none⟩ = some (.int .i64 q.k.off)) ∧ (∀ p : Gw w, p.v.cell? ⟨b, o + 5, none⟩ = some (.int .u8 (q.k.ttl : Int))) ∧ (∀ p : Gw w, p.v.cell? ⟨b, o + 6, none⟩ = some (.int .u8 (q.k.proto : Int))) ∧ (∀ p : Gw w, p.v.cell? ⟨b, o + 7, none⟩ = some (.int .u32 (q.k.src : Int))) ∧
    (∀ p : Gw w, p.v.cell? ⟨b, o + 8, none⟩ = some (.int .u32 (q.k.dst : Int))) ∧ (∀ p : Gw w, p.v.cell? ⟨b, o + 9, none⟩ = some q.vo) ∧ (∀ p : Gw w, p.v.cell? ⟨b, o + 10, none⟩ = some q.vd) := by
  refine ⟨fun p => ?_, fun p => ?_, fun p => ?_, fun p => ?_, fun p => ?_, fun p => ?_, fun p => ?_, fun p => ?_, fun p => ?_, fun p => ?_, fun p => ?_⟩ <;>
  · obtain ⟨h0, h1, h2, h3, h4, h5, h6, h7, h8, h9, h10⟩ := h.grow p.h hb
    assumption

set_option maxRecDepth 10000 in
set_option maxHeartbeats 4000000 in
theorem RSame11_any (ks : List Pkt) (a b : Value) (w : World) (ha : Psl w a ks) (hz : Psl w b ks) :
    Calls Try.prog 13 #[a, b] w fun e w' => e = .returned (.bool true) ∧ Grow w w' := by
  obtain ⟨la, ela, hia, hga⟩ := ha
  obtain ⟨lb, elb, hib, hgb⟩ := hz
  obtain ⟨A, c, rfl, hlc, hcm⟩ := hia.form
  obtain ⟨A2, c2, rfl, hlc2, hcm2⟩ := hib.form
  have hll : la.length = lb.length := by
    have h1 := congrArg List.length ela
    have h2 := congrArg List.length elb
    rw [List.length_map] at h1 h2
    omega
  have hm : la.length ≤ 9223372036854775807 := Nat.le_trans hlc hcm
  have HA := Lib.hid (And.intro hia (And.intro hib (And.intro hga (And.intro hgb (And.intro ela elb)))))
  obtain ⟨n, hn⟩ : ∃ n, n = lb.length := ⟨_, rfl⟩
  rw [← hn] at hll hlc2 HA ⊢
  have HN := Lib.hid hn
  obtain rfl := hll
  clear hia hib hga hgb ela elb hn
  go_enter Try.func13, Try.ntmps13
  go_wp2_with fail
  go_loopg [5] la.length (fun g s5 wr => ∃ k : Nat, k ≤ la.length ∧ g = la.length - k ∧ s5 = .int .i64 (k : Int) ∧ Grow w wr)
  case atStart => exact ⟨0, Nat.zero_le _, rfl, rfl, Grow.refl _⟩
  case round =>
    obtain ⟨i, hk, rfl, rfl, hgr⟩ := hrel
    rcases Nat.lt_or_ge i la.length with hlt | hge
    · obtain ⟨hia, hib, hga, hgb, ela, elb⟩ := HA.out
      obtain ⟨b, off, rfl, hb, hc⟩ := hia.at_ (by omega)
      obtain ⟨b2, off2, rfl, hb2, hc2⟩ := hib.at_ (by omega)
      have hlt2 : i < lb.length := by have := HN.out; omega
      have X := hc i hlt
      have Y := hc2 i hlt2
      have gx := hga _ (List.getElem_mem hlt)
      have gy := hgb _ (List.getElem_mem hlt2)
      have ek : (la[i]'hlt).k = (lb[i]'hlt2).k := by
        have h1 : (la.map Pk.k)[i]? = (lb.map Pk.k)[i]? := by rw [ela, elb]
        rw [List.getElem?_map, List.getElem?_map, List.getElem?_eq_getElem hlt, List.getElem?_eq_getElem hlt2] at h1
        simpa using h1
      generalize la[i]'hlt = x at *
      generalize lb[i]'hlt2 = y at *
      have hbr : b < wr.heap.size := Nat.lt_of_lt_of_le hb hgr.size
      have hbr2 : b2 < wr.heap.size := Nat.lt_of_lt_of_le hb2 hgr.size
      obtain ⟨x0, x1, x2, x3, x4, x5, x6, x7, x8, x9, x10⟩ := (X.grow hgr hb).gw hbr
      obtain ⟨y0, y1, y2, y3, y4, y5, y6, y7, y8, y9, y10⟩ := (Y.grow hgr hb2).gw hbr2
      have cS : ∀ p : Gw wr, Calls Try.prog 16 #[ipV x.k x.vo x.vd, ipV y.k y.vo y.vd] p.v fun e w' => e = .returned (.bool true) ∧ ∃ q : Gw wr, w' = q.v := fun p =>
        Calls.gw (RSame_yes _ _ x.k y.k p.v (gx.grow (hgr.trans p.h)).ip (gy.grow (hgr.trans p.h)).ip ek)
      have A1 := Lib.hid hgr
      have hkI : (i : Int) < (la.length : Int) := by omega
      clear hc hc2 hgr hb hb2 X Y gx gy ek hia hib hga hgb ela elb hbr hbr2
      go_wp2_with fail
      refine wp_region_gw (by kernel_rfl) (by kernel_rfl) ?_
      repeat (quiet_step ((go_at_call 16; exact cS _)))
      refine wpQuiet_nil ?_
      intro _ hw'
      obtain ⟨⟨wq, hgq⟩, hw2⟩ := hw'
      subst hw2
      clear x0 x1 x2 x3 x4 x5 x6 x7 x8 x9 x10 y0 y1 y2 y3 y4 y5 y6 y7 y8 y9 y10 cS
      go_wp2_with fail
      go_roundg (la.length - (i + 1))
      case measure => omega
      case rel => exact ⟨i + 1, by omega, rfl, by go_num, A1.out.trans hgq⟩
    · have A1 := Lib.hid hgr
      have hkk : i = la.length := by omega
      subst hkk
      clear hgr
      go_wp2_with fail
      go_ret
      exact ⟨rfl, A1.out⟩

theorem RSplit_low (v : Value) (k : Pkt) (mtu : Int) (w : World) (h : Ip w v k) (hs : k.Small) (hm1 : -9223372036854775808 ≤ mtu) (hm2 : mtu ≤ 9223372036854775807) :
    Calls Try.prog 22 #[v, .int .i64 mtu] w (RsplitLow v w k mtu) := by
  by_cases h1 : fwhy k mtu ≠ 0
  · exact RSplit_early v k mtu w h hs hm1 hm2 (.inl h1)
  by_cases h2 : (k.len : Int) ≤ mtu
  · exact RSplit_early v k mtu w h hs hm1 hm2 (.inr h2)
  have h0 : fwhy k mtu = 0 := by simpa using h1
  obtain ⟨_, h3, _⟩ := fwhy_ok h0
  obtain ⟨m, rfl⟩ := Int.eq_ofNat_of_zero_le (show 0 ≤ mtu by omega)
  exact RSplit_late v k m w h hs h0 (by omega)

theorem RSplit_any (v : Value) (k : Pkt) (mtu : Int) (w : World) (h : Ip w v k) (hs : k.Small) (hm1 : -9223372036854775808 ≤ mtu) (hm2 : mtu ≤ 9223372036854775807) :
    Calls Try.prog 22 #[v, .int .i64 mtu] w (Rsplitted w k mtu) := by
  refine (RSplit_low v k mtu w h hs hm1 hm2).mono ?_
  rintro e w' ⟨u, l, rfl, h1, h2, h3, h4⟩
  exact ⟨u, rfl, ⟨l, h1, h2, fun q hq => (h3 q hq).1⟩, h4⟩

theorem Psl.of_mine {w : World} {base : Nat} {v : Value} {l : List Pk} {ks : List Pkt} (h1 : l.map Pk.k = ks) (h2 : Iprow w base v l) (h3 : ∀ q ∈ l, q.Mine w base) : Psl w v ks :=
  ⟨l, h1, h2.ips, fun q hq => (h3 q hq).good⟩

end Go.Proofs.Ytmnemkeieaflhaa
/- The pieces of pieces, from either side: what the two loops of Twice keep. -/
namespace Go.Proofs.Ytmnemkeieaflhaa
set_option linter.unusedVariables false
set_option linter.unusedSimpArgs false
open Go.ChangeShapes Go.WideShapes Go.ChangeAt Go.RowKit

def TwL (k : Pkt) (L : List Pkt) : Prop := (L = [k] ∧ k.data = []) ∨ (Run k 0 L k.data.length ∧ 0 < L.length)
theorem TwL.of {k : Pkt} {mtu : Int} (he : fcodeS k mtu = 0) (h0 : k.off = 0) (hm : k.more = false) (ho : k.opts.length ≤ 40) : TwL k (flist k mtu) := by
  by_cases hd : k.data = []
  · exact .inl ⟨flist_nil he hd, hd⟩
  · have h := flist_run he (Pc.self h0 hm hd ho)
    have e : k.at_ = 0 := by unfold Pkt.at_; rw [h0]; rfl
    rw [e, Nat.zero_add] at h
    refine .inr ⟨h, ?_⟩
    rcases Nat.eq_zero_or_pos (flist k mtu).length with hl | hl
    · rw [List.eq_nil_of_length_eq_zero hl] at h
      have h1 : (0 : Nat) = k.data.length := h
      exact absurd (List.eq_nil_of_length_eq_zero h1.symm) hd
    · exact hl
theorem TwL.mem {k : Pkt} {L : List Pkt} (h : TwL k L) (ho : k.opts.length ≤ 40) {q : Pkt} (hq : q ∈ L) : q.opts.length ≤ 40 ∧ q.data.length ≤ k.data.length := by
  rcases h with ⟨rfl, _⟩ | ⟨h, _⟩
  · rw [List.mem_singleton] at hq
    subst hq
    exact ⟨ho, Nat.le_refl _⟩
  · have hp := h.mem q hq
    exact ⟨hp.few, by have := hp.fit; omega⟩
theorem TwL.le {k : Pkt} {L : List Pkt} (h : TwL k L) : L.length ≤ k.data.length + 1 := by
  rcases h with ⟨rfl, _⟩ | ⟨h, _⟩
  · simp
  · have := h.le
    omega
theorem TwL.flat {k : Pkt} {L : List Pkt} {small : Int} (h : TwL k L) (i : Nat) (hc : ∀ q ∈ L.take i, fcodeS q small = 0) : ((L.take i).flatMap fun q => flist q small).length ≤ k.data.length + 1 := by
  rcases h with ⟨rfl, hd⟩ | ⟨h, _⟩
  · cases i with
    | zero => simp
    | succ i =>
      have e : ([k] : List Pkt).take (i + 1) = [k] := by simp
      rw [e] at hc ⊢
      rw [List.flatMap_cons, flist_nil (hc k (by simp)) hd]
      simp
  · rw [← List.take_append_drop i L] at h
    obtain ⟨e, h1, h2⟩ := h.split
    have h3 := (run_flat h1 hc).le
    have h4 := h2.le
    omega
theorem TwL.all {k : Pkt} {L : List Pkt} {small : Int} (h : TwL k L) (h0 : k.off = 0) (hm : k.more = false) (hc : ∀ q ∈ L, fcodeS q small = 0) : (L.flatMap fun q => flist q small) = [k] ∨ (2 ≤ (L.flatMap fun q => flist q small).length ∧ Run k 0 (L.flatMap fun q => flist q small) k.data.length) := by
  rcases h with ⟨rfl, hd⟩ | ⟨h, hl⟩
  · left
    rw [List.flatMap_cons, flist_nil (hc k (by simp)) hd]
    rfl
  · have h1 := run_flat h hc
    generalize (L.flatMap fun q => flist q small) = M at *
    match M, h1 with
    | [], h1 =>
      have h2 : (0 : Nat) = k.data.length := h1
      have h3 := h.le
      omega
    | [y], h1 => left; rw [run_one h1 h0 hm]
    | y :: z :: r, h1 => right; exact ⟨by simp, h1⟩

/-- Which have come, when there were i. -/
def Side (back : Bool) (n i j : Nat) : Prop := if back = true then n - i ≤ j else j < i
def TwS (k : Pkt) (M : List Pkt) (back : Bool) (i : Nat) (A : List Wt) : Prop :=
  (M = [k] ∧ A = []) ∨ (2 ≤ M.length ∧ Run k 0 M k.data.length ∧ ∃ dn, CovA k dn A ∧ ∀ x, x ∈ dn ↔ ∃ j, Side back M.length i j ∧ M[j]? = some x)
theorem TwS.start {k : Pkt} {M : List Pkt} {back : Bool} (h : M = [k] ∨ (2 ≤ M.length ∧ Run k 0 M k.data.length)) : TwS k M back 0 [] := by
  rcases h with h | ⟨h1, h2⟩
  · exact .inl ⟨h, rfl⟩
  · refine .inr ⟨h1, h2, [], .inl ⟨rfl, rfl⟩, fun x => ⟨fun h => (by cases h), fun ⟨j, h3, h4⟩ => ?_⟩⟩
    obtain ⟨h5, _⟩ := List.getElem?_eq_some_iff.1 h4
    unfold Side at h3
    split at h3 <;> omega
def nth (back : Bool) (n i : Nat) : Nat := if back = true then n - 1 - i else i
theorem nth_lt {back : Bool} {n i : Nat} (h : i < n) : nth back n i < n := by unfold nth; split <;> omega
theorem side_next {back : Bool} {n i j : Nat} (h : i < n) (hj : j < n) : Side back n (i + 1) j ↔ Side back n i j ∨ j = nth back n i := by
  unfold Side nth
  split <;> omega
theorem side_all {back : Bool} {n i : Nat} (h : i < n) : (∀ j, j < n → Side back n (i + 1) j) ↔ i + 1 = n := by
  constructor
  · intro h1
    unfold Side at h1
    split at h1
    · have := h1 0 (by omega); omega
    · have := h1 (n - 1) (by omega); omega
  · intro h1 j hj
    unfold Side
    split <;> omega
theorem two_call (w : World) (B tb : Nat) (A : List Wt) (k q : Pkt) (M : List Pkt) (back : Bool) (i : Nat) (hT : TabA w B tb 1 100 A) (h0 : k.off = 0) (hm : k.more = false) (hN : k.data.length ≤ 65515) (hlen : k.len ≤ 65535) (hS : TwS k M back i A) (hi : i < M.length) (hq : M[nth back M.length i]? = some q) (now : Int) (hnow : 0 ≤ now ∧ now ≤ 1000) (vo vd : Value) (hp : Piece B w q vo vd) :
    Calls Try.prog 14 #[.pointer (some ⟨tb, 0, none⟩), .int .i64 now, ipV q vo vd] w fun e w' => ∃ fl r A' vo' vd', e = .returned (.tuple #[ipV r vo' vd', .bool fl, .int .i64 0]) ∧ Ip w' (ipV r vo' vd') r ∧ TabA w' B tb 1 100 A' ∧ Only B Za w w' ∧ (fl = true ↔ i + 1 = M.length) ∧ (fl = true → r = k ∧ A' = []) ∧ (fl = false → TwS k M back (i + 1) A') := by
  rcases hS with ⟨rfl, rfl⟩ | ⟨h2, hrun, dn, hcov, hdn⟩
  · have hi0 : i = 0 := by simpa using hi
    subst hi0
    have hqk : q = k := by
      have e : nth back ([k] : List Pkt).length 0 = 0 := by unfold nth; split <;> rfl
      rw [e] at hq
      simpa using hq.symm
    subst hqk
    refine (RsAdd_any w B tb 1 100 [] hT now q vo vd hp).mono ?_
    have ea : addS 1 100 now q [] = ⟨[], q, true, 0⟩ := by
      unfold addS
      rw [if_neg (by omega), if_pos ⟨h0, hm⟩]
    rw [ea]
    rintro e w' ⟨vo', vd', rfl, h1, h2, h3⟩
    exact ⟨true, q, [], vo', vd', rfl, h1, h2, h3, ⟨fun _ => rfl, fun _ => rfl⟩, fun _ => ⟨rfl, rfl⟩, fun h => (by cases h)⟩
  · have hmem : q ∈ M := List.mem_of_getElem? hq
    have hd : ∀ x ∈ dn, Pc k x := fun x hx => by
      obtain ⟨j, _, h⟩ := (hdn x).1 hx
      exact hrun.mem _ (List.mem_of_getElem? h)
    have hdn2 : ∀ x, x ∈ dn ++ [q] ↔ ∃ j, Side back M.length (i + 1) j ∧ M[j]? = some x := by
      intro x
      rw [List.mem_append, hdn x]
      constructor
      · rintro (⟨j, h3, h4⟩ | h3)
        · obtain ⟨h5, _⟩ := List.getElem?_eq_some_iff.1 h4
          exact ⟨j, (side_next hi h5).2 (.inl h3), h4⟩
        · rw [List.mem_singleton.1 h3]
          exact ⟨_, (side_next hi (nth_lt hi)).2 (.inr rfl), hq⟩
      · rintro ⟨j, h3, h4⟩
        obtain ⟨h5, _⟩ := List.getElem?_eq_some_iff.1 h4
        rcases (side_next hi h5).1 h3 with h6 | rfl
        · exact .inl ⟨j, h6, h4⟩
        · rw [hq] at h4
          cases h4
          exact .inr (by simp)
    have hfull : Full k (dn ++ [q]) ↔ i + 1 = M.length := (run_full hrun hdn2).trans (side_all hi)
    refine (cov_call w B tb A k q dn hT h0 hm hN hlen hcov hd (hrun.mem _ hmem) (run_part hrun h2 _ hmem) now hnow vo vd hp).mono ?_
    rintro e w' ⟨fl, r, A', vo', vd', rfl, h3, h4, h5, h6, h7, h8⟩
    exact ⟨fl, r, A', vo', vd', rfl, h3, h4, h5, h6.trans hfull, h7, fun h => .inr ⟨h2, hrun, _, h8 h, hdn2⟩⟩
end Go.Proofs.Ytmnemkeieaflhaa
