/- The document's own answer: bytes that are right, as a segment. -/
import Derived.Test.YtbhdpobmooncpaaSegRef
namespace Go.Proofs.Ytbhdpobmooncpaa
set_option linter.unusedVariables false
set_option linter.unusedSimpArgs false
open Go.ChangeShapes Go.WideShapes Go.ChangeAt Go.RowKit

set_option maxRecDepth 10000 in
set_option maxHeartbeats 8000000 in
theorem RGet9_good (s d : Nat) (v : Value) (l : List UInt8) (w : World) (hs : s < 4294967296) (hd4 : d < 4294967296) (h : Byt w v l) (hl : l.length ≤ 1000000) (hc : tcode s d l = 0) :
    Calls Try.prog 19 #[.int .u32 (s : Int), .int .u32 (d : Int), v] w fun e w' => ∃ vd, e = .returned (.tuple #[SgmV (tgot l) vd, .int .i64 0]) ∧ Byt w' vd (tgot l).data ∧ Grow w w' := by
  obtain ⟨hz1, h4, h6⟩ := tcode_zero hc
  obtain ⟨h1, h2, h3⟩ := smcode_zero hz1
  obtain ⟨A, c, rfl, hcl, hcm⟩ := h.form
  obtain ⟨W1, hW1⟩ : ∃ W1, W1 = w.alloc (.cells #[.int .u16 0, .int .u16 0, .int .u32 0, .int .u32 0, .int .u8 0, .int .u16 0, .int .i64 0, .int .i64 0, .slice none 0 0] 26) := ⟨_, rfl⟩
  have hg1 : Grow w W1 := by rw [hW1]; exact Grow.alloc w _
  have hk1 : Sgmblk W1 w.heap.size zeroT (.slice none 0 0) := by rw [hW1]; exact Sgmblk.new w zeroT _
  have hB1 := h.grow hg1
  obtain ⟨b, off, rfl, hb, hcell⟩ := h.at_ (by omega)
  have c12 : W1.cell? ⟨b, off + 12, none⟩ = some (.int .u8 (byt l 12 : Int)) := by
    rw [hg1.cell (p := ⟨b, off + 12, none⟩) hb, ← byt_at (show 12 < l.length by omega)]
    exact hcell 12 (by omega)
  have y12 := byt_lt l 12
  have i12 : (12 : Int) < (l.length : Int) := by omega
  have es : shead l = 4 * (byt l 12 / 16) := rfl
  obtain ⟨y, hy⟩ : ∃ y, y = byt l 12 := ⟨_, rfl⟩
  rw [← hy] at c12 y12 es
  obtain ⟨q, hq⟩ : ∃ q, q = y / 16 := ⟨_, rfl⟩
  rw [← hq] at es
  have hq16 : q < 16 := by omega
  have Q1 : (y : Int) / 16 = (q : Int) := by omega
  obtain ⟨m, hm⟩ : ∃ m, m = shead l := ⟨_, rfl⟩
  have Q3 : 4 * (q : Int) = (m : Int) := by omega
  obtain ⟨⟨M, S, E⟩, hro⟩ : ∃ r, r = sro l := ⟨_, rfl⟩
  have eg : tgot l = ⟨num l 0, num l 2, 65536 * num l 4 + num l 6, 65536 * num l 8 + num l 10, byt l 13 % 64, num l 14, ((sro l).1 : Int), ((sro l).2.1 : Int), l.drop (shead l)⟩ := rfl
  have hrd : sread ((l.take (shead l)).drop 20) = (M, S, E) := hro.symm
  rw [← hro] at h6 eg
  simp only at h6 eg
  subst h6
  obtain ⟨hM, hS, _⟩ := sread_le ((l.take (shead l)).drop 20)
  rw [hrd] at hM hS
  simp only at hM hS
  rw [← hm] at h2 h3 hrd eg
  have n0 := num_lt l 0
  have n2 := num_lt l 2
  have n14 := num_lt l 14
  have x4 := num_lt l 4
  have x6 := num_lt l 6
  have x8 := num_lt l 8
  have x10 := num_lt l 10
  have G0 : ∀ w', Byt w' (.slice (some ⟨b, off, none⟩) l.length c) l → _ := fun w' g => rnum9_2 _ 0 l w' g (by omega) (by omega)
  have G2 : ∀ w', Byt w' (.slice (some ⟨b, off, none⟩) l.length c) l → _ := fun w' g => rnum9_2 _ 2 l w' g (by omega) (by omega)
  have G4 : ∀ w', Byt w' (.slice (some ⟨b, off, none⟩) l.length c) l → _ := fun w' g => rnum9_4 _ 4 l w' g (by omega) (by omega)
  have G8 : ∀ w', Byt w' (.slice (some ⟨b, off, none⟩) l.length c) l → _ := fun w' g => rnum9_4 _ 8 l w' g (by omega) (by omega)
  obtain ⟨n4, hn4⟩ : ∃ n4, n4 = 65536 * num l 4 + num l 6 := ⟨_, rfl⟩
  obtain ⟨n8, hn8⟩ : ∃ n8, n8 = 65536 * num l 8 + num l 10 := ⟨_, rfl⟩
  rw [← hn4] at G4 eg
  rw [← hn8] at G8 eg
  have hn4' : n4 < 4294967296 := by omega
  have hn8' : n8 < 4294967296 := by omega
  have c13 : W1.cell? ⟨b, off + 13, none⟩ = some (.int .u8 (byt l 13 : Int)) := by
    rw [hg1.cell (p := ⟨b, off + 13, none⟩) hb, ← byt_at (show 13 < l.length by omega)]
    exact hcell 13 (by omega)
  have hs0 : W1.heap.size = w.heap.size + 1 := by rw [hW1]; simp
  have hbw1 : b < W1.heap.size := by omega
  have y13 := byt_lt l 13
  have i13 : (13 : Int) < (l.length : Int) := by omega
  clear hn4 hn8 x4 x6 x8 x10 hm hq hy es hcell hro hc
  have EC := Lib.hid (of_tsum s d l)
  rw [h4] at EC
  have hlt : l.length ≤ 140737488351232 := by omega
  have hcut := cutAt2 hB1 (lo := 20) (hi := m) h2 h3
  have hRd : ∀ w', Grow W1 w' → _ := fun w' g => RRead_any _ _ w' (hcut.grow g) (by simp; omega) M S 0 hrd
  have i1 : (m : Int) ≤ (l.length : Int) := by omega
  have i2 : m ≤ c := by omega
  have i3 : (20 : Int) ≤ (m : Int) := by omega
  have bd0 := dropAt h (lo := m) h3
  obtain ⟨vd, hvd⟩ : ∃ vd : Value, vd = .slice (if c = m then (some ⟨b, off, none⟩ : Option Addr) else some ⟨b, off + m, none⟩) (l.length - m) (c - m) := ⟨_, rfl⟩
  rw [← hvd] at bd0
  have one1 := bd0.one
  have EVD := Lib.hid hvd
  obtain ⟨P0, hP0⟩ : ∃ P : Sgm, P = ⟨num l 0, num l 2, n4, n8, 0, 0, 0, 0, []⟩ := ⟨_, rfl⟩
  obtain ⟨P1, hP1⟩ : ∃ P : Sgm, P = ⟨num l 0, num l 2, n4, n8, byt l 13 % 64, 0, 0, 0, []⟩ := ⟨_, rfl⟩
  obtain ⟨P2, hP2⟩ : ∃ P : Sgm, P = ⟨num l 0, num l 2, n4, n8, byt l 13 % 64, num l 14, 0, 0, []⟩ := ⟨_, rfl⟩
  obtain ⟨P3, hP3⟩ : ∃ P : Sgm, P = ⟨num l 0, num l 2, n4, n8, byt l 13 % 64, num l 14, (M : Int), 0, []⟩ := ⟨_, rfl⟩
  obtain ⟨P4, hP4⟩ : ∃ P : Sgm, P = ⟨num l 0, num l 2, n4, n8, byt l 13 % 64, num l 14, (M : Int), (S : Int), []⟩ := ⟨_, rfl⟩
  obtain ⟨P5, hP5⟩ : ∃ P : Sgm, P = ⟨num l 0, num l 2, n4, n8, byt l 13 % 64, num l 14, (M : Int), (S : Int), l.drop m⟩ := ⟨_, rfl⟩
  rw [← hP5] at eg
  rw [eg]
  have ed5 : P5.data = l.drop m := by rw [hP5]
  rw [← ed5] at bd0
  have EP0 := Lib.hid hP0
  have EP1 := Lib.hid hP1
  have EP2 := Lib.hid hP2
  have EP3 := Lib.hid hP3
  have EP4 := Lib.hid hP4
  have EP5 := Lib.hid hP5
  have W0 : IntKind.u16.wrap (num l 0 : Int) = (num l 0 : Int) := by
    simp only [IntKind.wrap, IntKind.signed, IntKind.bits]
    simp
    omega
  have W2 : IntKind.u16.wrap (num l 2 : Int) = (num l 2 : Int) := by
    simp only [IntKind.wrap, IntKind.signed, IntKind.bits]
    simp
    omega
  have W14 : IntKind.u16.wrap (num l 14 : Int) = (num l 14 : Int) := by
    simp only [IntKind.wrap, IntKind.signed, IntKind.bits]
    simp
    omega
  clear h4 hrd hcut hP0 hP1 hP2 hP3 hP4 hP5 hvd eg ed5
  go_enter Try.func19, Try.ntmps19
  go_upto_if 15 with fail
  rw [← hW1]
  clear hW1
  go_wp2_with fail
  refine (ROf_any s d 6 _ l _ hs hd4 (by decide) hB1 hlt).mono ?_
  rw [EC.out]
  rintro e w2 ⟨rfl, hg2⟩
  clear EC
  go_upto_region 10 with fail
  go_cut [9, 10, 11] (fun s9 s10 s11 wx => s9 = .int .i64 (M : Int) ∧ s10 = .int .i64 (S : Int) ∧ s11 = .int .i64 0 ∧ Grow W1 wx)
  case first =>
    by_cases hc20 : c = 20
    · subst hc20
      obtain rfl : m = 20 := by omega
      rw [if_pos rfl] at hRd
      simp only [Nat.sub_self] at hRd
      go_wp2_with fail
      refine (hRd _ hg2).mono ?_
      rintro e w4 ⟨rfl, hg4⟩
      clear hRd
      go_wp2_with fail
      go_meet
      exact ⟨rfl, rfl, rfl, hg2.trans hg4⟩
    · rw [if_neg hc20] at hRd
      go_wp2_with fail
      refine (hRd _ hg2).mono ?_
      rintro e w4 ⟨rfl, hg4⟩
      clear hRd
      go_wp2_with fail
      go_meet
      exact ⟨rfl, rfl, rfl, hg2.trans hg4⟩
  case rest =>
    obtain ⟨rfl, rfl, rfl, hgc⟩ := hcut
    clear hRd c12
    have hB := hB1.grow hgc
    go_wp2_with fail
    refine (G0 _ hB).mono ?_
    rintro e w' ⟨rfl, rfl⟩
    go_wp2_with fail
    refine (G2 _ hB).mono ?_
    rintro e w' ⟨rfl, rfl⟩
    go_wp2_with fail
    refine (G4 _ hB).mono ?_
    rintro e w' ⟨rfl, rfl⟩
    go_wp2_with fail
    refine (G8 _ hB).mono ?_
    rintro e w' ⟨rfl, rfl⟩
    clear G0 G2 G4 G8
    have e0 : SgmV P0 (.slice none 0 0) = SgmV ⟨num l 0, num l 2, n4, n8, 0, 0, 0, 0, []⟩ (.slice none 0 0) := by rw [EP0.out]
    have H0 := Lib.hid e0
    clear e0
    go_wp2_with (refine wpList_store_Sgm W1 _ rfl _ _ rfl rfl wc.heap.size rfl P0 zeroT (.slice none 0 0) (.slice none 0 0) (by rw [H0.out]; rfl) rfl (Sgmblk.new wc zeroT _) (hgc.trans (Grow.alloc _ _)) hgc.size ?_; intro wE hkE hbutE gE)
    have hgg := hgc.size
    obtain ⟨g, hgv⟩ : ∃ g, g = wc.heap.size := ⟨_, rfl⟩
    rw [← hgv] at hkE hgg ⊢
    clear hgv H0
    go_wp2_with fail
    refine wp_region_weave (A := ?frame14) [8, 10] (fun q => Grow W1 q) (inVals (isW (.slice (some ⟨b, off, none⟩) l.length c) :: isW (.pointer (some ⟨b, off + 13, none⟩)) :: isW (.int .u8 (byt l 13 : Int)) :: isW (.int .u8 (byt l 13 % 64 : Nat)) :: isW (.slice (some ⟨b, off, none⟩) l.length c) :: isW (.int .i64 (num l 14 : Nat)) :: isW (.int .u16 (num l 14 : Nat)) :: isW (.pointer (some ⟨g, 4, none⟩)) :: isAll :: isW (.pointer (some ⟨g, 5, none⟩)) :: isAll :: [])) (fun j vs q => match j, vs with | 0, [] => Sgmblk q g P0 (.slice none 0 0) | 1, [_] => Sgmblk q g P1 (.slice none 0 0) | 2, [_, _] => Sgmblk q g P2 (.slice none 0 0) | _, _ => False) (by kernel_rfl) (by kernel_rfl) (by kernel_rfl) (by kernel_rfl) (fun x => ?frameEq14) (gE.trans (Grow.drew wE)) (hkE.grow (Grow.drew wE)) ?_ ?_ ?_
    case frameEq14 => go_simp; rfl
    · refine ⟨fun _ x wF hI hd post hp => ?_, fun _ x wF hI hd post hp => ?_, fun _ x wF hI hd post hp => ?_, fun _ x wF hI hd post hp => ?_, fun _ x wF hI hd post hp => ?_, fun _ x wF hI hd post hp => ?_, fun _ x wF hI hd post hp => ?_, fun _ x wF hI hd post hp => ?_, fun hn => absurd hn (by decide), fun _ x wF hI hd post hp => ?_, fun hn => absurd hn (by decide), trivial⟩
      · -- 0: slot 62: Op.move t2
        clear hd
        go_simp
        exact hp _ rfl
      · -- 1: slot 63: Op.indexAddr 24 t62 (const (13:i64))
        have h62 : x 62 = .slice (some ⟨b, off, none⟩) l.length c := hd 0 (by decide) (by decide) _ rfl
        clear hd
        go_simp
        exact hp _ rfl
      · -- 2: slot 64: Op.load 5 t63
        have h63 : x 63 = .pointer (some ⟨b, off + 13, none⟩) := hd 1 (by decide) (by decide) _ rfl
        clear hd
        have q1 := (hI.cell (p := ⟨b, off + 13, none⟩) hbw1).trans c13
        go_simp
        exact hp _ rfl
      · -- 3: slot 65: Op.binOp BinOp.rem 5 t64 (const (64:u8)) 5
        have h64 : x 64 = .int .u8 (byt l 13 : Int) := hd 2 (by decide) (by decide) _ rfl
        clear hd
        go_simp
        exact hp _ (show Value.int _ _ = Value.int _ _ from by rw [Int.tmod_eq_emod_of_nonneg (by omega)]; rfl)
      · -- 4: slot 66: Op.move t2
        clear hd
        go_simp
        exact hp _ rfl
      · -- 5: slot 67: Op.call { value (Operand.func 35), args := #[t66, const (14:i64), const (2:i64)]
        have h66 : x 66 = .slice (some ⟨b, off, none⟩) l.length c := hd 4 (by decide) (by decide) _ rfl
        clear hd
        go_simp
        refine (rnum9_2 _ 14 l _ (hB1.grow hI) (by omega) (by omega)).mono ?_
        rintro e w2 ⟨rfl, rfl⟩
        exact ⟨_, rfl, hp _ rfl⟩
      · -- 6: slot 68: Op.convert 3 23 t67
        have h67 : x 67 = .int .i64 (num l 14 : Nat) := hd 5 (by decide) (by decide) _ rfl
        clear hd
        go_simp
        exact hp _ rfl
      · -- 7: slot 69: Op.fieldAddr 26 t12 4
        clear hd
        go_simp
        exact hp _ rfl
      · -- 9: slot 70: Op.fieldAddr 26 t12 5
        clear hd
        go_simp
        exact hp _ rfl
    · refine ⟨fun x wF hI hd hs post hp => ?_, fun x wF hI hd hs post hp => ?_, trivial⟩
      · -- 8: slot none:0: Op.store 5 t69 t65
        have h69 : x 69 = .pointer (some ⟨g, 4, none⟩) := hd 7 (by decide) (by decide) _ rfl
        have h65 : x 65 = .int .u8 (byt l 13 % 64 : Nat) := hd 3 (by decide) (by decide) _ rfl
        clear hd
        have s0 : Sgmblk wF g P0 (.slice none 0 0) := hs
        exact upon_fld_Sgm W1 wF rfl _ (.tmp 69) (.tmp 65) rfl g 4 _ h69 h65 P0 P1 _ (.slice none 0 0) s0 (by kernel_rfl) rfl (by omega) (by rw [EP0.out, EP1.out]; rfl) hI hgg fun w' h1 h2 h3 => hp _ w' h3 h1
      · -- 10: slot none:1: Op.store 23 t70 t68
        have h70 : x 70 = .pointer (some ⟨g, 5, none⟩) := hd 9 (by decide) (by decide) _ rfl
        have h68 : x 68 = .int .u16 (num l 14 : Nat) := hd 6 (by decide) (by decide) _ rfl
        clear hd
        have s1 : Sgmblk wF g P1 (.slice none 0 0) := hs
        exact upon_fld_Sgm W1 wF rfl _ (.tmp 70) (.tmp 68) rfl g 5 _ h70 h68 P1 P2 _ (.slice none 0 0) s1 (by kernel_rfl) rfl (by omega) (by rw [EP1.out, EP2.out]; rfl) hI hgg fun w' h1 h2 h3 => hp _ w' h3 h1
    · intro x wF gF hd hs
      have hkF : Sgmblk wF g P2 (.slice none 0 0) := hs
      clear hd hs
      go_wp2_with fail
      refine wp_region_weave (A := ?frame15) [6, 8, 10] (fun q => Grow W1 q) (inVals (isW (.int .i64 (M : Int)) :: isW (.int .i64 (S : Int)) :: isW (.slice (some ⟨b, off, none⟩) l.length c) :: isW (.int .i64 (m : Int)) :: isW (vd) :: isW (.pointer (some ⟨g, 6, none⟩)) :: isAll :: isW (.pointer (some ⟨g, 7, none⟩)) :: isAll :: isW (.pointer (some ⟨g, 8, none⟩)) :: isAll :: [])) (fun j vs q => match j, vs with | 0, [] => Sgmblk q g P2 (.slice none 0 0) | 1, [_] => Sgmblk q g P3 (.slice none 0 0) | 2, [_, _] => Sgmblk q g P4 (.slice none 0 0) | 3, [_, _, _] => Sgmblk q g P5 vd | _, _ => False) (by kernel_rfl) (by kernel_rfl) (by kernel_rfl) (by kernel_rfl) (fun x => ?frameEq15) (gF.trans (Grow.drew wF)) (hkF.grow (Grow.drew wF)) ?_ ?_ ?_
      case frameEq15 => go_simp; rfl
      · refine ⟨fun _ z wG hI hd post hp => ?_, fun _ z wG hI hd post hp => ?_, fun _ z wG hI hd post hp => ?_, fun _ z wG hI hd post hp => ?_, fun _ z wG hI hd post hp => ?_, fun _ z wG hI hd post hp => ?_, fun hn => absurd hn (by decide), fun _ z wG hI hd post hp => ?_, fun hn => absurd hn (by decide), fun _ z wG hI hd post hp => ?_, fun hn => absurd hn (by decide), trivial⟩
        · -- 0: slot 71: Op.move t9
          clear hd
          go_simp
          exact hp _ rfl
        · -- 1: slot 72: Op.move t10
          clear hd
          go_simp
          exact hp _ rfl
        · -- 2: slot 73: Op.move t2
          clear hd
          go_simp
          exact hp _ rfl
        · -- 3: slot 74: Op.move t8
          clear hd
          go_simp
          exact hp _ rfl
        · -- 4: slot 75: Op.slice 24 t73 (some t74) none none
          have h73 : z 73 = .slice (some ⟨b, off, none⟩) l.length c := hd 2 (by decide) (by decide) _ rfl
          have h74 : z 74 = .int .i64 (m : Int) := hd 3 (by decide) (by decide) _ rfl
          clear hd
          go_simp
          exact hp _ EVD.out.symm
        · -- 5: slot 76: Op.fieldAddr 26 t12 6
          clear hd
          go_simp
          exact hp _ rfl
        · -- 7: slot 77: Op.fieldAddr 26 t12 7
          clear hd
          go_simp
          exact hp _ rfl
        · -- 9: slot 78: Op.fieldAddr 26 t12 8
          clear hd
          go_simp
          exact hp _ rfl
      · refine ⟨fun z wG hI hd hs post hp => ?_, fun z wG hI hd hs post hp => ?_, fun z wG hI hd hs post hp => ?_, trivial⟩
        · -- 6: slot none:0: Op.store 3 t76 t71
          have h76 : z 76 = .pointer (some ⟨g, 6, none⟩) := hd 5 (by decide) (by decide) _ rfl
          have h71 : z 71 = .int .i64 (M : Int) := hd 0 (by decide) (by decide) _ rfl
          clear hd
          have s0 : Sgmblk wG g P2 (.slice none 0 0) := hs
          exact upon_fld_Sgm W1 wG rfl _ (.tmp 76) (.tmp 71) rfl g 6 _ h76 h71 P2 P3 _ (.slice none 0 0) s0 (by kernel_rfl) rfl (by omega) (by rw [EP2.out, EP3.out]; rfl) hI hgg fun w' h1 h2 h3 => hp _ w' h3 h1
        · -- 8: slot none:1: Op.store 3 t77 t72
          have h77 : z 77 = .pointer (some ⟨g, 7, none⟩) := hd 7 (by decide) (by decide) _ rfl
          have h72 : z 72 = .int .i64 (S : Int) := hd 1 (by decide) (by decide) _ rfl
          clear hd
          have s1 : Sgmblk wG g P3 (.slice none 0 0) := hs
          exact upon_fld_Sgm W1 wG rfl _ (.tmp 77) (.tmp 72) rfl g 7 _ h77 h72 P3 P4 _ (.slice none 0 0) s1 (by kernel_rfl) rfl (by omega) (by rw [EP3.out, EP4.out]; rfl) hI hgg fun w' h1 h2 h3 => hp _ w' h3 h1
        · -- 10: slot none:2: Op.store 24 t78 t75
          have h78 : z 78 = .pointer (some ⟨g, 8, none⟩) := hd 9 (by decide) (by decide) _ rfl
          have h75 : z 75 = vd := hd 4 (by decide) (by decide) _ rfl
          clear hd
          have s2 : Sgmblk wG g P4 (.slice none 0 0) := hs
          exact upon_fld_Sgm W1 wG rfl _ (.tmp 78) (.tmp 75) rfl g 8 vd h78 h75 P4 P5 _ vd s2 (by kernel_rfl) one1 (by omega) (by rw [EP4.out, EP5.out]; rfl) hI hgg fun w' h1 h2 h3 => hp _ w' h3 h1
      · intro z wG gG hd hs
        have hk5 : Sgmblk wG g P5 vd := hs
        clear hd hs
        obtain ⟨d0, d1, d2, d3, d4, d5, d6, d7, d8⟩ := hk5.boxd
        go_wp2_with (refine wpList_store_Sgm w wG rfl _ _ rfl rfl w.heap.size rfl P5 zeroT vd (.slice none 0 0) (by rfl) one1 (hk1.grow gG) (hg1.trans gG) (Nat.le_refl _) ?_; intro w4 hk4 hbut hg4)
        refine bodyPost_ret (results2_Sgm 6 7 rfl _ w4 w.heap.size _ _ rfl hk4) rfl ?_
        exact ⟨_, rfl, bd0.grow hg4, hg4⟩
end Go.Proofs.Ytbhdpobmooncpaa
