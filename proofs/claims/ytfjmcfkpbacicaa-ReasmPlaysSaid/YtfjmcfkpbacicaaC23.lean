/- ReasmPlays: the law's walk. -/
import Derived.Test.YtfjmcfkpbacicaaC22
namespace Go.Proofs.Ytfjmcfkpbacicaa
set_option linter.unusedVariables false
set_option linter.unusedSimpArgs false
open Go.ChangeShapes Go.WideShapes Go.ChangeAt Go.RowKit

set_option maxRecDepth 10000 in
set_option maxHeartbeats 1000000 in
theorem reasmPlays_walk (w : World) (most : Int) (hm : -9223372036854775808 ≤ most ∧ most ≤ 9223372036854775807) (life : Int) (hlf : -9223372036854775808 ≤ life ∧ life ≤ 9223372036854775807) {v : Value} {l : List RAct} (h : Racts w v l) :
    Calls Try.prog 3 #[.int .i64 most, .int .i64 life, v] w fun e w' => e = .returned (.bool true) ∧ Grow w w' := by
  obtain ⟨hm1, hm2⟩ := hm
  obtain ⟨hf1, hf2⟩ := hlf
  obtain ⟨A0, c0, rfl, hlc, hcm⟩ := h.form
  have cM := much_any w _ l h
  have cV := rsLive_any
  have HA := Lib.hid h
  obtain ⟨N, hN⟩ : ∃ N, N = l.length := ⟨_, rfl⟩
  rw [← hN] at hlc cM ⊢
  have HN := Lib.hid hN
  unfold maxLen at hcm
  clear h hN
  go_enter Try.func3, Try.ntmps3
  go_wp2_with fail
  refine cM.mono ?_
  rintro e w2 ⟨b, rfl, hb, hg2⟩
  have H2 := Lib.hid (And.intro hb hg2)
  clear cM hb hg2
  cases b with
  | true =>
    go_wp2_with fail
    refine (cV _).mono ?_
    rintro e wl ⟨rfl, hgl⟩
    have HL := Lib.hid hgl
    clear hgl
    go_wp2_with fail
    go_ret
    exact ⟨rfl, H2.out.2.trans HL.out⟩
  | false =>
    have HS := Lib.hid (H2.out.1 rfl)
    have hbw := H2.out.2.size
    by_cases hbad : most < 1 ∨ 64 < most ∨ life < 1 ∨ 65535 < life
    · have cN := RsNew_bad w2 most life hbad
      have HB := Lib.hid hbad
      clear hbad hbw
      go_wp2_with fail
      refine cN.mono ?_
      rintro e w3 ⟨rfl, hg3⟩
      have H3 := Lib.hid (H2.out.2.trans hg3)
      clear cN hg3
      go_upto_region 4 with fail
      go_cut [47] from 34 to 47 (fun s47 wx => s47 = .bool true ∧ w3 = wx)
      case first =>
        have hb := HB.out
        by_cases q1 : most < 1
        · have d1 : decide (most < 1) = true := decide_eq_true q1
          clear hb q1
          go_wp2_with fail
          go_meet
          exact ⟨rfl, rfl⟩
        have d1 : decide (most < 1) = false := decide_eq_false q1
        by_cases q2 : 64 < most
        · have d2 : decide (64 < most) = true := decide_eq_true q2
          clear hb q1 q2
          go_wp2_with fail
          go_meet
          exact ⟨rfl, rfl⟩
        have d2 : decide (64 < most) = false := decide_eq_false q2
        by_cases q3 : life < 1
        · have d3 : decide (life < 1) = true := decide_eq_true q3
          clear hb q1 q2 q3
          go_wp2_with fail
          go_meet
          exact ⟨rfl, rfl⟩
        have d3 : decide (life < 1) = false := decide_eq_false q3
        have d4 : decide (65535 < life) = true := decide_eq_true (by omega)
        clear hb q1 q2 q3
        go_wp2_with fail
        go_meet
        exact ⟨rfl, rfl⟩
      case rest =>
        obtain ⟨rfl, rfl⟩ := hcut
        go_wp2_with fail
        refine (rsLawCode_any 1 _ (by decide) (by decide)).mono ?_
        rintro e w' ⟨rfl, rfl⟩
        go_wp2_with fail
        refine (cV _).mono ?_
        rintro e wl ⟨rfl, hgl⟩
        have HL := Lib.hid hgl
        clear hgl
        go_wp2_with fail
        go_ret
        exact ⟨rfl, H3.out.trans HL.out⟩
    · have hgood : 1 ≤ most ∧ most ≤ 64 ∧ 1 ≤ life ∧ life ≤ 65535 := by omega
      have cN := RsNew_any w2 w.heap.size hbw most life hgood
      have d1 : decide (most < 1) = false := decide_eq_false (by omega)
      have d2 : decide (64 < most) = false := decide_eq_false (by omega)
      have d3 : decide (life < 1) = false := decide_eq_false (by omega)
      have d4 : decide (65535 < life) = false := decide_eq_false (by omega)
      have HGD := Lib.hid hgood
      clear hbad hgood
      go_wp2_with fail
      refine cN.mono ?_
      rintro e w3 ⟨tb, rfl, hT3, hg3⟩
      have T3 := Lib.hid (And.intro hT3 hg3)
      clear cN hT3 hg3
      go_wp2_with fail
      refine (rsLawCode_any 0 _ (by decide) (by decide)).mono ?_
      rintro e w' ⟨rfl, rfl⟩
      go_wp2_with fail
      obtain ⟨w4, hw4⟩ : ∃ w4, w4 = w3.alloc (.cells #[.int .i64 most, .int .i64 life, .slice none 0 0] 32) := ⟨_, rfl⟩
      rw [← hw4]
      have hb4 : TbBlk w4 w3.heap.size most life (.slice none 0 0) := by rw [hw4]; exact heap_alloc_new w3 _
      have g34 : Grow w3 w4 := by rw [hw4]; exact Grow.alloc _ _
      obtain ⟨rb, hrb⟩ : ∃ rb, rb = w3.heap.size := ⟨_, rfl⟩
      have H4 : Hid (Pl w tb rb most life [] (.slice none 0 0) w4) := by
        have g24 := H2.out.2.trans (T3.out.2.trans g34)
        rw [hrb]
        exact ⟨T3.out.1.grow g34, hb4, RTab.start _ _ _ _, by simp, fun t ht => (by cases ht), (H2.out.2.trans T3.out.2).size, g24⟩
      rw [← hrb]
      clear hw4 hb4 g34 hrb d1 d2 d3 d4 hbw
      go_loopg [10] N (fun gk s10 wr => ∃ (i : Nat) (A : List Wt) (vL : Value), i ≤ N ∧ gk = N - i ∧ s10 = .int .i64 (i : Int) ∧ Hid (Pl w tb rb most life A vL wr))
      case atStart => exact ⟨0, _, _, Nat.zero_le _, rfl, rfl, H4.out⟩
      case round =>
        obtain ⟨i, A, vL, hi, rfl, rfl, HP⟩ := hrel
        obtain ⟨Al, nL, cl, rfl⟩ : ∃ a n c, vL = .slice a n c := by
          obtain ⟨vL0, l0, e0, hrow0, _⟩ := HP.out.rt
          simp only [Value.agg.injEq, Array.mk.injEq, List.cons.injEq, and_true, true_and] at e0
          obtain ⟨a, c, e, _⟩ := (RdK.of_own hrow0).form
          exact ⟨a, _, c, e0.trans e⟩
        rcases Nat.lt_or_ge i N with hlt | hge
        case inr =>
          have d1 : decide ((i : Int) < (N : Int)) = false := decide_eq_false (by omega)
          go_wp2_with fail
          refine (cV _).mono ?_
          rintro e wl ⟨rfl, hgl⟩
          have HL := Lib.hid hgl
          clear hgl
          go_wp2_with fail
          go_ret
          exact ⟨rfl, HP.out.gr.trans HL.out⟩
        have d1 : decide ((i : Int) < (N : Int)) = true := decide_eq_true (by omega)
        have hic : (i : Int) < (N : Int) := by omega
        have hil : i < l.length := by have := HN.out; omega
        have hsm := HS.out.2 _ (List.getElem_mem hil)
        obtain ⟨A9, c9, e9, _, _, hat, hok⟩ := HA.out
        simp only [Value.slice.injEq] at e9
        obtain ⟨rfl, _, rfl⟩ := e9
        obtain ⟨ba, off, rfl, hba, hc⟩ := hat (by omega)
        obtain ⟨x0, x1, hq⟩ := hc i hil
        obtain ⟨hgq, hn1, hn2⟩ := hok _ (List.getElem_mem hil)
        generalize l[i] = a at *
        obtain ⟨out, now, ⟨k, vo, vd⟩⟩ := a
        simp only at x0 x1 hq hgq hn1 hn2 hsm
        obtain ⟨Ao, co, eo, _⟩ := hgq.1.form
        obtain ⟨Ad, cd, ed, _⟩ := hgq.2.1.form
        simp only at eo ed
        subst eo
        subst ed
        have HQ := Lib.hid (And.intro x1 (And.intro hq (And.intro hgq (And.intro hsm hba))))
        have hbar : ba < wr.heap.size := Nat.lt_of_lt_of_le hba HP.out.gr.size
        replace x0 := (HP.out.gr.cell (p := ⟨ba, off + i * 13, none⟩) hba).trans x0
        replace x1 := (HP.out.gr.cell (p := ⟨ba, off + i * 13 + 1, none⟩) hba).trans x1
        clear hat hok hc hq hgq hsm hba
        go_upto_if 78 with fail
        go_cut [11, 12, 13, 14, 15, 16, 17, 18, 19, 20] from 79 to 149 (fun _ _ _ _ _ _ _ _ _ _ wx => ∃ A' vL', Hid (Pl w tb rb most life A' vL' wx))
        case first =>
          cases out with
          | true =>
            have cE := Expire_any wr w.heap.size tb most life A HP.out.tab now
            go_wp2_with fail
            refine cE.mono ?_
            rintro e w5 ⟨va, rfl, hpa, hT5, hO5⟩
            have HM := Lib.hid (And.intro (Pl.went HP.out hT5 hO5) (And.intro hpa hO5))
            clear cE hpa hT5 hO5
            have g5 : Grow w w5 := HM.out.1.gr
            have cX : Hid (∀ u, Grow w5 u → Calls Try.prog 12 #[.agg #[.int .i64 most, .int .i64 life, .slice Al nL cl], .int .i64 now] u fun e w' => ∃ (A6 : Option Addr) (n6 c6 : Nat) (A7 : Option Addr) (n7 c7 : Nat), e = .returned (.tuple #[.agg #[.int .i64 most, .int .i64 life, .slice A6 n6 c6], .slice A7 n7 c7]) ∧ RTab w' w.heap.size (.agg #[.int .i64 most, .int .i64 life, .slice A6 n6 c6]) most life (leftS now A) ∧ Psl w' (.slice A7 n7 c7) (outS now A) ∧ Grow u w') := fun u g => by
              refine (rExpire_any u w.heap.size _ most life now A (HM.out.1.rt.grow g g5.size) HM.out.1.len (Nat.le_trans g5.size g.size) HM.out.1.ok).mono ?_
              rintro e w' ⟨v', vo, rfl, hr, hp, hg⟩
              obtain ⟨vL0, l0, rfl, hrow0, _⟩ := id hr
              obtain ⟨a, c, rfl, _⟩ := (RdK.of_own hrow0).form
              obtain ⟨a', c', rfl, _⟩ := hp.form
              exact ⟨_, _, _, _, _, _, rfl, hr, hp, hg⟩
            have hba5 : ba < w5.heap.size := Nat.lt_of_lt_of_le HQ.out.2.2.2.2 g5.size
            have z1 : w5.cell? ⟨ba, off + i * 13 + 1, none⟩ = some (.int .i64 now) := (g5.cell (p := ⟨ba, off + i * 13 + 1, none⟩) HQ.out.2.2.2.2).trans HQ.out.1
            clear x0 x1 hbar
            go_upto_region 14 with fail
            go_cut [12, 13] from 86 to 95 (fun s12 s13 wx => ∃ g vL', s12 = .pointer (some ⟨g, 0, none⟩) ∧ Hid (Grow w5 wx ∧ TbBlk wx g most life vL' ∧ RTab wx w.heap.size (.agg #[.int .i64 most, .int .i64 life, vL']) most life (leftS now A) ∧ Psl wx s13 (outS now A) ∧ w5.heap.size ≤ g))
            case first =>
              refine wp_region_tailX (A := ?frame14) (fun _ => True) [] trivial P14N (fun a b => Grow w5 a → Grow w5 b) (P14J w5) (fun a b c h1 h2 h3 => h2 (h1 h3)) (fun h => h.trans (Grow.drew _)) P14R (P14F w5 w.heap.size most life now (.slice Al nL cl) (.slice (some ⟨ba, off, none⟩) N c0) (.int .i64 (i : Int)) (.pointer (some ⟨ba, off + i * 13, none⟩)) (.pointer (some ⟨ba, off + i * 13 + 1, none⟩)) (leftS now A) (outS now A)) 12 _ (by kernel_rfl) (by kernel_rfl) (by kernel_rfl) rfl rfl (by kernel_rfl) (by kernel_rfl) ?hI14 ?hF14 (fun x => ?frameEq14) ?hs14 ?fin14
              case frameEq14 => go_simp; rfl
              case hI14 =>
                exact fun _ _ _ _ _ h => h
              case hF14 =>
                intro i j vs u u' hij hst hr hf
                by_cases h11 : j = 11
                · subst h11
                  obtain ⟨gb, r1, r2, r3, r4, r5⟩ := hr
                  have oB := Only.but (g5.trans r4) (g5.trans r5) r3 (Nat.le_trans g5.size r1) r2
                  match i, hij, hst, hf with
                  | 0, _, _, hf => exact hf
                  | 1, _, _, hf => exact hf
                  | 2, _, _, hf => exact hf
                  | 3, _, _, hf => exact hf
                  | 4, _, _, hf => exact hf
                  | 5, _, _, hf => exact hf
                  | 6, _, _, hf =>
                    obtain ⟨vL', vo, e, h1, h2, h3⟩ := hf
                    exact ⟨vL', vo, e, h1.only oB (fun b => by decide) (fun b => by decide) (fun b => by decide), h2.butN r3 r2.noByte, by rw [r3.1]; exact h3⟩
                  | 7, _, _, hf =>
                    obtain ⟨vL', vo, e, h1, h2, h3⟩ := hf
                    exact ⟨vL', vo, e, h1.only oB (fun b => by decide) (fun b => by decide) (fun b => by decide), h2.butN r3 r2.noByte, by rw [r3.1]; exact h3⟩
                  | 8, _, hst, _ => exact absurd (hst.symm.trans (show stillFor .any _ P14N 8 11 = false by kernel_rfl)) (by decide)
                  | 9, _, _, hf => exact Psl.butN hf r3 r2.noByte
                  | 10, _, hst, _ => exact absurd (hst.symm.trans (show stillFor .any _ P14N 10 11 = false by kernel_rfl)) (by decide)
                  | 11, hij, _, _ => exact absurd rfl hij
                  | (n + 12), _, _, hf => exact hf
                · have hr2 : Grow u u' := by
                    unfold P14J at hr
                    rwa [if_neg h11] at hr
                  exact P14G.grow hf hr2
              case hs14 =>
                refine ⟨fun x u hg hi hd post hp => ?_, fun x u hg hi hd post hp => ?_, fun x u hg hi hd post hp => ?_, fun x u hg hi hd post hp => ?_, fun x u hg hi hd post hp => ?_, fun x u hg hi hd post hp => ?_, fun x u hg hi hd post hp => ?_, fun x u hg hi hd post hp => ?_, fun x u hg hi hd post hp => ?_, fun x u hg hi hd post hp => ?_, fun x u hg hi hd post hp => ?_, fun x u hg hi hd post hp => ?_, trivial⟩
                · have gW := hg (Grow.refl _)
                  have q0 := (HM.out.1.box.grow gW).c0
                  have q1 := (HM.out.1.box.grow gW).c1
                  have q2 := (HM.out.1.box.grow gW).c2
                  clear hd hi
                  go_simp
                  exact hp _ _ (fun h => h) (Grow.refl _) rfl
                · clear hd hi
                  go_simp
                  exact hp _ _ (fun h => h) (Grow.refl _) rfl
                · clear hd hi
                  go_simp
                  exact hp _ _ (fun h => h) (Grow.refl _) rfl
                · have h88 : x 88 = .slice (some ⟨ba, off, none⟩) N c0 := hd 1 (by decide)
                  have h89 : x 89 = .int .i64 (i : Int) := hd 2 (by decide)
                  clear hd hi
                  go_simp
                  exact hp _ _ (fun h => h) (Grow.refl _) rfl
                · have h90 : x 90 = .pointer (some ⟨ba, off + i * 13, none⟩) := hd 3 (by decide)
                  clear hd hi
                  go_simp
                  exact hp _ _ (fun h => h) (Grow.refl _) rfl
                · have gW := hg (Grow.refl _)
                  have z2 := (gW.cell (p := ⟨ba, off + i * 13 + 1, none⟩) hba5).trans z1
                  have h91 : x 91 = .pointer (some ⟨ba, off + i * 13 + 1, none⟩) := hd 4 (by decide)
                  clear hd hi
                  go_simp
                  exact hp _ _ (fun h => h) (Grow.refl _) rfl
                · have gW := hg (Grow.refl _)
                  have h87 : x 87 = .agg #[.int .i64 most, .int .i64 life, .slice Al nL cl] := hd 0 (by decide)
                  have h92 : x 92 = .int .i64 now := hd 5 (by decide)
                  clear hd hi
                  go_simp
                  refine (cX.out u gW).mono ?_
                  rintro e u' ⟨A6, n6, c6, A7, n7, c7, rfl, hr6, hp6, hg6⟩
                  exact ⟨_, rfl, hp _ _ (fun h => h.trans hg6) hg6 ⟨_, _, rfl, hr6, hp6, (g5.trans (gW.trans hg6)).size⟩⟩
                · obtain ⟨vL', vo', h93, k1, k2, k3⟩ := hd 6 (by decide)
                  have h93 : x 93 = .tuple #[.agg #[.int .i64 most, .int .i64 life, vL'], vo'] := h93
                  clear hd hi
                  go_simp
                  exact hp _ _ (fun h => h) (Grow.refl _) ⟨vL', vo', rfl, k1, k2, k3⟩
                · obtain ⟨vL', vo', h86, k1, k2, k3⟩ := hd 7 (by decide)
                  have h86 : x 86 = .tuple #[.agg #[.int .i64 most, .int .i64 life, vL'], vo'] := h86
                  clear hd hi
                  go_simp
                  exact hp _ _ (fun h => h) (Grow.refl _) ⟨vL', rfl, k1, k3⟩
                · obtain ⟨vL', vo', h86, k1, k2, k3⟩ := hd 7 (by decide)
                  have h86 : x 86 = .tuple #[.agg #[.int .i64 most, .int .i64 life, vL'], vo'] := h86
                  clear hd hi
                  go_simp
                  exact hp _ _ (fun h => h) (Grow.refl _) k2
                · have gW := hg (Grow.refl _)
                  clear hd hi
                  go_simp
                  exact hp _ _ (fun h => h.trans (Grow.alloc _ _)) (Grow.alloc _ _) ⟨_, rfl, gW.size, alloc_at _ _⟩
                · have gW := hg (Grow.refl _)
                  obtain ⟨vL', h94, k1, k3⟩ := hd 8 (by decide)
                  have h94 : x 94 = .agg #[.int .i64 most, .int .i64 life, vL'] := h94
                  obtain ⟨g, h12, hg0, hb0⟩ := hd 10 (by decide)
                  have h12 : x 12 = .pointer (some ⟨g, 0, none⟩) := h12
                  clear hd hi
                  have hone : vL'.oneCell' = true := by
                    obtain ⟨vL0, l0, e0, hrow0, _⟩ := k1
                    simp only [Value.agg.injEq, Array.mk.injEq, List.cons.injEq, and_true, true_and] at e0
                    rw [e0]
                    exact ownsRow_one hrow0
                  refine upon_cs w5 u rfl 32 (.tmp 12) (.tmp 94) rfl g 0 (.agg #[.int .i64 most, .int .i64 life, vL']) h12 h94 [.int .i64 most, .int .i64 life, vL'] rfl 32 _ #[.int .i64 most, .int .i64 life, vL'] hb0 (by kernel_rfl) (tb_one hone) (Nat.le_refl 3) rfl gW hg0 (fun u' h' hb' g' => hp _ _ (fun _ => g') ⟨g, hg0, hb0, hb', gW, g'⟩ ⟨g, vL', h12, hg0, h', k1.only (Only.but (g5.trans gW) (g5.trans g') hb' (Nat.le_trans g5.size hg0) hb0) (fun b => by decide) (fun b => by decide) (fun b => by decide), (g5.trans g').size⟩)
              case fin14 =>
                intro x u hg hi hd
                have gW := hg (Grow.refl _)
                have h95 : Psl u (x 95) (outS now A) := hd 9 (by decide)
                obtain ⟨g, vL', h12, hg0, hb0, k1, _⟩ := hd 11 (by decide)
                have h12 : x 12 = .pointer (some ⟨g, 0, none⟩) := h12
                clear hd hi
                have H6 := Lib.hid (And.intro gW (And.intro hb0 (And.intro k1 (And.intro h95 hg0))))
                clear gW hb0 k1 h95 hg0 hg
                go_simp
                go_wp2_with fail
                go_meet
                exact ⟨g, vL', rfl, H6.out⟩
            case rest =>
              obtain ⟨g, vL6, rfl, hH⟩ := hcut
              obtain ⟨A6, n6, c6, rfl⟩ : ∃ a n c, vL6 = .slice a n c := by
                obtain ⟨vL0, l0, e0, hrow0, _⟩ := (Hid.out hH).2.2.1
                simp only [Value.agg.injEq, Array.mk.injEq, List.cons.injEq, and_true, true_and] at e0
                obtain ⟨a, c, e, _⟩ := (RdK.of_own hrow0).form
                exact ⟨a, _, c, e0.trans e⟩
              have H6 := Lib.hid (Hid.out hH)
              obtain ⟨w6, rfl⟩ : ∃ z, z = wc := ⟨_, rfl⟩
              have q0 := H6.out.2.1.c0
              have q1 := H6.out.2.1.c1
              have q2 := H6.out.2.1.c2
              have hg6 : Grow w w6 := g5.trans H6.out.1
              clear hH z1 hba5
              go_wp2_with (show wpList _ _ _ (⟨none, .store 32 (.tmp 9) (.tmp 96), _, _, _, _⟩ :: _) _ _; refine wpList_store_tb w w6 rfl _ _ rfl rfl rb rfl most life (.slice A6 n6 c6) rfl rfl most life (.slice Al nL cl) (HM.out.1.box.grow H6.out.1) hg6 HM.out.1.low ?_; intro w7 h7 hb7 g7; have H7 := Lib.hid (And.intro h7 (And.intro hb7 g7)); clear h7 hb7 g7)
              refine (RSame11_any (outS now A) _ _ w7 ((HM.out.2.1.grow H6.out.1).butN H7.out.2.1 (HM.out.1.box.grow H6.out.1).noByte) (H6.out.2.2.2.1.butN H7.out.2.1 (HM.out.1.box.grow H6.out.1).noByte)).mono ?_
              rintro e w8 ⟨rfl, hg8⟩
              have H8 := Lib.hid ((Pm.met (HM.out.1.grow H6.out.1) H6.out.2.2.1 (Nat.le_trans (leftS_len _ _) HM.out.1.len) (leftS_ok HM.out.1.ok) H7.out.1 H7.out.2.1 H7.out.2.2).grow hg8)
              clear hg8 q0 q1 q2
              go_wp2_with fail
              go_meet
              exact ⟨_, _, H8.out⟩
          | false =>
            obtain ⟨R, hR⟩ : ∃ R, R = addS most life now k A := ⟨_, rfl⟩
            have HRR := Lib.hid hR
            have HPC : Hid (Piece w.heap.size w k (.slice Ao k.opts.length co) (.slice Ad k.data.length cd)) := ⟨Firm.below HQ.out.2.2.1.1 (Nat.le_refl _), Firm.below HQ.out.2.2.1.2.1 (Nat.le_refl _), HQ.out.2.2.1.2.2, HQ.out.2.2.2.1⟩
            clear x0 x1 hbar hR
            go_upto_region 18 with fail
            go_cut [14, 15, 16] from 101 to 116 (fun s14 s15 s16 wx => ∃ g vo' vd', s14 = .pointer (some ⟨g, 0, none⟩) ∧ s15 = .bool R.ok ∧ s16 = .int .i64 R.e ∧ Hid (Blk wx g R.k vo' vd' ∧ IpF w.heap.size wx vo' vd' R.k ∧ Pm w tb rb most life A R.L (.slice Al nL cl) wx ∧ w.heap.size ≤ g))
            case first =>
              refine wp_region_tailX (A := ?frame18) (Pl w tb rb most life A (.slice Al nL cl)) [11] (HP.out.grow (Grow.drew _)) P18N (fun a b => Grow w a → Grow w b) (P18J w) (fun a b c h1 h2 h3 => h2 (h1 h3)) (fun h => h.trans (Grow.drew _)) P18R (P18F w tb rb most life now A (.slice Al nL cl) (.slice (some ⟨ba, off, none⟩) N c0) (.int .i64 (i : Int)) (.pointer (some ⟨ba, off + i * 13, none⟩)) (.pointer (some ⟨ba, off + i * 13 + 1, none⟩)) (.pointer (some ⟨ba, off + i * 13 + 2, none⟩)) (ipV k (.slice Ao k.opts.length co) (.slice Ad k.data.length cd)) R) 19 _ (by kernel_rfl) (by kernel_rfl) (by kernel_rfl) rfl rfl (by kernel_rfl) (by kernel_rfl) ?hI18 ?hF18 (fun x => ?frameEq18) ?hs18 ?fin18
              case frameEq18 => go_simp; rfl
              case hI18 =>
                intro j u u' hst hr h
                by_cases h11 : j = 11
                · subst h11
                  exact absurd (hst.symm.trans (show stillI .any _ [11] 11 = false by kernel_rfl)) (by decide)
                · by_cases h17 : j = 17
                  · subst h17
                    exact absurd (hst.symm.trans (show stillI .any _ [11] 17 = false by kernel_rfl)) (by decide)
                  · have hr2 : Grow u u' := by
                      unfold P18J at hr
                      rwa [if_neg h11, if_neg h17] at hr
                    exact h.grow hr2
              case hF18 =>
                intro i j vs u u' hij hst hr hf
                by_cases h11 : j = 11
                · subst h11
                  have hr : Only w.heap.size Za u u' := hr
                  match i, hij, hst, hf with
                  | 0, _, _, hf => exact hf
                  | 1, _, _, hf => exact hf
                  | 2, _, _, hf => exact hf
                  | 3, _, _, hf => exact hf
                  | 4, _, _, hf => exact hf
                  | 5, _, _, hf => exact hf
                  | 6, _, _, hf => exact hf
                  | 7, _, _, hf => exact hf
                  | 8, _, _, hf => exact hf
                  | 9, _, _, hf => exact hf
                  | 10, _, _, hf => exact hf
                  | 11, hij, _, _ => exact absurd rfl hij
                  | 12, _, _, hf =>
                    obtain ⟨vo, vd, e, h1, h2⟩ := hf
                    exact ⟨vo, vd, e, h1.only hr za_byte, Nat.le_trans h2 hr.size⟩
                  | 13, _, _, hf =>
                    obtain ⟨vo, vd, e, h1, h2⟩ := hf
                    exact ⟨vo, vd, e, h1.only hr za_byte, Nat.le_trans h2 hr.size⟩
                  | 14, _, _, hf => exact hf
                  | 15, _, _, hf => exact hf
                  | 16, _, _, hf =>
                    obtain ⟨b, e, h1, h2⟩ := hf
                    exact ⟨b, e, h1, ip_keep h2 hr⟩
                  | 17, _, _, hf =>
                    obtain ⟨b, vo, vd, e, h1, h2, h3, h4⟩ := hf
                    exact ⟨b, vo, vd, e, h1, ip_keep h2 hr, h3.only hr za_byte, Nat.le_trans h4 hr.size⟩
                  | 18, _, _, hf => exact hf
                  | (n + 19), _, _, hf => exact hf
                · by_cases h17 : j = 17
                  · subst h17
                    obtain ⟨gb, r1, r2, r3, r4, r5⟩ := hr
                    match i, hij, hst, hf with
                    | 0, _, _, hf => exact hf
                    | 1, _, _, hf => exact hf
                    | 2, _, _, hf => exact hf
                    | 3, _, _, hf => exact hf
                    | 4, _, _, hf => exact hf
                    | 5, _, _, hf => exact hf
                    | 6, _, _, hf => exact hf
                    | 7, _, _, hf => exact hf
                    | 8, _, _, hf => exact hf
                    | 9, _, _, hf => exact hf
                    | 10, _, _, hf => exact hf
                    | 11, _, _, hf =>
                      obtain ⟨vo, vd, e, h1, h2⟩ := hf
                      exact ⟨vo, vd, e, h1.boxed r2 r3 r4 r5 r1, h2.boxed r2 r3 r5 r1⟩
                    | 12, _, _, hf =>
                      obtain ⟨vo, vd, e, h1, h2⟩ := hf
                      exact ⟨vo, vd, e, h1.boxed r2 r3 r4 r5 r1, by rw [r3.1]; exact h2⟩
                    | 13, _, _, hf =>
                      obtain ⟨vo, vd, e, h1, h2⟩ := hf
                      exact ⟨vo, vd, e, h1.boxed r2 r3 r4 r5 r1, by rw [r3.1]; exact h2⟩
                    | 14, _, _, hf => exact hf
                    | 15, _, _, hf => exact hf
                    | 16, _, hst, _ => exact absurd (hst.symm.trans (show stillFor .any _ P18N 16 17 = false by kernel_rfl)) (by decide)
                    | 17, hij, _, _ => exact absurd rfl hij
                    | 18, _, _, hf => exact hf
                    | (n + 19), _, _, hf => exact hf
                  · have hr2 : Grow u u' := by
                      unfold P18J at hr
                      rwa [if_neg h11, if_neg h17] at hr
                    exact P18G.grow hf hr2
              case hs18 =>
                refine ⟨fun x u hg hi hd post hp => ?_, fun x u hg hi hd post hp => ?_, fun x u hg hi hd post hp => ?_, fun x u hg hi hd post hp => ?_, fun x u hg hi hd post hp => ?_, fun x u hg hi hd post hp => ?_, fun x u hg hi hd post hp => ?_, fun x u hg hi hd post hp => ?_, fun x u hg hi hd post hp => ?_, fun x u hg hi hd post hp => ?_, fun x u hg hi hd post hp => ?_, fun x u hg hi hd post hp => ?_, fun x u hg hi hd post hp => ?_, fun x u hg hi hd post hp => ?_, fun x u hg hi hd post hp => ?_, fun x u hg hi hd post hp => ?_, fun x u hg hi hd post hp => ?_, fun x u hg hi hd post hp => ?_, fun x u hg hi hd post hp => ?_, trivial⟩
                · clear hd hi
                  go_simp
                  exact hp _ _ (fun h => h) (Grow.refl _) rfl
                · clear hd hi
                  go_simp
                  exact hp _ _ (fun h => h) (Grow.refl _) rfl
                · clear hd hi
                  go_simp
                  exact hp _ _ (fun h => h) (Grow.refl _) rfl
                · have h103 : x 103 = .slice (some ⟨ba, off, none⟩) N c0 := hd 1 (by decide)
                  have h104 : x 104 = .int .i64 (i : Int) := hd 2 (by decide)
                  clear hd hi
                  go_simp
                  exact hp _ _ (fun h => h) (Grow.refl _) rfl
                · have h105 : x 105 = .pointer (some ⟨ba, off + i * 13, none⟩) := hd 3 (by decide)
                  clear hd hi
                  go_simp
                  exact hp _ _ (fun h => h) (Grow.refl _) rfl
                · have gW := hg HP.out.gr
                  have z2 := (gW.cell (p := ⟨ba, off + i * 13 + 1, none⟩) HQ.out.2.2.2.2).trans HQ.out.1
                  have h106 : x 106 = .pointer (some ⟨ba, off + i * 13 + 1, none⟩) := hd 4 (by decide)
                  clear hd hi
                  go_simp
                  exact hp _ _ (fun h => h) (Grow.refl _) rfl
                · clear hd hi
                  go_simp
                  exact hp _ _ (fun h => h) (Grow.refl _) rfl
                · clear hd hi
                  go_simp
                  exact hp _ _ (fun h => h) (Grow.refl _) rfl
                · have h108 : x 108 = .slice (some ⟨ba, off, none⟩) N c0 := hd 6 (by decide)
                  have h109 : x 109 = .int .i64 (i : Int) := hd 7 (by decide)
                  clear hd hi
                  go_simp
                  exact hp _ _ (fun h => h) (Grow.refl _) rfl
                · have h110 : x 110 = .pointer (some ⟨ba, off + i * 13, none⟩) := hd 8 (by decide)
                  clear hd hi
                  go_simp
                  exact hp _ _ (fun h => h) (Grow.refl _) rfl
                · have gW := hg HP.out.gr
                  have h111 : x 111 = .pointer (some ⟨ba, off + i * 13 + 2, none⟩) := hd 9 (by decide)
                  have hq := PkAt.cells (HQ.out.2.1.grow gW HQ.out.2.2.2.2)
                  clear hd hi
                  refine loose_load_cs u rfl 38 (.tmp 111) rfl ba (off + i * 13 + 2) h111 _ hq _ Try.underlying38 rfl (by kernel_rfl) ?_
                  exact hp _ _ (fun h => h) (Grow.refl _) rfl
                · have h102 : x 102 = .pointer (some ⟨tb, 0, none⟩) := hd 0 (by decide)
                  have h107 : x 107 = .int .i64 now := hd 5 (by decide)
                  have h112 : x 112 = ipV k (.slice Ao k.opts.length co) (.slice Ad k.data.length cd) := hd 10 (by decide)
                  have hI : Pl w tb rb most life A (.slice Al nL cl) u := hi (by decide)
                  have cX := RsAdd_anyF u w.heap.size tb most life A hI.tab now k _ _ (HPC.out.grow hI.gr (Nat.le_refl _))
                  rw [← HRR.out] at cX
                  clear hd hi
                  go_simp
                  refine cX.mono ?_
                  rintro e u' ⟨vo', vd', rfl, k1, k2, k3⟩
                  exact ⟨_, rfl, hp _ _ (fun h => Below.trans h k3.low) k3 ⟨vo', vd', rfl, k1, Pl.went hI k2 k3⟩⟩
                · obtain ⟨vo', vd', h113, k1, k2⟩ := hd 11 (by decide)
                  have h113 : x 113 = .tuple #[ipV R.k vo' vd', .bool R.ok, .int .i64 R.e] := h113
                  clear hd hi
                  go_simp
                  exact hp _ _ (fun h => h) (Grow.refl _) ⟨vo', vd', rfl, k1, k2.gr.size⟩
                · obtain ⟨vo', vd', h101, k1, k2⟩ := hd 12 (by decide)
                  have h101 : x 101 = .tuple #[ipV R.k vo' vd', .bool R.ok, .int .i64 R.e] := h101
                  clear hd hi
                  go_simp
                  exact hp _ _ (fun h => h) (Grow.refl _) ⟨vo', vd', rfl, k1, k2⟩
                · obtain ⟨vo', vd', h101, k1, k2⟩ := hd 12 (by decide)
                  have h101 : x 101 = .tuple #[ipV R.k vo' vd', .bool R.ok, .int .i64 R.e] := h101
                  clear hd hi
                  go_simp
                  exact hp _ _ (fun h => h) (Grow.refl _) rfl
                · obtain ⟨vo', vd', h101, k1, k2⟩ := hd 12 (by decide)
                  have h101 : x 101 = .tuple #[ipV R.k vo' vd', .bool R.ok, .int .i64 R.e] := h101
                  clear hd hi
                  go_simp
                  exact hp _ _ (fun h => h) (Grow.refl _) rfl
                · have gW := hg HP.out.gr
                  clear hd hi
                  go_simp
                  exact hp _ _ (fun h => h.trans (Grow.alloc _ _)) (Grow.alloc _ _) ⟨_, rfl, gW.size, alloc_at _ _⟩
                · have gW := hg HP.out.gr
                  obtain ⟨vo', vd', h114, k1, k2⟩ := hd 13 (by decide)
                  have h114 : x 114 = ipV R.k vo' vd' := h114
                  obtain ⟨g, h14, hg0, hb0⟩ := hd 16 (by decide)
                  have h14 : x 14 = .pointer (some ⟨g, 0, none⟩) := h14
                  clear hd hi
                  refine upon_cs w u rfl 38 (.tmp 14) (.tmp 114) rfl g 0 (ipV R.k vo' vd') h14 h114 (pc ⟨R.k, vo', vd'⟩) rfl 38 _ (cellsP R.k vo' vd') hb0 (by kernel_rfl) (pc_one k1.1.1.one k1.2.1.1.one) (Nat.le_refl 11) rfl gW hg0 (fun u' h' hb' g' => hp _ _ (fun _ => g') ⟨g, hg0, hb0, hb', gW, g'⟩ ⟨g, vo', vd', h14, hg0, h', k1.boxed hb0 hb' gW g' hg0, g'.size⟩)
                · have h115 : x 115 = .bool R.ok := hd 14 (by decide)
                  clear hd hi
                  go_simp
                  exact hp _ _ (fun h => h) (Grow.refl _) rfl
              case fin18 =>
                intro x u hg hi hd
                have gW := hg HP.out.gr
                have h116 : x 116 = .int .i64 R.e := hd 15 (by decide)
                have h15 : x 15 = .bool R.ok := hd 18 (by decide)
                obtain ⟨_, _, _, _, k0⟩ := hd 11 (by decide)
                obtain ⟨g, vo', vd', h14, hg0, hb0, k1, _⟩ := hd 17 (by decide)
                have h14 : x 14 = .pointer (some ⟨g, 0, none⟩) := h14
                clear hd hi
                have H6 := Lib.hid (And.intro hb0 (And.intro k1 (And.intro k0 hg0)))
                clear gW hb0 k1 k0 hg0 hg
                go_simp
                go_wp2_with fail
                go_meet
                exact ⟨g, vo', vd', rfl, rfl, rfl, H6.out⟩
            case rest =>
              obtain ⟨gp, vo5, vd5, rfl, rfl, rfl, hH⟩ := hcut
              have H5 := Lib.hid (Hid.out hH)
              obtain ⟨w5, rfl⟩ : ∃ z, z = wc := ⟨_, rfl⟩
              have g5 : Grow w w5 := H5.out.2.2.1.gr
              clear hH
              go_upto_region 19 with fail
              go_cut [17, 18, 19, 20] from 117 to 133 (fun s17 s18 s19 s20 wx => ∃ g1 vL' g2 vo' vd', s17 = .pointer (some ⟨g1, 0, none⟩) ∧ s18 = .pointer (some ⟨g2, 0, none⟩) ∧ s19 = .bool R.ok ∧ s20 = .int .i64 R.e ∧ Hid (Grow w5 wx ∧ TbBlk wx g1 most life vL' ∧ RTab wx w.heap.size (.agg #[.int .i64 most, .int .i64 life, vL']) most life R.L ∧ Blk wx g2 R.k vo' vd' ∧ IpF w.heap.size wx vo' vd' R.k ∧ w5.heap.size ≤ g1 ∧ w5.heap.size ≤ g2))
              case first =>
                refine wp_region_tailX (A := ?frame19) (fun _ => True) [] trivial P19N (fun a b => Grow w5 a → Grow w5 b) (P19J w5) (fun a b c h1 h2 h3 => h2 (h1 h3)) (fun h => h.trans (Grow.drew _)) P19R (P19F w5 w.heap.size most life now (.slice Al nL cl) (.slice (some ⟨ba, off, none⟩) N c0) (.int .i64 (i : Int)) (.pointer (some ⟨ba, off + i * 13, none⟩)) (.pointer (some ⟨ba, off + i * 13 + 1, none⟩)) (.pointer (some ⟨ba, off + i * 13 + 2, none⟩)) (ipV k (.slice Ao k.opts.length co) (.slice Ad k.data.length cd)) R) 22 _ (by kernel_rfl) (by kernel_rfl) (by kernel_rfl) rfl rfl (by kernel_rfl) (by kernel_rfl) ?hI19 ?hF19 (fun x => ?frameEq19) ?hs19 ?fin19
                case frameEq19 => go_simp; rfl
                case hI19 =>
                  exact fun _ _ _ _ _ h => h
                case hF19 =>
                  intro i j vs u u' hij hst hr hf
                  by_cases h19 : j = 19
                  · subst h19
                    obtain ⟨gb, r1, r2, r3, r4, r5⟩ := hr
                    have oB := Only.but (g5.trans r4) (g5.trans r5) r3 (Nat.le_trans g5.size r1) r2
                    match i, hij, hst, hf with
                    | 0, _, _, hf => exact hf
                    | 1, _, _, hf => exact hf
                    | 2, _, _, hf => exact hf
                    | 3, _, _, hf => exact hf
                    | 4, _, _, hf => exact hf
                    | 5, _, _, hf => exact hf
                    | 6, _, _, hf => exact hf
                    | 7, _, _, hf => exact hf
                    | 8, _, _, hf => exact hf
                    | 9, _, _, hf => exact hf
                    | 10, _, _, hf => exact hf
                    | 11, _, _, hf =>
                      obtain ⟨vL1, vo, vd, e, h1, h2, h3⟩ := hf
                      exact ⟨vL1, vo, vd, e, h1.only oB (fun b => by decide) (fun b => by decide) (fun b => by decide), h2.only oB (fun b => by decide), by rw [r3.1]; exact h3⟩
                    | 12, _, _, hf =>
                      obtain ⟨vL1, vo, vd, e, h1, h2, h3⟩ := hf
                      exact ⟨vL1, vo, vd, e, h1.only oB (fun b => by decide) (fun b => by decide) (fun b => by decide), h2.only oB (fun b => by decide), by rw [r3.1]; exact h3⟩
                    | 13, _, _, hf =>
                      obtain ⟨vL1, e, h1, h3⟩ := hf
                      exact ⟨vL1, e, h1.only oB (fun b => by decide) (fun b => by decide) (fun b => by decide), by rw [r3.1]; exact h3⟩
                    | 14, _, _, hf =>
                      obtain ⟨vo, vd, e, h1, h2⟩ := hf
                      exact ⟨vo, vd, e, h1.only (Only.but (g5.trans r4) (g5.trans r5) r3 (Nat.le_trans g5.size r1) r2) (fun b => by decide), by rw [r3.1]; exact h2⟩
                    | 15, _, _, hf => exact hf
                    | 16, _, _, hf => exact hf
                    | 17, _, hst, _ => exact absurd (hst.symm.trans (show stillFor .any _ P19N 17 19 = false by kernel_rfl)) (by decide)
                    | 18, _, _, hf =>
                      obtain ⟨b, e, h1, h2⟩ := hf
                      exact ⟨b, e, h1, blk_tb h2 r2 r3⟩
                    | 19, hij, _, _ => exact absurd rfl hij
                    | 20, _, _, hf =>
                      obtain ⟨b, vo, vd, e, h1, h2, h3, h4⟩ := hf
                      exact ⟨b, vo, vd, e, h1, blk_tb h2 r2 r3, h3.only (Only.but (g5.trans r4) (g5.trans r5) r3 (Nat.le_trans g5.size r1) r2) (fun b => by decide), by rw [r3.1]; exact h4⟩
                    | 21, _, _, hf => exact hf
                    | (n + 22), _, _, hf => exact hf
                  · by_cases h20 : j = 20
                    · subst h20
                      obtain ⟨gb, r1, r2, r3, r4, r5⟩ := hr
                      have oB := Only.but (g5.trans r4) (g5.trans r5) r3 (Nat.le_trans g5.size r1) r2
                      match i, hij, hst, hf with
                      | 0, _, _, hf => exact hf
                      | 1, _, _, hf => exact hf
                      | 2, _, _, hf => exact hf
                      | 3, _, _, hf => exact hf
                      | 4, _, _, hf => exact hf
                      | 5, _, _, hf => exact hf
                      | 6, _, _, hf => exact hf
                      | 7, _, _, hf => exact hf
                      | 8, _, _, hf => exact hf
                      | 9, _, _, hf => exact hf
                      | 10, _, _, hf => exact hf
                      | 11, _, _, hf =>
                        obtain ⟨vL1, vo, vd, e, h1, h2, h3⟩ := hf
                        exact ⟨vL1, vo, vd, e, h1.only oB (fun b => by decide) (fun b => by decide) (fun b => by decide), h2.only oB (fun b => by decide), by rw [r3.1]; exact h3⟩
                      | 12, _, _, hf =>
                        obtain ⟨vL1, vo, vd, e, h1, h2, h3⟩ := hf
                        exact ⟨vL1, vo, vd, e, h1.only oB (fun b => by decide) (fun b => by decide) (fun b => by decide), h2.only oB (fun b => by decide), by rw [r3.1]; exact h3⟩
                      | 13, _, _, hf =>
                        obtain ⟨vL1, e, h1, h3⟩ := hf
                        exact ⟨vL1, e, h1.only oB (fun b => by decide) (fun b => by decide) (fun b => by decide), by rw [r3.1]; exact h3⟩
                      | 14, _, _, hf =>
                        obtain ⟨vo, vd, e, h1, h3⟩ := hf
                        exact ⟨vo, vd, e, h1.only oB (fun b => by decide), by rw [r3.1]; exact h3⟩
                      | 15, _, _, hf => exact hf
                      | 16, _, _, hf => exact hf
                      | 17, _, hst, _ => exact absurd (hst.symm.trans (show stillFor .any _ P19N 17 20 = false by kernel_rfl)) (by decide)
                      | 18, _, hst, _ => exact absurd (hst.symm.trans (show stillFor .any _ P19N 18 20 = false by kernel_rfl)) (by decide)
                      | 19, _, _, hf =>
                        obtain ⟨b, vL1, e, h1, h2, h3, h4⟩ := hf
                        exact ⟨b, vL1, e, h1, tb_blk h2 r2 r3, h3.only (Only.but (g5.trans r4) (g5.trans r5) r3 (Nat.le_trans g5.size r1) r2) (fun b => by decide) (fun b => by decide) (fun b => by decide), by rw [r3.1]; exact h4⟩
                      | 20, hij, _, _ => exact absurd rfl hij
                      | 21, _, _, hf => exact hf
                      | (n + 22), _, _, hf => exact hf
                    · have hr2 : Grow u u' := by
                        unfold P19J at hr
                        rwa [if_neg h19, if_neg h20] at hr
                      exact P19G.grow hf hr2
                case hs19 =>
                  refine ⟨fun x u hg hi hd post hp => ?_, fun x u hg hi hd post hp => ?_, fun x u hg hi hd post hp => ?_, fun x u hg hi hd post hp => ?_, fun x u hg hi hd post hp => ?_, fun x u hg hi hd post hp => ?_, fun x u hg hi hd post hp => ?_, fun x u hg hi hd post hp => ?_, fun x u hg hi hd post hp => ?_, fun x u hg hi hd post hp => ?_, fun x u hg hi hd post hp => ?_, fun x u hg hi hd post hp => ?_, fun x u hg hi hd post hp => ?_, fun x u hg hi hd post hp => ?_, fun x u hg hi hd post hp => ?_, fun x u hg hi hd post hp => ?_, fun x u hg hi hd post hp => ?_, fun x u hg hi hd post hp => ?_, fun x u hg hi hd post hp => ?_, fun x u hg hi hd post hp => ?_, fun x u hg hi hd post hp => ?_, fun x u hg hi hd post hp => ?_, trivial⟩
                  · have gW := hg (Grow.refl _)
                    have q0 := (H5.out.2.2.1.box.grow gW).c0
                    have q1 := (H5.out.2.2.1.box.grow gW).c1
                    have q2 := (H5.out.2.2.1.box.grow gW).c2
                    clear hd hi
                    go_simp
                    exact hp _ _ (fun h => h) (Grow.refl _) rfl
                  · clear hd hi
                    go_simp
                    exact hp _ _ (fun h => h) (Grow.refl _) rfl
                  · clear hd hi
                    go_simp
                    exact hp _ _ (fun h => h) (Grow.refl _) rfl
                  · have h119 : x 119 = .slice (some ⟨ba, off, none⟩) N c0 := hd 1 (by decide)
                    have h120 : x 120 = .int .i64 (i : Int) := hd 2 (by decide)
                    clear hd hi
                    go_simp
                    exact hp _ _ (fun h => h) (Grow.refl _) rfl
                  · have h121 : x 121 = .pointer (some ⟨ba, off + i * 13, none⟩) := hd 3 (by decide)
                    clear hd hi
                    go_simp
                    exact hp _ _ (fun h => h) (Grow.refl _) rfl
                  · have gW := hg (Grow.refl _)
                    have z2 := ((g5.trans gW).cell (p := ⟨ba, off + i * 13 + 1, none⟩) HQ.out.2.2.2.2).trans HQ.out.1
                    have h122 : x 122 = .pointer (some ⟨ba, off + i * 13 + 1, none⟩) := hd 4 (by decide)
                    clear hd hi
                    go_simp
                    exact hp _ _ (fun h => h) (Grow.refl _) rfl
                  · clear hd hi
                    go_simp
                    exact hp _ _ (fun h => h) (Grow.refl _) rfl
                  · clear hd hi
                    go_simp
                    exact hp _ _ (fun h => h) (Grow.refl _) rfl
                  · have h124 : x 124 = .slice (some ⟨ba, off, none⟩) N c0 := hd 6 (by decide)
                    have h125 : x 125 = .int .i64 (i : Int) := hd 7 (by decide)
                    clear hd hi
                    go_simp
                    exact hp _ _ (fun h => h) (Grow.refl _) rfl
                  · have h126 : x 126 = .pointer (some ⟨ba, off + i * 13, none⟩) := hd 8 (by decide)
                    clear hd hi
                    go_simp
                    exact hp _ _ (fun h => h) (Grow.refl _) rfl
                  · have gW := hg (Grow.refl _)
                    have h127 : x 127 = .pointer (some ⟨ba, off + i * 13 + 2, none⟩) := hd 9 (by decide)
                    have hq := PkAt.cells (HQ.out.2.1.grow (g5.trans gW) HQ.out.2.2.2.2)
                    clear hd hi
                    refine loose_load_cs u rfl 38 (.tmp 127) rfl ba (off + i * 13 + 2) h127 _ hq _ Try.underlying38 rfl (by kernel_rfl) ?_
                    exact hp _ _ (fun h => h) (Grow.refl _) rfl
                  · have gW := hg (Grow.refl _)
                    have h118 : x 118 = .agg #[.int .i64 most, .int .i64 life, .slice Al nL cl] := hd 0 (by decide)
                    have h123 : x 123 = .int .i64 now := hd 5 (by decide)
                    have h128 : x 128 = ipV k (.slice Ao k.opts.length co) (.slice Ad k.data.length cd) := hd 10 (by decide)
                    have cX := rAdd_any u w.heap.size _ most life A ((H5.out.2.2.1.rt).grow gW g5.size) (g5.trans gW).size now k _ _ (HPC.out.grow (g5.trans gW) (Nat.le_refl _)) HGD.out.2.2 H5.out.2.2.1.len HGD.out.2.1 H5.out.2.2.1.ok
                    rw [← HRR.out] at cX
                    clear hd hi
                    go_simp
                    refine cX.mono ?_
                    rintro e u' ⟨v', vo', vd', rfl, k1, k2, k3⟩
                    obtain ⟨vL', _, rfl, _⟩ := id k1
                    exact ⟨_, rfl, hp _ _ (fun h => h.trans k3) k3 ⟨vL', vo', vd', rfl, k1, k2, ((g5.trans gW).trans k3).size⟩⟩
                  · obtain ⟨vL', vo', vd', h129, k1, k2, k3⟩ := hd 11 (by decide)
                    have h129 : x 129 = (.tuple #[.agg #[.int .i64 most, .int .i64 life, vL'], ipV R.k vo' vd', .bool R.ok, .int .i64 R.e]) := h129
                    clear hd hi
                    go_simp
                    exact hp _ _ (fun h => h) (Grow.refl _) ⟨vL', vo', vd', rfl, k1, k2, k3⟩
                  · obtain ⟨vL', vo', vd', h117, k1, k2, k3⟩ := hd 12 (by decide)
                    have h117 : x 117 = (.tuple #[.agg #[.int .i64 most, .int .i64 life, vL'], ipV R.k vo' vd', .bool R.ok, .int .i64 R.e]) := h117
                    clear hd hi
                    go_simp
                    exact hp _ _ (fun h => h) (Grow.refl _) ⟨vL', rfl, k1, k3⟩
                  · obtain ⟨vL', vo', vd', h117, k1, k2, k3⟩ := hd 12 (by decide)
                    have h117 : x 117 = (.tuple #[.agg #[.int .i64 most, .int .i64 life, vL'], ipV R.k vo' vd', .bool R.ok, .int .i64 R.e]) := h117
                    clear hd hi
                    go_simp
                    exact hp _ _ (fun h => h) (Grow.refl _) ⟨vo', vd', rfl, k2, k3⟩
                  · obtain ⟨vL', vo', vd', h117, k1, k2, k3⟩ := hd 12 (by decide)
                    have h117 : x 117 = (.tuple #[.agg #[.int .i64 most, .int .i64 life, vL'], ipV R.k vo' vd', .bool R.ok, .int .i64 R.e]) := h117
                    clear hd hi
                    go_simp
                    exact hp _ _ (fun h => h) (Grow.refl _) rfl
                  · obtain ⟨vL', vo', vd', h117, k1, k2, k3⟩ := hd 12 (by decide)
                    have h117 : x 117 = (.tuple #[.agg #[.int .i64 most, .int .i64 life, vL'], ipV R.k vo' vd', .bool R.ok, .int .i64 R.e]) := h117
                    clear hd hi
                    go_simp
                    exact hp _ _ (fun h => h) (Grow.refl _) rfl
                  · have gW := hg (Grow.refl _)
                    clear hd hi
                    go_simp
                    exact hp _ _ (fun h => h.trans (Grow.alloc _ _)) (Grow.alloc _ _) ⟨_, rfl, gW.size, alloc_at _ _⟩
                  · have gW := hg (Grow.refl _)
                    clear hd hi
                    go_simp
                    exact hp _ _ (fun h => h.trans (Grow.alloc _ _)) (Grow.alloc _ _) ⟨_, rfl, gW.size, alloc_at _ _⟩
                  · have gW := hg (Grow.refl _)
                    obtain ⟨vL', h130, k1, k3⟩ := hd 13 (by decide)
                    have h130 : x 130 = .agg #[.int .i64 most, .int .i64 life, vL'] := h130
                    obtain ⟨g, h17, hg0, hb0⟩ := hd 17 (by decide)
                    have h17 : x 17 = .pointer (some ⟨g, 0, none⟩) := h17
                    clear hd hi
                    have hone : vL'.oneCell' = true := by
                      obtain ⟨vL0, l0, e0, hrow0, _⟩ := k1
                      simp only [Value.agg.injEq, Array.mk.injEq, List.cons.injEq, and_true, true_and] at e0
                      rw [e0]
                      exact ownsRow_one hrow0
                    refine upon_cs w5 u rfl 32 (.tmp 17) (.tmp 130) rfl g 0 (.agg #[.int .i64 most, .int .i64 life, vL']) h17 h130 [.int .i64 most, .int .i64 life, vL'] rfl 32 _ #[.int .i64 most, .int .i64 life, vL'] hb0 (by kernel_rfl) (tb_one hone) (Nat.le_refl 3) rfl gW hg0 (fun u' h' hb' g' => hp _ _ (fun _ => g') ⟨g, hg0, hb0, hb', gW, g'⟩ ⟨g, vL', h17, hg0, h', k1.only (Only.but (g5.trans gW) (g5.trans g') hb' (Nat.le_trans g5.size hg0) hb0) (fun b => by decide) (fun b => by decide) (fun b => by decide), (g5.trans g').size⟩)
                  · have gW := hg (Grow.refl _)
                    obtain ⟨vo', vd', h131, k1, k2⟩ := hd 14 (by decide)
                    have h131 : x 131 = ipV R.k vo' vd' := h131
                    obtain ⟨g, h18, hg0, hb0⟩ := hd 18 (by decide)
                    have h18 : x 18 = .pointer (some ⟨g, 0, none⟩) := h18
                    clear hd hi
                    refine upon_cs w5 u rfl 38 (.tmp 18) (.tmp 131) rfl g 0 (ipV R.k vo' vd') h18 h131 (pc ⟨R.k, vo', vd'⟩) rfl 38 _ (cellsP R.k vo' vd') hb0 (by kernel_rfl) (pc_one k1.1.1.one k1.2.1.1.one) (Nat.le_refl 11) rfl gW hg0 (fun u' h' hb' g' => hp _ _ (fun _ => g') ⟨g, hg0, hb0, hb', gW, g'⟩ ⟨g, vo', vd', h18, hg0, h', k1.boxed hb0 hb' (g5.trans gW) (g5.trans g') (Nat.le_trans g5.size hg0), (g5.trans g').size⟩)
                  · have h132 : x 132 = .bool R.ok := hd 15 (by decide)
                    clear hd hi
                    go_simp
                    exact hp _ _ (fun h => h) (Grow.refl _) rfl
                case fin19 =>
                  intro x u hg hi hd
                  have gW := hg (Grow.refl _)
                  have h133 : x 133 = .int .i64 R.e := hd 16 (by decide)
                  have h19 : x 19 = .bool R.ok := hd 21 (by decide)
                  obtain ⟨g1, vL', h17, hg1, hb1, k1, _⟩ := hd 19 (by decide)
                  have h17 : x 17 = .pointer (some ⟨g1, 0, none⟩) := h17
                  obtain ⟨g2, vo', vd', h18, hg2, hb2, k2, _⟩ := hd 20 (by decide)
                  have h18 : x 18 = .pointer (some ⟨g2, 0, none⟩) := h18
                  clear hd hi
                  have H6 := Lib.hid (And.intro gW (And.intro hb1 (And.intro k1 (And.intro hb2 (And.intro k2 (And.intro hg1 hg2))))))
                  clear gW hb1 k1 hb2 k2 hg1 hg2 hg
                  go_simp
                  go_wp2_with fail
                  go_meet
                  exact ⟨g1, vL', g2, vo', vd', rfl, rfl, rfl, rfl, H6.out⟩
              case rest =>
                obtain ⟨g1, vL6, g2, vo6, vd6, rfl, rfl, rfl, rfl, hH⟩ := hcut
                obtain ⟨A6, n6, c6, rfl⟩ : ∃ a n c, vL6 = .slice a n c := by
                  obtain ⟨vL0, l0, e0, hrow0, _⟩ := (Hid.out hH).2.2.1
                  simp only [Value.agg.injEq, Array.mk.injEq, List.cons.injEq, and_true, true_and] at e0
                  obtain ⟨a, c, e, _⟩ := (RdK.of_own hrow0).form
                  exact ⟨a, _, c, e0.trans e⟩
                have H6 := Lib.hid (Hid.out hH)
                obtain ⟨w6, rfl⟩ : ∃ z, z = wc := ⟨_, rfl⟩
                have q0 := H6.out.2.1.c0
                have q1 := H6.out.2.1.c1
                have q2 := H6.out.2.1.c2
                have hg6 : Grow w w6 := g5.trans H6.out.1
                clear hH
                have HBX := Lib.hid (H5.out.2.2.1.box.grow H6.out.1)
                go_upto_region 20 with fail
                go_cut [] from 134 to 134 (fun wx => Hid (Pl w tb rb most life R.L (.slice A6 n6 c6) wx ∧ But rb w6 wx ∧ Grow w wx))
                case first =>
                  go_wp2_with (show wpList _ _ _ (⟨none, .store 32 (.tmp 9) (.tmp 134), _, _, _, _⟩ :: _) _ _; refine wpList_store_tb w w6 rfl _ _ rfl rfl rb rfl most life (.slice A6 n6 c6) rfl rfl most life (.slice Al nL cl) HBX.out hg6 H5.out.2.2.1.low ?_; intro w7 h7 hb7 g7; have H7 := Lib.hid (And.intro h7 (And.intro hb7 g7)); clear h7 hb7 g7)
                  go_meet
                  exact ⟨Pm.met (H5.out.2.2.1.grow H6.out.1) H6.out.2.2.1 (by rw [HRR.out]; exact addS_len H5.out.2.2.1.len HGD.out.2.1) (by rw [HRR.out]; exact addS_ok H5.out.2.2.1.ok HPC.out.ok HPC.out.small) H7.out.1 H7.out.2.1 H7.out.2.2, H7.out.2.1, H7.out.2.2⟩
                case rest =>
                  have H7 := Lib.hid (Hid.out hcut)
                  obtain ⟨w7, rfl⟩ : ∃ z, z = wc := ⟨_, rfl⟩
                  clear hcut q0 q1 q2
                  have o7 := Only.but (g5.trans H6.out.1) H7.out.2.2 H7.out.2.1 H5.out.2.2.1.low HBX.out
                  have b1 : Blk w7 gp R.k vo5 vd5 := blk_tb (H5.out.1.grow H6.out.1) HBX.out H7.out.2.1
                  have b2 : Blk w7 g2 R.k vo6 vd6 := blk_tb H6.out.2.2.2.1 HBX.out H7.out.2.1
                  have f1 : IpF w.heap.size w7 vo5 vd5 R.k := (H5.out.2.1.grow H6.out.1 g5.size).only o7 (fun b => by decide)
                  have f2 : IpF w.heap.size w7 vo6 vd6 R.k := H6.out.2.2.2.2.1.only o7 (fun b => by decide)
                  obtain ⟨Ap, cp, ep, _⟩ := f1.1.1.form
                  obtain ⟨Aq, cq, eq, _⟩ := f1.2.1.1.form
                  obtain ⟨Ar, cr, er, _⟩ := f2.1.1.form
                  obtain ⟨As, cs, es, _⟩ := f2.2.1.1.form
                  have hre := addS_e most life now k A
                  rw [← HRR.out] at hre
                  obtain ⟨L', k', ok', e'⟩ := R
                  simp only at b1 b2 f1 f2 ep eq er es hre
                  subst ep
                  subst eq
                  subst er
                  subst es
                  have cS := RSame_yes _ _ k' k' w7 f1.ip f2.ip rfl
                  unfold ipV at cS
                  obtain ⟨y0, y1, y2, y3, y4, y5, y6, y7, y8, y9, y10⟩ := b1.boxd
                  obtain ⟨z0, z1, z2, z3, z4, z5, z6, z7, z8, z9, z10⟩ := b2.boxd
                  obtain ⟨hre1, hre2⟩ := hre
                  clear o7 b1 b2 f1 f2
                  cases ok' with
                  | true =>
                    go_wp2_with fail
                    refine cS.mono ?_
                    rintro e w8 ⟨rfl, hg8⟩
                    have H8 := Lib.hid (H7.out.1.grow hg8)
                    clear cS hg8 y0 y1 y2 y3 y4 y5 y6 y7 y8 y9 y10 z0 z1 z2 z3 z4 z5 z6 z7 z8 z9 z10
                    go_wp2_with fail
                    refine (rsLawCode_any e' _ (by omega) (by omega)).mono ?_
                    rintro e w9 ⟨rfl, rfl⟩
                    go_wp2_with fail
                    go_meet
                    exact ⟨_, _, H8.out⟩
                  | false =>
                    go_wp2_with fail
                    refine cS.mono ?_
                    rintro e w8 ⟨rfl, hg8⟩
                    have H8 := Lib.hid (H7.out.1.grow hg8)
                    clear cS hg8 y0 y1 y2 y3 y4 y5 y6 y7 y8 y9 y10 z0 z1 z2 z3 z4 z5 z6 z7 z8 z9 z10
                    go_wp2_with fail
                    refine (rsLawCode_any e' _ (by omega) (by omega)).mono ?_
                    rintro e w9 ⟨rfl, rfl⟩
                    go_wp2_with fail
                    go_meet
                    exact ⟨_, _, H8.out⟩
        case rest =>
          obtain ⟨A2, vL2, hH⟩ := hcut
          have H9 := Lib.hid (Hid.out hH)
          obtain ⟨w9, rfl⟩ : ∃ z, z = wc := ⟨_, rfl⟩
          clear hH x0 x1 hbar
          obtain ⟨A6, n6, c6, rfl⟩ : ∃ a n c, vL2 = .slice a n c := by
            obtain ⟨vL0, l0, e0, hrow0, _⟩ := H9.out.rt
            simp only [Value.agg.injEq, Array.mk.injEq, List.cons.injEq, and_true, true_and] at e0
            obtain ⟨a, c, e, _⟩ := (RdK.of_own hrow0).form
            exact ⟨a, _, c, e0.trans e⟩
          have HN6 : Hid (n6 = A2.length) := by
            obtain ⟨vL0, l0, e0, hrow0, _, h6⟩ := H9.out.rt
            simp only [Value.agg.injEq, Array.mk.injEq, List.cons.injEq, and_true, true_and] at e0
            obtain ⟨a, c, e, _⟩ := (RdK.of_own hrow0).form
            rw [← e0] at e
            simp only [Value.slice.injEq] at e
            show _ = _
            rw [e.2.1, ← h6, List.length_map, List.length_map]
          obtain ⟨bb, hbb⟩ : ∃ bb, bb = decide (A2 ≠ []) := ⟨_, rfl⟩
          have HBB := Lib.hid hbb
          have cN := Next_any w9 w.heap.size tb most life A2 H9.out.tab
          rw [← hbb] at cN
          clear hbb
          go_wp2_with fail
          refine cN.mono ?_
          rintro e wA ⟨a1, rfl, hm1', hgA⟩
          have HNA := Lib.hid (And.intro hm1' (H9.out.grow hgA))
          clear cN hm1' hgA
          have q0 := HNA.out.2.box.c0
          have q1 := HNA.out.2.box.c1
          have q2 := HNA.out.2.box.c2
          have cM := rNext_any wA w.heap.size _ most life A2 HNA.out.2.rt HNA.out.2.len
          rw [← HBB.out] at cM
          go_wp2_with fail
          refine cM.mono ?_
          rintro e wB ⟨a2, rfl, hm2', hgB⟩
          have ea : a2 = a1 := hm2'.eq HNA.out.1
          subst ea
          have HB := Lib.hid (HNA.out.2.grow hgB)
          clear cM hm2' hgB q0 q1 q2
          have q0 := fun q : Gw wB => (HB.out.box.grow q.h).c0
          have q1 := fun q : Gw wB => (HB.out.box.grow q.h).c1
          have q2 := fun q : Gw wB => (HB.out.box.grow q.h).c2
          have cL : ∀ p : Gw wB, Calls Try.prog 19 #[.pointer (some ⟨tb, 0, none⟩)] p.v fun e w' => e = .returned (.int .i64 (n6 : Int)) ∧ ∃ q : Gw wB, w' = q.v := fun p => by
            rw [HN6.out]
            exact Calls.gw (RsLen_any p.v w.heap.size tb most life A2 (HB.out.tab.grow p.h))
          have cH : ∀ p : Gw wB, Calls Try.prog 20 #[.pointer (some ⟨tb, 0, none⟩)] p.v fun e w' => e = .returned (.int .i64 ((A2.map fun t => cnt t.c).sum : Nat)) ∧ ∃ q : Gw wB, w' = q.v := fun p => Calls.gw (Held_any p.v w.heap.size tb most life A2 (HB.out.tab.grow p.h))
          have cR : ∀ p : Gw wB, Calls Try.prog 21 #[.agg #[.int .i64 most, .int .i64 life, .slice A6 n6 c6]] p.v fun e w' => e = .returned (.int .i64 ((A2.map fun t => cnt t.c).sum : Nat)) ∧ ∃ q : Gw wB, w' = q.v := fun p => Calls.gw (rHeld_any p.v w.heap.size _ most life A2 (HB.out.rt.grow p.h HB.out.gr.size) HB.out.len HB.out.ok)
          generalize ((A2.map fun t => cnt t.c).sum : Nat) = hs at *
          cases bb with
          | true =>
            go_wp2_with fail
            refine wp_region_gw (by kernel_rfl) (by kernel_rfl) ?_
            repeat (quiet_step (first | (go_at_call 19; exact cL _) | (go_at_call 20; exact cH _) | (go_at_call 21; exact cR _)))
            refine wpQuiet_nil ?_
            intro _ hw'
            obtain ⟨⟨wq, hgq⟩, hw2⟩ := hw'
            subst hw2
            have HZ := Lib.hid (HB.out.grow hgq)
            clear q0 q1 q2 cL cH cR hgq
            go_wp2_with fail
            go_roundg (N - (i + 1))
            case measure => omega
            case rel => exact ⟨i + 1, _, _, hlt, rfl, by go_num, HZ.out⟩
          | false =>
            go_wp2_with fail
            refine wp_region_gw (by kernel_rfl) (by kernel_rfl) ?_
            repeat (quiet_step (first | (go_at_call 19; exact cL _) | (go_at_call 20; exact cH _) | (go_at_call 21; exact cR _)))
            refine wpQuiet_nil ?_
            intro _ hw'
            obtain ⟨⟨wq, hgq⟩, hw2⟩ := hw'
            subst hw2
            have HZ := Lib.hid (HB.out.grow hgq)
            clear q0 q1 q2 cL cH cR hgq
            go_wp2_with fail
            go_roundg (N - (i + 1))
            case measure => omega
            case rel => exact ⟨i + 1, _, _, hlt, rfl, by go_num, HZ.out⟩
end Go.Proofs.Ytfjmcfkpbacicaa
