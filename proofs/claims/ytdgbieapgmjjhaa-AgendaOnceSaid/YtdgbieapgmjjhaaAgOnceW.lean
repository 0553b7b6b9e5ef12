/- AgendaOnce: its walk. -/
import Derived.Test.YtdgbieapgmjjhaaAgOnceA
namespace Go.Proofs.Ytdgbieapgmjjhaa
set_option linter.unusedVariables false
set_option linter.unusedSimpArgs false
attribute [local irreducible] wpQuiet
open Go.ChangeShapes Go.WideShapes Go.ChangeAt Go.RowKit

set_option maxRecDepth 100000 in
set_option maxHeartbeats 8000000 in
theorem agendaOnce_walk (w : World) {v : Value} {l : List En} (hl : RdIt w v l ∧ ∀ x ∈ l, EOk x) {u : Value} {ts : List Int} (ht : Ints w u ts) :
    Calls Try.prog 4 #[v, u] w fun e w' => e = .returned (.bool true) ∧ Below w.heap.size w w' := by
  have HV := Lib.hid hl
  have HT := Lib.hid ht
  have HC := Lib.hid (fun x w => code_any x w)
  have HLv := Lib.hid (fun w => alive_any w)
  obtain ⟨A0, cp0, e0, _, _⟩ := hl.1.form
  obtain ⟨A1, cp1, e1, _, _⟩ := ht
  obtain ⟨N, hN⟩ : ∃ N, N = l.length := ⟨_, rfl⟩
  obtain ⟨M, hM⟩ : ∃ M, M = ts.length := ⟨_, rfl⟩
  rw [← hN] at e0
  rw [← hM] at e1
  subst e0
  subst e1
  have HN := Lib.hid (And.intro hN hM)
  clear hl hN hM
  by_cases q : 150 < N
  · have q1 : (150 : Int) < (N : Int) := by omega
    go_enter Try.func4, Try.ntmps4
    go_wp2_with fail
    refine (HLv.out _).mono ?_
    rintro e w' ⟨rfl, g⟩
    have G := Lib.hid g
    clear g
    go_wp2_with fail
    go_ret
    exact ⟨rfl, G.out⟩
  by_cases q' : 100 < M
  · have q1 : ¬ ((150 : Int) < (N : Int)) := by omega
    have q2 : (100 : Int) < (M : Int) := by omega
    go_enter Try.func4, Try.ntmps4
    go_wp2_with fail
    refine (HLv.out _).mono ?_
    rintro e w' ⟨rfl, g⟩
    have G := Lib.hid g
    clear g
    go_wp2_with fail
    go_ret
    exact ⟨rfl, G.out⟩
  have q1 : ¬ ((150 : Int) < (N : Int)) := by omega
  have q2 : ¬ ((100 : Int) < (M : Int)) := by omega
  have HQ : Hid (N ≤ 150 ∧ M ≤ 100) := ⟨by omega, by omega⟩
  clear q q'
  have c0 := agNew_any w w.heap.size (Nat.le_refl _) 200 (by omega) (by omega)
  go_enter Try.func4, Try.ntmps4
  go_wp2_with fail
  refine c0.mono ?_
  rintro e w1 ⟨rfl, h1, g1⟩
  obtain ⟨ab, hab⟩ : ∃ ab, ab = w.heap.size + 1 := ⟨_, rfl⟩
  obtain ⟨mb, hmb⟩ : ∃ mb, mb = w.heap.size := ⟨_, rfl⟩
  have H1 : Hid (On1 w w1 ab mb 0 [] (.slice none 0 0)) := ⟨by rw [hab, hmb]; exact h1, Its.none _ _, Nat.le_refl _, (fun e he => by cases he), g1⟩
  rw [← hab]
  clear c0 h1 g1 q1 q2 hab hmb
  go_wp2_with fail
  refine (HC.out _ _).mono ?_
  rintro e w' ⟨rfl, hw⟩
  subst w'
  go_wp2_with fail
  go_loopg [7, 8] N (fun gk s7 s8 wr => ∃ (k : Nat) (L : List En) (A : Option Addr) (n c : Nat), gk = N - k ∧ s7 = .slice A n c ∧ s8 = .int .i64 (k : Int) ∧ Hid (k ≤ N ∧ n = L.length ∧ On1 w wr ab mb k L (.slice A n c)))
  case atStart => exact ⟨0, [], none, 0, 0, rfl, rfl, rfl, Nat.zero_le _, rfl, H1.out⟩
  case round =>
    obtain ⟨k, L, A, n, c, rfl, rfl, rfl, HR⟩ := hrel
    rename World => wa
    clear H1
    rcases Nat.lt_or_ge k N with hlt | hge
    · obtain ⟨b, off, c', e1, hb, hc⟩ := HV.out.1.cell (by have := HN.out.1; omega)
      obtain ⟨x0, x1, x2⟩ := hc k (by have := HN.out.1; omega)
      have hA : A0 = some ⟨b, off, none⟩ := by injection e1
      have hz : EOk (pt l k) := HV.out.2 _ (pt_in (by have := HN.out.1; omega))
      obtain ⟨z, hzz⟩ : ∃ z, z = pt l k := ⟨_, rfl⟩
      rw [← hzz] at x0 x1 x2 hz
      obtain ⟨zi, za, zr, zn⟩ := z
      have g := HR.out.2.2.g
      have y0 := (g.cell (p := ⟨b, off + k * 3, none⟩) hb).trans x0
      have y1 := (g.cell (p := ⟨b, off + k * 3 + 1, none⟩) hb).trans x1
      have y2 := (g.cell (p := ⟨b, off + k * 3 + 2, none⟩) hb).trans x2
      have i0 : (k : Int) < (N : Int) := by omega
      have kb : k < 150 := by have := HQ.out.1; omega
      have HZ := Lib.hid (And.intro hz (And.intro hlt (And.intro hb (And.intro x0 (And.intro x1 x2)))))
      subst hA
      clear e1 hc x0 x1 x2 hz hzz hb g hlt
      by_cases hx : ∃ e ∈ L, e.id = zi
      · have c1 := agPush_same HR.out.2.2.q zi za zr hx
        clear hx
        go_wp2_with fail
        refine c1.mono ?_
        rintro e w2 ⟨rfl, g2⟩
        have G2 := Lib.hid g2
        clear c1 g2 y0 y1 y2
        go_wp2_with fail
        refine (HC.out _ _).mono ?_
        rintro e w' ⟨rfl, hw⟩
        subst w'
        go_wp2_with fail
        go_roundg (N - (k + 1))
        case measure => have := HZ.out.2.1; omega
        case rel => exact ⟨k + 1, L, A, n, c, rfl, rfl, by go_num, by have := HZ.out.2.1; omega, HR.out.2.1, HR.out.2.2.same G2.out⟩
      · have hx' : ∀ e ∈ L, e.id ≠ zi := fun e he q => hx ⟨e, he, q⟩
        have hll : L.length ≤ 150 := by have := HR.out.2.2.le; have := HR.out.1; have := HQ.out.1; omega
        have c1 := agPush_ok wa _ _ _ L 200 _ HR.out.2.2.q (by omega) (by omega) zi za zr hx' (by omega)
        clear hx hx'
        go_wp2_with fail
        refine c1.mono ?_
        rintro e w2 ⟨rfl, h2, o2⟩
        have g2 : Grow w w2 := Below.trans HR.out.2.2.g o2.low
        have hb := HZ.out.2.2.1
        have z0 := (g2.cell (p := ⟨b, off + k * 3, none⟩) hb).trans HZ.out.2.2.2.1
        have z1 := (g2.cell (p := ⟨b, off + k * 3 + 1, none⟩) hb).trans HZ.out.2.2.2.2.1
        have z2 := (g2.cell (p := ⟨b, off + k * 3 + 2, none⟩) hb).trans HZ.out.2.2.2.2.2
        have H2 : Hid (Agd w2 w.heap.size ab mb (L ++ [⟨zi, za, zr, (L.length : Int)⟩]) 200 ((L.length : Int) + 1) ∧ Its w2 w.heap.size (.slice A n c) L ∧ Grow w w2 ∧ L.length ≤ 150) := ⟨h2, HR.out.2.2.row.only o2 zq_it, g2, hll⟩
        clear c1 h2 o2 g2 hb hll y0 y1 y2
        go_wp2_with fail
        refine (HC.out _ _).mono ?_
        rintro e w' ⟨rfl, hw⟩
        subst w'
        go_wp2_with (at_builtin; refine run_itapp2 w2 w.heap.size (.slice A n c) L ⟨zi, za, zr, (L.length : Int)⟩ H2.out.2.1 H2.out.2.2.1.size (by have := H2.out.2.2.2; omega) rfl (.tmp 48) (.tmp 53) rfl rfl rfl ?_; intro v5 w5 hr5 o5 p5 n5; obtain ⟨A5, c5, hv5⟩ := hr5.form; obtain ⟨m5, hm5⟩ : ∃ m5, m5 = (L ++ [⟨zi, za, zr, (L.length : Int)⟩] : List En).length := ⟨_, rfl⟩; rw [← hm5] at hv5; subst hv5; have H5 : Hid (On1 w w5 ab mb (k + 1) (L ++ [⟨zi, za, zr, (L.length : Int)⟩]) (.slice A5 m5 c5) ∧ m5 = (L ++ [⟨zi, za, zr, (L.length : Int)⟩] : List En).length) := ⟨⟨by rw [List.length_append]; exact H2.out.1.onlyG o5 zi_ag zi_mp zi_en, hr5, by rw [List.length_append, List.length_singleton]; have := HR.out.2.2.le; omega, (fun e he => by rcases List.mem_append.1 he with a | a; exact HR.out.2.2.ok e a; rw [List.mem_singleton.1 a]; exact HZ.out.1), Below.trans H2.out.2.2.1 o5.low⟩, hm5⟩; clear hr5 o5 p5 n5 hm5)
        go_roundg (N - (k + 1))
        case measure => have := HZ.out.2.1; omega
        case rel => exact ⟨k + 1, _, A5, m5, c5, rfl, rfl, by go_num, by have := HZ.out.2.1; omega, H5.out.2, H5.out.1⟩
    · obtain rfl : k = N := by have := HR.out.1; omega
      clear hge
      have H2 : Hid (L.length ≤ 150 ∧ (∀ e ∈ L, EOk e) ∧ (L.map En.id).Nodup ∧ n = L.length) := ⟨by have := HR.out.2.2.le; have := HQ.out.1; omega, HR.out.2.2.ok, HR.out.2.2.q.nod, HR.out.2.1⟩
      have H3 : Hid (On2 w wa ab mb L [] L (.slice A n c) (.slice none 0 0)) := ⟨HR.out.2.2.q, HR.out.2.2.row, Its.none _ _, apt_none _, List.Perm.refl _, HR.out.2.2.g⟩
      clear HR
      go_wp2_with fail
      go_loopg [9, 10] M (fun gk s9 s10 wr => ∃ (i : Nat) (O F : List En) (B : Option Addr) (m d : Nat), gk = M - i ∧ s9 = .slice B m d ∧ s10 = .int .i64 (i : Int) ∧ Hid (i ≤ M ∧ m = O.length ∧ On2 w wr ab mb L O F (.slice A n c) (.slice B m d)))
      case atStart => exact ⟨0, [], L, none, 0, 0, rfl, rfl, rfl, Nat.zero_le _, rfl, H3.out⟩
      case round =>
        obtain ⟨i, O, F, B, m, d, rfl, rfl, rfl, HR⟩ := hrel
        rename World => wb
        clear H3
        rcases Nat.lt_or_ge i M with hlt | hge
        · obtain ⟨A2, c2, e2, _, _, _, h2⟩ := HT.out
          obtain ⟨bt, ot, hbt, hbl, hct⟩ := h2 (by have := HN.out.2; omega)
          obtain ⟨tk, htk⟩ : ∃ tk, ts[i]? = some tk := ⟨_, List.getElem?_eq_getElem (by have := HN.out.2; omega)⟩
          have x0 := hct i tk htk
          have hA : A1 = some ⟨bt, ot, none⟩ := by rw [hbt] at e2; injection e2
          have y0 := (HR.out.2.2.g.cell (p := ⟨bt, ot + i, none⟩) hbl).trans x0
          have i0 : (i : Int) < (M : Int) := by omega
          have ib : i < 100 := by have := HQ.out.2; omega
          have HZ := Lib.hid (And.intro hlt (And.intro hbl x0))
          subst hA
          have hpF := HR.out.2.2.perm.length_eq
          rw [List.length_append] at hpF
          have c1 := agPop_any wb _ _ _ F _ _ tk HR.out.2.2.q (by have := H2.out.1; omega)
          clear e2 h2 hbt hbl hct htk x0 hlt hpF
          go_wp2_with fail
          refine c1.mono ?_
          rintro e w2 ⟨s2, rfl, r2, h2, o2⟩
          obtain ⟨D, hD⟩ : ∃ D, D = sortE (F.filter fun e => decide (e.at_ ≤ tk)) := ⟨_, rfl⟩
          obtain ⟨F', hF'⟩ : ∃ F', F' = F.filter fun e => decide (tk < e.at_) := ⟨_, rfl⟩
          rw [← hD] at r2
          rw [← hF'] at h2
          have hsrt : SrtE D := by rw [hD]; exact sortE_srt (HR.out.2.2.q.nos.filter _)
          have hle : ∀ x ∈ D, x.at_ ≤ tk := fun x hx => by
            rw [hD] at hx
            exact of_decide_eq_true (List.mem_filter.1 ((sortE_perm _).mem_iff.1 hx)).2
          have hpm : (O ++ D ++ F').Perm L := by rw [hD, hF']; exact split_perm HR.out.2.2.perm
          have hpl := hpm.length_eq
          rw [List.length_append, List.length_append] at hpl
          obtain ⟨A3, c3, e3⟩ := r2.form
          obtain ⟨nd, hnd⟩ : ∃ nd, nd = D.length := ⟨_, rfl⟩
          rw [← hnd] at e3
          subst e3
          have HD : Hid (SrtE D ∧ (∀ x ∈ D, x.at_ ≤ tk) ∧ (O ++ D ++ F').Perm L ∧ nd = D.length ∧ nd ≤ 150 ∧ O.length ≤ 150) := ⟨hsrt, hle, hpm, hnd, by have := H2.out.1; omega, by have := H2.out.1; omega⟩
          have H5 : Hid (On3 w w2 ab mb 0 L O D F' (.slice A n c) (.slice B m d) (.slice A3 nd c3)) := ⟨h2, HR.out.2.2.inr.only o2 zq_it, by rw [List.take_zero, List.append_nil]; exact HR.out.2.2.out.only o2 zq_it, r2.base_ HR.out.2.2.g.size, HR.out.2.2.apt, Its.apt HR.out.2.2.out r2 (Nat.le_refl _), Below.trans HR.out.2.2.g o2.low⟩
          have HM := Lib.hid HR.out.2.1
          clear c1 r2 h2 o2 hD hF' hsrt hle hpm hpl hnd y0 HR
          go_wp2_with fail
          go_loopg [9, 12] nd (fun gk s9 s12 wr => ∃ (k : Nat) (B : Option Addr) (m d : Nat), gk = nd - k ∧ s9 = .slice B m d ∧ s12 = .int .i64 (k : Int) ∧ Hid (k ≤ nd ∧ m = O.length + k ∧ On3 w wr ab mb k L O D F' (.slice A n c) (.slice B m d) (.slice A3 nd c3)))
          case atStart => exact ⟨0, B, m, d, rfl, rfl, rfl, Nat.zero_le _, HM.out, H5.out⟩
          case round =>
            clear H5 HM B m d
            obtain ⟨k, B, m, d, rfl, rfl, rfl, HR⟩ := hrel
            rename World => wd
            rcases Nat.lt_or_ge k nd with hlt | hge
            · obtain ⟨hn1, hn2, hn3⟩ := next_told (now := tk) H2.out.2.2.1 HD.out.2.2.1 (by rw [← HD.out.2.2.2.1]; exact hlt) HD.out.1
              obtain ⟨jn, hjn⟩ := posE_some hn2
              have hkD : k < D.length := by rw [← HD.out.2.2.2.1]; exact hlt
              have hle := HD.out.2.1 _ (pt_in hkD)
              have cO : ∀ p : Gw wd, _ := fun p => Calls.gw_same (p := p) ((rPlaceE_any p.v _ _ (HR.out.2.2.out.rd.grow p.h) (by rw [List.length_append, List.length_take]; have := HD.out.2.2.2.2; omega) (pt D k).id (-1) (.inl ⟨hn1, rfl⟩)).mono fun e w' h => ⟨h.1, h.2.symm⟩)
              have cI : ∀ p : Gw wd, _ := fun p => Calls.gw_same (p := p) ((rPlaceE_any p.v _ _ (HR.out.2.2.inr.rd.grow p.h) (by have := H2.out.1; omega) (pt D k).id _ hjn).mono fun e w' h => ⟨h.1, h.2.symm⟩)
              obtain ⟨gd, od, cd, e3, hgl, hc⟩ := HR.out.2.2.due.rd.cell (by omega)
              have hA3 : A3 = some ⟨gd, od, none⟩ := by injection e3
              subst hA3
              obtain ⟨y0, y1, y2⟩ := hc k hkD
              have t0 := (HR.out.2.2.g.cell (p := ⟨bt, ot + i, none⟩) HZ.out.2.1).trans HZ.out.2.2
              have hbt : bt < wd.heap.size := Nat.lt_of_lt_of_le HZ.out.2.1 HR.out.2.2.g.size
              have t0g := fun p : Gw wd => Gw.cell (p := p) (a := ⟨bt, ot + i, none⟩) hbt t0
              have k0 : (k : Int) < (nd : Int) := by omega
              have kb : k < 150 := by have := HD.out.2.2.2.2; omega
              have d1 : ¬ (tk < (pt D k).at_) := by omega
              have d2 : ¬ ((jn : Int) < 0) := by omega
              have HY : Hid (k < nd ∧ k < D.length ∧ gd < wd.heap.size ∧ wd.cell? ⟨gd, od + k * 3, none⟩ = some (.int .i64 (pt D k).id) ∧ wd.cell? ⟨gd, od + k * 3 + 1, none⟩ = some (.int .i64 (pt D k).at_) ∧ wd.cell? ⟨gd, od + k * 3 + 2, none⟩ = some (.int .i64 (pt D k).rk)) := ⟨hlt, hkD, hgl, y0, y1, y2⟩
              obtain ⟨x, hx⟩ : ∃ x, x = pt D k := ⟨_, rfl⟩
              rw [← hx] at cO cI y0 y1 y2 d1
              have HX := Lib.hid (And.intro hx HY.out)
              have y0g := fun p : Gw wd => Gw.cell (p := p) (a := ⟨gd, od + k * 3, none⟩) hgl y0
              have y1g := fun p : Gw wd => Gw.cell (p := p) (a := ⟨gd, od + k * 3 + 1, none⟩) hgl y1
              have y2g := fun p : Gw wd => Gw.cell (p := p) (a := ⟨gd, od + k * 3 + 2, none⟩) hgl y2
              clear t0 hbt y0 y1 y2
              rcases Nat.eq_zero_or_pos k with hz | hz
              · have q3 : ¬ ((0 : Int) < (k : Int)) := by omega
                clear hn1 hn2 hn3 hjn hle e3 hc hkD hlt hx HY hz hgl
                go_wp2_with fail
                have d1b : decide (tk < x.at_) = false := decide_eq_false (by omega)
                have d2b : decide ((jn : Int) < 0) = false := decide_eq_false (by omega)
                have q3b : decide ((0 : Int) < (k : Int)) = false := decide_eq_false (by omega)
                have q3n : decide (0 < k) = false := decide_eq_false (by omega)
                refine wp_region_gw (by kernel_rfl) (by kernel_rfl) ?_
                iterate 18 (go_big_quiet_step ((go_at_call 22; exact cO _)))
                clear cO
                repeat (go_big_quiet_step ((go_at_call 22; exact cI _)))
                refine wpQuiet_nil ?_
                intro wq hw'
                obtain ⟨⟨w9, hgq⟩, hw2⟩ := hw'
                subst hw2
                have z0 := (hgq.cell (p := ⟨gd, od + k * 3, none⟩) HX.out.2.2.2.1).trans HX.out.2.2.2.2.1
                have z1 := (hgq.cell (p := ⟨gd, od + k * 3 + 1, none⟩) HX.out.2.2.2.1).trans HX.out.2.2.2.2.2.1
                have z2 := (hgq.cell (p := ⟨gd, od + k * 3 + 2, none⟩) HX.out.2.2.2.1).trans HX.out.2.2.2.2.2.2
                rw [← HX.out.1] at z0 z1 z2
                have HS := Lib.hid (HR.out.2.2.grow hgq)
                clear cI t0g y0g y1g y2g hgq
                go_wp2_with (at_builtin; refine run_itapp2 wq w.heap.size (.slice B m d) (O ++ D.take k) x HS.out.out HS.out.g.size (by rw [List.length_append, List.length_take]; have := HD.out.2.2.2.2; omega) rfl (.tmp 149) (.tmp 154) rfl rfl rfl ?_; intro v5 w5 hr5 o5 p5 n5; obtain ⟨A5, c5, hv5⟩ := hr5.form; obtain ⟨m5, hm5⟩ : ∃ m5, m5 = ((O ++ D.take k) ++ [x] : List En).length := ⟨_, rfl⟩; rw [← hm5] at hv5; subst hv5; have H7 : Hid (m5 = O.length + (k + 1) ∧ On3 w w5 ab mb (k + 1) L O D F' (.slice A n c) (.slice A5 m5 c5) (.slice (some ⟨gd, od, none⟩) nd c3)) := ⟨by rw [hm5, List.length_append, List.length_append, List.length_take, List.length_singleton]; have := HX.out.2.2.1; omega, HS.out.q.onlyG o5 zi_ag zi_mp zi_en, HS.out.inr.pst p5 HS.out.apt, by rw [take_next HX.out.2.2.1, ← HX.out.1]; exact hr5, HS.out.due.pst p5 HS.out.aptd, HS.out.apt.new HS.out.inr n5, HS.out.aptd.new HS.out.due n5, Below.trans HS.out.g o5.low⟩; clear hr5 o5 p5 n5 hm5)
                go_roundg (nd - (k + 1))
                case measure => have := HX.out.2.1; omega
                case rel => exact ⟨k + 1, A5, m5, c5, rfl, rfl, by go_num, by have := HX.out.2.1; omega, H7.out⟩
              · obtain ⟨m1, hm1⟩ : ∃ m1, k = m1 + 1 := ⟨k - 1, by omega⟩
                obtain ⟨p0, p1, p2⟩ := hc m1 (by omega)
                obtain ⟨n1, n2⟩ := hn3 m1 (by omega)
                rw [← hx] at n1 n2
                generalize pt D m1 = z at *
                obtain ⟨zi, za, zr, zn⟩ := z
                have p1g := fun p : Gw wd => Gw.cell (p := p) (a := ⟨gd, od + m1 * 3 + 1, none⟩) hgl p1
                have p2g := fun p : Gw wd => Gw.cell (p := p) (a := ⟨gd, od + m1 * 3 + 2, none⟩) hgl p2
                clear p0 p1 p2
                have q0 : (m1 : Int) < (nd : Int) := by omega
                have q1 : (k : Int) - 1 = (m1 : Int) := by omega
                have q2 : IntKind.i64.wrap ((k : Int) - 1) = (m1 : Int) := by rw [q1]; exact IntWalk.i64_in _ (by omega)
                have q3 : (0 : Int) < (k : Int) := by omega
                clear hn1 hn2 hn3 hjn hle e3 hc hkD hlt hx HY hm1 hz q1 hgl
                by_cases heq : za = x.at_
                · have n2' : ¬ (x.rk < zr) := n2 heq
                  subst heq
                  clear n1 n2
                  go_wp2_with fail
                  have d1b : decide (tk < x.at_) = false := decide_eq_false (by omega)
                  have d2b : decide ((jn : Int) < 0) = false := decide_eq_false (by omega)
                  have q3b : decide ((0 : Int) < (k : Int)) = true := decide_eq_true (by omega)
                  have q3n : decide (0 < k) = true := decide_eq_true (by omega)
                  have q4b : decide (x.rk < zr) = false := decide_eq_false (by omega)
                  refine wp_region_gw (by kernel_rfl) (by kernel_rfl) ?_
                  iterate 18 (go_big_quiet_step ((go_at_call 22; exact cO _)))
                  clear cO
                  repeat (go_big_quiet_step ((go_at_call 22; exact cI _)))
                  refine wpQuiet_nil ?_
                  intro wq hw'
                  obtain ⟨⟨w9, hgq⟩, hw2⟩ := hw'
                  subst hw2
                  have z0 := (hgq.cell (p := ⟨gd, od + k * 3, none⟩) HX.out.2.2.2.1).trans HX.out.2.2.2.2.1
                  have z1 := (hgq.cell (p := ⟨gd, od + k * 3 + 1, none⟩) HX.out.2.2.2.1).trans HX.out.2.2.2.2.2.1
                  have z2 := (hgq.cell (p := ⟨gd, od + k * 3 + 2, none⟩) HX.out.2.2.2.1).trans HX.out.2.2.2.2.2.2
                  rw [← HX.out.1] at z0 z1 z2
                  have HS := Lib.hid (HR.out.2.2.grow hgq)
                  clear cI t0g y0g y1g y2g hgq
                  go_wp2_with (at_builtin; refine run_itapp2 wq w.heap.size (.slice B m d) (O ++ D.take k) x HS.out.out HS.out.g.size (by rw [List.length_append, List.length_take]; have := HD.out.2.2.2.2; omega) rfl (.tmp 149) (.tmp 154) rfl rfl rfl ?_; intro v5 w5 hr5 o5 p5 n5; obtain ⟨A5, c5, hv5⟩ := hr5.form; obtain ⟨m5, hm5⟩ : ∃ m5, m5 = ((O ++ D.take k) ++ [x] : List En).length := ⟨_, rfl⟩; rw [← hm5] at hv5; subst hv5; have H7 : Hid (m5 = O.length + (k + 1) ∧ On3 w w5 ab mb (k + 1) L O D F' (.slice A n c) (.slice A5 m5 c5) (.slice (some ⟨gd, od, none⟩) nd c3)) := ⟨by rw [hm5, List.length_append, List.length_append, List.length_take, List.length_singleton]; have := HX.out.2.2.1; omega, HS.out.q.onlyG o5 zi_ag zi_mp zi_en, HS.out.inr.pst p5 HS.out.apt, by rw [take_next HX.out.2.2.1, ← HX.out.1]; exact hr5, HS.out.due.pst p5 HS.out.aptd, HS.out.apt.new HS.out.inr n5, HS.out.aptd.new HS.out.due n5, Below.trans HS.out.g o5.low⟩; clear hr5 o5 p5 n5 hm5)
                  go_roundg (nd - (k + 1))
                  case measure => have := HX.out.2.1; omega
                  case rel => exact ⟨k + 1, A5, m5, c5, rfl, rfl, by go_num, by have := HX.out.2.1; omega, H7.out⟩
                · have n1' : ¬ (x.at_ < za) := n1
                  have heq' : (za == x.at_) = false := by rw [beq_eq_false_iff_ne]; exact heq
                  clear n1 n2
                  go_wp2_with fail
                  have d1b : decide (tk < x.at_) = false := decide_eq_false (by omega)
                  have d2b : decide ((jn : Int) < 0) = false := decide_eq_false (by omega)
                  have q3b : decide ((0 : Int) < (k : Int)) = true := decide_eq_true (by omega)
                  have q3n : decide (0 < k) = true := decide_eq_true (by omega)
                  have q4b : decide (x.at_ < za) = false := decide_eq_false (by omega)
                  have q5b : (za == x.at_) = false := by rw [beq_eq_false_iff_ne]; exact heq
                  have q6b : decide (za = x.at_) = false := decide_eq_false heq
                  refine wp_region_gw (by kernel_rfl) (by kernel_rfl) ?_
                  iterate 18 (go_big_quiet_step ((go_at_call 22; exact cO _)))
                  clear cO
                  repeat (go_big_quiet_step ((go_at_call 22; exact cI _)))
                  refine wpQuiet_nil ?_
                  intro wq hw'
                  obtain ⟨⟨w9, hgq⟩, hw2⟩ := hw'
                  subst hw2
                  have z0 := (hgq.cell (p := ⟨gd, od + k * 3, none⟩) HX.out.2.2.2.1).trans HX.out.2.2.2.2.1
                  have z1 := (hgq.cell (p := ⟨gd, od + k * 3 + 1, none⟩) HX.out.2.2.2.1).trans HX.out.2.2.2.2.2.1
                  have z2 := (hgq.cell (p := ⟨gd, od + k * 3 + 2, none⟩) HX.out.2.2.2.1).trans HX.out.2.2.2.2.2.2
                  rw [← HX.out.1] at z0 z1 z2
                  have HS := Lib.hid (HR.out.2.2.grow hgq)
                  clear cI t0g y0g y1g y2g hgq
                  go_wp2_with (at_builtin; refine run_itapp2 wq w.heap.size (.slice B m d) (O ++ D.take k) x HS.out.out HS.out.g.size (by rw [List.length_append, List.length_take]; have := HD.out.2.2.2.2; omega) rfl (.tmp 149) (.tmp 154) rfl rfl rfl ?_; intro v5 w5 hr5 o5 p5 n5; obtain ⟨A5, c5, hv5⟩ := hr5.form; obtain ⟨m5, hm5⟩ : ∃ m5, m5 = ((O ++ D.take k) ++ [x] : List En).length := ⟨_, rfl⟩; rw [← hm5] at hv5; subst hv5; have H7 : Hid (m5 = O.length + (k + 1) ∧ On3 w w5 ab mb (k + 1) L O D F' (.slice A n c) (.slice A5 m5 c5) (.slice (some ⟨gd, od, none⟩) nd c3)) := ⟨by rw [hm5, List.length_append, List.length_append, List.length_take, List.length_singleton]; have := HX.out.2.2.1; omega, HS.out.q.onlyG o5 zi_ag zi_mp zi_en, HS.out.inr.pst p5 HS.out.apt, by rw [take_next HX.out.2.2.1, ← HX.out.1]; exact hr5, HS.out.due.pst p5 HS.out.aptd, HS.out.apt.new HS.out.inr n5, HS.out.aptd.new HS.out.due n5, Below.trans HS.out.g o5.low⟩; clear hr5 o5 p5 n5 hm5)
                  go_roundg (nd - (k + 1))
                  case measure => have := HX.out.2.1; omega
                  case rel => exact ⟨k + 1, A5, m5, c5, rfl, rfl, by go_num, by have := HX.out.2.1; omega, H7.out⟩
            · obtain rfl : k = nd := by have := HR.out.1; omega
              have HE : Hid (m = (O ++ D).length ∧ On2 w wd ab mb L (O ++ D) F' (.slice A n c) (.slice B m d)) := ⟨by rw [List.length_append, ← HD.out.2.2.2.1]; exact HR.out.2.1, HR.out.2.2.q, HR.out.2.2.inr, by have := HR.out.2.2.out; rw [HD.out.2.2.2.1, List.take_length] at this; exact this, HR.out.2.2.apt, HD.out.2.2.1, HR.out.2.2.g⟩
              clear HR hge
              go_wp2_with fail
              go_roundg (M - (i + 1))
              case measure => have := HZ.out.1; omega
              case rel => exact ⟨i + 1, O ++ D, F', B, m, d, rfl, rfl, by go_num, by have := HZ.out.1; omega, HE.out⟩
        · obtain rfl : i = M := by have := HR.out.1; omega
          have hpF := HR.out.2.2.perm.length_eq
          rw [List.length_append] at hpF
          have c1 := agPop_any wb _ _ _ F _ _ 9223372036854775807 HR.out.2.2.q (by have := H2.out.1; omega)
          have hF : ∀ e ∈ F, e.at_ ≤ 9223372036854775807 := fun e he => (H2.out.2.1 e (HR.out.2.2.perm.mem_iff.1 (List.mem_append_right _ he))).2.1.2
          rw [List.filter_eq_self.2 (fun e he => decide_eq_true (hF e he)), List.filter_eq_nil_iff.2 (fun e he => by have := hF e he; simp; omega)] at c1
          have HF := Lib.hid (And.intro hpF (And.intro HR.out.2.1 HR.out.2.2.g))
          clear hpF hF hge HR
          go_wp2_with fail
          refine c1.mono ?_
          rintro e w2 ⟨s2, rfl, r2, h2, o2⟩
          obtain ⟨A3, c3, e3⟩ := r2.form
          rw [sortE_len] at e3
          obtain ⟨nf, hnf⟩ : ∃ nf, nf = F.length := ⟨_, rfl⟩
          rw [← hnf] at e3
          subst e3
          have HE : Hid (m + nf = n ∧ n ≤ 150 ∧ Grow w w2) := ⟨by rw [HF.out.2.1, hnf, H2.out.2.2.2]; exact HF.out.1, by rw [H2.out.2.2.2]; exact H2.out.1, Below.trans HF.out.2.2 o2.low⟩
          have cA := agLen_any h2
          have s1 : (m : Int) + (nf : Int) = (n : Int) := by have := HE.out.1; omega
          have s3 : IntKind.i64.wrap (n : Int) = (n : Int) := IntWalk.i64_in _ (by have := HE.out.2.1; omega)
          have s2 : IntKind.i64.wrap ((m : Int) + (nf : Int)) = (n : Int) := by rw [s1]; exact s3
          have sb : m < 1000 ∧ nf < 1000 ∧ n < 1000 := by have := HE.out; omega
          clear c1 r2 h2 o2 hnf HF
          go_wp2_with fail
          refine cA.mono ?_
          rintro e w' ⟨rfl, hw⟩
          subst w'
          go_wp2_with fail
          refine (HLv.out _).mono ?_
          rintro e w' ⟨rfl, g⟩
          have G := Lib.hid g
          clear g cA
          go_wp2_with fail
          go_ret
          exact ⟨rfl, Grow.trans HE.out.2.2 G.out⟩
end Go.Proofs.Ytdgbieapgmjjhaa
