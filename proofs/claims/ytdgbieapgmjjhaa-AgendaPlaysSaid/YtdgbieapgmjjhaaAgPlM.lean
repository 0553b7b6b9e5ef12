/- AgendaPlays: the calls played. -/
import Derived.Test.YtdgbieapgmjjhaaAgPlW
namespace Go.Proofs.Ytdgbieapgmjjhaa
set_option linter.unusedVariables false
set_option linter.unusedSimpArgs false
open Go.ChangeShapes Go.WideShapes Go.ChangeAt Go.RowKit

theorem rdit_stays (l : List En) : stays (fun v q => RdIt q v l) := fun _ _ _ g h => RdIt.grow h g
set_option maxRecDepth 100000 in
set_option maxHeartbeats 8000000 in
theorem aplays_main (w : World) (mo : Int) {v : Value} {l : List Aa} (hl : Aas w v l) (h : l.length ≤ 150) (h1 : 1 ≤ mo) (h2 : mo ≤ 4096) : Calls Try.prog 3 #[.int .i64 mo, v] w fun e w' => e = .returned (.bool true) ∧ Below w.heap.size w w' := by
  have HL0 := Lib.hid hl
  obtain ⟨A, c, rfl, _⟩ := hl
  have c0 := agNew_any w w.heap.size (Nat.le_refl _) mo h1 h2
  have i0 : ¬ ((150 : Int) < (l.length : Int)) := by omega
  have i1 : ¬ (4096 < mo) := by omega
  have i2 : ¬ (mo < 1) := by omega
  have HC := Lib.hid (fun x w => code_any x w)
  obtain ⟨n, hnl⟩ : ∃ n, n = l.length := ⟨_, rfl⟩
  rw [← hnl] at i0 HL0 ⊢
  have HB : Hid (n = l.length ∧ n ≤ 150) := ⟨hnl, by omega⟩
  clear hnl h h1 h2
  go_enter Try.func3, Try.ntmps3
  go_wp2_with fail
  refine c0.mono ?_
  rintro e w1 ⟨rfl, h1, g1⟩
  obtain ⟨ab, hab⟩ : ∃ ab, ab = w.heap.size + 1 := ⟨_, rfl⟩
  obtain ⟨mb, hmb⟩ : ∃ mb, mb = w.heap.size := ⟨_, rfl⟩
  have H1 : Hid (PlA w w1 ab mb mo 0 [] (.slice none 0 0)) := ⟨⟨0, by rw [hab, hmb]; exact h1, Int.le_refl _⟩, Its.none _ _, Nat.le_refl _, g1⟩
  rw [← hab]
  clear c0 h1 g1 hab hmb
  go_wp2_with fail
  refine (HC.out _ _).mono ?_
  rintro e w' ⟨rfl, hw⟩
  subst w'
  go_wp2_with fail
  clear i0 i1 i2
  go_loopg [7, 8] n (fun gk s7 s8 wr => ∃ (i : Nat) (A7 : Option Addr) (n7 c7 : Nat) (L : List En), gk = n - i ∧ s8 = .int .i64 (i : Int) ∧ s7 = .slice A7 n7 c7 ∧ Hid (i ≤ n ∧ n7 = L.length ∧ PlA w wr ab mb mo i L (.slice A7 n7 c7)))
  case atStart => exact ⟨0, none, 0, 0, [], rfl, rfl, rfl, Nat.zero_le _, rfl, H1.out⟩
  case round =>
    obtain ⟨i, A7, n7, c7, L, rfl, rfl, rfl, HR⟩ := hrel
    rename World => wo
    clear H1
    rcases Nat.lt_or_ge i n with hlt | hge
    · obtain ⟨x, hx⟩ : ∃ x, l[i]? = some x := ⟨_, List.getElem?_eq_getElem (by have := HB.out.1; omega)⟩
      obtain ⟨A', c', e1, _, _, _, h4⟩ := HL0.out.grow HR.out.2.2.g
      obtain ⟨b, off, hg, hbl, hc⟩ := h4 (by have := HB.out.1; omega)
      have e2 : A = some ⟨b, off, none⟩ := by
        rw [hg] at e1
        injection e1
      obtain ⟨k0, k1, k2, k3⟩ := hc i x hx
      have t0 : (i : Int) < (n : Int) := by omega
      obtain ⟨j, hj⟩ : ∃ j, j = i + 1 := ⟨_, rfl⟩
      have n1 : (i : Int) + 1 = (j : Int) := by omega
      have n2 : IntKind.i64.wrap (j : Int) = (j : Int) := IntWalk.i64_in _ (by have := HB.out; omega)
      have n3 : IntKind.i64.wrap ((i : Int) + 1) = (j : Int) := by rw [n1]; exact n2
      have HJ : Hid (j = i + 1 ∧ i < n ∧ n ≤ 150) := ⟨hj, hlt, HB.out.2⟩
      subst e2
      clear e1 h4 hg hbl hc hx hj hlt
      obtain ⟨d, xi, xa, xr, xz⟩ := x
      simp only at k0 k1 k2 k3
      obtain ⟨ga, hga⟩ : ∃ ga, ga = wo.heap.size := ⟨_, rfl⟩
      obtain ⟨wA, hwA⟩ : ∃ wA, wA = wo.alloc (.cells #[.int .i64 xi, .int .i64 xa, .int .i64 xr] 31) := ⟨_, rfl⟩
      have gA : Grow wo wA := by rw [hwA]; exact Grow.alloc _ _
      have hAct : ItAt wA ga ⟨xi, xa, xr, xz⟩ := by rw [hwA, hga]; exact heap_alloc_new wo _
      have kd : wA.cell? ⟨b, off + i * 4, none⟩ = some (.int .i64 d) := (gA.cell (p := ⟨b, off + i * 4, none⟩) (block_of_cell k0)).trans k0
      have HP : Hid (PlA w wA ab mb mo i L (.slice A7 n7 c7) ∧ ItAt wA ga ⟨xi, xa, xr, xz⟩) := ⟨HR.out.2.2.grow gA, hAct⟩
      have HWA := Lib.hid (And.intro hwA hga)
      clear gA hAct hwA hga
      go_upto_region 13 with fail
      rw [← HWA.out.1, ← HWA.out.2]
      clear k0 k1 k2 k3
      go_upto_block 2 with fail
      clear kd t0
      go_cut [7, 10, 11, 12, 13, 14, 15, 16, 17] from 69 to 139 (fun s7 s10 s11 _ _ _ _ _ _ wx => ∃ (A' : Option Addr) (n' c' : Nat) (L' : List En) (f : Int), s7 = .slice A' n' c' ∧ s10 = .int .i64 f ∧ s11 = .int .i64 f ∧ Hid (n' = L'.length ∧ PlA w wx ab mb mo j L' (.slice A' n' c')))
      case first =>
        have y0 := HP.out.2.c0
        have y1 := HP.out.2.c1
        have y2 := HP.out.2.c2
        have hi : i ≤ 1000 := by have := HJ.out; omega
        by_cases q0 : d = 0
        · subst q0
          obtain ⟨f, cS⟩ := push_both HP.out.1 hi xi xa xr
          clear hi
          go_wp2_with fail
          refine cS.mono ?_
          rintro e w2 ⟨rfl, o2, cR⟩
          have hA2 := HP.out.2.only o2
          have z0 := hA2.c0
          have z1 := hA2.c1
          have z2 := hA2.c2
          clear cS o2 hA2 y0 y1 y2
          go_wp2_with fail
          refine (HC.out _ _).mono ?_
          rintro e w' ⟨rfl, hw⟩
          subst w'
          go_wp2_with fail
          refine cR.mono ?_
          rintro e w3 ⟨A', n', c', rfl, L', hl, hW, g3⟩
          have HX : Hid (n' = L'.length ∧ PlA w w3 ab mb mo j L' (.slice A' n' c')) := ⟨hl, by rw [HJ.out.1]; exact hW⟩
          clear cR hl hW g3 z0 z1 z2
          go_wp2_with fail
          go_meet
          exact ⟨A', n', c', L', f, rfl, rfl, rfl, HX.out⟩
        · have p0 : (d == 0) = false := by rw [beq_eq_false_iff_ne]; exact q0
          by_cases q1 : d = 1
          · subst q1
            obtain ⟨f, cS⟩ := move_both HP.out.1 hi xi xa xr
            clear hi
            go_wp2_with fail
            refine cS.mono ?_
            rintro e w2 ⟨rfl, o2, cR⟩
            have hA2 := HP.out.2.only o2
            have z0 := hA2.c0
            have z1 := hA2.c1
            have z2 := hA2.c2
            clear cS o2 hA2 y0 y1 y2
            go_wp2_with fail
            refine (HC.out _ _).mono ?_
            rintro e w' ⟨rfl, hw⟩
            subst w'
            go_wp2_with fail
            refine cR.mono ?_
            rintro e w3 ⟨A', n', c', rfl, L', hl, hW, g3⟩
            have HX : Hid (n' = L'.length ∧ PlA w w3 ab mb mo j L' (.slice A' n' c')) := ⟨hl, by rw [HJ.out.1]; exact hW⟩
            clear cR hl hW g3 z0 z1 z2
            go_wp2_with fail
            go_meet
            exact ⟨A', n', c', L', f, rfl, rfl, rfl, HX.out⟩
          · have p1 : (d == 1) = false := by rw [beq_eq_false_iff_ne]; exact q1
            by_cases q2 : d = 2
            · subst q2
              obtain ⟨f, cS⟩ := drop_both HP.out.1 hi xi
              clear hi y1 y2
              go_wp2_with fail
              refine cS.mono ?_
              rintro e w2 ⟨rfl, o2, cR⟩
              have hA2 := HP.out.2.only o2
              have z0 := hA2.c0
              clear cS o2 hA2 y0
              go_wp2_with fail
              refine cR.mono ?_
              rintro e w3 ⟨A', n', c', rfl, L', hl, hW, g3⟩
              have HX : Hid (n' = L'.length ∧ PlA w w3 ab mb mo j L' (.slice A' n' c')) := ⟨hl, by rw [HJ.out.1]; exact hW⟩
              clear cR hl hW g3 z0
              go_wp2_with fail
              go_meet
              exact ⟨A', n', c', L', 0, rfl, rfl, rfl, HX.out⟩
            · have p2 : (d == 2) = false := by rw [beq_eq_false_iff_ne]; exact q2
              by_cases q3 : d = 3
              · subst q3
                have cS := pop_both HP.out.1 hi xa
                clear hi y0 y2
                go_wp2_with fail
                refine cS.mono ?_
                rintro e w2 ⟨Ax, nx, cx, rfl, o2, cR⟩
                have hA2 := HP.out.2.only o2
                have z1 := hA2.c1
                clear cS o2 hA2 y1
                go_wp2_with fail
                refine cR.mono ?_
                rintro e w3 ⟨A', n', c', A2, n2', c2, rfl, L', hl, hW, g3, cM⟩
                have HX : Hid (n' = L'.length ∧ PlA w w3 ab mb mo j L' (.slice A' n' c')) := ⟨hl, by rw [HJ.out.1]; exact hW⟩
                clear cR hl hW g3 z1
                go_wp2_with fail
                refine cM.mono ?_
                rintro e w4 ⟨rfl, g4⟩
                have HY : Hid (n' = L'.length ∧ PlA w w4 ab mb mo j L' (.slice A' n' c')) := ⟨HX.out.1, HX.out.2.grow g4⟩
                clear cM g4
                go_wp2_with fail
                go_meet
                exact ⟨A', n', c', L', 0, rfl, rfl, rfl, HY.out⟩
              · have p3 : (d == 3) = false := by rw [beq_eq_false_iff_ne]; exact q3
                have HX : Hid (n7 = L.length ∧ PlA w wA ab mb mo j L (.slice A7 n7 c7)) := ⟨HR.out.2.1, by rw [HJ.out.1]; exact HP.out.1.next⟩
                clear y0 y1 y2 q0 q1 q2 q3 hi
                go_wp2_with fail
                go_meet
                exact ⟨A7, n7, c7, L, 0, rfl, rfl, rfl, HX.out⟩
      case rest =>
        obtain ⟨A', n', c', L', f, rfl, rfl, rfl, HX⟩ := hcut
        obtain ⟨pu, hq, hpu⟩ := HX.out.2.q
        have HL := Lib.hid (show L'.length ≤ 200 by have := HX.out.2.len; have := HJ.out; omega)
        have cR := rAllE_any wc _ L' HX.out.2.row.rd (by have := HL.out; omega)
        have HQ0 := Lib.hid hq
        clear hq hpu
        go_wp2_with fail
        refine cR.mono ?_
        rintro e w3 ⟨vA, rfl, rA, g3⟩
        obtain ⟨A3, c3, hv3⟩ := rA.form
        rw [sortE_len, ← HX.out.1] at hv3
        subst hv3
        have H3 : Hid (PlA w w3 ab mb mo j L' (.slice A' n' c') ∧ Its w3 wc.heap.size (.slice A3 n' c3) (sortE L') ∧ n' = L'.length) := ⟨HX.out.2.grow g3, rA, HX.out.1⟩
        have HQ : Hid (Agd w3 w.heap.size ab mb L' mo pu ∧ True) := ⟨HQ0.out.grow g3, trivial⟩
        clear cR rA g3
        rcases Nat.eq_zero_or_pos n' with hz | hz
        · subst hz
          have hL0 : L' = [] := List.eq_nil_of_length_eq_zero H3.out.2.2.symm
          have cT := agTop_empty (hL0 ▸ HQ.out.1)
          have HL00 := Lib.hid hL0
          clear hL0
          go_wp2_with fail
          refine cT.mono ?_
          rintro e w4 ⟨rfl, g4⟩
          obtain ⟨W, hW⟩ : ∃ W, W = w4.alloc (.cells #[.int .i64 0, .int .i64 0, .int .i64 0] 31) := ⟨_, rfl⟩
          have H4 : Hid (Grow w3 W) := by
            rw [hW]
            exact Grow.trans g4 (Grow.alloc _ _)
          have HA : Hid (∀ w1, Grow W w1 → Calls Try.prog 20 #[.pointer (some ⟨ab, 0, none⟩)] w1 fun e w2 => ∃ v', e = .returned v' ∧ Its w2 w1.heap.size v' (sortE L') ∧ Grow w1 w2) := fun w1 g => agAll_any (((HQ.out.1.grow H4.out).grow g)) (by have := HL.out; omega)
          have HLn : Hid (∀ w1, Grow W w1 → Calls Try.prog 21 #[.pointer (some ⟨ab, 0, none⟩)] w1 fun e w' => e = .returned (.int .i64 (0 : Int)) ∧ w' = w1) := fun w1 g => by
            have := agLen_any ((HQ.out.1.grow H4.out).grow g)
            rwa [← H3.out.2.2] at this
          have HS : Hid (∀ w1 v', Grow W w1 → RdIt w1 v' (sortE L') → Calls Try.prog 17 #[v', .slice A3 0 c3] w1 fun e w' => e = .returned (.bool true) ∧ Grow w1 w') := fun w1 v' g r => rSameE_any w1 _ _ _ r (((H3.out.2.1.grow H4.out).grow g).rd) (by rw [sortE_len]; have := HL.out; omega)
          clear cT g4
          go_upto_region 35 with fail
          rw [← hW]
          have HW := Lib.hid hW
          clear hW
          refine wp_region_loose (A := ?frame35) (inList (isV (.int .i64 f) :: isV (.int .i64 f) :: isV (.bool false) :: isV (.bool false) :: isV (.pointer (some ⟨ab, 0, none⟩)) :: (fun v q => RdIt q v (sortE L')) :: isV (.slice A3 0 c3) :: isV (.bool true) :: isV (.bool false) :: isV (.bool false) :: isV (.bool false) :: isV (.pointer (some ⟨ab, 0, none⟩)) :: isV (.int .i64 0) :: isV (.slice A' 0 c') :: isV (.int .i64 0) :: isV (.bool false) :: isV (.bool false) :: isV (.bool false) :: isV (.bool false) :: isV (.slice A' 0 c') :: isV (.int .i64 0) :: isV (.bool false) :: isV (.bool false) :: isV (.bool false) :: isV (.bool false) :: isV (.bool false) :: isV (.bool false) :: isV (undef) :: isV (undef) :: isV (undef) :: isV (undef) :: isV (undef) :: isV (.bool false) :: isV (.bool false) :: [])) (by kernel_rfl) (by kernel_rfl) (inList_stays ?_) (fun x => ?frameEq35) ?_ ?_
          case frameEq35 => go_simp; rfl
          · intro f hf
            simp only [List.mem_cons, List.not_mem_nil, or_false] at hf
            rcases hf with rfl | rfl | rfl | rfl | rfl | rfl | rfl | rfl | rfl | rfl | rfl | rfl | rfl | rfl | rfl | rfl | rfl | rfl | rfl | rfl | rfl | rfl | rfl | rfl | rfl | rfl | rfl | rfl | rfl | rfl | rfl | rfl | rfl | rfl <;> first | exact isV_stays _ | exact isB_stays _ | exact isBs_stays _ | exact rdit_stays _
          · refine ⟨fun x w1 hg hd post hp => ?_, fun x w1 hg hd post hp => ?_, fun x w1 hg hd post hp => ?_, fun x w1 hg hd post hp => ?_, fun x w1 hg hd post hp => ?_, fun x w1 hg hd post hp => ?_, fun x w1 hg hd post hp => ?_, fun x w1 hg hd post hp => ?_, fun x w1 hg hd post hp => ?_, fun x w1 hg hd post hp => ?_, fun x w1 hg hd post hp => ?_, fun x w1 hg hd post hp => ?_, fun x w1 hg hd post hp => ?_, fun x w1 hg hd post hp => ?_, fun x w1 hg hd post hp => ?_, fun x w1 hg hd post hp => ?_, fun x w1 hg hd post hp => ?_, fun x w1 hg hd post hp => ?_, fun x w1 hg hd post hp => ?_, fun x w1 hg hd post hp => ?_, fun x w1 hg hd post hp => ?_, fun x w1 hg hd post hp => ?_, fun x w1 hg hd post hp => ?_, fun x w1 hg hd post hp => ?_, fun x w1 hg hd post hp => ?_, fun x w1 hg hd post hp => ?_, fun x w1 hg hd post hp => ?_, fun x w1 hg hd post hp => ?_, fun x w1 hg hd post hp => ?_, fun x w1 hg hd post hp => ?_, fun x w1 hg hd post hp => ?_, fun x w1 hg hd post hp => ?_, fun x w1 hg hd post hp => ?_, fun x w1 hg hd post hp => ?_, trivial⟩
            · -- 0: slot 146: Op.move t10
              clear hd
              go_simp
              exact hp _ _ (Grow.refl _) rfl
            · -- 1: slot 147: Op.move t11
              clear hd
              go_simp
              exact hp _ _ (Grow.refl _) rfl
            · -- 2: slot 148: Op.binOp BinOp.neq 3 t146 t147 3
              have h146 : x 146 = .int .i64 f := hd 0 (by decide) _ rfl
              have h147 : x 147 = .int .i64 f := hd 1 (by decide) _ rfl
              clear hd
              go_simp
              exact hp _ _ (Grow.refl _) rfl
            · -- 3: slot 149: Op.move t148
              have h148 : x 148 = .bool false := hd 2 (by decide) _ rfl
              clear hd
              go_simp
              exact hp _ _ (Grow.refl _) rfl
            · -- 4: slot 150: Op.move t5
              have h149 : x 149 = .bool false := hd 3 (by decide) _ rfl
              clear hd
              go_simp
              exact hp _ _ (Grow.refl _) rfl
            · -- 5: slot 151: Op.call { value (Operand.func 20), args := #[t150], argTypes := #[24] }
              have h150 : x 150 = .pointer (some ⟨ab, 0, none⟩) := hd 4 (by decide) _ rfl
              have h149 : x 149 = .bool false := hd 3 (by decide) _ rfl
              clear hd
              go_simp
              refine (HA.out _ hg).mono ?_
              rintro e w2 ⟨v2, rfl, r2, g2⟩
              exact ⟨_, rfl, hp _ _ g2 r2.rd⟩
            · -- 6: slot 152: Op.move t18
              have h149 : x 149 = .bool false := hd 3 (by decide) _ rfl
              clear hd
              go_simp
              exact hp _ _ (Grow.refl _) rfl
            · -- 7: slot 153: Op.call { value (Operand.func 17), args := #[t151, t152], argTypes := #[29, 29] 
              have h151 : (fun v q => RdIt q v (sortE L')) (x 151) w1 := hd 5 (by decide) _ rfl
              have h152 : x 152 = .slice A3 0 c3 := hd 6 (by decide) _ rfl
              have h149 : x 149 = .bool false := hd 3 (by decide) _ rfl
              clear hd
              have r1 : RdIt w1 (x 151) (sortE L') := h151
              clear h151
              go_simp
              refine (HS.out _ _ hg r1).mono ?_
              rintro e w2 ⟨rfl, g2⟩
              exact ⟨_, rfl, hp _ _ g2 rfl⟩
            · -- 8: slot 154: Op.unOp UnOp.not 4 t153
              have h153 : x 153 = .bool true := hd 7 (by decide) _ rfl
              have h149 : x 149 = .bool false := hd 3 (by decide) _ rfl
              clear hd
              go_simp
              exact hp _ _ (Grow.refl _) rfl
            · -- 9: slot 155: Op.pick t149 (const (Value.bool true)) t154
              have h149 : x 149 = .bool false := hd 3 (by decide) _ rfl
              have h154 : x 154 = .bool false := hd 8 (by decide) _ rfl
              clear hd
              go_simp
              exact hp _ _ (Grow.refl _) rfl
            · -- 10: slot 156: Op.move t155
              have h155 : x 155 = .bool false := hd 9 (by decide) _ rfl
              clear hd
              go_simp
              exact hp _ _ (Grow.refl _) rfl
            · -- 11: slot 157: Op.move t5
              have h156 : x 156 = .bool false := hd 10 (by decide) _ rfl
              clear hd
              go_simp
              exact hp _ _ (Grow.refl _) rfl
            · -- 12: slot 158: Op.call { value (Operand.func 21), args := #[t157], argTypes := #[24] }
              have h157 : x 157 = .pointer (some ⟨ab, 0, none⟩) := hd 11 (by decide) _ rfl
              have h156 : x 156 = .bool false := hd 10 (by decide) _ rfl
              clear hd
              go_simp
              refine (HLn.out _ hg).mono ?_
              rintro e w2 ⟨rfl, rfl⟩
              exact ⟨_, rfl, hp _ _ (Grow.refl _) rfl⟩
            · -- 13: slot 159: Op.move t7
              have h156 : x 156 = .bool false := hd 10 (by decide) _ rfl
              clear hd
              go_simp
              exact hp _ _ (Grow.refl _) rfl
            · -- 14: slot 160: Op.call { builtin len, args := #[t159], argTypes := #[29] }
              have h159 : x 159 = .slice A' 0 c' := hd 13 (by decide) _ rfl
              have h156 : x 156 = .bool false := hd 10 (by decide) _ rfl
              clear hd
              go_simp
              exact hp _ _ (Grow.refl _) rfl
            · -- 15: slot 161: Op.binOp BinOp.neq 3 t158 t160 3
              have h158 : x 158 = .int .i64 0 := hd 12 (by decide) _ rfl
              have h160 : x 160 = .int .i64 0 := hd 14 (by decide) _ rfl
              have h156 : x 156 = .bool false := hd 10 (by decide) _ rfl
              clear hd
              go_simp
              exact hp _ _ (Grow.refl _) rfl
            · -- 16: slot 162: Op.pick t156 (const (Value.bool true)) t161
              have h156 : x 156 = .bool false := hd 10 (by decide) _ rfl
              have h161 : x 161 = .bool false := hd 15 (by decide) _ rfl
              clear hd
              go_simp
              exact hp _ _ (Grow.refl _) rfl
            · -- 17: slot 163: Op.move t162
              have h162 : x 162 = .bool false := hd 16 (by decide) _ rfl
              clear hd
              go_simp
              exact hp _ _ (Grow.refl _) rfl
            · -- 18: slot 164: Op.move t20
              have h163 : x 163 = .bool false := hd 17 (by decide) _ rfl
              clear hd
              go_simp
              exact hp _ _ (Grow.refl _) rfl
            · -- 19: slot 165: Op.move t7
              have h163 : x 163 = .bool false := hd 17 (by decide) _ rfl
              clear hd
              go_simp
              exact hp _ _ (Grow.refl _) rfl
            · -- 20: slot 166: Op.call { builtin len, args := #[t165], argTypes := #[29] }
              have h165 : x 165 = .slice A' 0 c' := hd 19 (by decide) _ rfl
              have h163 : x 163 = .bool false := hd 17 (by decide) _ rfl
              clear hd
              go_simp
              exact hp _ _ (Grow.refl _) rfl
            · -- 21: slot 167: Op.binOp BinOp.gtr 3 t166 (const (0:i64)) 3
              have h166 : x 166 = .int .i64 0 := hd 20 (by decide) _ rfl
              have h163 : x 163 = .bool false := hd 17 (by decide) _ rfl
              clear hd
              go_simp
              exact hp _ _ (Grow.refl _) rfl
            · -- 22: slot 168: Op.binOp BinOp.neq 4 t164 t167 4
              have h164 : x 164 = .bool false := hd 18 (by decide) _ rfl
              have h167 : x 167 = .bool false := hd 21 (by decide) _ rfl
              have h163 : x 163 = .bool false := hd 17 (by decide) _ rfl
              clear hd
              go_simp
              exact hp _ _ (Grow.refl _) rfl
            · -- 23: slot 169: Op.pick t163 (const (Value.bool true)) t168
              have h163 : x 163 = .bool false := hd 17 (by decide) _ rfl
              have h168 : x 168 = .bool false := hd 22 (by decide) _ rfl
              clear hd
              go_simp
              exact hp _ _ (Grow.refl _) rfl
            · -- 24: slot 170: Op.move t169
              have h169 : x 169 = .bool false := hd 23 (by decide) _ rfl
              clear hd
              go_simp
              exact hp _ _ (Grow.refl _) rfl
            · -- 25: slot 171: Op.move t20
              have h170 : x 170 = .bool false := hd 24 (by decide) _ rfl
              clear hd
              go_simp
              exact hp _ _ (Grow.refl _) rfl
            · -- 26: slot 172: Op.move t171
              have h171 : x 171 = .bool false := hd 25 (by decide) _ rfl
              have h170 : x 170 = .bool false := hd 24 (by decide) _ rfl
              clear hd
              go_simp
              exact hp _ _ (Grow.refl _) rfl
            · -- 27: slot 173: Op.load 31 t19
              have h172 : x 172 = .bool false := hd 26 (by decide) _ rfl
              clear hd
              go_simp
              exact hp _ _ (Grow.refl _) rfl
            · -- 28: slot 174: Op.move t18
              have h172 : x 172 = .bool false := hd 26 (by decide) _ rfl
              clear hd
              go_simp
              exact hp _ _ (Grow.refl _) rfl
            · -- 29: slot 175: Op.indexAddr 29 t174 (const (0:i64))
              have h174 : x 174 = undef := hd 28 (by decide) _ rfl
              have h172 : x 172 = .bool false := hd 26 (by decide) _ rfl
              clear hd
              go_simp
              exact hp _ _ (Grow.refl _) rfl
            · -- 30: slot 176: Op.load 31 t175
              have h175 : x 175 = undef := hd 29 (by decide) _ rfl
              have h172 : x 172 = .bool false := hd 26 (by decide) _ rfl
              clear hd
              go_simp
              exact hp _ _ (Grow.refl _) rfl
            · -- 31: slot 177: Op.binOp BinOp.neq 31 t173 t176 31
              have h173 : x 173 = undef := hd 27 (by decide) _ rfl
              have h176 : x 176 = undef := hd 30 (by decide) _ rfl
              have h172 : x 172 = .bool false := hd 26 (by decide) _ rfl
              clear hd
              go_simp
              exact hp _ _ (Grow.refl _) rfl
            · -- 32: slot 178: Op.pick t172 t177 (const (Value.bool false))
              have h172 : x 172 = .bool false := hd 26 (by decide) _ rfl
              have h177 : x 177 = undef := hd 31 (by decide) _ rfl
              have h170 : x 170 = .bool false := hd 24 (by decide) _ rfl
              clear hd
              go_simp
              exact hp _ _ (Grow.refl _) rfl
            · -- 33: slot 179: Op.pick t170 (const (Value.bool true)) t178
              have h170 : x 170 = .bool false := hd 24 (by decide) _ rfl
              have h178 : x 178 = .bool false := hd 32 (by decide) _ rfl
              clear hd
              go_simp
              exact hp _ _ (Grow.refl _) rfl
          · intro x w1 hg hd
            have h179 : x 179 = .bool false := hd 33 _ rfl
            clear hd
            have HZ : Hid (PlA w w1 ab mb mo j L' (.slice A' 0 c')) := H3.out.1.grow (Grow.trans H4.out hg)
            clear hg
            rw [h179]
            clear h179
            go_wp2_with fail
            go_roundg (n - j)
            case measure => have := HJ.out; omega
            case rel => exact ⟨j, A', 0, c', L', rfl, rfl, rfl, by have := HJ.out; omega, H3.out.2.2, HZ.out⟩
        · have cT := agTop_some HQ.out.1 (by rw [← H3.out.2.2]; exact hz)
          obtain ⟨b3, o3, c3', e3, hb3, hc3⟩ := H3.out.2.1.rd.cell (by rw [sortE_len, ← H3.out.2.2]; exact hz)
          have hA3 : A3 = some ⟨b3, o3, none⟩ := by injection e3
          subst hA3
          obtain ⟨x0, x1, x2⟩ := hc3 0 (by rw [sortE_len, ← H3.out.2.2]; exact hz)
          obtain ⟨xx, hx⟩ : ∃ xx, xx = pt (sortE L') 0 := ⟨_, rfl⟩
          rw [← hx] at cT x0 x1 x2
          rw [Nat.zero_mul, Nat.add_zero] at x0 x1 x2
          unfold itV at cT
          have hd1 : decide ((0 : Int) < (n' : Int)) = true := decide_eq_true (by omega)
          have hd2 : decide (0 < n') = true := decide_eq_true hz
          have HD := Lib.hid (And.intro hd1 (And.intro hd2 hz))
          clear e3 hc3 hx hd1 hd2 hz
          go_wp2_with fail
          refine cT.mono ?_
          rintro e w4 ⟨rfl, g4⟩
          obtain ⟨W, hW⟩ : ∃ W, W = w4.alloc (.cells #[.int .i64 xx.id, .int .i64 xx.at_, .int .i64 xx.rk] 31) := ⟨_, rfl⟩
          obtain ⟨gb, b0, b1, b2⟩ := box_item w4 xx.id xx.at_ xx.rk hW
          have hgw := Grow.trans g4 gb
          have H4 : Hid (Grow w3 W) := hgw
          have hb4 : w4.heap.size < W.heap.size := block_of_cell b0
          have HCl : Hid (∀ w1, Grow W w1 → (w1.cell? ⟨w4.heap.size, 0, none⟩ = some (.int .i64 xx.id) ∧ w1.cell? ⟨w4.heap.size, 1, none⟩ = some (.int .i64 xx.at_) ∧ w1.cell? ⟨w4.heap.size, 2, none⟩ = some (.int .i64 xx.rk)) ∧ w1.cell? ⟨b3, o3, none⟩ = some (.int .i64 xx.id) ∧ w1.cell? ⟨b3, o3 + 1, none⟩ = some (.int .i64 xx.at_) ∧ w1.cell? ⟨b3, o3 + 2, none⟩ = some (.int .i64 xx.rk)) :=
            fun w1 g => ⟨⟨(g.cell (p := ⟨w4.heap.size, 0, none⟩) hb4).trans b0, (g.cell (p := ⟨w4.heap.size, 1, none⟩) hb4).trans b1, (g.cell (p := ⟨w4.heap.size, 2, none⟩) hb4).trans b2⟩, ((Grow.trans hgw g).cell (p := ⟨b3, o3, none⟩) hb3).trans x0, ((Grow.trans hgw g).cell (p := ⟨b3, o3 + 1, none⟩) hb3).trans x1, ((Grow.trans hgw g).cell (p := ⟨b3, o3 + 2, none⟩) hb3).trans x2⟩
          have HA : Hid (∀ w1, Grow W w1 → Calls Try.prog 20 #[.pointer (some ⟨ab, 0, none⟩)] w1 fun e w2 => ∃ v', e = .returned v' ∧ Its w2 w1.heap.size v' (sortE L') ∧ Grow w1 w2) := fun w1 g => agAll_any (((HQ.out.1.grow H4.out).grow g)) (by have := HL.out; omega)
          have HLn : Hid (∀ w1, Grow W w1 → Calls Try.prog 21 #[.pointer (some ⟨ab, 0, none⟩)] w1 fun e w' => e = .returned (.int .i64 (n' : Int)) ∧ w' = w1) := fun w1 g => by
            have := agLen_any ((HQ.out.1.grow H4.out).grow g)
            rwa [← H3.out.2.2] at this
          have HS : Hid (∀ w1 v', Grow W w1 → RdIt w1 v' (sortE L') → Calls Try.prog 17 #[v', .slice (some ⟨b3, o3, none⟩) n' c3] w1 fun e w' => e = .returned (.bool true) ∧ Grow w1 w') := fun w1 v' g r => rSameE_any w1 _ _ _ r (((H3.out.2.1.grow H4.out).grow g).rd) (by rw [sortE_len]; have := HL.out; omega)
          clear cT g4 gb b0 b1 b2 hgw hb4 hb3 x0 x1 x2
          go_upto_region 35 with fail
          rw [← hW]
          have HW := Lib.hid hW
          clear hW
          refine wp_region_loose (A := ?frameN35) (inList (isV (.int .i64 f) :: isV (.int .i64 f) :: isV (.bool false) :: isV (.bool false) :: isV (.pointer (some ⟨ab, 0, none⟩)) :: (fun v q => RdIt q v (sortE L')) :: isV (.slice (some ⟨b3, o3, none⟩) n' c3) :: isV (.bool true) :: isV (.bool false) :: isV (.bool false) :: isV (.bool false) :: isV (.pointer (some ⟨ab, 0, none⟩)) :: isV (.int .i64 (n' : Int)) :: isV (.slice A' n' c') :: isV (.int .i64 (n' : Int)) :: isV (.bool false) :: isV (.bool false) :: isV (.bool false) :: isV (.bool true) :: isV (.slice A' n' c') :: isV (.int .i64 (n' : Int)) :: isV (.bool true) :: isV (.bool false) :: isV (.bool false) :: isV (.bool false) :: isV (.bool true) :: isV (.bool true) :: isV (.agg #[.int .i64 xx.id, .int .i64 xx.at_, .int .i64 xx.rk]) :: isV (.slice (some ⟨b3, o3, none⟩) n' c3) :: isV (.pointer (some ⟨b3, o3, none⟩)) :: isV (.agg #[.int .i64 xx.id, .int .i64 xx.at_, .int .i64 xx.rk]) :: isV (.bool false) :: isV (.bool false) :: isV (.bool false) :: [])) (by kernel_rfl) (by kernel_rfl) (inList_stays ?_) (fun x => ?frameEqN35) ?_ ?_
          case frameEqN35 => go_simp; rfl
          · intro f hf
            simp only [List.mem_cons, List.not_mem_nil, or_false] at hf
            rcases hf with rfl | rfl | rfl | rfl | rfl | rfl | rfl | rfl | rfl | rfl | rfl | rfl | rfl | rfl | rfl | rfl | rfl | rfl | rfl | rfl | rfl | rfl | rfl | rfl | rfl | rfl | rfl | rfl | rfl | rfl | rfl | rfl | rfl | rfl <;> first | exact isV_stays _ | exact isB_stays _ | exact isBs_stays _ | exact rdit_stays _
          · refine ⟨fun x w1 hg hd post hp => ?_, fun x w1 hg hd post hp => ?_, fun x w1 hg hd post hp => ?_, fun x w1 hg hd post hp => ?_, fun x w1 hg hd post hp => ?_, fun x w1 hg hd post hp => ?_, fun x w1 hg hd post hp => ?_, fun x w1 hg hd post hp => ?_, fun x w1 hg hd post hp => ?_, fun x w1 hg hd post hp => ?_, fun x w1 hg hd post hp => ?_, fun x w1 hg hd post hp => ?_, fun x w1 hg hd post hp => ?_, fun x w1 hg hd post hp => ?_, fun x w1 hg hd post hp => ?_, fun x w1 hg hd post hp => ?_, fun x w1 hg hd post hp => ?_, fun x w1 hg hd post hp => ?_, fun x w1 hg hd post hp => ?_, fun x w1 hg hd post hp => ?_, fun x w1 hg hd post hp => ?_, fun x w1 hg hd post hp => ?_, fun x w1 hg hd post hp => ?_, fun x w1 hg hd post hp => ?_, fun x w1 hg hd post hp => ?_, fun x w1 hg hd post hp => ?_, fun x w1 hg hd post hp => ?_, fun x w1 hg hd post hp => ?_, fun x w1 hg hd post hp => ?_, fun x w1 hg hd post hp => ?_, fun x w1 hg hd post hp => ?_, fun x w1 hg hd post hp => ?_, fun x w1 hg hd post hp => ?_, fun x w1 hg hd post hp => ?_, trivial⟩
            · -- 0: slot 146: Op.move t10
              clear hd
              go_simp
              exact hp _ _ (Grow.refl _) rfl
            · -- 1: slot 147: Op.move t11
              clear hd
              go_simp
              exact hp _ _ (Grow.refl _) rfl
            · -- 2: slot 148: Op.binOp BinOp.neq 3 t146 t147 3
              have h146 : x 146 = .int .i64 f := hd 0 (by decide) _ rfl
              have h147 : x 147 = .int .i64 f := hd 1 (by decide) _ rfl
              clear hd
              go_simp
              exact hp _ _ (Grow.refl _) rfl
            · -- 3: slot 149: Op.move t148
              have h148 : x 148 = .bool false := hd 2 (by decide) _ rfl
              clear hd
              go_simp
              exact hp _ _ (Grow.refl _) rfl
            · -- 4: slot 150: Op.move t5
              have h149 : x 149 = .bool false := hd 3 (by decide) _ rfl
              clear hd
              go_simp
              exact hp _ _ (Grow.refl _) rfl
            · -- 5: slot 151: Op.call { value (Operand.func 20), args := #[t150], argTypes := #[24] }
              have h150 : x 150 = .pointer (some ⟨ab, 0, none⟩) := hd 4 (by decide) _ rfl
              have h149 : x 149 = .bool false := hd 3 (by decide) _ rfl
              clear hd
              go_simp
              refine (HA.out _ hg).mono ?_
              rintro e w2 ⟨v2, rfl, r2, g2⟩
              exact ⟨_, rfl, hp _ _ g2 r2.rd⟩
            · -- 6: slot 152: Op.move t18
              have h149 : x 149 = .bool false := hd 3 (by decide) _ rfl
              clear hd
              go_simp
              exact hp _ _ (Grow.refl _) rfl
            · -- 7: slot 153: Op.call { value (Operand.func 17), args := #[t151, t152], argTypes := #[29, 29] 
              have h151 : (fun v q => RdIt q v (sortE L')) (x 151) w1 := hd 5 (by decide) _ rfl
              have h152 : x 152 = .slice (some ⟨b3, o3, none⟩) n' c3 := hd 6 (by decide) _ rfl
              have h149 : x 149 = .bool false := hd 3 (by decide) _ rfl
              clear hd
              have r1 : RdIt w1 (x 151) (sortE L') := h151
              clear h151
              go_simp
              refine (HS.out _ _ hg r1).mono ?_
              rintro e w2 ⟨rfl, g2⟩
              exact ⟨_, rfl, hp _ _ g2 rfl⟩
            · -- 8: slot 154: Op.unOp UnOp.not 4 t153
              have h153 : x 153 = .bool true := hd 7 (by decide) _ rfl
              have h149 : x 149 = .bool false := hd 3 (by decide) _ rfl
              clear hd
              go_simp
              exact hp _ _ (Grow.refl _) rfl
            · -- 9: slot 155: Op.pick t149 (const (Value.bool true)) t154
              have h149 : x 149 = .bool false := hd 3 (by decide) _ rfl
              have h154 : x 154 = .bool false := hd 8 (by decide) _ rfl
              clear hd
              go_simp
              exact hp _ _ (Grow.refl _) rfl
            · -- 10: slot 156: Op.move t155
              have h155 : x 155 = .bool false := hd 9 (by decide) _ rfl
              clear hd
              go_simp
              exact hp _ _ (Grow.refl _) rfl
            · -- 11: slot 157: Op.move t5
              have h156 : x 156 = .bool false := hd 10 (by decide) _ rfl
              clear hd
              go_simp
              exact hp _ _ (Grow.refl _) rfl
            · -- 12: slot 158: Op.call { value (Operand.func 21), args := #[t157], argTypes := #[24] }
              have h157 : x 157 = .pointer (some ⟨ab, 0, none⟩) := hd 11 (by decide) _ rfl
              have h156 : x 156 = .bool false := hd 10 (by decide) _ rfl
              clear hd
              go_simp
              refine (HLn.out _ hg).mono ?_
              rintro e w2 ⟨rfl, rfl⟩
              exact ⟨_, rfl, hp _ _ (Grow.refl _) rfl⟩
            · -- 13: slot 159: Op.move t7
              have h156 : x 156 = .bool false := hd 10 (by decide) _ rfl
              clear hd
              go_simp
              exact hp _ _ (Grow.refl _) rfl
            · -- 14: slot 160: Op.call { builtin len, args := #[t159], argTypes := #[29] }
              have h159 : x 159 = .slice A' n' c' := hd 13 (by decide) _ rfl
              have h156 : x 156 = .bool false := hd 10 (by decide) _ rfl
              clear hd
              go_simp
              exact hp _ _ (Grow.refl _) rfl
            · -- 15: slot 161: Op.binOp BinOp.neq 3 t158 t160 3
              have h158 : x 158 = .int .i64 (n' : Int) := hd 12 (by decide) _ rfl
              have h160 : x 160 = .int .i64 (n' : Int) := hd 14 (by decide) _ rfl
              have h156 : x 156 = .bool false := hd 10 (by decide) _ rfl
              clear hd
              go_simp
              exact hp _ _ (Grow.refl _) rfl
            · -- 16: slot 162: Op.pick t156 (const (Value.bool true)) t161
              have h156 : x 156 = .bool false := hd 10 (by decide) _ rfl
              have h161 : x 161 = .bool false := hd 15 (by decide) _ rfl
              clear hd
              go_simp
              exact hp _ _ (Grow.refl _) rfl
            · -- 17: slot 163: Op.move t162
              have h162 : x 162 = .bool false := hd 16 (by decide) _ rfl
              clear hd
              go_simp
              exact hp _ _ (Grow.refl _) rfl
            · -- 18: slot 164: Op.move t20
              have h163 : x 163 = .bool false := hd 17 (by decide) _ rfl
              clear hd
              go_simp
              exact hp _ _ (Grow.refl _) rfl
            · -- 19: slot 165: Op.move t7
              have h163 : x 163 = .bool false := hd 17 (by decide) _ rfl
              clear hd
              go_simp
              exact hp _ _ (Grow.refl _) rfl
            · -- 20: slot 166: Op.call { builtin len, args := #[t165], argTypes := #[29] }
              have h165 : x 165 = .slice A' n' c' := hd 19 (by decide) _ rfl
              have h163 : x 163 = .bool false := hd 17 (by decide) _ rfl
              clear hd
              go_simp
              exact hp _ _ (Grow.refl _) rfl
            · -- 21: slot 167: Op.binOp BinOp.gtr 3 t166 (const (0:i64)) 3
              have h166 : x 166 = .int .i64 (n' : Int) := hd 20 (by decide) _ rfl
              have h163 : x 163 = .bool false := hd 17 (by decide) _ rfl
              clear hd
              have hd1 := HD.out.1
              have hd2 := HD.out.2.1
              go_simp
              exact hp _ _ (Grow.refl _) rfl
            · -- 22: slot 168: Op.binOp BinOp.neq 4 t164 t167 4
              have h164 : x 164 = .bool true := hd 18 (by decide) _ rfl
              have h167 : x 167 = .bool true := hd 21 (by decide) _ rfl
              have h163 : x 163 = .bool false := hd 17 (by decide) _ rfl
              clear hd
              go_simp
              exact hp _ _ (Grow.refl _) rfl
            · -- 23: slot 169: Op.pick t163 (const (Value.bool true)) t168
              have h163 : x 163 = .bool false := hd 17 (by decide) _ rfl
              have h168 : x 168 = .bool false := hd 22 (by decide) _ rfl
              clear hd
              go_simp
              exact hp _ _ (Grow.refl _) rfl
            · -- 24: slot 170: Op.move t169
              have h169 : x 169 = .bool false := hd 23 (by decide) _ rfl
              clear hd
              go_simp
              exact hp _ _ (Grow.refl _) rfl
            · -- 25: slot 171: Op.move t20
              have h170 : x 170 = .bool false := hd 24 (by decide) _ rfl
              clear hd
              go_simp
              exact hp _ _ (Grow.refl _) rfl
            · -- 26: slot 172: Op.move t171
              have h171 : x 171 = .bool true := hd 25 (by decide) _ rfl
              have h170 : x 170 = .bool false := hd 24 (by decide) _ rfl
              clear hd
              go_simp
              exact hp _ _ (Grow.refl _) rfl
            · -- 27: slot 173: Op.load 31 t19
              have h172 : x 172 = .bool true := hd 26 (by decide) _ rfl
              clear hd
              obtain ⟨⟨y0, y1, y2⟩, _⟩ := HCl.out w1 hg
              go_simp
              exact hp _ _ (Grow.refl _) rfl
            · -- 28: slot 174: Op.move t18
              have h172 : x 172 = .bool true := hd 26 (by decide) _ rfl
              clear hd
              go_simp
              exact hp _ _ (Grow.refl _) rfl
            · -- 29: slot 175: Op.indexAddr 29 t174 (const (0:i64))
              have h174 : x 174 = .slice (some ⟨b3, o3, none⟩) n' c3 := hd 28 (by decide) _ rfl
              have h172 : x 172 = .bool true := hd 26 (by decide) _ rfl
              clear hd
              have hz := HD.out.2.2
              go_simp
              exact hp _ _ (Grow.refl _) rfl
            · -- 30: slot 176: Op.load 31 t175
              have h175 : x 175 = .pointer (some ⟨b3, o3, none⟩) := hd 29 (by decide) _ rfl
              have h172 : x 172 = .bool true := hd 26 (by decide) _ rfl
              clear hd
              obtain ⟨_, z0, z1, z2⟩ := HCl.out w1 hg
              go_simp
              exact hp _ _ (Grow.refl _) rfl
            · -- 31: slot 177: Op.binOp BinOp.neq 31 t173 t176 31
              have h173 : x 173 = .agg #[.int .i64 xx.id, .int .i64 xx.at_, .int .i64 xx.rk] := hd 27 (by decide) _ rfl
              have h176 : x 176 = .agg #[.int .i64 xx.id, .int .i64 xx.at_, .int .i64 xx.rk] := hd 30 (by decide) _ rfl
              have h172 : x 172 = .bool true := hd 26 (by decide) _ rfl
              clear hd
              go_simp
              exact hp _ _ (Grow.refl _) rfl
            · -- 32: slot 178: Op.pick t172 t177 (const (Value.bool false))
              have h172 : x 172 = .bool true := hd 26 (by decide) _ rfl
              have h177 : x 177 = .bool false := hd 31 (by decide) _ rfl
              have h170 : x 170 = .bool false := hd 24 (by decide) _ rfl
              clear hd
              go_simp
              exact hp _ _ (Grow.refl _) rfl
            · -- 33: slot 179: Op.pick t170 (const (Value.bool true)) t178
              have h170 : x 170 = .bool false := hd 24 (by decide) _ rfl
              have h178 : x 178 = .bool false := hd 32 (by decide) _ rfl
              clear hd
              go_simp
              exact hp _ _ (Grow.refl _) rfl
          · intro x w1 hg hd
            have h179 : x 179 = .bool false := hd 33 _ rfl
            clear hd
            have HZ : Hid (PlA w w1 ab mb mo j L' (.slice A' n' c')) := H3.out.1.grow (Grow.trans H4.out hg)
            clear hg
            rw [h179]
            clear h179
            go_wp2_with fail
            go_roundg (n - j)
            case measure => have := HJ.out; omega
            case rel => exact ⟨j, A', n', c', L', rfl, rfl, rfl, by have := HJ.out; omega, H3.out.2.2, HZ.out⟩
    · obtain rfl : i = n := by have := HR.out.1; omega
      have c1 := alive_any wo
      go_wp2_with fail
      refine c1.mono ?_
      rintro e w5 ⟨rfl, g5⟩
      have H5 := Lib.hid (show Grow w w5 from Grow.trans HR.out.2.2.g g5)
      clear c1 g5
      go_wp2_with fail
      go_ret
      exact ⟨rfl, H5.out⟩
theorem agendaPlays_walk (w : World) (mo : Int) (hmo : -9223372036854775808 ≤ mo ∧ mo ≤ 9223372036854775807) {v : Value} {l : List Aa} (hl : Aas w v l) : Calls Try.prog 3 #[.int .i64 mo, v] w fun e w' => e = .returned (.bool true) ∧ Below w.heap.size w w' := by
  rcases Nat.lt_or_ge 150 l.length with h | h
  · exact aplays_long w mo hl h
  · by_cases ho : mo < 1 ∨ 4096 < mo
    · exact aplays_out w mo hl h ho
    · exact aplays_main w mo hl h (by omega) (by omega)
end Go.Proofs.Ytdgbieapgmjjhaa
