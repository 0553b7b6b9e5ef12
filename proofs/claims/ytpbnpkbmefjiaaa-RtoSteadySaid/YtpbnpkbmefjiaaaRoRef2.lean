/- Contract: Sample of the reference of rto. -/
import Derived.Test.YtpbnpkbmefjiaaaRoRef
namespace Go.Proofs.Ytpbnpkbmefjiaaa
set_option linter.unusedVariables false
set_option linter.unusedSimpArgs false
open Go.ChangeShapes Go.WideShapes Go.ChangeAt Go.RowKit

/-- The numbers of a sample behind the first. -/
theorem roW {m v c M V : Nat} (e1 : M = m - m / 8 + c) (e2 : V = v - v / 4 + ((c - m / 8) + (m / 8 - c))) (e3 : c ≤ 1048576) (e4 : m ≤ 8388608) (e5 : v ≤ 8388608) :
    ∃ (m8 v4 v3 : Nat) (d : Int), (m : Int) / 8 = (m8 : Int) ∧ (v : Int) / 4 = (v4 : Int) ∧ wrap64 (m8 : Int) = (m8 : Int) ∧ wrap64 (v4 : Int) = (v4 : Int) ∧ wrap64 ((c : Int) - (m8 : Int)) = d ∧ wrap64 ((m : Int) + d) = (M : Int) ∧ wrap64 ((v : Int) - (v4 : Int)) = (v3 : Int) ∧
      (d < 0 → ∃ a : Nat, wrap64 (-d) = (a : Int) ∧ wrap64 ((v3 : Int) + (a : Int)) = (V : Int)) ∧ (¬ d < 0 → wrap64 ((v3 : Int) + d) = (V : Int)) := by
  refine ⟨m / 8, v / 4, v - v / 4, (c : Int) - ((m / 8 : Nat) : Int), by omega, by omega, IntWalk.wrap64_in _ (by omega), IntWalk.wrap64_in _ (by omega), IntWalk.wrap64_in _ (by omega), (IntWalk.wrap64_in _ (by omega)).trans (by omega), (IntWalk.wrap64_in _ (by omega)).trans (by omega), fun q => ⟨m / 8 - c, (IntWalk.wrap64_in _ (by omega)).trans (by omega), (IntWalk.wrap64_in _ (by omega)).trans (by omega)⟩, fun q => (IntWalk.wrap64_in _ (by omega)).trans (by omega)⟩
theorem roW2 {M V V1 N0 : Nat} (e1 : N0 = M / 8 + V1) (e2 : V1 = roOne V) (e3 : M ≤ 8388608) (e4 : V ≤ 8388608) : ∃ M8 : Nat, (M : Int) / 8 = (M8 : Int) ∧ wrap64 (M8 : Int) = (M8 : Int) ∧ wrap64 ((M8 : Int) + (V1 : Int)) = (N0 : Int) := by
  have e5 : V1 ≤ 8388608 := by
    unfold roOne at e2
    split at e2 <;> omega
  exact ⟨M / 8, by omega, IntWalk.wrap64_in _ (by omega), (IntWalk.wrap64_in _ (by omega)).trans (by omega)⟩
set_option maxRecDepth 10000 in
set_option maxHeartbeats 4000000 in
theorem roSample_any (w : World) (r : Ro) (ok : RoOk r) (t : Int) : Calls Try.prog 13 #[.agg (roA r), .int .i64 t] w fun e w' => e = .returned (.agg (roA (roSp r (clipT t)))) ∧ Grow w w' := by
  have HOK := Lib.hid ok
  obtain ⟨W, hW⟩ : ∃ W, W = (w.alloc (.cells (roA r) 33)).alloc (.cells (roA zeroRo) 33) := ⟨_, rfl⟩
  have HS := Lib.hid (roSt w r hW)
  obtain ⟨l, h, m, v, n, b, k⟩ := r
  have fz := HS.out.fz
  obtain ⟨t1, ht1⟩ : ∃ t1, t1 = if t < 0 then 0 else t := ⟨_, rfl⟩
  obtain ⟨c, hc⟩ : ∃ c, c = clipT t := ⟨_, rfl⟩
  have hc1 : (c : Int) = if 1048576 < t1 then 1048576 else t1 := by
    rw [hc, ht1]
    unfold clipT
    split
    · rw [if_neg (by omega)]; rfl
    · split
      · rfl
      · omega
  have hcl : c ≤ 1048576 := by rw [hc]; exact clipT_le t
  obtain ⟨M, hM⟩ : ∃ M, M = roM ⟨l, h, m, v, n, b, k⟩ c := ⟨_, rfl⟩
  obtain ⟨V, hV⟩ : ∃ V, V = roV ⟨l, h, m, v, n, b, k⟩ c := ⟨_, rfl⟩
  obtain ⟨V1, hV1⟩ : ∃ V1, V1 = roOne V := ⟨_, rfl⟩
  obtain ⟨N0, hN0⟩ : ∃ N0, N0 = M / 8 + V1 := ⟨_, rfl⟩
  obtain ⟨N1, hN1⟩ : ∃ N1, N1 = roLow l N0 := ⟨_, rfl⟩
  obtain ⟨N2, hN2⟩ : ∃ N2, N2 = roTop h N1 := ⟨_, rfl⟩
  have HM : Hid (M ≤ 8388608 ∧ V ≤ 8388608) := ⟨by rw [hM]; exact roM_le ok hcl, by rw [hV]; exact roV_le ok hcl⟩
  have HE : Hid (roSp ⟨l, h, m, v, n, b, k⟩ (clipT t) = ⟨l, h, M, V, N2, 0, true⟩) := by
    show roSp ⟨l, h, m, v, n, b, k⟩ (clipT t) = _
    rw [← hc]
    unfold roSp roNow
    rw [← hM, ← hV, ← hV1, ← hN0, ← hN1, ← hN2]
  have HQ := Lib.hid (And.intro ht1 (And.intro hc1 (And.intro hcl (And.intro hM (And.intro hV (And.intro hV1 (And.intro hN0 (And.intro hN1 hN2))))))))
  clear ht1 hc hc1 hcl hM hV hV1 hN0 hN1 hN2 ok
  go_enter Try.func13, Try.ntmps13
  go_upto_region 1 with fail
  show Code.wp _ _ _ _ ((w.alloc (.cells (roA ⟨l, h, m, v, n, b, k⟩) 33)).alloc (.cells (roA zeroRo) 33))
  rw [← hW]
  clear hW
  go_upto_if 8 with fail
  go_cut [1] (fun s1 wx => s1 = .int .i64 t1 ∧ W = wx)
  case first =>
    have q0 := HQ.out.1
    by_cases q : t < 0
    · rw [if_pos q] at q0
      have HX := Lib.hid q0
      clear q0
      go_wp2_with fail
      go_meet
      exact ⟨by rw [HX.out], rfl⟩
    · rw [if_neg q] at q0
      have HX := Lib.hid q0
      clear q0
      go_wp2_with fail
      go_meet
      exact ⟨by rw [HX.out], rfl⟩
  case rest =>
    obtain ⟨rfl, rfl⟩ := hcut
    go_upto_if 10 with fail
    go_cut [1] (fun s1 wx => s1 = .int .i64 (c : Int) ∧ W = wx)
    case first =>
      have q0 := HQ.out.2.1
      by_cases q : 1048576 < t1
      · rw [if_pos q] at q0
        have HX := Lib.hid q0
        clear q0
        go_wp2_with fail
        go_meet
        exact ⟨by rw [HX.out], rfl⟩
      · rw [if_neg q] at q0
        have HX := Lib.hid q0
        clear q0
        go_wp2_with fail
        go_meet
        exact ⟨by rw [HX.out], rfl⟩
    case rest =>
      obtain ⟨rfl, rfl⟩ := hcut
      have c6 := HS.out.b.c6
      go_upto_if 13 with fail
      clear c6
      go_cut [5] (fun _ wx => Hid (RoSt w wx ⟨l, h, M, V, n, b, true⟩ zeroRo))
      case first =>
        cases k with
        | false =>
          have w1 : wrap64 (8 * (c : Int)) = (M : Int) := by
            have := HQ.out.2.2.2.1
            have := HQ.out.2.2.1
            have e : M = 8 * c := by assumption
            rw [e]
            exact (IntWalk.wrap64_in _ (by omega)).trans (by omega)
          have w2 : wrap64 (2 * (c : Int)) = (V : Int) := by
            have e : V = 2 * c := HQ.out.2.2.2.2.1
            have := HQ.out.2.2.1
            rw [e]
            exact (IntWalk.wrap64_in _ (by omega)).trans (by omega)
          have c2 := HS.out.b.c2
          have c3 := HS.out.b.c3
          have c6 := HS.out.b.c6
          have HX : Hid (RoSt w (((W.setCell ⟨w.heap.size, 2, none⟩ (.int .i64 (M : Int))).setCell ⟨w.heap.size, 3, none⟩ (.int .i64 (V : Int))).setCell ⟨w.heap.size, 6, none⟩ (.bool true)) ⟨l, h, M, V, n, b, true⟩ zeroRo) :=
            ((HS.out.set (r' := ⟨l, h, M, v, n, b, false⟩) rfl).set (r' := ⟨l, h, M, V, n, b, false⟩) rfl).set rfl
          simp only at c2 c3 c6
          go_wp2_with fail
          go_meet
          exact HX
        | true =>
          obtain ⟨m8, v4, v3, d, p1, p2, p3, p4, w1, w2, w3, w4, w5⟩ := roW (m := m) (v := v) (c := c) HQ.out.2.2.2.1 HQ.out.2.2.2.2.1 HQ.out.2.2.1 HOK.out.mb HOK.out.vb
          have c2 := HS.out.b.c2
          have c3 := HS.out.b.c3
          have c6 := HS.out.b.c6
          simp only at c2 c3 c6
          have HX : Hid (RoSt w ((W.setCell ⟨w.heap.size, 2, none⟩ (.int .i64 (M : Int))).setCell ⟨w.heap.size, 3, none⟩ (.int .i64 (V : Int))) ⟨l, h, M, V, n, b, true⟩ zeroRo) :=
            (HS.out.set (r' := ⟨l, h, M, v, n, b, true⟩) rfl).set rfl
          by_cases q : d < 0
          · obtain ⟨a, y1, y2⟩ := w4 q
            clear w5
            go_wp2_with fail
            go_meet
            exact HX
          · have y1 := w5 q
            clear w4
            go_wp2_with fail
            go_meet
            exact HX
      case rest =>
        have H1 := hcut
        clear hcut HS
        have c3 := H1.out.b.c3
        simp only at c3
        go_upto_if 47 with fail
        clear c3
        go_cut [6] (fun s6 wx => s6 = .int .i64 (V1 : Int) ∧ wc = wx)
        case first =>
          have q0 := HQ.out.2.2.2.2.2.1
          unfold roOne at q0
          by_cases q : V < 1
          · rw [if_pos q] at q0
            have HX := Lib.hid q0
            have q1 : (V : Int) < 1 := by omega
            clear q0
            go_wp2_with fail
            go_meet
            exact ⟨by rw [HX.out]; rfl, rfl⟩
          · rw [if_neg q] at q0
            have HX := Lib.hid q0
            have q1 : ¬ (V : Int) < 1 := by omega
            clear q0
            go_wp2_with fail
            go_meet
            exact ⟨by rw [HX.out], rfl⟩
        case rest =>
          obtain ⟨rfl, rfl⟩ := hcut
          have c0 := H1.out.b.c0
          have c1 := H1.out.b.c1
          have c2 := H1.out.b.c2
          have c4 := H1.out.b.c4
          simp only at c0 c1 c2 c4
          have fy := H1.out.fz
          obtain ⟨M8, p1, p3, w1⟩ := roW2 HQ.out.2.2.2.2.2.2.1 HQ.out.2.2.2.2.2.1 HM.out.1 HM.out.2
          have HX : Hid (RoSt w (wc.setCell ⟨w.heap.size, 4, none⟩ (.int .i64 (N0 : Int))) ⟨l, h, M, V, N0, b, true⟩ zeroRo) := H1.out.set rfl
          go_upto_if 58 with fail
          clear p1 p3 w1 c1 c2
          go_cut [] (fun wx => Hid (RoSt w wx ⟨l, h, M, V, N1, b, true⟩ zeroRo))
          case first =>
            have q0 : N1 = roLow l N0 := HQ.out.2.2.2.2.2.2.2.1
            unfold roLow at q0
            by_cases q : N0 < l
            · rw [if_pos q] at q0
              subst q0
              have q1 : (N0 : Int) < (N1 : Int) := by omega
              have HY : Hid (RoSt w ((wc.setCell ⟨w.heap.size, 4, none⟩ (.int .i64 (N0 : Int))).setCell ⟨w.heap.size, 4, none⟩ (.int .i64 (N1 : Int))) ⟨N1, h, M, V, N1, b, true⟩ zeroRo) := HX.out.set rfl
              go_wp2_with fail
              go_meet
              exact HY
            · rw [if_neg q] at q0
              subst q0
              have q1 : ¬ (N1 : Int) < (l : Int) := by omega
              go_wp2_with fail
              go_meet
              exact HX
          case rest =>
            have H2 := hcut
            clear hcut HX H1 c0 c4 fy
            rename World => wd
            have c1 := H2.out.b.c1
            have c4 := H2.out.b.c4
            have fy := H2.out.fz
            simp only at c1 c4
            go_upto_if 66 with fail
            go_cut [] (fun wx => Hid (RoSt w wx ⟨l, h, M, V, N2, b, true⟩ zeroRo))
            case first =>
              have q0 : N2 = roTop h N1 := HQ.out.2.2.2.2.2.2.2.2
              unfold roTop at q0
              by_cases q : h < N1
              · rw [if_pos q] at q0
                subst q0
                have q1 : (N2 : Int) < (N1 : Int) := by omega
                have HY : Hid (RoSt w (wd.setCell ⟨w.heap.size, 4, none⟩ (.int .i64 (N2 : Int))) ⟨l, N2, M, V, N2, b, true⟩ zeroRo) := H2.out.set rfl
                go_wp2_with fail
                go_meet
                exact HY
              · rw [if_neg q] at q0
                subst q0
                have q1 : ¬ (h : Int) < (N2 : Int) := by omega
                go_wp2_with fail
                go_meet
                exact H2
            case rest =>
              have H3 := hcut
              clear hcut H2 c1 c4 fy
              rename World => we
              have c5 := H3.out.b.c5
              have fy := H3.out.fz
              have HX : Hid (RoSt w (we.setCell ⟨w.heap.size, 5, none⟩ (.int .i64 0)) ⟨l, h, M, V, N2, 0, true⟩ zeroRo) := H3.out.set rfl
              go_wp2_with (first | (show wpList _ _ _ (⟨some 71, .load 33 (.tmp 2), _, _, _, _⟩ :: _) _ _; refine wpList_load_ro _ rfl _ rfl w.heap.size _ rfl HX.out.b ?_) | (show wpList _ _ _ (⟨none, .store 33 (.tmp 4) (.tmp 71), _, _, _, _⟩ :: _) _ _; refine wpList_store_ro w _ rfl _ _ rfl rfl (w.heap.size + 1) ⟨l, h, M, V, N2, 0, true⟩ zeroRo rfl rfl HX.out.c HX.out.g (Nat.le_succ _) ?_; intro W2 b2 k2 g2; have H9 := Lib.hid (And.intro b2 g2); clear b2 k2 g2))
              refine bodyPost_ret (results_ro rfl _ _ (w.heap.size + 1) _ rfl H9.out.1) rfl ?_
              rw [HE.out]
              exact ⟨rfl, H9.out.2⟩
end Go.Proofs.Ytpbnpkbmefjiaaa
