/- The reference's All. -/
import Derived.Test.YtdgbieapgmjjhaaAgRPs
namespace Go.Proofs.Ytdgbieapgmjjhaa
set_option linter.unusedVariables false
set_option linter.unusedSimpArgs false
attribute [local irreducible] wpQuiet
open Go.ChangeShapes Go.WideShapes Go.ChangeAt Go.RowKit

theorem insE_at : ∀ (O : List En) (x : En) (k : Nat), k ≤ O.length → (∀ m, m < k → leE (pt O m) x) → (k = O.length ∨ ¬ leE (pt O k) x) → insE O x = O.take k ++ x :: O.drop k
  | [], x, k, hk, _, _ => by
    obtain rfl : k = 0 := by simpa using hk
    rfl
  | y :: l, x, 0, _, _, h => by
    have hn : ¬ leE y x := by
      rcases h with h | h
      · simp at h
      · exact h
    unfold insE
    rw [if_neg hn]
    rfl
  | y :: l, x, k + 1, hk, h1, h2 => by
    have hy : leE y x := h1 0 (Nat.succ_pos _)
    unfold insE
    rw [if_pos hy, insE_at l x k (by simpa using hk) (fun m hm => h1 (m + 1) (by omega)) (by
      rcases h2 with h2 | h2
      · exact .inl (by simpa using h2)
      · exact .inr h2)]
    rfl
theorem fold_next {L : List En} {i : Nat} (hi : i < L.length) : (L.take (i + 1)).foldl insE [] = insE ((L.take i).foldl insE []) (pt L i) := by
  rw [List.take_succ_eq_append_getElem hi, List.foldl_append, pt_key hi]
  rfl
theorem fold_len (L : List En) (i : Nat) (hi : i ≤ L.length) : ((L.take i).foldl insE []).length = i := by
  rw [(fold_perm (L.take i) []).length_eq, List.nil_append, List.length_take]
  omega
theorem its_cap {w : World} {base n c : Nat} {A : Option Addr} {l : List En} (h : Its w base (.slice A n c) l) : n = l.length ∧ n ≤ c ∧ c ≤ maxLen := by
  obtain ⟨A', c', e, h1, h2⟩ := h.rd.form
  injection e with e1 e2 e3
  subst e2 e3
  exact ⟨rfl, h1, h2⟩
theorem RdIt.rdk {w : World} {v : Value} {l : List En} (h : RdIt w v l) {n : Nat} (hn : l.length = n) : RdK w 3 v n (l.flatMap it) := by
  subst hn
  exact h
/-- Where All stands. -/
structure AlAt (w wr : World) (L : List En) (i : Nat) (A : Option Addr) (n c : Nat) : Prop where
  le : i ≤ L.length
  len : n = i
  row : Its wr w.heap.size (.slice A n c) ((L.take i).foldl insE [])
  g : Grow w wr
  nil : i = 0 → A = Option.none ∧ c = 0
set_option maxRecDepth 100000 in
set_option maxHeartbeats 8000000 in
theorem rAllE_any (w : World) (v : Value) (L : List En) (h : RdIt w v L) (hn : L.length ≤ 100000) :
    Calls Try.prog 18 #[v] w fun e w' => ∃ v', e = .returned v' ∧ Its w' w.heap.size v' (sortE L) ∧ Grow w w' := by
  have HV := Lib.hid h
  obtain ⟨A0, c0, rfl, _, _⟩ := h.form
  obtain ⟨N, hN⟩ : ∃ N, N = L.length := ⟨_, rfl⟩
  rw [← hN] at HV ⊢
  have HN : Hid (N = L.length ∧ N ≤ 100000) := ⟨hN, by omega⟩
  clear h hn hN
  go_enter Try.func18, Try.ntmps18
  go_wp2_with fail
  go_loopg [3, 4] N (fun gk s3 s4 wr => ∃ (i : Nat) (A : Option Addr) (n c : Nat), gk = N - i ∧ s3 = .slice A n c ∧ s4 = .int .i64 (i : Int) ∧ Hid (AlAt w wr L i A n c))
  case atStart => exact ⟨0, Option.none, 0, 0, rfl, rfl, rfl, Nat.zero_le _, rfl, Its.none _ _, Grow.refl _, fun _ => ⟨rfl, rfl⟩⟩
  case round =>
    obtain ⟨i, A, n, c, rfl, rfl, rfl, HR⟩ := hrel
    rename World => wo
    rcases Nat.lt_or_ge i N with hlt | hge
    · obtain ⟨bl, ol, cl, e1, hbl, hcl⟩ := HV.out.cell (by have := HN.out.1; omega)
      have hA0 : A0 = some ⟨bl, ol, none⟩ := by injection e1
      subst hA0
      obtain ⟨x, hx⟩ : ∃ x, x = pt L i := ⟨_, rfl⟩
      obtain ⟨O, hO⟩ : ∃ O, O = (L.take i).foldl insE [] := ⟨_, rfl⟩
      have HY : Hid (bl < w.heap.size ∧ w.cell? ⟨bl, ol + i * 3, none⟩ = some (.int .i64 x.id) ∧ w.cell? ⟨bl, ol + i * 3 + 1, none⟩ = some (.int .i64 x.at_) ∧ w.cell? ⟨bl, ol + i * 3 + 2, none⟩ = some (.int .i64 x.rk)) := by
        rw [hx]
        exact ⟨hbl, hcl i (by have := HN.out.1; omega)⟩
      have HI : Hid (i < N ∧ i < L.length ∧ x = pt L i ∧ O = (L.take i).foldl insE [] ∧ O.length = n) := ⟨hlt, by have := HN.out.1; omega, hx, hO, by rw [hO, HR.out.len]; exact fold_len L i HR.out.le⟩
      have hrow : Hid (Its wo w.heap.size (.slice A n c) O) := by rw [hO]; exact HR.out.row
      have i0 : (i : Int) < (N : Int) := by omega
      have ib : i < 100000 := by have := HN.out.2; omega
      have nb : n ≤ 100000 := by have := HR.out.len; omega
      clear e1 hbl hcl hx hO hlt
      go_wp2_with fail
      go_loopg [5] n (fun gk s5 wr => ∃ k : Nat, gk = n - k ∧ s5 = .int .i64 (k : Int) ∧ Hid (k ≤ n ∧ (∀ m, m < k → leE (pt O m) x) ∧ Grow wo wr))
      case atStart => exact ⟨0, rfl, rfl, Nat.zero_le _, (fun m h => absurd h (Nat.not_lt_zero _)), Grow.refl _⟩
      case round =>
        obtain ⟨k, rfl, rfl, HU⟩ := hrel
        rename World => wi
        have hwi : bl < wi.heap.size := Nat.lt_of_lt_of_le HY.out.1 (Nat.le_trans HR.out.g.size HU.out.2.2.size)
        have gwi := HR.out.g.trans HU.out.2.2
        have t1g := fun p : Gw wi => Gw.cell (p := p) (a := ⟨bl, ol + i * 3 + 1, none⟩) hwi ((gwi.cell (p := ⟨bl, ol + i * 3 + 1, none⟩) HY.out.1).trans HY.out.2.2.1)
        have t2g := fun p : Gw wi => Gw.cell (p := p) (a := ⟨bl, ol + i * 3 + 2, none⟩) hwi ((gwi.cell (p := ⟨bl, ol + i * 3 + 2, none⟩) HY.out.1).trans HY.out.2.2.2)
        clear hwi gwi
        rcases Nat.lt_or_ge k n with hk | hk
        · obtain ⟨b, off, c', e2, hb, hc⟩ := (hrow.out.grow HU.out.2.2).rd.cell (by have := HI.out.2.2.2.2; omega)
          have hA : A = some ⟨b, off, none⟩ := by injection e2
          subst hA
          obtain ⟨_, y1, y2⟩ := hc k (by have := HI.out.2.2.2.2; omega)
          obtain ⟨y, hy⟩ : ∃ y, y = pt O k := ⟨_, rfl⟩
          rw [← hy] at y1 y2
          have HK : Hid (y = pt O k ∧ k < n) := ⟨hy, hk⟩
          have y1g := fun p : Gw wi => Gw.cell (p := p) (a := ⟨b, off + k * 3 + 1, none⟩) hb y1
          have y2g := fun p : Gw wi => Gw.cell (p := p) (a := ⟨b, off + k * 3 + 2, none⟩) hb y2
          have k0 : (k : Int) < (n : Int) := by omega
          clear e2 hb hc y1 y2 hy
          by_cases h1 : y.at_ < x.at_
          · have HLE : Hid (leE y x) := .inl h1
            clear hk
            go_wp2_with fail
            have d1 : decide (y.at_ < x.at_) = true := decide_eq_true h1
            have d0 : decide (k < n) = true := decide_eq_true HK.out.2
            refine wp_region_gw (by kernel_rfl) (by kernel_rfl) ?_
            repeat (go_big_quiet_step (fail))
            refine wpQuiet_nil ?_
            intro wq hw'
            obtain ⟨⟨w9, hgq⟩, hw2⟩ := hw'
            subst hw2
            have HQ := Lib.hid hgq
            clear hgq t1g t2g y1g y2g d1 d0 h1
            go_wp2_with fail
            go_roundg (n - (k + 1))
            case measure => have := HK.out.2; omega
            case rel =>
              refine ⟨k + 1, rfl, by go_num, by have := HK.out.2; omega, fun m hm => ?_, HU.out.2.2.trans HQ.out⟩
              rcases Nat.lt_or_ge m k with q | q
              · exact HU.out.2.1 m q
              · obtain rfl : m = k := by omega
                rw [← HK.out.1]
                exact HLE.out
          · by_cases h2 : y.at_ = x.at_
            · by_cases h3 : y.rk ≤ x.rk
              · have HLE : Hid (leE y x) := .inr ⟨h2, h3⟩
                clear hk
                go_wp2_with fail
                have d1 : decide (y.at_ < x.at_) = false := decide_eq_false (by omega)
                have d2 : (y.at_ == x.at_) = true := by rw [beq_iff_eq]; exact h2
                have d2p : decide (y.at_ = x.at_) = true := decide_eq_true h2
                have d0 : decide (k < n) = true := decide_eq_true HK.out.2
                have d3 : decide (y.rk ≤ x.rk) = true := decide_eq_true h3
                refine wp_region_gw (by kernel_rfl) (by kernel_rfl) ?_
                repeat (go_big_quiet_step (fail))
                refine wpQuiet_nil ?_
                intro wq hw'
                obtain ⟨⟨w9, hgq⟩, hw2⟩ := hw'
                subst hw2
                have HQ := Lib.hid hgq
                clear hgq t1g t2g y1g y2g d1 d2 d2p d3 d0 h1 h2 h3
                go_wp2_with fail
                go_roundg (n - (k + 1))
                case measure => have := HK.out.2; omega
                case rel =>
                  refine ⟨k + 1, rfl, by go_num, by have := HK.out.2; omega, fun m hm => ?_, HU.out.2.2.trans HQ.out⟩
                  rcases Nat.lt_or_ge m k with q | q
                  · exact HU.out.2.1 m q
                  · obtain rfl : m = k := by omega
                    rw [← HK.out.1]
                    exact HLE.out
              · have HSTOP : Hid (k = O.length ∨ ¬ leE (pt O k) x) := .inr (by rw [← HK.out.1]; unfold leE; omega)
                clear hk
                go_wp2_with fail
                have d1 : decide (y.at_ < x.at_) = false := decide_eq_false (by omega)
                have d2 : (y.at_ == x.at_) = true := by rw [beq_iff_eq]; exact h2
                have d2p : decide (y.at_ = x.at_) = true := decide_eq_true h2
                have d0 : decide (k < n) = true := decide_eq_true HK.out.2
                have d3 : decide (y.rk ≤ x.rk) = false := decide_eq_false (by omega)
                refine wp_region_gw (by kernel_rfl) (by kernel_rfl) ?_
                repeat (go_big_quiet_step (fail))
                refine wpQuiet_nil ?_
                intro wq hw'
                obtain ⟨⟨w9, hgq⟩, hw2⟩ := hw'
                subst hw2
                have HQ := Lib.hid hgq
                clear hgq t1g t2g y1g y2g d1 d2 d2p d3 d0 h1 h2 h3
                have hcap := its_cap hrow.out
                have HM : Hid (Its wq w.heap.size (.slice (some ⟨b, off, none⟩) n c) O ∧ insE O x = O.take k ++ x :: O.drop k ∧ (O.take k).length = k ∧ (O.drop k).length = n - k ∧ Grow w wq ∧ k ≤ n) := ⟨(hrow.out.grow HU.out.2.2).grow HQ.out, insE_at O x k (by have := HI.out.2.2.2.2; have := HU.out.1; omega) HU.out.2.1 HSTOP.out, by rw [List.length_take]; have := HI.out.2.2.2.2; have := HU.out.1; omega, by rw [List.length_drop]; have := HI.out.2.2.2.2; omega, (HR.out.g.trans HU.out.2.2).trans HQ.out, HU.out.1⟩
                obtain ⟨B, hBB, _⟩ := RdIt.tail (w := wq) (k := k) HM.out.1.rd HM.out.2.2.2.2.2
                have hck : c ≠ k := by have := HK.out.2; have := hcap.2.1; omega
                rw [if_neg hck] at hBB
                injection hBB with hBB
                subst hBB
                have HB : Hid (∀ w1, Its w1 w.heap.size (.slice (some ⟨b, off, none⟩) n c) O → RdIt w1 (.slice (some ⟨b, off + k * 3, none⟩) (n - k) (c - k)) (O.drop k)) := fun w1 h1 => by
                  obtain ⟨B', e1, e2⟩ := RdIt.tail (w := w1) (k := k) h1.rd HM.out.2.2.2.2.2
                  rw [if_neg hck] at e1
                  injection e1 with e1
                  subst e1
                  exact e2.out
                have HF : Hid (∀ w1, Grow wq w1 → RdK w1 3 (.slice (some ⟨b, off, none⟩) k c) k ((O.take k).flatMap it)) := fun w1 g => (((HM.out.1.rd.front HM.out.2.2.2.2.2).grow g).rdk HM.out.2.2.1)
                have HZ : Hid (∀ w1, Grow wq w1 → w1.cell? ⟨bl, ol + i * 3, none⟩ = some (.int .i64 x.id) ∧ w1.cell? ⟨bl, ol + i * 3 + 1, none⟩ = some (.int .i64 x.at_) ∧ w1.cell? ⟨bl, ol + i * 3 + 2, none⟩ = some (.int .i64 x.rk)) := fun w1 g => ⟨((HM.out.2.2.2.2.1.trans g).cell (p := ⟨bl, ol + i * 3, none⟩) HY.out.1).trans HY.out.2.1, ((HM.out.2.2.2.2.1.trans g).cell (p := ⟨bl, ol + i * 3 + 1, none⟩) HY.out.1).trans HY.out.2.2.1, ((HM.out.2.2.2.2.1.trans g).cell (p := ⟨bl, ol + i * 3 + 2, none⟩) HY.out.1).trans HY.out.2.2.2⟩
                have q4 : (k : Int) ≤ (c : Int) := by have := hcap.2.1; have := HM.out.2.2.2.2.2; omega
                have q5 : (k : Int) ≤ (n : Int) := by have := HM.out.2.2.2.2.2; omega
                have q6 : n ≤ c := hcap.2.1
                have kb : k ≤ 100000 := by omega
                clear hcap
                go_wp2_with (first | (at_builtin; refine wpList_appK _ rfl (.tmp 58) (.tmp 61) 29 rfl 31 _ 3 24 Try.underlying29 infoIt rfl (by decide) wq.heap.size _ _ 0 k [] _ rfl rfl (its_lit0 wq) (HF.out _ (Grow.alloc _ _)) (it_one (O.take k)) (by omega) (by unfold maxLen; omega) (by simp) ?_; intro v1 w1 ho1 hg1 hat1; rw [List.nil_append] at ho1; have hgw : Grow wq w1 := (Grow.alloc _ _).grown hg1 (by simp) (fun k hk => by cases hk; exact Nat.le_refl _); have ho1' : Its w1 wq.heap.size v1 (O.take k) := (by unfold Its; rw [HM.out.2.2.1]; simpa using ho1); obtain ⟨y0, y1, y2⟩ := HZ.out w1 hgw; have H3 : Hid (Its w1 wq.heap.size v1 (O.take k) ∧ Grow wq w1) := ⟨ho1', hgw⟩; clear ho1 hg1 hat1 hgw ho1') | (at_builtin; refine run_itapp2 w1 wq.heap.size v1 (O.take k) x H3.out.1 H3.out.2.size (by rw [HM.out.2.2.1]; omega) rfl (.tmp 63) (.tmp 68) rfl rfl rfl ?_; intro v2 w2 hr2 o2 p2 n2; have H4 : Hid (Its w2 wq.heap.size v2 (O.take k ++ [x]) ∧ Grow wq w2 ∧ Its w2 w.heap.size (.slice (some ⟨b, off, none⟩) n c) O) := ⟨hr2, Below.trans H3.out.2 o2.low, (HM.out.1.grow H3.out.2).pst p2 (fun b e1 e2 => Its.apt HM.out.1 H3.out.1 (Nat.le_refl _) b e2 e1)⟩; clear hr2 o2 p2 n2 y0 y1 y2) | (at_builtin; refine wpList_appK _ rfl (.tmp 70) (.tmp 73) 29 rfl 31 _ 3 24 Try.underlying29 infoIt rfl (by decide) wq.heap.size v2 _ (O.take k ++ [x]).length (n - k) _ _ rfl rfl H4.out.1 ((HB.out w2 H4.out.2.2).rdk HM.out.2.2.2.1) (it_one (O.drop k)) (by rw [List.length_append, HM.out.2.2.1, List.length_singleton]; omega) (by rw [List.length_append, HM.out.2.2.1, List.length_singleton]; unfold maxLen; omega) H4.out.2.1.size ?_; intro v3 w3 ho3 hg3 hat3; have hgw : Grow wq w3 := H4.out.2.1.grown hg3 H4.out.2.1.size (fun k hk => (H4.out.1.lt hk).2); have ho3' : Its w3 w.heap.size v3 ((L.take (i + 1)).foldl insE []) := (by rw [fold_next HI.out.2.1, ← HI.out.2.2.2.1, ← HI.out.2.2.1, HM.out.2.1]; have q := its_app (l := O.take k ++ [x]) (l' := O.drop k) ho3 (by rw [HM.out.2.2.2.1]); rw [List.append_assoc] at q; exact q.base_ HM.out.2.2.2.2.1.size); obtain ⟨A5, c5, hv5⟩ := ho3'.form; obtain ⟨n5, hn5⟩ : ∃ n5, n5 = ((L.take (i + 1)).foldl insE []).length := ⟨_, rfl⟩; rw [← hn5] at hv5; subst hv5; have H5 : Hid (AlAt w w3 L (i + 1) A5 n5 c5) := ⟨HI.out.2.1, by rw [hn5, fold_len L (i + 1) HI.out.2.1], ho3', HM.out.2.2.2.2.1.trans hgw, fun e => by omega⟩; clear ho3 hg3 hat3 hgw ho3' hn5))
                go_roundg (N - (i + 1))
                case measure => have := HI.out.1; omega
                case rel => exact ⟨i + 1, A5, n5, c5, rfl, rfl, by go_num, H5.out⟩
            · have HSTOP : Hid (k = O.length ∨ ¬ leE (pt O k) x) := .inr (by rw [← HK.out.1]; unfold leE; omega)
              clear hk
              go_wp2_with fail
              have d1 : decide (y.at_ < x.at_) = false := decide_eq_false (by omega)
              have d2 : (y.at_ == x.at_) = false := by rw [beq_eq_false_iff_ne]; exact h2
              have d2p : decide (y.at_ = x.at_) = false := decide_eq_false (by omega)
              have d0 : decide (k < n) = true := decide_eq_true HK.out.2
              refine wp_region_gw (by kernel_rfl) (by kernel_rfl) ?_
              repeat (go_big_quiet_step (fail))
              refine wpQuiet_nil ?_
              intro wq hw'
              obtain ⟨⟨w9, hgq⟩, hw2⟩ := hw'
              subst hw2
              have HQ := Lib.hid hgq
              clear hgq t1g t2g y1g y2g d1 d2 d2p d0 h1 h2
              have hcap := its_cap hrow.out
              have HM : Hid (Its wq w.heap.size (.slice (some ⟨b, off, none⟩) n c) O ∧ insE O x = O.take k ++ x :: O.drop k ∧ (O.take k).length = k ∧ (O.drop k).length = n - k ∧ Grow w wq ∧ k ≤ n) := ⟨(hrow.out.grow HU.out.2.2).grow HQ.out, insE_at O x k (by have := HI.out.2.2.2.2; have := HU.out.1; omega) HU.out.2.1 HSTOP.out, by rw [List.length_take]; have := HI.out.2.2.2.2; have := HU.out.1; omega, by rw [List.length_drop]; have := HI.out.2.2.2.2; omega, (HR.out.g.trans HU.out.2.2).trans HQ.out, HU.out.1⟩
              obtain ⟨B, hBB, _⟩ := RdIt.tail (w := wq) (k := k) HM.out.1.rd HM.out.2.2.2.2.2
              have hck : c ≠ k := by have := HK.out.2; have := hcap.2.1; omega
              rw [if_neg hck] at hBB
              injection hBB with hBB
              subst hBB
              have HB : Hid (∀ w1, Its w1 w.heap.size (.slice (some ⟨b, off, none⟩) n c) O → RdIt w1 (.slice (some ⟨b, off + k * 3, none⟩) (n - k) (c - k)) (O.drop k)) := fun w1 h1 => by
                obtain ⟨B', e1, e2⟩ := RdIt.tail (w := w1) (k := k) h1.rd HM.out.2.2.2.2.2
                rw [if_neg hck] at e1
                injection e1 with e1
                subst e1
                exact e2.out
              have HF : Hid (∀ w1, Grow wq w1 → RdK w1 3 (.slice (some ⟨b, off, none⟩) k c) k ((O.take k).flatMap it)) := fun w1 g => (((HM.out.1.rd.front HM.out.2.2.2.2.2).grow g).rdk HM.out.2.2.1)
              have HZ : Hid (∀ w1, Grow wq w1 → w1.cell? ⟨bl, ol + i * 3, none⟩ = some (.int .i64 x.id) ∧ w1.cell? ⟨bl, ol + i * 3 + 1, none⟩ = some (.int .i64 x.at_) ∧ w1.cell? ⟨bl, ol + i * 3 + 2, none⟩ = some (.int .i64 x.rk)) := fun w1 g => ⟨((HM.out.2.2.2.2.1.trans g).cell (p := ⟨bl, ol + i * 3, none⟩) HY.out.1).trans HY.out.2.1, ((HM.out.2.2.2.2.1.trans g).cell (p := ⟨bl, ol + i * 3 + 1, none⟩) HY.out.1).trans HY.out.2.2.1, ((HM.out.2.2.2.2.1.trans g).cell (p := ⟨bl, ol + i * 3 + 2, none⟩) HY.out.1).trans HY.out.2.2.2⟩
              have q4 : (k : Int) ≤ (c : Int) := by have := hcap.2.1; have := HM.out.2.2.2.2.2; omega
              have q5 : (k : Int) ≤ (n : Int) := by have := HM.out.2.2.2.2.2; omega
              have q6 : n ≤ c := hcap.2.1
              have kb : k ≤ 100000 := by omega
              clear hcap
              go_wp2_with (first | (at_builtin; refine wpList_appK _ rfl (.tmp 58) (.tmp 61) 29 rfl 31 _ 3 24 Try.underlying29 infoIt rfl (by decide) wq.heap.size _ _ 0 k [] _ rfl rfl (its_lit0 wq) (HF.out _ (Grow.alloc _ _)) (it_one (O.take k)) (by omega) (by unfold maxLen; omega) (by simp) ?_; intro v1 w1 ho1 hg1 hat1; rw [List.nil_append] at ho1; have hgw : Grow wq w1 := (Grow.alloc _ _).grown hg1 (by simp) (fun k hk => by cases hk; exact Nat.le_refl _); have ho1' : Its w1 wq.heap.size v1 (O.take k) := (by unfold Its; rw [HM.out.2.2.1]; simpa using ho1); obtain ⟨y0, y1, y2⟩ := HZ.out w1 hgw; have H3 : Hid (Its w1 wq.heap.size v1 (O.take k) ∧ Grow wq w1) := ⟨ho1', hgw⟩; clear ho1 hg1 hat1 hgw ho1') | (at_builtin; refine run_itapp2 w1 wq.heap.size v1 (O.take k) x H3.out.1 H3.out.2.size (by rw [HM.out.2.2.1]; omega) rfl (.tmp 63) (.tmp 68) rfl rfl rfl ?_; intro v2 w2 hr2 o2 p2 n2; have H4 : Hid (Its w2 wq.heap.size v2 (O.take k ++ [x]) ∧ Grow wq w2 ∧ Its w2 w.heap.size (.slice (some ⟨b, off, none⟩) n c) O) := ⟨hr2, Below.trans H3.out.2 o2.low, (HM.out.1.grow H3.out.2).pst p2 (fun b e1 e2 => Its.apt HM.out.1 H3.out.1 (Nat.le_refl _) b e2 e1)⟩; clear hr2 o2 p2 n2 y0 y1 y2) | (at_builtin; refine wpList_appK _ rfl (.tmp 70) (.tmp 73) 29 rfl 31 _ 3 24 Try.underlying29 infoIt rfl (by decide) wq.heap.size v2 _ (O.take k ++ [x]).length (n - k) _ _ rfl rfl H4.out.1 ((HB.out w2 H4.out.2.2).rdk HM.out.2.2.2.1) (it_one (O.drop k)) (by rw [List.length_append, HM.out.2.2.1, List.length_singleton]; omega) (by rw [List.length_append, HM.out.2.2.1, List.length_singleton]; unfold maxLen; omega) H4.out.2.1.size ?_; intro v3 w3 ho3 hg3 hat3; have hgw : Grow wq w3 := H4.out.2.1.grown hg3 H4.out.2.1.size (fun k hk => (H4.out.1.lt hk).2); have ho3' : Its w3 w.heap.size v3 ((L.take (i + 1)).foldl insE []) := (by rw [fold_next HI.out.2.1, ← HI.out.2.2.2.1, ← HI.out.2.2.1, HM.out.2.1]; have q := its_app (l := O.take k ++ [x]) (l' := O.drop k) ho3 (by rw [HM.out.2.2.2.1]); rw [List.append_assoc] at q; exact q.base_ HM.out.2.2.2.2.1.size); obtain ⟨A5, c5, hv5⟩ := ho3'.form; obtain ⟨n5, hn5⟩ : ∃ n5, n5 = ((L.take (i + 1)).foldl insE []).length := ⟨_, rfl⟩; rw [← hn5] at hv5; subst hv5; have H5 : Hid (AlAt w w3 L (i + 1) A5 n5 c5) := ⟨HI.out.2.1, by rw [hn5, fold_len L (i + 1) HI.out.2.1], ho3', HM.out.2.2.2.2.1.trans hgw, fun e => by omega⟩; clear ho3 hg3 hat3 hgw ho3' hn5))
              go_roundg (N - (i + 1))
              case measure => have := HI.out.1; omega
              case rel => exact ⟨i + 1, A5, n5, c5, rfl, rfl, by go_num, H5.out⟩
        · obtain rfl : k = n := by have := HU.out.1; omega
          clear hk
          rcases Nat.eq_zero_or_pos i with hi | hi
          · obtain ⟨hA, hc⟩ := HR.out.nil hi
            have hk0 := HR.out.len
            subst hi
            subst hk0
            subst hA
            subst hc
            go_wp2_with fail
            refine wp_region_gw (by kernel_rfl) (by kernel_rfl) ?_
            repeat (go_big_quiet_step (fail))
            refine wpQuiet_nil ?_
            intro wq hw'
            obtain ⟨⟨w9, hgq⟩, hw2⟩ := hw'
            subst hw2
            have HQ := Lib.hid hgq
            clear hgq t1g t2g 
            have HM : Hid (Grow w wq) := (HR.out.g.trans HU.out.2.2).trans HQ.out
            have HZ : Hid (∀ w1, Grow wq w1 → w1.cell? ⟨bl, ol + 0 * 3, none⟩ = some (.int .i64 x.id) ∧ w1.cell? ⟨bl, ol + 0 * 3 + 1, none⟩ = some (.int .i64 x.at_) ∧ w1.cell? ⟨bl, ol + 0 * 3 + 2, none⟩ = some (.int .i64 x.rk)) := fun w1 g => ⟨((HM.out.trans g).cell (p := ⟨bl, ol + 0 * 3, none⟩) HY.out.1).trans HY.out.2.1, ((HM.out.trans g).cell (p := ⟨bl, ol + 0 * 3 + 1, none⟩) HY.out.1).trans HY.out.2.2.1, ((HM.out.trans g).cell (p := ⟨bl, ol + 0 * 3 + 2, none⟩) HY.out.1).trans HY.out.2.2.2⟩
            have HO0 : Hid (O = []) := by
              have := HI.out.2.2.2.2
              exact List.eq_nil_of_length_eq_zero this
            simp only [Nat.zero_mul, Nat.add_zero] at HZ
            go_wp2_with (first | (at_builtin; refine wpList_appK _ rfl (.tmp 58) (.tmp 61) 29 rfl 31 _ 3 24 Try.underlying29 infoIt rfl (by decide) wq.heap.size _ (.slice Option.none 0 0) 0 0 [] [] rfl rfl (its_lit0 wq) ((Its.none _ 0).rd) (by simp) (by omega) (by unfold maxLen; omega) (by simp) ?_; intro v1 w1 ho1 hg1 hat1; rw [List.nil_append] at ho1; have hgw : Grow wq w1 := (Grow.alloc _ _).grown hg1 (by simp) (fun k hk => by cases hk; exact Nat.le_refl _); have ho1' : Its w1 wq.heap.size v1 [] := ho1; obtain ⟨y0, y1, y2⟩ := HZ.out w1 hgw; have H3 : Hid (Its w1 wq.heap.size v1 [] ∧ Grow wq w1) := ⟨ho1', hgw⟩; clear ho1 hg1 hat1 hgw ho1') | (at_builtin; refine run_itapp2 w1 wq.heap.size v1 [] x H3.out.1 H3.out.2.size (by simp) rfl (.tmp 63) (.tmp 68) rfl rfl rfl ?_; intro v2 w2 hr2 o2 p2 n2; have H4 : Hid (Its w2 wq.heap.size v2 [x] ∧ Grow wq w2) := ⟨hr2, Below.trans H3.out.2 o2.low⟩; clear hr2 o2 p2 n2 y0 y1 y2) | (at_builtin; refine wpList_appK _ rfl (.tmp 70) (.tmp 73) 29 rfl 31 _ 3 24 Try.underlying29 infoIt rfl (by decide) wq.heap.size v2 (.slice Option.none 0 0) [x].length 0 _ [] rfl rfl H4.out.1 ((Its.none _ 0).rd) (by simp) (by simp) (by unfold maxLen; simp) H4.out.2.size ?_; intro v3 w3 ho3 hg3 hat3; have hgw : Grow wq w3 := H4.out.2.grown hg3 H4.out.2.size (fun k hk => (H4.out.1.lt hk).2); have ho3' : Its w3 w.heap.size v3 ((L.take (0 + 1)).foldl insE []) := (by rw [fold_next HI.out.2.1, ← HI.out.2.2.2.1, ← HI.out.2.2.1, HO0.out]; have q : Its w3 wq.heap.size v3 [x] := (by simpa [Its] using ho3); exact q.base_ HM.out.size); obtain ⟨A5, c5, hv5⟩ := ho3'.form; obtain ⟨n5, hn5⟩ : ∃ n5, n5 = ((L.take (0 + 1)).foldl insE []).length := ⟨_, rfl⟩; rw [← hn5] at hv5; subst hv5; have H5 : Hid (AlAt w w3 L (0 + 1) A5 n5 c5) := ⟨HI.out.2.1, by rw [hn5, fold_len L (0 + 1) HI.out.2.1], ho3', HM.out.trans hgw, fun e => by omega⟩; clear ho3 hg3 hat3 hgw ho3' hn5))
            go_roundg (N - (0 + 1))
            case measure => have := HI.out.1; omega
            case rel => exact ⟨0 + 1, A5, n5, c5, rfl, rfl, by go_num, H5.out⟩
          · obtain ⟨b, off, c', e2, _, _⟩ := hrow.out.rd.cell (by have := HI.out.2.2.2.2; have := HR.out.len; omega)
            have hA : A = some ⟨b, off, none⟩ := by injection e2
            subst hA
            have HSTOP : Hid (k = O.length ∨ ¬ leE (pt O k) x) := .inl HI.out.2.2.2.2.symm
            clear e2 hi
            go_wp2_with fail
            refine wp_region_gw (by kernel_rfl) (by kernel_rfl) ?_
            repeat (go_big_quiet_step (fail))
            refine wpQuiet_nil ?_
            intro wq hw'
            obtain ⟨⟨w9, hgq⟩, hw2⟩ := hw'
            subst hw2
            have HQ := Lib.hid hgq
            clear hgq t1g t2g 
            have hcap := its_cap hrow.out
            have HM : Hid (Its wq w.heap.size (.slice (some ⟨b, off, none⟩) k c) O ∧ insE O x = O.take k ++ x :: O.drop k ∧ (O.take k).length = k ∧ (O.drop k).length = 0 ∧ Grow w wq ∧ k ≤ k) := ⟨(hrow.out.grow HU.out.2.2).grow HQ.out, insE_at O x k (by have := HI.out.2.2.2.2; have := HU.out.1; omega) HU.out.2.1 HSTOP.out, by rw [List.length_take]; have := HI.out.2.2.2.2; have := HU.out.1; omega, by rw [List.length_drop]; have := HI.out.2.2.2.2; omega, (HR.out.g.trans HU.out.2.2).trans HQ.out, HU.out.1⟩
            obtain ⟨B, hBB, _⟩ := RdIt.tail (w := wq) (k := k) HM.out.1.rd HM.out.2.2.2.2.2
            have HB : Hid (∀ w1, Its w1 w.heap.size (.slice (some ⟨b, off, none⟩) k c) O → RdIt w1 (.slice (some B) 0 (c - k)) (O.drop k)) := fun w1 h1 => by
              obtain ⟨B', e1, e2⟩ := RdIt.tail (w := w1) (k := k) h1.rd HM.out.2.2.2.2.2
              rw [hBB] at e1
              cases e1
              have e3 := e2.out
              rw [Nat.sub_self] at e3
              exact e3
            have HF : Hid (∀ w1, Grow wq w1 → RdK w1 3 (.slice (some ⟨b, off, none⟩) k c) k ((O.take k).flatMap it)) := fun w1 g => (((HM.out.1.rd.front HM.out.2.2.2.2.2).grow g).rdk HM.out.2.2.1)
            have HZ : Hid (∀ w1, Grow wq w1 → w1.cell? ⟨bl, ol + i * 3, none⟩ = some (.int .i64 x.id) ∧ w1.cell? ⟨bl, ol + i * 3 + 1, none⟩ = some (.int .i64 x.at_) ∧ w1.cell? ⟨bl, ol + i * 3 + 2, none⟩ = some (.int .i64 x.rk)) := fun w1 g => ⟨((HM.out.2.2.2.2.1.trans g).cell (p := ⟨bl, ol + i * 3, none⟩) HY.out.1).trans HY.out.2.1, ((HM.out.2.2.2.2.1.trans g).cell (p := ⟨bl, ol + i * 3 + 1, none⟩) HY.out.1).trans HY.out.2.2.1, ((HM.out.2.2.2.2.1.trans g).cell (p := ⟨bl, ol + i * 3 + 2, none⟩) HY.out.1).trans HY.out.2.2.2⟩
            have q4 : (k : Int) ≤ (c : Int) := by have := hcap.2.1; have := HM.out.2.2.2.2.2; omega
            have q5 : (k : Int) ≤ (k : Int) := by have := HM.out.2.2.2.2.2; omega
            have q6 : k ≤ c := hcap.2.1
            have kb : k ≤ 100000 := by omega
            clear hcap
            go_wp2_with (first | (at_builtin; refine wpList_appK _ rfl (.tmp 58) (.tmp 61) 29 rfl 31 _ 3 24 Try.underlying29 infoIt rfl (by decide) wq.heap.size _ _ 0 k [] _ rfl rfl (its_lit0 wq) (HF.out _ (Grow.alloc _ _)) (it_one (O.take k)) (by omega) (by unfold maxLen; omega) (by simp) ?_; intro v1 w1 ho1 hg1 hat1; rw [List.nil_append] at ho1; have hgw : Grow wq w1 := (Grow.alloc _ _).grown hg1 (by simp) (fun k hk => by cases hk; exact Nat.le_refl _); have ho1' : Its w1 wq.heap.size v1 (O.take k) := (by unfold Its; rw [HM.out.2.2.1]; simpa using ho1); obtain ⟨y0, y1, y2⟩ := HZ.out w1 hgw; have H3 : Hid (Its w1 wq.heap.size v1 (O.take k) ∧ Grow wq w1) := ⟨ho1', hgw⟩; clear ho1 hg1 hat1 hgw ho1') | (at_builtin; refine run_itapp2 w1 wq.heap.size v1 (O.take k) x H3.out.1 H3.out.2.size (by rw [HM.out.2.2.1]; omega) rfl (.tmp 63) (.tmp 68) rfl rfl rfl ?_; intro v2 w2 hr2 o2 p2 n2; have H4 : Hid (Its w2 wq.heap.size v2 (O.take k ++ [x]) ∧ Grow wq w2 ∧ Its w2 w.heap.size (.slice (some ⟨b, off, none⟩) k c) O) := ⟨hr2, Below.trans H3.out.2 o2.low, (HM.out.1.grow H3.out.2).pst p2 (fun b e1 e2 => Its.apt HM.out.1 H3.out.1 (Nat.le_refl _) b e2 e1)⟩; clear hr2 o2 p2 n2 y0 y1 y2) | (at_builtin; refine wpList_appK _ rfl (.tmp 70) (.tmp 73) 29 rfl 31 _ 3 24 Try.underlying29 infoIt rfl (by decide) wq.heap.size v2 _ (O.take k ++ [x]).length 0 _ _ rfl rfl H4.out.1 ((HB.out w2 H4.out.2.2).rdk HM.out.2.2.2.1) (it_one (O.drop k)) (by rw [List.length_append, HM.out.2.2.1, List.length_singleton]; omega) (by rw [List.length_append, HM.out.2.2.1, List.length_singleton]; unfold maxLen; omega) H4.out.2.1.size ?_; intro v3 w3 ho3 hg3 hat3; have hgw : Grow wq w3 := H4.out.2.1.grown hg3 H4.out.2.1.size (fun k hk => (H4.out.1.lt hk).2); have ho3' : Its w3 w.heap.size v3 ((L.take (i + 1)).foldl insE []) := (by rw [fold_next HI.out.2.1, ← HI.out.2.2.2.1, ← HI.out.2.2.1, HM.out.2.1]; have q := its_app (l := O.take k ++ [x]) (l' := O.drop k) ho3 (by rw [HM.out.2.2.2.1]); rw [List.append_assoc] at q; exact q.base_ HM.out.2.2.2.2.1.size); obtain ⟨A5, c5, hv5⟩ := ho3'.form; obtain ⟨n5, hn5⟩ : ∃ n5, n5 = ((L.take (i + 1)).foldl insE []).length := ⟨_, rfl⟩; rw [← hn5] at hv5; subst hv5; have H5 : Hid (AlAt w w3 L (i + 1) A5 n5 c5) := ⟨HI.out.2.1, by rw [hn5, fold_len L (i + 1) HI.out.2.1], ho3', HM.out.2.2.2.2.1.trans hgw, fun e => by omega⟩; clear ho3 hg3 hat3 hgw ho3' hn5))
            go_roundg (N - (i + 1))
            case measure => have := HI.out.1; omega
            case rel => exact ⟨i + 1, A5, n5, c5, rfl, rfl, by go_num, H5.out⟩
    · obtain rfl : i = N := by have := HR.out.le; have := HN.out.1; omega
      have HE : Hid (Its wo w.heap.size (.slice A n c) (sortE L)) := by
        have := HR.out.row
        rwa [HN.out.1, List.take_length] at this
      go_wp2_with fail
      go_ret
      exact ⟨_, rfl, HE.out, HR.out.g⟩
end Go.Proofs.Ytdgbieapgmjjhaa
