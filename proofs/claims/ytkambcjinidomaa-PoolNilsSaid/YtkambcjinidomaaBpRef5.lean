/- Contract: the reference's Remove. -/
import Derived.Test.YtkambcjinidomaaBpRef4
namespace Go.Proofs.Ytkambcjinidomaa
set_option linter.unusedVariables false
set_option linter.unusedSimpArgs false
open Go.ChangeShapes Go.WideShapes Go.ChangeAt Go.RowKit

theorem tail_row {W : World} {base N c K : Nat} {A : Option Addr} {fr : List Bf} (haW : Bfs W base (.slice A N c) fr) (hN : N = fr.length) (hKl : K ≤ N) : RdBf W (.slice (if c = K then A else (A.map fun q => q.add (K * 2))) (N - K) (c - K)) (fr.drop K) := by
  rcases haW.2 with ⟨q1, q2⟩ | ⟨g, cap, cur, q1, _⟩
  · cases q1
    have : K = 0 := by omega
    subst this
    have e0 : fr = [] := List.eq_nil_of_length_eq_zero (by rw [q2])
    subst e0
    exact ⟨none, 0, by simp, rfl, Nat.le_refl _, Nat.zero_le _, fun h => absurd h (by simp)⟩
  · cases q1
    rw [← hN] at haW
    obtain ⟨B, q2, q3⟩ := RdBf.tail (l := fr) (k := K) (by have := haW.rd; exact this) hKl
    have e9 : (if c = K then some (⟨g, 0, none⟩ : Addr) else ((some (⟨g, 0, none⟩ : Addr)).map fun q => q.add (K * 2))) = some B := by
      rw [← q2]
      by_cases e : c = K
      · rw [if_pos e, if_pos e]
      · rw [if_neg e, if_neg e]
        show some (Addr.add _ _) = _
        rw [add_at]
    rw [e9]
    exact q3.out
theorem rmBad_cases {g n : Int} (h : Bad g ∨ n < 0) : decide (g < 0) = true ∨ (decide (g < 0) = false ∧ decide (15 < g) = true) ∨ (decide (g < 0) = false ∧ decide (15 < g) = false ∧ decide (n < 0) = true) := by
  by_cases hb : Bad g
  · rcases bad_cases hb with q | q
    · exact .inl q
    · exact .inr (.inl q)
  · rcases h with h | h
    · exact absurd h hb
    · unfold Bad at hb
      exact .inr (.inr ⟨decide_eq_false (by omega), decide_eq_false (by omega), decide_eq_true h⟩)
set_option maxRecDepth 10000 in
set_option maxHeartbeats 1000000 in
theorem rRemB_bad (w : World) (cs : Array Value) (hcs : cs.size = 32) (h1 : ∀ y ∈ cs.toList, y.oneCell' = true) (g n : Int) (hg : Bad g ∨ n < 0) : Calls Try.prog 16 #[.agg cs, .int .i64 g, .int .i64 n] w fun e w' => e = .returned (.tuple #[.agg cs, .int .i64 0, .int .i64 1]) ∧ Grow w w' := by
  obtain ⟨W, hW⟩ : ∃ W, W = (w.alloc (.cells cs 30)).alloc (.cells z32 30) := ⟨_, rfl⟩
  have HT : Hid (TwoB w W cs z32) := by rw [hW]; exact twoB w cs
  have H1 := Lib.hid (And.intro hcs h1)
  clear hcs h1
  rcases rmBad_cases hg with d1 | ⟨d1, d2⟩ | ⟨d1, d2, d3⟩
  all_goals
    clear hg
    go_enter Try.func16, Try.ntmps16
    go_upto_region 1 with fail
    rw [← hW]
    have HW := Lib.hid hW
    clear hW
    go_wp2_with (first
    | (show wpList _ _ _ (⟨some 19, .load 30 (.tmp 3), _, _, _, _⟩ :: _) _ _; refine wpList_load_pl W rfl _ rfl w.heap.size cs rfl HT.out.p H1.out.1 ?_)
    | (show wpList _ _ _ (⟨none, .store 30 (.tmp 6) (.tmp 19), _, _, _, _⟩ :: _) _ _; refine wpList_store_pl w W rfl _ _ rfl rfl (w.heap.size + 1) z32 cs rfl rfl HT.out.r rfl H1.out.1 H1.out.2 HT.out.g (Nat.le_succ _) ?_; intro w2 hb2 hk2 hg2; have H2 := Lib.hid (And.intro hb2 (And.intro hk2 hg2)); clear hb2 hk2 hg2))
    refine bodyPost_ret (results3_pl 6 7 8 rfl _ _ (w.heap.size + 1) cs rfl H2.out.1 H1.out.1) rfl ?_
    exact ⟨rfl, H2.out.2.2⟩
set_option maxRecDepth 10000 in
set_option maxHeartbeats 2000000 in
theorem rRemB_in (w : World) (base : Nat) (hbase : base ≤ w.heap.size) (cs : Array Value) (p : Pls) (h : PlC w base cs p) (k : Nat) (hk : k < 16) (hn : (p k).fr.length ≤ 1000000) (K : Nat) (hKl : K ≤ (p k).fr.length) : Calls Try.prog 16 #[.agg cs, .int .i64 (k : Int), .int .i64 (K : Int)] w fun e w' => ∃ v', e = .returned (.tuple #[v', .int .i64 (K : Int), .int .i64 0]) ∧ RPl w' base v' (upd p k ⟨(p k).fr.drop K, (p k).out⟩) ∧ Grow w w' := by
  obtain ⟨W, hW⟩ : ∃ W, W = (w.alloc (.cells cs 30)).alloc (.cells z32 30) := ⟨_, rfl⟩
  have HT : Hid (TwoB w W cs z32) := by rw [hW]; exact twoB w cs
  obtain ⟨aV, bV, e1, e2, ha, hb⟩ := h.at_ k hk
  have HP := Lib.hid h
  obtain ⟨fr, hfr⟩ : ∃ fr, fr = (p k).fr := ⟨_, rfl⟩
  rw [← hfr] at ha hn hKl ⊢
  have c1 := HT.out.p.cell (k * 2)
  rw [e1] at c1
  have haW := ha.grow HT.out.g
  obtain ⟨A, c, hav, hlc, hcm⟩ := haW.rd.form
  obtain ⟨N, hN⟩ : ∃ N, N = fr.length := ⟨_, rfl⟩
  rw [← hN] at hav hlc hn hKl

  subst hav
  have hcm2 : c ≤ 9223372036854775807 := hcm
  have hD : RdBf W (.slice (if c = K then A else (A.map fun q => q.add (K * 2))) (N - K) (c - K)) (fr.drop K) := tail_row haW hN hKl
  have HDk : Hid (RdK (W.alloc (.cells #[] 54)) 2 (.slice (if c = K then A else (A.map fun q => q.add (K * 2))) (N - K) (c - K)) (N - K) ((fr.drop K).flatMap bt)) := by
    have q := hD.grow (Grow.alloc W (.cells #[] 54))
    unfold RdBf at q
    rwa [List.length_drop, ← hN] at q
  have HX := Lib.hid (And.intro e1 (And.intro hfr hN))
  have HN := Lib.hid hn
  have d1 : decide ((k : Int) < 0) = false := decide_eq_false (by omega)
  have d2 : decide (15 < (k : Int)) = false := decide_eq_false (by omega)
  have d3 : (k : Int) < 16 := by omega
  have d5 : (K : Int) ≤ (N : Int) := by omega
  have d6 : (K : Int) ≤ (c : Int) := by omega
  have d7 : ¬ (N < K) := by omega
  have d8 : decide ((K : Int) < 0) = false := decide_eq_false (by omega)
  clear hD h e1 hfr hN e2 hb ha haW hcm hn
  go_enter Try.func16, Try.ntmps16
  go_upto_region 1 with fail
  rw [← hW]
  have HW := Lib.hid hW
  clear hW
  go_upto_region 5 with fail
  have c1' : (W.alloc (.cells #[] 54)).cell? ⟨w.heap.size, k * 2, none⟩ = some (.slice A N c) := ((Grow.alloc W _).cell (p := ⟨w.heap.size, k * 2, none⟩) HT.out.p.lt).trans c1
  go_upto_region 6 with (first | (show wpList _ _ _ (⟨some 40, _, _, _, _, _⟩ :: _) _ _; refine wpList_appK _ rfl (.tmp 33) (.tmp 39) 26 rfl 54 _ 2 16 Try.underlying26 infoBf rfl (by decide) W.heap.size _ _ 0 (N - K) [] _ rfl rfl (bfs_lit0 W) HDk.out (bt_one _) (by have := HN.out; omega) (by have := HN.out; unfold maxLen; omega) (by simp) ?_; intro v1 w1 ho1 hg1 hat1; rw [List.nil_append] at ho1; have hgw : Grow W w1 := (Grow.alloc W _).grown hg1 (by simp) (fun k hk => by cases hk; exact Nat.le_refl _); obtain ⟨A1, k1, hf1, _⟩ := (RdK.of_own ho1).form; obtain ⟨m1, hm1⟩ : ∃ m, m = 0 + (N - K) := ⟨_, rfl⟩; rw [← hm1] at hf1 ho1; subst hf1; have HT1 : Hid (TwoB w w1 cs z32) := HT.out.grow hgw; have c9 := HT1.out.p.cell (k * 2); rw [HX.out.1] at c9; have f9 := HT1.out.p.fz (k * 2); have H9 := Lib.hid (And.intro ho1 (And.intro hgw hm1)); clear ho1 hg1 hat1 hgw hm1 c1'))
  obtain ⟨W3, hW3⟩ : ∃ W3, W3 = w1.setCell ⟨w.heap.size, k * 2, none⟩ (.slice A1 m1 k1) := ⟨_, rfl⟩
  rw [← hW3]
  obtain ⟨cs1, hcs1⟩ : ∃ c, c = cs.setIfInBounds (k * 2) (.slice A1 m1 k1) := ⟨_, rfl⟩
  have HT3 : Hid (TwoB w W3 cs1 z32) := by rw [hW3, hcs1]; exact HT1.out.set _ _
  have hrow : Bfs w1 W.heap.size (.slice A1 m1 k1) (fr.drop K) := by
    have q := H9.out.1
    unfold Bfs
    rw [List.length_drop, ← HX.out.2.2, show N - K = m1 by have := H9.out.2.2; omega]
    exact q
  have hP3 : PlC W3 base cs1 (upd p k ⟨fr.drop K, (p k).out⟩) := by
    rw [hcs1]
    exact HP.out.set0 (fun u l hu => by rw [hW3]; exact (hu.grow (HT.out.g.trans H9.out.2.1)).set_ HT1.out.p) hk (by rw [hW3]; exact (hrow.base_ (Nat.le_trans hbase HT.out.g.size)).set_ HT1.out.p)
  have HP3 := Lib.hid hP3
  have H1 := Lib.hid (And.intro hP3.size hP3.ones)
  clear hW3 hcs1 hP3 hrow c9 f9 c1
  go_wp2_with (first
    | (show wpList _ _ _ (⟨some 43, .load 30 (.tmp 3), _, _, _, _⟩ :: _) _ _; refine wpList_load_pl W3 rfl _ rfl w.heap.size cs1 rfl HT3.out.p H1.out.1 ?_)
    | (show wpList _ _ _ (⟨none, .store 30 (.tmp 6) (.tmp 43), _, _, _, _⟩ :: _) _ _; refine wpList_store_pl w W3 rfl _ _ rfl rfl (w.heap.size + 1) z32 cs1 rfl rfl HT3.out.r rfl H1.out.1 H1.out.2 HT3.out.g (Nat.le_succ _) ?_; intro w2 hb2 hk2 hg2; have H2 := Lib.hid (And.intro hb2 (And.intro hk2 hg2)); clear hb2 hk2 hg2))
  all_goals
    refine bodyPost_ret (results3_pl 6 7 8 rfl _ _ (w.heap.size + 1) cs1 rfl H2.out.1 H1.out.1) rfl ?_
    exact ⟨_, rfl, ⟨cs1, rfl, HP3.out.st fun u l hu => hu.but_ HT3.out.r H2.out.2.1⟩, H2.out.2.2⟩
set_option maxRecDepth 10000 in
set_option maxHeartbeats 2000000 in
theorem rRemB_out (w : World) (base : Nat) (hbase : base ≤ w.heap.size) (cs : Array Value) (p : Pls) (h : PlC w base cs p) (k : Nat) (hk : k < 16) (hn : (p k).fr.length ≤ 1000000) (K : Nat) (hKN : K = (p k).fr.length) (n : Int) (hnn : ((p k).fr.length : Int) < n) : Calls Try.prog 16 #[.agg cs, .int .i64 (k : Int), .int .i64 n] w fun e w' => ∃ v', e = .returned (.tuple #[v', .int .i64 (K : Int), .int .i64 0]) ∧ RPl w' base v' (upd p k ⟨(p k).fr.drop K, (p k).out⟩) ∧ Grow w w' := by
  obtain ⟨W, hW⟩ : ∃ W, W = (w.alloc (.cells cs 30)).alloc (.cells z32 30) := ⟨_, rfl⟩
  have HT : Hid (TwoB w W cs z32) := by rw [hW]; exact twoB w cs
  obtain ⟨aV, bV, e1, e2, ha, hb⟩ := h.at_ k hk
  have HP := Lib.hid h
  obtain ⟨fr, hfr⟩ : ∃ fr, fr = (p k).fr := ⟨_, rfl⟩
  rw [← hfr] at ha hn hKN hnn ⊢
  have c1 := HT.out.p.cell (k * 2)
  rw [e1] at c1
  have haW := ha.grow HT.out.g
  obtain ⟨A, c, hav, hlc, hcm⟩ := haW.rd.form
  obtain ⟨N, hN⟩ : ∃ N, N = fr.length := ⟨_, rfl⟩
  rw [← hN] at hav hlc hn hKN hnn
  have hKN : N = K := hKN.symm
  subst hKN
  have hKl : N ≤ N := Nat.le_refl _
  subst hav
  have hcm2 : c ≤ 9223372036854775807 := hcm
  have hD : RdBf W (.slice (if c = N then A else (A.map fun q => q.add (N * 2))) 0 (c - N)) (fr.drop N) := by have q := tail_row haW hN hKl; rwa [Nat.sub_self] at q
  have HDk : Hid (RdK (W.alloc (.cells #[] 54)) 2 (.slice (if c = N then A else (A.map fun q => q.add (N * 2))) 0 (c - N)) 0 ((fr.drop N).flatMap bt)) := by
    have q := hD.grow (Grow.alloc W (.cells #[] 54))
    unfold RdBf at q
    rwa [List.length_drop, ← hN, Nat.sub_self] at q
  have HX := Lib.hid (And.intro e1 (And.intro hfr hN))
  have HN := Lib.hid hn
  have d1 : decide ((k : Int) < 0) = false := decide_eq_false (by omega)
  have d2 : decide (15 < (k : Int)) = false := decide_eq_false (by omega)
  have d3 : (k : Int) < 16 := by omega
  have d5 : (N : Int) ≤ (N : Int) := by omega
  have d6 : (N : Int) ≤ (c : Int) := by omega
  have d7 : decide (n < 0) = false := decide_eq_false (by omega)
  clear hD h e1 hfr hN e2 hb ha haW hcm hn
  go_enter Try.func16, Try.ntmps16
  go_upto_region 1 with fail
  rw [← hW]
  have HW := Lib.hid hW
  clear hW
  go_upto_region 5 with fail
  have c1' : (W.alloc (.cells #[] 54)).cell? ⟨w.heap.size, k * 2, none⟩ = some (.slice A N c) := ((Grow.alloc W _).cell (p := ⟨w.heap.size, k * 2, none⟩) HT.out.p.lt).trans c1
  go_upto_region 6 with (first | (show wpList _ _ _ (⟨some 40, _, _, _, _, _⟩ :: _) _ _; refine wpList_appK _ rfl (.tmp 33) (.tmp 39) 26 rfl 54 _ 2 16 Try.underlying26 infoBf rfl (by decide) W.heap.size _ _ 0 0 [] _ rfl rfl (bfs_lit0 W) HDk.out (bt_one _) (by have := HN.out; omega) (by have := HN.out; unfold maxLen; omega) (by simp) ?_; intro v1 w1 ho1 hg1 hat1; rw [List.nil_append] at ho1; have hgw : Grow W w1 := (Grow.alloc W _).grown hg1 (by simp) (fun k hk => by cases hk; exact Nat.le_refl _); obtain ⟨A1, k1, hf1, _⟩ := (RdK.of_own ho1).form; obtain ⟨m1, hm1⟩ : ∃ m, m = 0 + 0 := ⟨_, rfl⟩; rw [← hm1] at hf1 ho1; subst hf1; have HT1 : Hid (TwoB w w1 cs z32) := HT.out.grow hgw; have c9 := HT1.out.p.cell (k * 2); rw [HX.out.1] at c9; have f9 := HT1.out.p.fz (k * 2); have H9 := Lib.hid (And.intro ho1 (And.intro hgw hm1)); clear ho1 hg1 hat1 hgw hm1 c1'))
  obtain ⟨W3, hW3⟩ : ∃ W3, W3 = w1.setCell ⟨w.heap.size, k * 2, none⟩ (.slice A1 m1 k1) := ⟨_, rfl⟩
  rw [← hW3]
  obtain ⟨cs1, hcs1⟩ : ∃ c, c = cs.setIfInBounds (k * 2) (.slice A1 m1 k1) := ⟨_, rfl⟩
  have HT3 : Hid (TwoB w W3 cs1 z32) := by rw [hW3, hcs1]; exact HT1.out.set _ _
  have hrow : Bfs w1 W.heap.size (.slice A1 m1 k1) (fr.drop N) := by
    have q := H9.out.1
    unfold Bfs
    rw [List.length_drop, ← HX.out.2.2, show N - N = m1 by have := H9.out.2.2; omega]
    exact q
  have hP3 : PlC W3 base cs1 (upd p k ⟨fr.drop N, (p k).out⟩) := by
    rw [hcs1]
    exact HP.out.set0 (fun u l hu => by rw [hW3]; exact (hu.grow (HT.out.g.trans H9.out.2.1)).set_ HT1.out.p) hk (by rw [hW3]; exact (hrow.base_ (Nat.le_trans hbase HT.out.g.size)).set_ HT1.out.p)
  have HP3 := Lib.hid hP3
  have H1 := Lib.hid (And.intro hP3.size hP3.ones)
  clear hW3 hcs1 hP3 hrow c9 f9 c1
  go_wp2_with (first
    | (show wpList _ _ _ (⟨some 43, .load 30 (.tmp 3), _, _, _, _⟩ :: _) _ _; refine wpList_load_pl W3 rfl _ rfl w.heap.size cs1 rfl HT3.out.p H1.out.1 ?_)
    | (show wpList _ _ _ (⟨none, .store 30 (.tmp 6) (.tmp 43), _, _, _, _⟩ :: _) _ _; refine wpList_store_pl w W3 rfl _ _ rfl rfl (w.heap.size + 1) z32 cs1 rfl rfl HT3.out.r rfl H1.out.1 H1.out.2 HT3.out.g (Nat.le_succ _) ?_; intro w2 hb2 hk2 hg2; have H2 := Lib.hid (And.intro hb2 (And.intro hk2 hg2)); clear hb2 hk2 hg2))
  all_goals
    refine bodyPost_ret (results3_pl 6 7 8 rfl _ _ (w.heap.size + 1) cs1 rfl H2.out.1 H1.out.1) rfl ?_
    exact ⟨_, rfl, ⟨cs1, rfl, HP3.out.st fun u l hu => hu.but_ HT3.out.r H2.out.2.1⟩, H2.out.2.2⟩
theorem rRemB (w : World) (base : Nat) (hbase : base ≤ w.heap.size) (v : Value) (p : Pls) (h : RPl w base v p) (hp : POk p) (g n : Int) : Calls Try.prog 16 #[v, .int .i64 g, .int .i64 n] w fun e w' => ∃ v', e = .returned (.tuple #[v', .int .i64 (rmI p g n), .int .i64 (rmE g n)]) ∧ RPl w' base v' (rmP p g n) ∧ Grow w w' := by
  obtain ⟨cs, rfl, hc⟩ := h
  by_cases hg : Bad g ∨ n < 0
  · obtain ⟨e1, e2, e3⟩ := rmE_bad (p := p) hg
    refine (rRemB_bad w cs hc.size hc.ones g n hg).mono ?_
    rintro e w' ⟨rfl, g1⟩
    exact ⟨_, by rw [e1, e2], by rw [e3]; exact ⟨cs, rfl, hc.grow g1⟩, g1⟩
  · obtain ⟨k, rfl, hk, hk2⟩ := bad_nat fun q => hg (.inl q)
    obtain ⟨e1, e2, e3⟩ := rmE_ok (p := p) hg
    have hl := (hp k hk).len
    have hn0 : ¬ n < 0 := fun q => hg (.inr q)
    rw [hk2] at e3
    by_cases h0 : n ≤ ((p k).fr.length : Int)
    · obtain ⟨K, rfl⟩ : ∃ K : Nat, n = (K : Int) := ⟨n.toNat, by omega⟩
      have eK : rmK p k K = K := by unfold rmK; rw [hk2, Int.toNat_natCast]; omega
      rw [eK] at e2 e3
      refine (rRemB_in w base hbase cs p hc k hk (by omega) K (by omega)).mono ?_
      rintro e w' ⟨v', rfl, h1, g1⟩
      exact ⟨v', by rw [e1, e2], by rw [e3]; exact h1, g1⟩
    · have eK : rmK p k n = (p k).fr.length := by unfold rmK; rw [hk2]; omega
      rw [eK] at e2 e3
      refine (rRemB_out w base hbase cs p hc k hk (by omega) _ rfl n (by omega)).mono ?_
      rintro e w' ⟨v', rfl, h1, g1⟩
      exact ⟨v', by rw [e1, e2], by rw [e3]; exact h1, g1⟩
end Go.Proofs.Ytkambcjinidomaa
