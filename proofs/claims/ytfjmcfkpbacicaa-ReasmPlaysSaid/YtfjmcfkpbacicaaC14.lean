/- Contract: the reference's without. -/
import Derived.Test.YtfjmcfkpbacicaaC13
namespace Go.Proofs.Ytfjmcfkpbacicaa
set_option linter.unusedVariables false
set_option linter.unusedSimpArgs false
open Go.ChangeShapes Go.WideShapes Go.ChangeAt Go.RowKit

theorem Rfs.front {w : World} {A : Option Addr} {n c k : Nat} {l : List Rf} (h : RdK w 20 (.slice A n c) l.length (cells20 l)) (hk : k ≤ n) : RdK w 20 (.slice A k c) (l.take k).length (cells20 (l.take k)) := by
  obtain ⟨A', c', e, h0, h1, h2, h3⟩ := h
  cases e
  have hl : (l.take k).length = k := by rw [List.length_take]; omega
  refine ⟨A, c, by rw [hl], cells20_length _, by omega, h2, fun hp => ?_⟩
  rw [hl] at hp
  obtain ⟨b, off, rfl, hb, hc⟩ := h3 (by omega)
  refine ⟨b, off, rfl, hb, fun j u hj => hc j u ?_⟩
  rw [← cells20_take] at hj
  have hlt : j < k * 20 := by
    have := (List.getElem?_eq_some_iff.1 hj).1
    rw [List.length_take] at this
    omega
  rwa [List.getElem?_take_of_lt hlt] at hj
theorem Rfs.tail {w : World} {b off n c k : Nat} {l : List Rf} (h : RdK w 20 (.slice (some ⟨b, off, none⟩) n c) l.length (cells20 l)) (hk : k ≤ n) : ∃ B : Addr, (if c = k then some (⟨b, off, none⟩ : Addr) else some ⟨b, off + k * 20, none⟩) = some B ∧ Hid (∀ w1, Grow w w1 → RdK w1 20 (.slice (some B) (n - k) (c - k)) (l.drop k).length (cells20 (l.drop k))) := by
  obtain ⟨A', c', e, h0, h1, h2, h3⟩ := h
  cases e
  have hl : (l.drop k).length = l.length - k := List.length_drop
  by_cases hc : c = k
  · refine ⟨⟨b, off, none⟩, by simp [hc], fun w1 g => ?_⟩
    have e0 : l.length - k = 0 := by omega
    have e1 : l.drop k = [] := List.eq_nil_of_length_eq_zero (by rw [hl]; exact e0)
    rw [e1]
    exact ⟨_, _, by rw [e0]; rfl, rfl, by simp, by omega, fun h => absurd h (by simp)⟩
  · refine ⟨⟨b, off + k * 20, none⟩, by simp [hc], fun w1 g => ?_⟩
    refine ⟨_, _, by rw [hl], cells20_length _, by omega, by omega, fun hp => ?_⟩
    obtain ⟨b', off', e, hb, hcl⟩ := h3 (by omega)
    cases e
    refine ⟨b, off + k * 20, rfl, Nat.lt_of_lt_of_le hb g.size, fun j u hj => ?_⟩
    rw [← cells20_drop, List.getElem?_drop] at hj
    have := (g.cell (p := ⟨b, off + (k * 20 + j), none⟩) hb).trans (hcl _ u hj)
    rwa [← Nat.add_assoc] at this
theorem Rfrow.lit0 (w : World) (base : Nat) (hb : base ≤ w.heap.size) : Rfrow (w.alloc (.cells #[] 78)) base (.slice (some ⟨w.heap.size, 0, none⟩) 0 0) [] := World.ownsRow_lit w #[] 0 hb (Nat.zero_le _) rfl
theorem RTab.rf_one {base : Nat} {w : World} {l : List Rq} (h : ∀ q ∈ l, q.Ok base w) : ∀ x ∈ l.map Rq.x, x.One := fun x hx => by
  obtain ⟨q, hq, rfl⟩ := List.mem_map.1 hx
  exact (h q hq).one
theorem map_erase {α β : Type} (f : α → β) (l : List α) (i : Nat) : (l.map f).take i ++ (l.map f).drop (i + 1) = (l.eraseIdx i).map f := by rw [List.eraseIdx_eq_take_drop_succ, List.map_append, List.map_take, List.map_drop]
theorem TbBlk.set {w : World} {g : Nat} {most life : Int} {vL : Value} (h : TbBlk w g most life vL) (v : Value) : TbBlk (w.setCell ⟨g, 2, none⟩ v) g most life v ∧ But g w (w.setCell ⟨g, 2, none⟩ v) ∧ ∀ w₀, Grow w₀ w → w₀.heap.size ≤ g → Grow w₀ (w.setCell ⟨g, 2, none⟩ v) :=
  ⟨heap_setCell_own h v, ⟨by simp, fun b hne => Below.heap_setCell _ _ _ _ hne⟩, fun w₀ g1 g2 => Below.setCell g1 g2 v⟩

set_option maxRecDepth 10000 in
set_option maxHeartbeats 4000000 in
theorem rWithout_any (w : World) (base : Nat) (v : Value) (most life : Int) (A : List Wt) (hT : RTab w base v most life A) (h64 : A.length ≤ 64) (hb : base ≤ w.heap.size) (i : Nat) (hi : i < A.length) :
    Calls Try.prog 26 #[v, .int .i64 (i : Int)] w fun e w' => ∃ v', e = .returned v' ∧ RTab w' base v' most life (A.eraseIdx i) ∧ Grow w w' := by
  obtain ⟨vL, l, rfl, hrow, hok, hA⟩ := hT
  have hlA : (l.map Rq.x).length = A.length := by rw [← hA, List.length_map, List.length_map]
  have hone := RTab.rf_one hok
  obtain ⟨A1, cp, e, hlc, hcm⟩ := (RdK.of_own hrow).form
  obtain ⟨N, hN⟩ : ∃ N, N = (l.map Rq.x).length := ⟨_, rfl⟩
  rw [← hN] at e hlA hlc
  subst e
  obtain ⟨W1, hW1⟩ : ∃ W1, W1 = (w.alloc (.cells #[.int .i64 most, .int .i64 life, .slice A1 N cp] 32)).alloc (.cells #[.int .i64 0, .int .i64 0, .slice none 0 0] 32) := ⟨_, rfl⟩
  have hgA := Grow.alloc w (.cells #[.int .i64 most, .int .i64 life, .slice A1 N cp] 32)
  have hg1 : Grow w W1 := by rw [hW1]; exact hgA.trans (Grow.alloc _ _)
  have hB : TbBlk W1 w.heap.size most life (.slice A1 N cp) := by
    rw [hW1]
    exact TbBlk.grow (heap_alloc_new w _) (Grow.alloc _ _)
  have hZ : TbBlk W1 (w.heap.size + 1) 0 0 (.slice none 0 0) := by
    have := heap_alloc_new (w.alloc (.cells #[.int .i64 most, .int .i64 life, .slice A1 N cp] 32)) (.cells #[.int .i64 0, .int .i64 0, .slice none 0 0] 32)
    rw [show (w.alloc (.cells #[.int .i64 most, .int .i64 life, .slice A1 N cp] 32)).heap.size = w.heap.size + 1 by simp] at this
    rw [hW1]
    exact this
  have hsz : W1.heap.size = w.heap.size + 2 := by rw [hW1]; simp
  have hrd := (RdK.of_own hrow).grow hg1
  obtain ⟨b0, off, e, hbl, _⟩ := Rfs.at_ hrd (by omega)
  subst e
  have hTl := Rfs.tail (l := l.map Rq.x) (k := i + 1) hrd (show i + 1 ≤ N by omega)
  obtain ⟨B, hBB, hTl⟩ := hTl
  have hFr : Hid (∀ w1, Grow W1 w1 → RdK w1 20 (.slice (some ⟨b0, off, none⟩) i cp) ((l.map Rq.x).take i).length (cells20 ((l.map Rq.x).take i))) := fun w1 hg => (Rfs.front hrd (show i ≤ N by omega)).grow hg
  have hone1 : Hid (∀ y ∈ cells20 ((l.map Rq.x).take i), y.oneCell' = true) := cells20_one fun q hq => hone q (List.mem_of_mem_take hq)
  have hone2 : Hid (∀ y ∈ cells20 ((l.map Rq.x).drop (i + 1)), y.oneCell' = true) := cells20_one fun q hq => hone q (List.mem_of_mem_drop hq)
  have HL := Lib.hid (show ((l.map Rq.x).take i).length = i ∧ ((l.map Rq.x).drop (i + 1)).length = N - (i + 1) from ⟨by rw [List.length_take]; omega, by rw [List.length_drop, ← hN]⟩)
  have HT := Lib.hid (And.intro hg1 (And.intro hB (And.intro hZ (And.intro hsz (And.intro hok (And.intro hA hb))))))
  unfold maxLen at hcm
  have hN64 : N ≤ 64 := by omega
  have hiN : i < N := by omega
  have c2 := hB.c2
  have c2d : W1.drew.cell? ⟨w.heap.size, 2, none⟩ = some (.slice (some ⟨b0, off, none⟩) N cp) := (hB.grow (Grow.drew W1)).c2
  have c2e : (W1.alloc (.cells #[] 78)).cell? ⟨w.heap.size, 2, none⟩ = some (.slice (some ⟨b0, off, none⟩) N cp) := (hB.grow (Grow.alloc W1 _)).c2
  have c2a : (W1.drew.alloc (.cells #[] 78)).cell? ⟨w.heap.size, 2, none⟩ = some (.slice (some ⟨b0, off, none⟩) N cp) := (hB.grow ((Grow.drew W1).trans (Grow.alloc _ _))).c2
  clear hg1 hB hZ hsz hok hA hrow hrd hbl hone hgA hN hi hlA
  have q1 : (0 : Int) ≤ (i : Int) + 1 := by omega
  have q2 : (i : Int) + 1 ≤ (N : Int) := by omega
  have q3 : ((i : Int) + 1).toNat = i + 1 := by omega
  have q4 : (i : Int) ≤ (cp : Int) := by omega
  have q6 : IntKind.i64.wrap ((i : Int) + 1) = (i : Int) + 1 := IntWalk.i64_in _ (by omega)
  go_enter Try.func26, Try.ntmps26
  go_upto_region 1 with fail
  rw [← hW1]
  clear hW1
  go_region_law (first
    | (refine step_appK _ rfl (.tmp 5) (.tmp 9) 30 rfl 78 _ 20 168 Try.underlying30 infoRf rfl (by decide) W1.heap.size _ (.slice (some ⟨b0, off, none⟩) i cp) 0 _ [] _ rfl rfl (Rfrow.lit0 W1.drew W1.heap.size (by simp)) (hFr.out _ ((Grow.drew _).trans (Grow.alloc _ _))) hone1.out (by rw [HL.out.1]; omega) (by rw [HL.out.1]; unfold maxLen; omega) (by simp) ?_; intro v1 w1 ho1 hg1 hat1; have hgw : Grow W1 w1 := ((Grow.drew W1).trans (Grow.alloc _ _)).grown hg1 (by simp) (fun k hk => by cases hk; simp); have H1 := Lib.hid (And.intro ho1 hgw); have c2b := (HT.out.2.1.grow hgw).c2; clear ho1 hg1 hat1 hgw c2 c2d c2a c2e)
    | (refine step_appK _ rfl (.tmp 10) (.tmp 15) 30 rfl 78 _ 20 168 Try.underlying30 infoRf rfl (by decide) W1.heap.size v1 _ _ _ _ _ rfl rfl H1.out.1 (hTl.out _ H1.out.2) hone2.out (by rw [HL.out.1, HL.out.2]; omega) (by rw [HL.out.1, HL.out.2]; unfold maxLen; omega) H1.out.2.size ?_; intro v2 w2 ho2 hg2 hat2; have hgw2 : Grow W1 w2 := H1.out.2.grown hg2 H1.out.2.size fun k hk => (World.ownsRow.lt H1.out.1 k hk).1; obtain ⟨A2, n2, cap2, hv2⟩ : ∃ A n c, v2 = .slice A n c := (by obtain ⟨A2, c3, e, _⟩ := (RdK.of_own ho2).form; exact ⟨A2, _, c3, e⟩); subst hv2; have H2 := Lib.hid (And.intro ho2 hgw2); have fz2 := (HT.out.2.1.grow hgw2).fz 2; have c2f := (HT.out.2.1.grow hgw2).c2; clear ho2 hg2 hat2 hgw2 c2b))
  all_goals
    obtain ⟨w3, hw3⟩ : ∃ w3, w3 = w2.setCell ⟨w.heap.size, 2, none⟩ (.slice A2 n2 cap2) := ⟨_, rfl⟩
    rw [← hw3]
    obtain ⟨s1, s2, s3⟩ := (HT.out.2.1.grow H2.out.2).set (.slice A2 n2 cap2)
    rw [← hw3] at s1 s2 s3
    have hZ3 : TbBlk w3 (w.heap.size + 1) 0 0 (.slice none 0 0) := (HT.out.2.2.1.grow H2.out.2).but s2 (by omega)
    have hR3 : Rfrow w3 W1.heap.size (.slice A2 n2 cap2) ((l.eraseIdx i).map Rq.x) := by
      have h := ownsRow_but H2.out.1 s2 (by have := HT.out.2.2.2.1; omega)
      rw [← map_erase]
      unfold Rfrow
      rw [cells20_append, List.length_append]
      simpa using h
    have HZ := Lib.hid (And.intro s1 (And.intro hZ3 (And.intro hR3 (s3 w (HT.out.1.trans H2.out.2) (Nat.le_refl _)))))
    clear s1 s2 s3 hZ3 hR3 hw3 fz2 c2f
    go_wp2_with (first | (show wpList _ _ _ (⟨some 18, .load 32 (.tmp 2), _, _, _, _⟩ :: _) _ _; refine wpList_load_tb w3 rfl _ rfl w.heap.size rfl most life (.slice A2 n2 cap2) HZ.out.1 ?_) | (show wpList _ _ _ (⟨none, .store 32 (.tmp 4) (.tmp 18), _, _, _, _⟩ :: _) _ _; refine wpList_store_tb w w3 rfl _ _ rfl rfl (w.heap.size + 1) rfl most life (.slice A2 n2 cap2) rfl rfl 0 0 (.slice none 0 0) HZ.out.2.1 HZ.out.2.2.2 (by omega) ?_; intro w4 h4 hb4 g4; have H4 := Lib.hid (And.intro h4 (And.intro hb4 g4)); clear h4 hb4 g4))
    refine bodyPost_ret (results_cell_row rfl _ w4 (w.heap.size + 1) _ #[.int .i64 most, .int .i64 life, .slice A2 n2 cap2] (0, 0) _ rfl H4.out.1 Try.underlying32 rfl (by kernel_rfl)) rfl ?_
    refine ⟨_, rfl, ⟨_, l.eraseIdx i, rfl, ownsRow_base (ownsRow_but HZ.out.2.2.1 H4.out.2.1 (by have := HT.out.2.2.2.1; omega)) (Nat.le_trans HT.out.2.2.2.2.2.2 HT.out.1.size), fun q hq => (HT.out.2.2.2.2.1 q (List.mem_of_mem_eraseIdx hq)).grow H4.out.2.2 HT.out.2.2.2.2.2.2, ?_⟩, H4.out.2.2⟩
    rw [← HT.out.2.2.2.2.2.1, ← map_erase, List.eraseIdx_eq_take_drop_succ]
end Go.Proofs.Ytfjmcfkpbacicaa
/- Contracts: the reference's Next and Held. -/
namespace Go.Proofs.Ytfjmcfkpbacicaa
set_option linter.unusedVariables false
set_option linter.unusedSimpArgs false
open Go.ChangeShapes Go.WideShapes Go.ChangeAt Go.RowKit

/-- The table boxed: its block, its rows. -/
theorem RTab.box {w : World} {base : Nat} {v : Value} {most life : Int} {A : List Wt} (hT : RTab w base v most life A) : ∃ (A1 : Option Addr) (N cp : Nat) (l : List Rq), v = .agg #[.int .i64 most, .int .i64 life, .slice A1 N cp] ∧ N = A.length ∧ N = l.length ∧ N ≤ cp ∧ cp ≤ maxLen ∧ l.map Rq.t = A ∧ (∀ q ∈ l, q.Ok base w) ∧
    (0 < N → ∃ b off, A1 = some ⟨b, off, none⟩ ∧ b < w.heap.size ∧ ∀ j (hj : j < l.length), RfAt w b (off + j * 20) l[j].x) := by
  obtain ⟨vL, l, rfl, hrow, hok, hA⟩ := hT
  obtain ⟨A1, cp, e, hlc, hcm⟩ := (RdK.of_own hrow).form
  subst e
  have hl : (l.map Rq.x).length = l.length := List.length_map _
  refine ⟨A1, (l.map Rq.x).length, cp, l, rfl, by rw [hl, ← hA, List.length_map], hl, hlc, hcm, hA, hok, fun hp => ?_⟩
  obtain ⟨b, off, e, hb, hc⟩ := Rfs.at_ (RdK.of_own hrow) hp
  refine ⟨b, off, e, hb, fun j hj => ?_⟩
  have := hc j (by rw [hl]; exact hj)
  rwa [List.getElem_map] at this
set_option maxRecDepth 10000 in
set_option maxHeartbeats 4000000 in
theorem rNext_any (w : World) (base : Nat) (v : Value) (most life : Int) (A : List Wt) (hT : RTab w base v most life A) (h64 : A.length ≤ 64) :
    Calls Try.prog 18 #[v] w fun e w' => ∃ a, e = .returned (.tuple #[.int .i64 a, .bool (decide (A ≠ []))]) ∧ MinOf a (A.map Wt.till) ∧ Grow w w' := by
  obtain ⟨A1, N, cp, l, rfl, hNA, hNl, hlc, hcm, hA, hok, hat⟩ := hT.box
  obtain ⟨W1, hW1⟩ : ∃ W1, W1 = w.alloc (.cells #[.int .i64 most, .int .i64 life, .slice A1 N cp] 32) := ⟨_, rfl⟩
  have hg1 : Grow w W1 := by rw [hW1]; exact Grow.alloc _ _
  have hB : TbBlk W1 w.heap.size most life (.slice A1 N cp) := by rw [hW1]; exact heap_alloc_new w _
  have c2 := hB.c2
  have hN64 : N ≤ 64 := by omega
  unfold maxLen at hcm
  have HG := Lib.hid hg1
  by_cases hN0 : N = 0
  · have e1 : ((N : Int) == 0) = true := by rw [beq_iff_eq]; omega
    have e2 : decide ((N : Int) = 0) = true := decide_eq_true (by omega)
    have hAe : A = [] := List.eq_nil_of_length_eq_zero (by omega)
    have HA := Lib.hid hAe
    clear hB hg1 hat hok hA hNA hNl hN0 hAe
    go_enter Try.func18, Try.ntmps18
    go_upto_region 1 with fail
    rw [← hW1]
    clear hW1
    go_wp2_with fail
    go_ret2
    exact ⟨0, by rw [HA.out]; rfl, by rw [HA.out]; exact ⟨fun _ => rfl, fun h => absurd rfl h, fun x hx => (by cases hx)⟩, HG.out⟩
  have e1 : ((N : Int) == 0) = false := by rw [beq_eq_false_iff_ne]; omega
  have e2 : decide ((N : Int) = 0) = false := decide_eq_false (by omega)
  obtain ⟨b, off, rfl, hbl, hat⟩ := hat (by omega)
  have hX : ∀ j t, A[j]? = some t → W1.cell? ⟨b, off + j * 20 + 19, none⟩ = some (.int .i64 t.till) := fun j t ht => by
    have hj : j < l.length := by have := (List.getElem?_eq_some_iff.1 ht).1; omega
    have h := ((hat j hj).grow hg1 hbl).one 19 rfl
    have e : (l[j].x).till = t.till := by
      rw [(hok _ (List.getElem_mem hj)).till]
      rw [← hA, List.getElem?_map, List.getElem?_eq_getElem hj] at ht
      cases ht
      rfl
    rw [← e]
    exact h
  obtain ⟨t0, ht0⟩ : ∃ t, A[0]? = some t := ⟨_, List.getElem?_eq_getElem (by omega)⟩
  have x0 := hX 0 t0 ht0
  rw [Nat.zero_mul, Nat.add_zero] at x0
  have HX := Lib.hid (And.intro hX (And.intro hNA hNl))
  have hn0 : (0 : Int) < (N : Int) := by omega
  have hn1 : 0 < N := by omega
  have hM0 : MinOf t0.till ((A.take 1).map Wt.till) := by
    obtain ⟨h1, h2⟩ := List.getElem?_eq_some_iff.1 ht0
    have e : A.take 1 = [t0] := by
      have h := List.take_succ_eq_append_getElem (l := A) (i := 0) (by omega)
      rw [h2] at h
      simpa using h
    rw [e]
    exact ⟨fun h => by simp at h, fun _ => by simp, fun x hx => by simp at hx; omega⟩
  obtain ⟨a0, ha0⟩ : ∃ a0, a0 = t0.till := ⟨_, rfl⟩
  rw [← ha0] at x0 hM0
  have HM0 := Lib.hid hM0
  have hNe : Hid (A ≠ []) := fun e => by rw [e] at hNA; exact hN0 hNA
  clear hB hg1 hat hok hA hN0 hX hbl ha0 hM0 hNA hNl ht0
  go_enter Try.func18, Try.ntmps18
  go_upto_region 1 with fail
  rw [← hW1]
  clear hW1
  go_wp2_with fail
  go_loopg [4, 5] (N - 1) (fun gk s4 s5 wr => ∃ (i : Nat) (a : Int), 1 ≤ i ∧ i ≤ N ∧ gk = N - i ∧ s4 = .int .i64 a ∧ s5 = .int .i64 (i : Int) ∧ MinOf a ((A.take i).map Wt.till) ∧ wr = W1)
  case atStart => exact ⟨1, a0, Nat.le_refl _, hn1, rfl, rfl, rfl, HM0.out, rfl⟩
  case round =>
    obtain ⟨i, a, hi1, hi, rfl, rfl, rfl, hM, rfl⟩ := hrel
    have HM := Lib.hid hM
    clear hM
    rcases Nat.lt_or_ge i N with hlt | hge
    · have dlt : decide ((i : Int) < (N : Int)) = true := decide_eq_true (by omega)
      have hiA : i < A.length := by have := HX.out.2.1; omega
      have xi := HX.out.1 i _ (List.getElem?_eq_getElem hiA)
      have hic : (i : Int) < (N : Int) := by omega
      have hst : (A.take (i + 1)).map Wt.till = (A.take i).map Wt.till ++ [A[i].till] := by rw [List.take_succ_eq_append_getElem hiA, List.map_append]; rfl
      have HS : Hid (MinOf (if A[i].till < a then A[i].till else a) ((A.take (i + 1)).map Wt.till)) := by
        show MinOf _ _
        have h := HM.out.snoc (b := A[i].till)
        rw [hst]
        have hne : (A.take i).map Wt.till ≠ [] := fun e => by
          have := congrArg List.length e
          rw [List.length_map, List.length_take, List.length_nil] at this
          omega
        by_cases hb : A[i].till < a
        · rw [if_pos hb]; rwa [if_pos (.inr hb)] at h
        · rw [if_neg hb]; rwa [if_neg (fun e => e.elim hne hb)] at h
      generalize A[i].till = ti at *
      clear hst
      by_cases hb : ti < a
      · have d1 : decide (ti < a) = true := decide_eq_true hb
        rw [if_pos hb] at HS
        clear hb
        go_wp2_with fail
        go_roundg (N - (i + 1))
        case measure => omega
        case rel => exact ⟨i + 1, ti, by omega, hlt, rfl, rfl, by go_num, HS.out, rfl⟩
      · have d1 : decide (ti < a) = false := decide_eq_false hb
        rw [if_neg hb] at HS
        clear hb
        go_wp2_with fail
        go_roundg (N - (i + 1))
        case measure => omega
        case rel => exact ⟨i + 1, a, by omega, hlt, rfl, rfl, by go_num, HS.out, rfl⟩
    · have dlt : decide ((i : Int) < (N : Int)) = false := decide_eq_false (by omega)
      have HT : Hid (MinOf a (A.map Wt.till)) := by
        have h := HM.out
        rwa [List.take_of_length_le (by have := HX.out.2.1; omega)] at h
      go_wp2_with fail
      go_ret2
      exact ⟨a, by rw [decide_eq_true hNe.out]; rfl, HT.out, HG.out⟩
theorem cnt_take (c : Cont) (j : Nat) (hj : j < c.length) : cnt (c.take (j + 1)) = cnt (c.take j) + (if (look c j).isSome then 1 else 0) := by
  unfold look
  rw [List.take_succ_eq_append_getElem hj, cnt_append, List.getElem?_eq_getElem hj]
  cases h : c[j] <;> simp [cnt, h]
theorem sum_take {α : Type} (f : α → Nat) (l : List α) (i : Nat) (hi : i < l.length) : ((l.take (i + 1)).map f).sum = ((l.take i).map f).sum + f l[i] := by
  rw [List.take_succ_eq_append_getElem hi, List.map_append, List.sum_append]
  simp
theorem sum_le {α : Type} (f : α → Nat) (l : List α) (m : Nat) (h : ∀ a ∈ l, f a ≤ m) : (l.map f).sum ≤ l.length * m := by
  induction l with
  | nil => simp
  | cons a r ih =>
    have h1 := ih fun b hb => h b (by simp [hb])
    have h2 := h a (by simp)
    simp only [List.map_cons, List.sum_cons, List.length_cons, Nat.add_mul]
    omega
set_option maxRecDepth 10000 in
set_option maxHeartbeats 4000000 in
theorem rHeld_any (w : World) (base : Nat) (v : Value) (most life : Int) (A : List Wt) (hT : RTab w base v most life A) (h64 : A.length ≤ 64) (hAk : AOk A) :
    Calls Try.prog 21 #[v] w fun e w' => e = .returned (.int .i64 ((A.map fun t => cnt t.c).sum : Nat)) ∧ Grow w w' := by
  obtain ⟨A1, N, cp, l, rfl, hNA, hNl, hlc, hcm, hA, hok, hat⟩ := hT.box
  obtain ⟨W1, hW1⟩ : ∃ W1, W1 = w.alloc (.cells #[.int .i64 most, .int .i64 life, .slice A1 N cp] 32) := ⟨_, rfl⟩
  have hg1 : Grow w W1 := by rw [hW1]; exact Grow.alloc _ _
  have hB : TbBlk W1 w.heap.size most life (.slice A1 N cp) := by rw [hW1]; exact heap_alloc_new w _
  have c2 := hB.c2
  have hN64 : N ≤ 64 := by omega
  unfold maxLen at hcm
  have HG := Lib.hid hg1
  have HX : Hid (0 < N → ∃ b off, A1 = some ⟨b, off, none⟩ ∧ ∀ j t, A[j]? = some t → ∃ Ah ch, t.c.length ≤ ch ∧ ch ≤ maxLen ∧ W1.cell? ⟨b, off + j * 20 + 5, none⟩ = some (.slice Ah t.c.length ch) ∧ (0 < t.c.length → ∃ g, Ah = some ⟨g, 0, none⟩ ∧ ∀ k (hk : k < t.c.length), W1.cell? ⟨g, k, none⟩ = some (.bool (look t.c k).isSome))) := by
    intro hp
    obtain ⟨b, off, e, hbl, hat⟩ := hat hp
    refine ⟨b, off, e, fun j t ht => ?_⟩
    have hj : j < l.length := by have := (List.getElem?_eq_some_iff.1 ht).1; omega
    have h : W1.cell? ⟨b, off + j * 20 + 5, none⟩ = some l[j].x.vh := ((hat j hj).grow hg1 hbl).one 5 rfl
    have hq := hok _ (List.getElem_mem hj)
    have et : l[j].t = t := by
      rw [← hA, List.getElem?_map, List.getElem?_eq_getElem hj] at ht
      cases ht
      rfl
    have hh := Bools.grow hq.h hg1
    rw [et] at hh
    obtain ⟨Ah, ch, e2, h1, h2, h3⟩ := hh.at_
    rw [e2] at h
    have el : (t.c.map Option.isSome).length = t.c.length := List.length_map _
    refine ⟨Ah, ch, by omega, h2, by rw [← el]; exact h, fun hp => ?_⟩
    obtain ⟨g, hg, _, _, hc⟩ := h3 (by omega)
    refine ⟨g, hg, fun k hk => ?_⟩
    rw [← look_isSome (c := t.c) (j := k) (by omega)]
    exact hc k (by omega)
  have HA := Lib.hid (And.intro hNA (And.intro hAk (show ∀ t ∈ A, cnt t.c ≤ 65515 ∧ t.c.length ≤ 65515 from fun t ht => ⟨Nat.le_trans (cnt_le _) (hAk t ht).1.top, (hAk t ht).1.top⟩)))
  have HS : Hid (∀ i, i ≤ N → ((A.take i).map fun t => cnt t.c).sum ≤ 64 * 65515) := fun i hi => Nat.le_trans (sum_le _ _ 65515 fun t ht => (HA.out.2.2 t (List.mem_of_mem_take ht)).1) (Nat.mul_le_mul_right _ (by rw [List.length_take]; omega))
  clear hB hg1 hat hok hA hNA hNl
  go_enter Try.func21, Try.ntmps21
  go_upto_region 1 with fail
  rw [← hW1]
  clear hW1
  go_wp2_with fail
  go_loopg [3, 4] N (fun gk s3 s4 wr => ∃ i m : Nat, i ≤ N ∧ gk = N - i ∧ s3 = .int .i64 (m : Int) ∧ s4 = .int .i64 (i : Int) ∧ m = ((A.take i).map fun t => cnt t.c).sum ∧ wr = W1)
  case atStart => exact ⟨0, 0, Nat.zero_le _, rfl, rfl, rfl, by simp, rfl⟩
  case round =>
    obtain ⟨i, m, hi, rfl, rfl, rfl, hm, rfl⟩ := hrel
    have HM := Lib.hid hm
    have hmb : m ≤ 64 * 65515 := by rw [hm]; exact HS.out i hi
    clear hm
    rcases Nat.lt_or_ge i N with hlt | hge
    · have dlt : decide ((i : Int) < (N : Int)) = true := decide_eq_true (by omega)
      have hiA : i < A.length := by have := HA.out.1; omega
      obtain ⟨b, off, rfl, hX⟩ := HX.out (by omega)
      obtain ⟨Ah, ch, h1, h2, x5, hK⟩ := hX i _ (List.getElem?_eq_getElem hiA)
      have hmem := HA.out.2.2 _ (List.getElem_mem hiA)
      have HN : Hid (((A.take (i + 1)).map fun t => cnt t.c).sum = m + cnt A[i].c) := by
        show _ = _
        rw [sum_take _ _ _ hiA, HM.out]
      generalize A[i] = t at *
      obtain ⟨n, hn⟩ : ∃ n, n = t.c.length := ⟨_, rfl⟩
      rw [← hn] at x5 hK h1 hmem
      have HKK := Lib.hid (And.intro hK (And.intro hn hmem.1))
      have hn65 : n ≤ 65515 := hmem.2
      have hic : (i : Int) < (N : Int) := by omega
      unfold maxLen at h2
      clear hK hn hmem hX
      obtain ⟨wo, rfl⟩ : ∃ x, x = wr := ⟨_, rfl⟩
      go_wp2_with fail
      go_loopg [3, 5] n (fun gk s3 s5 wr => ∃ k y : Nat, k ≤ n ∧ gk = n - k ∧ s3 = .int .i64 (y : Int) ∧ s5 = .int .i64 (k : Int) ∧ y = m + cnt (t.c.take k) ∧ wr = wo)
      case atStart => exact ⟨0, m, Nat.zero_le _, rfl, rfl, rfl, by simp [cnt], rfl⟩
      case round =>
        obtain ⟨k, y, hk, rfl, rfl, rfl, hy, rfl⟩ := hrel
        have HY := Lib.hid hy
        have hyb : y ≤ 65 * 65515 := by
          have h1 := cnt_le (t.c.take k)
          have h2 := HKK.out.2.1
          rw [List.length_take] at h1
          omega
        clear hy
        rcases Nat.lt_or_ge k n with hkl | hkg
        · have dk : decide ((k : Int) < (n : Int)) = true := decide_eq_true (by omega)
          obtain ⟨g, rfl, hc⟩ := HKK.out.1 (by omega)
          have hkc : (k : Int) < (n : Int) := by omega
          have hck := hc k hkl
          have HCT : Hid (cnt (t.c.take (k + 1)) = cnt (t.c.take k) + (if (look t.c k).isSome then 1 else 0)) := cnt_take t.c k (by have := HKK.out.2.1; omega)
          clear hc
          cases hs : (look t.c k).isSome with
          | true =>
            rw [hs] at hck HCT
            clear hs
            go_wp2_with fail
            go_roundg (n - (k + 1))
            case measure => omega
            case rel => exact ⟨k + 1, y + 1, hkl, rfl, by go_num, by go_num, by have h1 := HCT.out; have h2 := HY.out; simp at h1; omega, rfl⟩
          | false =>
            rw [hs] at hck HCT
            clear hs
            go_wp2_with fail
            go_roundg (n - (k + 1))
            case measure => omega
            case rel => exact ⟨k + 1, y, hkl, rfl, rfl, by go_num, by have h1 := HCT.out; have h2 := HY.out; simp at h1; omega, rfl⟩
        · have dk : decide ((k : Int) < (n : Int)) = false := decide_eq_false (by omega)
          have HE : Hid (y = ((A.take (i + 1)).map fun t => cnt t.c).sum) := by
            show _ = _
            have h1 := HY.out
            rw [List.take_of_length_le (by have := HKK.out.2.1; omega)] at h1
            rw [HN.out, h1]
          go_wp2_with fail
          go_roundg (N - (i + 1))
          case measure => omega
          case rel => exact ⟨i + 1, y, hlt, rfl, rfl, by go_num, HE.out, rfl⟩
    · have dlt : decide ((i : Int) < (N : Int)) = false := decide_eq_false (by omega)
      have HE : Hid (m = (A.map fun t => cnt t.c).sum) := by
        have h := HM.out
        rwa [List.take_of_length_le (by have := HA.out.1; omega)] at h
      go_wp2_with fail
      go_ret
      exact ⟨by rw [HE.out]; rfl, HG.out⟩
end Go.Proofs.Ytfjmcfkpbacicaa
/- Contract: the reference's Expire. -/
namespace Go.Proofs.Ytfjmcfkpbacicaa
set_option linter.unusedVariables false
set_option linter.unusedSimpArgs false
open Go.ChangeShapes Go.WideShapes Go.ChangeAt Go.RowKit

theorem results2_row {P : Program} {fn : Func} {p q : Tmp} {ty : TypeId} (h : fn.results = #[.cell p ty, .tmp q]) (tmps : Array Value) (w : World) (g : Nat) (t : TypeId) (cs : Array Value) (fr : Nat × Nat) (d : TypeDesc)
    (hp : tmps.getD p undef = .pointer (some ⟨g, 0, none⟩)) (hg : w.heap[g]? = some (.cells cs t fr))
    (hu : P.underlying ty = some d) (hd : (match d with | .struct _ | .array _ _ => true | _ => false) = true) (hi : (P.info? ty).map (·.size) = some cs.size) :
    (results fn tmps).run P w = .ok (.tuple #[.agg cs, tmps.getD q undef]) w := by
  have hp' : tmps[p]?.getD undef = .pointer (some ⟨g, 0, none⟩) := by simpa using hp
  simp [results, h, hp', asAddr, run_loadVar_row w g t ty cs fr d hg hu hd hi]
theorem Only.but {w0 w w' : World} {base g : Nat} {cs : Array Value} {T : TypeId} (g0 : Grow w0 w) (g1 : Grow w0 w') (hb : But g w w') (hg : base ≤ g) (ho : w.heap[g]? = some (.cells cs T (0, 0))) : Only base (fun _ T' => T' = T) w w' := by
  refine ⟨⟨g1.os.trans g0.os.symm, g1.tape.trans g0.tape.symm, g1.output.trans g0.output.symm, by rw [hb.1]; exact Nat.le_refl _, fun i hi => hb.2 i (by omega)⟩, fun i o T' hi hT hz => ?_⟩
  by_cases e : i = g
  · subst e
    rw [ho] at hi
    cases hi
    cases hT
    exact absurd rfl hz
  · exact (hb.2 i e).trans hi
theorem Only.iprow {w w' : World} {base b0 : Nat} {v : Value} {l : List Pk} (h : Iprow w b0 v l) (hg : w.grownBy w' v.ownBlock) (h0 : base ≤ b0) (hb : base ≤ w.heap.size) : Only base (fun _ T' => T' = 38) w w' :=
  Only.grown hg (fun g e => by
    obtain ⟨cs, h1, h2⟩ := ownsRow_blk h e
    exact ⟨Nat.le_trans h0 h2, fun o T ho hT => by rw [h1] at ho; cases ho; cases hT; rfl⟩) hb
/-- Its First: eleven cells. -/
theorem RfAt.first {w : World} {b o : Nat} {x : Rf} (h : RfAt w b o x) : ∀ j u, (#[.int .u8 (x.f.tos : Int), .int .u16 (x.f.ident : Int), .bool x.f.whole, .bool x.f.more, .int .i64 x.f.off, .int .u8 (x.f.ttl : Int), .int .u8 (x.f.proto : Int), .int .u32 (x.f.src : Int), .int .u32 (x.f.dst : Int), x.vo, x.vx] : Array Value)[j]? = some u → w.cell? ⟨b, o + 8 + j, none⟩ = some u := fun j u hu => by
  have hj : j < 11 := (Array.getElem?_eq_some_iff.1 hu).1
  have := h (8 + j) u (by
    match j, hj with
    | 0, _ => exact hu
    | 1, _ => exact hu
    | 2, _ => exact hu
    | 3, _ => exact hu
    | 4, _ => exact hu
    | 5, _ => exact hu
    | 6, _ => exact hu
    | 7, _ => exact hu
    | 8, _ => exact hu
    | 9, _ => exact hu
    | 10, _ => exact hu)
  rwa [← Nat.add_assoc] at this
def keepT (now : Int) (t : Wt) : Bool := decide (now < t.till)
def outT (now : Int) (t : Wt) : Option Pkt := if now < t.till then none else t.first
theorem left_at {A : List Wt} {j : Nat} {t : Wt} (now : Int) (h : A[j]? = some t) : ((A.take j).filter (keepT now) ++ A.drop j)[((A.take j).filter (keepT now)).length]? = some t := by
  obtain ⟨h1, h2⟩ := List.getElem?_eq_some_iff.1 h
  rw [List.getElem?_append_right (Nat.le_refl _), Nat.sub_self, List.drop_eq_getElem_cons h1, h2]
  rfl
theorem left_keep {A : List Wt} {j : Nat} {t : Wt} {now : Int} (h : A[j]? = some t) (hk : now < t.till) : (A.take (j + 1)).filter (keepT now) ++ A.drop (j + 1) = (A.take j).filter (keepT now) ++ A.drop j ∧ ((A.take (j + 1)).filter (keepT now)).length = ((A.take j).filter (keepT now)).length + 1 := by
  obtain ⟨h1, h2⟩ := List.getElem?_eq_some_iff.1 h
  rw [List.take_succ_eq_append_getElem h1, h2, List.filter_append, List.drop_eq_getElem_cons h1, h2]
  simp [keepT, hk]
theorem left_drop {A : List Wt} {j : Nat} {t : Wt} {now : Int} (h : A[j]? = some t) (hk : ¬ now < t.till) : (A.take (j + 1)).filter (keepT now) ++ A.drop (j + 1) = ((A.take j).filter (keepT now) ++ A.drop j).eraseIdx ((A.take j).filter (keepT now)).length ∧ ((A.take (j + 1)).filter (keepT now)).length = ((A.take j).filter (keepT now)).length := by
  obtain ⟨h1, h2⟩ := List.getElem?_eq_some_iff.1 h
  rw [List.take_succ_eq_append_getElem h1, h2, List.filter_append, List.drop_eq_getElem_cons h1, h2, List.eraseIdx_append_of_length_le (Nat.le_refl _), Nat.sub_self]
  simp [keepT, hk]
theorem out_next {A : List Wt} {j : Nat} {t : Wt} {now : Int} (h : A[j]? = some t) : (A.take (j + 1)).filterMap (outT now) = (A.take j).filterMap (outT now) ++ (outT now t).toList := by
  obtain ⟨h1, h2⟩ := List.getElem?_eq_some_iff.1 h
  rw [List.take_succ_eq_append_getElem h1, h2, List.filterMap_append]
  cases hx : outT now t <;> simp [hx]
/-- Where Expire's loop stands. -/
structure Rex (w W1 : World) (base : Nat) (most life : Int) (B : List Wt) (n : Nat) (vL s6 : Value) (acc : List Pk) (wr : World) : Prop where
  tab : RTab wr base (.agg #[.int .i64 most, .int .i64 life, vL]) most life B
  blk : TbBlk wr w.heap.size most life vL
  res : TbBlk wr (w.heap.size + 1) 0 0 (.slice none 0 0)
  row : Iprow wr W1.heap.size s6 acc
  good : ∀ q ∈ acc, Firm base wr q.vo q.k.opts ∧ Firm base wr q.vd q.k.data ∧ q.k.Ok
  grow : Grow w wr
  few : acc.length ≤ n
  low : W1.heap.size ≤ wr.heap.size
section
variable {w W1 wr w' w9 : World} {base : Nat} {most life : Int} {B : List Wt} {n : Nat} {vL s6 v9 : Value} {acc : List Pk}
theorem Rex.append (h : Rex w W1 base most life B n vL s6 acc wr) (hb : base ≤ w.heap.size) (hs : W1.heap.size = w.heap.size + 2) {q : Pk} (hq : Firm base wr q.vo q.k.opts ∧ Firm base wr q.vd q.k.data ∧ q.k.Ok) {o : Obj} (hr : Iprow w9 W1.heap.size v9 (acc ++ [q])) (hg : (wr.alloc o).grownBy w9 s6.ownBlock) :
    Rex w W1 base most life B (n + 1) vL v9 (acc ++ [q]) w9 := by
  have gA := Grow.alloc wr o
  have hbr : base ≤ wr.heap.size := Nat.le_trans hb h.grow.size
  have oo := Only.iprow (h.row.grow gA) hg (show base ≤ W1.heap.size by omega) (Nat.le_trans hbr gA.size)
  refine ⟨(h.tab.grow gA hbr).only oo (fun b => by decide) (fun b => by decide) (fun b => by decide), oo.cells (h.blk.grow gA) (by decide), oo.cells (h.res.grow gA) (by decide), hr, fun x hx => ?_, ?_, by rw [List.length_append]; have := h.few; simp; omega, Nat.le_trans h.low (Nat.le_trans gA.size oo.size)⟩
  · have : ∀ y : Pk, (Firm base wr y.vo y.k.opts ∧ Firm base wr y.vd y.k.data ∧ y.k.Ok) → (Firm base w9 y.vo y.k.opts ∧ Firm base w9 y.vd y.k.data ∧ y.k.Ok) := fun y hy => ⟨(hy.1.grow gA hbr).only oo (fun b => by decide), (hy.2.1.grow gA hbr).only oo (fun b => by decide), hy.2.2⟩
    rcases List.mem_append.1 hx with h1 | h1
    · exact this x (h.good x h1)
    · rw [List.mem_singleton.1 h1]; exact this q hq
  · exact Grow.iprow (h.grow.trans gA) hg ((h.row.grow gA).base_ (by omega))
theorem Rex.gone {B' : List Wt} {vL' : Value} {w10 w11 : World} (h : Rex w W1 base most life B n vL s6 acc wr) (hb : base ≤ w.heap.size) (hs : W1.heap.size = w.heap.size + 2) (g : Grow wr w10) (ht : RTab w10 base (.agg #[.int .i64 most, .int .i64 life, vL']) most life B') (hblk : TbBlk w11 w.heap.size most life vL') (hbut : But w.heap.size w10 w11) (g11 : Grow w w11) :
    Rex w W1 base most life B' n vL' s6 acc w11 := by
  have hbr : base ≤ wr.heap.size := Nat.le_trans hb h.grow.size
  have oo := Only.but (h.grow.trans g) g11 hbut hb (h.blk.grow g)
  refine ⟨ht.only oo (fun b => by decide) (fun b => by decide) (fun b => by decide), hblk, (h.res.grow g).but hbut (by omega), ownsRow_but (h.row.grow g) hbut (by omega), fun x hx => ?_, g11, h.few, by rw [hbut.1]; exact Nat.le_trans h.low g.size⟩
  obtain ⟨h1, h2, h3⟩ := h.good x hx
  exact ⟨(h1.grow g hbr).only oo (fun b => by decide), (h2.grow g hbr).only oo (fun b => by decide), h3⟩
end

set_option maxRecDepth 10000 in
set_option maxHeartbeats 8000000 in
theorem rExpire_any (w : World) (base : Nat) (v : Value) (most life now : Int) (A : List Wt) (hT : RTab w base v most life A) (h64 : A.length ≤ 64) (hb : base ≤ w.heap.size) (hAk : AOk A) :
    Calls Try.prog 12 #[v, .int .i64 now] w fun e w' => ∃ v' vo, e = .returned (.tuple #[v', vo]) ∧ RTab w' base v' most life (leftS now A) ∧ Psl w' vo (outS now A) ∧ Grow w w' := by
  obtain ⟨vL0, l0, rfl, hrow, hok, hA⟩ := id hT
  obtain ⟨A0, n0, cp0, e0⟩ : ∃ A n c, vL0 = .slice A n c := by
    obtain ⟨A0, cp0, e0, _, _⟩ := (RdK.of_own hrow).form
    exact ⟨_, _, _, e0⟩
  obtain ⟨W1, hW1⟩ : ∃ W1, W1 = (w.alloc (.cells #[.int .i64 most, .int .i64 life, vL0] 32)).alloc (.cells #[.int .i64 0, .int .i64 0, .slice none 0 0] 32) := ⟨_, rfl⟩
  have hgA := Grow.alloc w (.cells #[.int .i64 most, .int .i64 life, vL0] 32)
  have hg1 : Grow w W1 := by rw [hW1]; exact hgA.trans (Grow.alloc _ _)
  have hB : TbBlk W1 w.heap.size most life vL0 := by
    rw [hW1]
    exact TbBlk.grow (heap_alloc_new w _) (Grow.alloc _ _)
  have hZ : TbBlk W1 (w.heap.size + 1) 0 0 (.slice none 0 0) := by
    have := heap_alloc_new (w.alloc (.cells #[.int .i64 most, .int .i64 life, vL0] 32)) (.cells #[.int .i64 0, .int .i64 0, .slice none 0 0] 32)
    rw [show (w.alloc (.cells #[.int .i64 most, .int .i64 life, vL0] 32)).heap.size = w.heap.size + 1 by simp] at this
    rw [hW1]
    exact this
  have hsz : W1.heap.size = w.heap.size + 2 := by rw [hW1]; simp
  have H0 : Hid (Rex w W1 base most life A 0 vL0 (.slice none 0 0) [] W1) := ⟨hT.grow hg1 hb, hB, hZ, Iprow.nil _ _, fun q hq => (by cases hq), hg1, Nat.le_refl _, Nat.le_refl _⟩
  have HS := Lib.hid (And.intro hsz (And.intro hb (And.intro hAk h64)))
  clear hT hrow hok hA hgA hg1 hB hZ hsz hAk hb
  subst e0
  go_enter Try.func12, Try.ntmps12
  go_upto_region 1 with fail
  rw [← hW1]
  clear hW1
  go_wp2_with fail
  go_loopg [6, 7] A.length (fun gk s6 s7 wr => ∃ (j : Nat) (vL s : Value) (acc : List Pk), j ≤ A.length ∧ gk = A.length - j ∧ s6 = s ∧ s7 = .int .i64 (((A.take j).filter (keepT now)).length : Nat) ∧ acc.map Pk.k = (A.take j).filterMap (outT now) ∧ Rex w W1 base most life ((A.take j).filter (keepT now) ++ A.drop j) j vL s acc wr)
  case atStart => exact ⟨0, _, _, [], Nat.zero_le _, rfl, rfl, rfl, rfl, by simpa using H0.out⟩
  case round =>
    obtain ⟨j, vL, s6, acc, hj, rfl, e6, rfl, hks, hR⟩ := hrel
    obtain ⟨A1, N, cp, l, e, hNB, hNl, hlc, hcm, hlB, hok, hat⟩ := hR.tab.box
    simp only [Value.agg.injEq, Array.mk.injEq, List.cons.injEq, and_true, true_and] at e
    subst e
    have c2 := hR.blk.c2
    obtain ⟨A6, c6, f6, _, _⟩ := hR.row.ips.form
    obtain ⟨n6, hn6⟩ : ∃ n6, n6 = acc.length := ⟨_, rfl⟩
    rw [← hn6] at f6
    clear hn6
    subst f6
    subst e6
    obtain ⟨i, hi⟩ : ∃ i, i = ((A.take j).filter (keepT now)).length := ⟨_, rfl⟩
    obtain ⟨B, hBe⟩ : ∃ B, B = (A.take j).filter (keepT now) ++ A.drop j := ⟨_, rfl⟩
    have hBl : B.length = i + (A.length - j) := by rw [hBe, List.length_append, ← hi, List.length_drop]
    rw [← hBe] at hR hNB hlB
    rw [← hi]
    have hj64 : N ≤ 64 := by
      have h1 := List.length_filter_le (keepT now) (A.take j)
      rw [List.length_take] at h1
      have := HS.out.2.2.2
      omega
    unfold maxLen at hcm
    rcases Nat.lt_or_ge j A.length with hlt | hge
    · have hiN : i < N := by omega
      have dlt : decide ((i : Int) < (N : Int)) = true := decide_eq_true (by omega)
      obtain ⟨t, ht⟩ : ∃ t, A[j]? = some t := ⟨_, List.getElem?_eq_getElem hlt⟩
      have hBi : B[i]? = some t := by rw [hBe, hi]; exact left_at now ht
      obtain ⟨b, off, rfl, hbl, hat⟩ := hat (by omega)
      have hil : i < l.length := by omega
      have hX := hat i hil
      have hq := hok _ (List.getElem_mem hil)
      have hqt : l[i].t = t := by
        rw [← hlB, List.getElem?_map, List.getElem?_eq_getElem hil] at hBi
        cases hBi
        rfl
      have hqd := hq.till
      have hqb := hq.begun
      have hqf := hq.f
      have hqo := hq.o
      have hqv := hq.v
      have hone := hq.one
      rw [hqt] at hqd hqb hqf
      generalize l[i].x = x at *
      obtain ⟨xn, xd, xh, xl, xb, xf, xo, xx, xt⟩ := x
      simp only at hqd hqb hqf hqo hqv
      subst hqd hqb
      have p19 : wr.cell? ⟨b, off + i * 20 + 19, none⟩ = some (.int .i64 t.till) := hX.one 19 rfl
      have p7 : wr.cell? ⟨b, off + i * 20 + 7, none⟩ = some (.bool t.first.isSome) := hX.one 7 rfl
      have hic : (i : Int) < (N : Int) := by omega
      have HX := Lib.hid (And.intro hX (And.intro hR (And.intro ht (And.intro hi (And.intro hBe (And.intro hks (And.intro hqo (And.intro hqv (And.intro hqf (And.intro hone hlt))))))))))
      have HBL : Hid (B.length ≤ 64 ∧ i < B.length) := ⟨by omega, by omega⟩
      have hi1 : i ≤ 64 := by omega
      clear hat hq hqt hX hR hBi hbl hil hlB hok hNB hNl hBl hqo hqv hqf hone hBe hks hi
      by_cases hk : now < t.till
      · have d1 : decide (now < t.till) = true := decide_eq_true hk
        have HK := Lib.hid hk
        clear hk
        have HN : Hid (Rex w W1 base most life ((A.take (j + 1)).filter (keepT now) ++ A.drop (j + 1)) (j + 1) (.slice (some ⟨b, off, none⟩) N cp) (.slice A6 n6 c6) acc wr ∧ ((A.take (j + 1)).filter (keepT now)).length = i + 1 ∧ acc.map Pk.k = (A.take (j + 1)).filterMap (outT now)) := by
          obtain ⟨e1, e2⟩ := left_keep HX.out.2.2.1 HK.out
          refine ⟨?_, by rw [e2, ← HX.out.2.2.2.1], ?_⟩
          · rw [e1, ← HX.out.2.2.2.2.1]
            exact { HX.out.2.1 with few := Nat.le_succ_of_le HX.out.2.1.few }
          · rw [out_next HX.out.2.2.1, HX.out.2.2.2.2.2.1]
            have h := HK.out
            simp [outT, h]
        go_wp2_with fail
        go_roundg (A.length - (j + 1))
        case measure => omega
        case rel => exact ⟨j + 1, _, _, acc, HX.out.2.2.2.2.2.2.2.2.2.2, rfl, rfl, by rw [HN.out.2.1]; go_num, HN.out.2.2, HN.out.1⟩
      · have d1 : decide (now < t.till) = false := decide_eq_false hk
        have HK := Lib.hid hk
        clear hk
        have hbw : Hid (base ≤ w.heap.size ∧ W1.heap.size = w.heap.size + 2) := ⟨HS.out.2.1, HS.out.1⟩
        have HN : Hid (∀ vL' s' acc' w11, Rex w W1 base most life (B.eraseIdx i) (j + 1) vL' s' acc' w11 → acc'.map Pk.k = acc.map Pk.k ++ t.first.toList → Rex w W1 base most life ((A.take (j + 1)).filter (keepT now) ++ A.drop (j + 1)) (j + 1) vL' s' acc' w11 ∧ ((A.take (j + 1)).filter (keepT now)).length = i ∧ acc'.map Pk.k = (A.take (j + 1)).filterMap (outT now)) := by
          intro vL' s' acc' w11 h hm
          obtain ⟨e1, e2⟩ := left_drop HX.out.2.2.1 HK.out
          refine ⟨?_, by rw [e2, ← HX.out.2.2.2.1], ?_⟩
          · rw [e1, ← HX.out.2.2.2.2.1, ← HX.out.2.2.2.1]
            exact h
          · rw [out_next HX.out.2.2.1, hm, HX.out.2.2.2.2.2.1]
            have h := HK.out
            simp [outT, h]
        cases hf : t.first with
        | none =>
          rw [hf] at p7 HN
          have cW := rWithout_any wr base _ most life B HX.out.2.1.tab HBL.out.1 (Nat.le_trans hbw.out.1 HX.out.2.1.grow.size) i HBL.out.2
          have c0 := HX.out.2.1.blk.c0
          have c1 := HX.out.2.1.blk.c1
          clear hf
          go_wp2_with fail
          refine cW.mono ?_
          rintro e w10 ⟨v', rfl, hT', hg'⟩
          obtain ⟨vL', l', rfl, hrow', _⟩ := id hT'
          have HT' := Lib.hid (And.intro hT' (And.intro hg' (ownsRow_one hrow')))
          clear cW hT' hg' hrow' c0 c1 c2 p7 p19
          go_wp2_with (show wpList _ _ _ (⟨none, .store 32 (.tmp 2) (.tmp 40), _, _, _, _⟩ :: _) _ _; refine wpList_store_tb w w10 rfl _ _ rfl rfl w.heap.size rfl most life vL' rfl HT'.out.2.2 most life _ (HX.out.2.1.blk.grow HT'.out.2.1) (HX.out.2.1.grow.trans HT'.out.2.1) (Nat.le_refl _) ?_; intro w11 h11 hb11 g11; have H11 := Lib.hid (HN.out _ _ acc w11 (Rex.gone { HX.out.2.1 with few := Nat.le_succ_of_le HX.out.2.1.few } hbw.out.1 hbw.out.2 HT'.out.2.1 HT'.out.1 h11 hb11 g11) (by simp)); clear h11 hb11 g11)
          go_roundg (A.length - (j + 1))
          case measure => omega
          case rel => exact ⟨j + 1, _, _, acc, HX.out.2.2.2.2.2.2.2.2.2.2, rfl, rfl, by rw [H11.out.2.1], H11.out.2.2, H11.out.1⟩
        | some f =>
          rw [hf] at p7 HN HX
          obtain rfl : xf = f := HX.out.2.2.2.2.2.2.2.2.1
          have hfok : Hid (xf.Ok) := (HS.out.2.2.1 t (List.mem_of_getElem? HX.out.2.2.1)).1.pk xf hf |>.1
          have hal : acc.length ≤ 70000 := by have := HX.out.2.1.few; have := HX.out.2.2.2.2.2.2.2.2.2.2; have := HS.out.2.2.2; omega
          clear hf
          go_wp2_with (first | (show wpList _ _ _ (⟨some 35, .load 38 (.tmp 34), _, _, _, _⟩ :: _) _ _; refine wpList_load_cs wr rfl _ _ rfl b (off + i * 20 + 8) rfl #[.int .u8 (xf.tos : Int), .int .u16 (xf.ident : Int), .bool xf.whole, .bool xf.more, .int .i64 xf.off, .int .u8 (xf.ttl : Int), .int .u8 (xf.proto : Int), .int .u32 (xf.src : Int), .int .u32 (xf.dst : Int), xo, xx] HX.out.1.first _ Try.underlying38 rfl (by kernel_rfl) ?_) | (at_builtin; refine wpList_app1 wr rfl (.tmp 29) (.tmp 36) rfl W1.heap.size (.slice A6 n6 c6) acc _ ⟨xf, xo, xx⟩ rfl (by rfl) (by rfl) ⟨HX.out.2.2.2.2.2.2.2.2.2.1.2.2.1, HX.out.2.2.2.2.2.2.2.2.2.1.2.2.2⟩ HX.out.2.1.row hal HX.out.2.1.low ?_; intro v9 w9 hr9 hg9; have HM := Lib.hid (HX.out.2.1.append hbw.out.1 hbw.out.2 ⟨HX.out.2.2.2.2.2.2.1, HX.out.2.2.2.2.2.2.2.1, hfok.out⟩ hr9 hg9); have cW := rWithout_any w9 base _ most life B HM.out.tab HBL.out.1 (Nat.le_trans hbw.out.1 HM.out.grow.size) i HBL.out.2; have c0 := HM.out.blk.c0; have c1 := HM.out.blk.c1; clear c2; have c2 := HM.out.blk.c2; clear hr9 hg9 p7 p19))
          refine cW.mono ?_
          rintro e w10 ⟨v', rfl, hT', hg'⟩
          obtain ⟨vL', l', rfl, hrow', _⟩ := id hT'
          have HT' := Lib.hid (And.intro hT' (And.intro hg' (ownsRow_one hrow')))
          clear cW hT' hg' hrow' c0 c1 c2
          go_wp2_with (show wpList _ _ _ (⟨none, .store 32 (.tmp 2) (.tmp 40), _, _, _, _⟩ :: _) _ _; refine wpList_store_tb w w10 rfl _ _ rfl rfl w.heap.size rfl most life vL' rfl HT'.out.2.2 most life _ (HM.out.blk.grow HT'.out.2.1) (HM.out.grow.trans HT'.out.2.1) (Nat.le_refl _) ?_; intro w11 h11 hb11 g11; have H11 := Lib.hid (HN.out _ _ (acc ++ [⟨xf, xo, xx⟩]) w11 (Rex.gone HM.out hbw.out.1 hbw.out.2 HT'.out.2.1 HT'.out.1 h11 hb11 g11) (by simp)); clear h11 hb11 g11)
          go_roundg (A.length - (j + 1))
          case measure => omega
          case rel => exact ⟨j + 1, _, _, _, HX.out.2.2.2.2.2.2.2.2.2.2, rfl, rfl, by rw [H11.out.2.1], H11.out.2.2, H11.out.1⟩
    · have hjA : j = A.length := by omega
      have hiN : N ≤ i := by omega
      have dlt : decide ((i : Int) < (N : Int)) = false := decide_eq_false (by omega)
      have HF : Hid (RTab wr base (.agg #[.int .i64 most, .int .i64 life, .slice A1 N cp]) most life (leftS now A) ∧ acc.map Pk.k = outS now A) := by
        have hBL : B = leftS now A := by
          rw [hBe, hjA, List.take_length, List.drop_length, List.append_nil]
          rfl
        refine ⟨by rw [← hBL]; exact hR.tab, ?_⟩
        rw [hks, hjA, List.take_length]
        rfl
      have HR := Lib.hid (And.intro hR (show w.heap.size + 1 < W1.heap.size from by have := HS.out.1; omega))
      have c0 := hR.blk.c0
      have c1 := hR.blk.c1
      clear hR hks hBe hi hBl hNB hNl hlB hok hat hjA
      go_wp2_with (show wpList _ _ _ (⟨none, .store 32 (.tmp 4) (.tmp 41), _, _, _, _⟩ :: _) _ _; refine wpList_store_tb w wr rfl _ _ rfl rfl (w.heap.size + 1) rfl most life (.slice A1 N cp) rfl rfl 0 0 (.slice none 0 0) HR.out.1.res HR.out.1.grow (by omega) ?_; intro w4 h4 hb4 g4; have H4 := Lib.hid (And.intro h4 (And.intro hb4 g4)); clear h4 hb4 g4)
      refine bodyPost_ret (results2_row rfl _ w4 (w.heap.size + 1) _ #[.int .i64 most, .int .i64 life, .slice A1 N cp] (0, 0) _ rfl H4.out.1 Try.underlying32 rfl (by kernel_rfl)) rfl ?_
      have oo := Only.but HR.out.1.grow H4.out.2.2 H4.out.2.1 (show base ≤ w.heap.size + 1 by have := HS.out.2.1; omega) HR.out.1.res
      refine ⟨_, _, rfl, HF.out.1.only oo (fun b => by decide) (fun b => by decide) (fun b => by decide), ⟨acc, HF.out.2, Iprow.ips (base := W1.heap.size) (ownsRow_but HR.out.1.row H4.out.2.1 HR.out.2), fun q hq => ?_⟩, H4.out.2.2⟩
      obtain ⟨h1, h2, h3⟩ := HR.out.1.good q hq
      exact ⟨(h1.only oo fun b => by decide).1, (h2.only oo fun b => by decide).1, h3⟩
end Go.Proofs.Ytfjmcfkpbacicaa
/- What the reference's Add keeps; its results; stores of many cells in a region that draws its order. -/
namespace Go.Proofs.Ytfjmcfkpbacicaa
set_option linter.unusedVariables false
set_option linter.unusedSimpArgs false
open Go.ChangeShapes Go.WideShapes Go.ChangeAt Go.RowKit

theorem step_store_cs {P : Program} (w₀ w : World) {ops : Array Oper} {o : Oper} {a : Act} {K : Act → World → Prop} {Q : Exit → Act → World → Prop} {E : Prop} (hgd : o.guard = none) (ty : TypeId) (x y : Operand) (ho : o.op = .store ty x y)
    (g i : Nat) (u : Value) (hx : a.eval x = .pointer (some ⟨g, i, none⟩)) (hy : a.eval y = u) (us : List Value) (hu : u.cells = us.toArray) (T : TypeId) (old new : Array Value) (hb : w.heap[g]? = some (.cells old T (0, 0))) (hi : (P.info? ty).map (·.size) = some us.length) (h1 : ∀ y ∈ us, y.oneCell' = true) (hl : i + us.length ≤ old.size)
    (hset : old.toList.take i ++ us ++ old.toList.drop (i + us.length) = new.toList) (hgr : Grow w₀ w) (hg : w₀.heap.size ≤ g)
    (h : ∀ w', w'.heap[g]? = some (.cells new T (0, 0)) → But g w w' → Grow w₀ w' → K (a.put o.dst undef) w') :
    if Region.wanted o (yielded ops a.tmps) = true then Oper.wp P o a w K Q else E := by
  have hw : Region.wanted o (yielded ops a.tmps) = true := by simp [Region.wanted, hgd]
  rw [if_pos hw]
  unfold Oper.wp execOp
  simp only [ho, hx, hy, Instr.storeAt, Instr.sureAddr, Sem.run_bind, Sem.run_pure, Result.andThen_ok, run_store_cs w g i ty T u us old new hu hb hi h1 hl hset]
  exact h _ (setRow_heap w g _ _ _ _ hb) ⟨by simp [World.setRow], fun b hne => setRow_other w g b _ hne⟩ (below_setRow hgr hg _)
theorem upon_cs {P : Program} (w₀ w : World) {ops : Array Oper} {o : Oper} {a : Act} {post : Value → World → Prop} (hgd : o.guard = none) (ty : TypeId) (x y : Operand) (ho : o.op = .store ty x y)
    (g i : Nat) (u : Value) (hx : a.eval x = .pointer (some ⟨g, i, none⟩)) (hy : a.eval y = u) (us : List Value) (hu : u.cells = us.toArray) (T : TypeId) (old new : Array Value) (hb : w.heap[g]? = some (.cells old T (0, 0))) (hi : (P.info? ty).map (·.size) = some us.length) (h1 : ∀ y ∈ us, y.oneCell' = true) (hl : i + us.length ≤ old.size)
    (hset : old.toList.take i ++ us ++ old.toList.drop (i + us.length) = new.toList) (hgr : Grow w₀ w) (hg : w₀.heap.size ≤ g)
    (h : ∀ w', w'.heap[g]? = some (.cells new T (0, 0)) → But g w w' → Grow w₀ w' → post undef w') :
    if Region.wanted o (yielded ops a.tmps) = true then looseUpon P post ((execOp a.eval o).run P w) else post undef w := by
  have hw : Region.wanted o (yielded ops a.tmps) = true := by simp [Region.wanted, hgd]
  rw [if_pos hw]
  unfold execOp
  simp only [ho, hx, hy, Instr.storeAt, Instr.sureAddr, Sem.run_bind, Sem.run_pure, Result.andThen_ok, run_store_cs w g i ty T u us old new hu hb hi h1 hl hset, looseUpon]
  exact h _ (setRow_heap w g _ _ _ _ hb) ⟨by simp [World.setRow], fun b hne => setRow_other w g b _ hne⟩ (below_setRow hgr hg _)
theorem pc_one {k : Pkt} {vo vd : Value} (h1 : vo.oneCell' = true) (h2 : vd.oneCell' = true) : ∀ y ∈ pc ⟨k, vo, vd⟩, y.oneCell' = true := by
  intro y hy
  simp [pc] at hy
  rcases hy with rfl | rfl | rfl | rfl | rfl | rfl | rfl | rfl | rfl | rfl | rfl <;> first | rfl | exact h1 | exact h2
theorem tb_one {most life : Int} {vL : Value} (h1 : vL.oneCell' = true) : ∀ y ∈ [Value.int .i64 most, .int .i64 life, vL], y.oneCell' = true := by
  intro y hy
  simp only [List.mem_cons, List.not_mem_nil, or_false] at hy
  rcases hy with rfl | rfl | rfl <;> first | rfl | exact h1
theorem results4_ra {fn : Func} (h : fn.results = #[.cell 6 32, .cell 7 38, .tmp 8, .tmp 9]) (tmps : Array Value) (w : World) (g1 g2 : Nat) (most life : Int) (vL : Value) (k : Pkt) (vo vd : Value)
    (h6 : tmps.getD 6 undef = .pointer (some ⟨g1, 0, none⟩)) (h7 : tmps.getD 7 undef = .pointer (some ⟨g2, 0, none⟩)) (hb1 : TbBlk w g1 most life vL) (hb2 : Blk w g2 k vo vd) :
    (results fn tmps).run Try.prog w = .ok (.tuple #[.agg #[.int .i64 most, .int .i64 life, vL], ipV k vo vd, tmps.getD 8 undef, tmps.getD 9 undef]) w := by
  have h6' : tmps[6]?.getD undef = .pointer (some ⟨g1, 0, none⟩) := by simpa using h6
  have h7' : tmps[7]?.getD undef = .pointer (some ⟨g2, 0, none⟩) := by simpa using h7
  have e1 := run_loadVar_row w g1 32 32 #[.int .i64 most, .int .i64 life, vL] (0, 0) _ hb1 Try.underlying32 rfl (by kernel_rfl)
  have e2 := run_loadVar_row w g2 38 38 _ (0, 0) _ hb2 Try.underlying38 rfl (by kernel_rfl)
  simp [results, h, h6', h7', asAddr, e1, e2]

/-- What Add keeps of its own. -/
structure Ra (w : World) (most life : Int) (vL : Value) (k : Pkt) (vo vd : Value) (wr : World) : Prop where
  tb : TbBlk wr w.heap.size most life vL
  pk : Blk wr (w.heap.size + 1) k vo vd
  rt : TbBlk wr (w.heap.size + 2) 0 0 (.slice none 0 0)
  ri : Blk wr (w.heap.size + 3) zeroPk (.slice none 0 0) (.slice none 0 0)
  gr : Grow w wr
  low : w.heap.size + 4 ≤ wr.heap.size
section
variable {w wr w' : World} {most life : Int} {vL : Value} {k : Pkt} {vo vd : Value}
theorem Ra.below {m : Nat} (h : Ra w most life vL k vo vd wr) (hb : Below m wr w') (hm : w.heap.size + 4 ≤ m) : Ra w most life vL k vo vd w' :=
  ⟨(hb.block w.heap.size (by omega)).trans h.tb, (hb.block (w.heap.size + 1) (by omega)).trans h.pk, (hb.block (w.heap.size + 2) (by omega)).trans h.rt, (hb.block (w.heap.size + 3) (by omega)).trans h.ri, Below.trans h.gr (show Below w.heap.size wr w' from hb.mono (by omega)), Nat.le_trans h.low hb.size⟩
theorem Ra.grow (h : Ra w most life vL k vo vd wr) (g : Grow wr w') : Ra w most life vL k vo vd w' := h.below g h.low
theorem Ra.but {g : Nat} (h : Ra w most life vL k vo vd wr) (hb : But g wr w') (hg : w.heap.size + 4 ≤ g) (gr : Grow w w') : Ra w most life vL k vo vd w' :=
  ⟨h.tb.but hb (by omega), (hb.2 (w.heap.size + 1) (by omega)).trans h.pk, h.rt.but hb (by omega), (hb.2 (w.heap.size + 3) (by omega)).trans h.ri, gr, by rw [hb.1]; exact h.low⟩
end
theorem ra_start (w : World) (most life : Int) (vL : Value) (k : Pkt) (vo vd : Value) {W1 : World}
    (hW1 : W1 = (((w.alloc (.cells #[.int .i64 most, .int .i64 life, vL] 32)).alloc (.cells #[.int .u8 (k.tos : Int), .int .u16 (k.ident : Int), .bool k.whole, .bool k.more, .int .i64 k.off, .int .u8 (k.ttl : Int), .int .u8 (k.proto : Int), .int .u32 (k.src : Int), .int .u32 (k.dst : Int), vo, vd] 38)).alloc (.cells #[.int .i64 0, .int .i64 0, .slice none 0 0] 32)).alloc (.cells #[.int .u8 0, .int .u16 0, .bool false, .bool false, .int .i64 0, .int .u8 0, .int .u8 0, .int .u32 0, .int .u32 0, .slice none 0 0, .slice none 0 0] 38)) :
    Ra w most life vL k vo vd W1 ∧ W1.heap.size = w.heap.size + 4 := by
  subst hW1
  generalize ha : w.alloc (.cells #[.int .i64 most, .int .i64 life, vL] 32) = wa
  have sa : wa.heap.size = w.heap.size + 1 := by rw [← ha]; simp
  have ta : TbBlk wa w.heap.size most life vL := by rw [← ha]; exact heap_alloc_new w _
  have ga : Grow w wa := by rw [← ha]; exact Grow.alloc _ _
  generalize hb : wa.alloc (.cells #[.int .u8 (k.tos : Int), .int .u16 (k.ident : Int), .bool k.whole, .bool k.more, .int .i64 k.off, .int .u8 (k.ttl : Int), .int .u8 (k.proto : Int), .int .u32 (k.src : Int), .int .u32 (k.dst : Int), vo, vd] 38) = wb
  have sb : wb.heap.size = w.heap.size + 2 := by rw [← hb]; simp [sa]
  have tb : Blk wb (w.heap.size + 1) k vo vd := by rw [← hb, ← sa]; exact Blk.new wa k vo vd
  have gb : Grow wa wb := by rw [← hb]; exact Grow.alloc _ _
  generalize hc : wb.alloc (.cells #[.int .i64 0, .int .i64 0, .slice none 0 0] 32) = wc
  have sc : wc.heap.size = w.heap.size + 3 := by rw [← hc]; simp [sb]
  have tc : TbBlk wc (w.heap.size + 2) 0 0 (.slice none 0 0) := by rw [← hc, ← sb]; exact heap_alloc_new wb _
  have gc : Grow wb wc := by rw [← hc]; exact Grow.alloc _ _
  generalize hd : wc.alloc (.cells #[.int .u8 0, .int .u16 0, .bool false, .bool false, .int .i64 0, .int .u8 0, .int .u8 0, .int .u32 0, .int .u32 0, .slice none 0 0, .slice none 0 0] 38) = wd
  have sd : wd.heap.size = w.heap.size + 4 := by rw [← hd]; simp [sc]
  have td : Blk wd (w.heap.size + 3) zeroPk (.slice none 0 0) (.slice none 0 0) := by rw [← hd, ← sc]; exact heap_alloc_new wc _
  have gd : Grow wc wd := by rw [← hd]; exact Grow.alloc _ _
  exact ⟨⟨ta.grow (gb.trans (gc.trans gd)), tb.grow (gc.trans gd), tc.grow gd, td, ga.trans (gb.trans (gc.trans gd)), by omega⟩, sd⟩
/-- What Add answers. -/
def RAdded (w : World) (base : Nat) (most life : Int) (R : AddR) (e : Ending) (w' : World) : Prop :=
  ∃ v' vo vd, e = .returned (.tuple #[v', ipV R.k vo vd, .bool R.ok, .int .i64 R.e]) ∧ RTab w' base v' most life R.L ∧ IpF base w' vo vd R.k ∧ Grow w w'
end Go.Proofs.Ytfjmcfkpbacicaa
