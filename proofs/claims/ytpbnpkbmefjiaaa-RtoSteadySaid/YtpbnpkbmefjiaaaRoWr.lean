/- Contracts: the program's learn, Back. -/
import Derived.Test.YtpbnpkbmefjiaaaRoRd
namespace Go.Proofs.Ytpbnpkbmefjiaaa
set_option linter.unusedVariables false
set_option linter.unusedSimpArgs false
open Go.ChangeShapes Go.WideShapes Go.ChangeAt Go.RowKit

/-- A time is learned: what stays of the other numbers. -/
def roLr (r : Ro) (c : Nat) : Ro := { r with m := roM r c, v := roV r c, known := true }
section
variable {w : World} {base pb : Nat} {r : Ro}
set_option maxRecDepth 10000 in
set_option maxHeartbeats 1000000 in
theorem learnP (h : RpB w pb r) (hr : RoOk r) (hb : base ≤ pb) (c : Nat) (hc : c ≤ 1048576) : Calls Try.prog 16 #[.pointer (some ⟨pb, 0, none⟩), .int .i64 (c : Int)] w fun e w' => e = .returned (.tuple #[]) ∧ RpB w' pb (roLr r c) ∧ Only base Zr w w' := by
  have x1 := hr.mb
  have x2 := hr.vb
  obtain ⟨M', hM'⟩ : ∃ x, x = roM r c := ⟨_, rfl⟩
  obtain ⟨V', hV'⟩ : ∃ x, x = roV r c := ⟨_, rfl⟩
  by_cases hk : r.known = true
  · have eM : M' = r.m - r.m / 8 + c := by rw [hM']; unfold roM; rw [if_pos hk]
    have eV : V' = r.v - r.v / 4 + ((c - r.m / 8) + (r.m / 8 - c)) := by rw [hV']; unfold roV; rw [if_pos hk]
    have hS := smoothP h hr
    obtain ⟨X, hX⟩ : ∃ x, x = r.m / 8 := ⟨_, rfl⟩
    obtain ⟨Y, hY⟩ : ∃ x, x = r.v / 4 := ⟨_, rfl⟩
    rw [← hX, ← hY] at hS
    obtain ⟨D, hD⟩ : ∃ d : Int, d = (c : Int) - (X : Int) := ⟨_, rfl⟩
    have f1 : wrap64 ((c : Int) - (X : Int)) = D := by rw [hD]; exact IntWalk.wrap64_in _ (by omega)
    have f2 : wrap64 ((r.m : Int) + D) = (M' : Int) := by rw [hD]; exact (IntWalk.wrap64_in _ (by omega)).trans (by omega)
    have HA : Hid (∀ q : World, RpB q pb r → Only base Zr q ((q.setCell ⟨pb, 3, none⟩ (.int .i64 (M' : Int))).setCell ⟨pb, 4, none⟩ (.int .i64 (V' : Int))) ∧ (q.setCell ⟨pb, 3, none⟩ (.int .i64 (M' : Int))).cell? ⟨pb, 4, none⟩ = some (.int .i64 (r.v : Int)) ∧ (q.setCell ⟨pb, 3, none⟩ (.int .i64 (M' : Int))).frozen? ⟨pb, 4, none⟩ = false ∧ RpB ((q.setCell ⟨pb, 3, none⟩ (.int .i64 (M' : Int))).setCell ⟨pb, 4, none⟩ (.int .i64 (V' : Int))) pb (roLr r c)) := fun q k => by
      have e : roLr r c = { r with m := M', v := V' } := by unfold roLr; rw [hM', hV', ← hk]
      rw [e]
      exact ⟨(k.only hb 3 _).trans ((k.set3 M').only hb 4 _), (k.set3 M').c4, (k.set3 M').fz 4, (k.set3 M').set4 V'⟩
    have HH : Hid (∀ q : World, Grow w q → RpB q pb r ∧ Only base Zr w q) := fun q g => ⟨h.grow g, Only.grow g (Nat.le_of_lt (Nat.lt_of_le_of_lt hb h.lt)) _⟩
    have c5 := h.c5
    rw [hk] at c5
    have HS := Lib.hid hS
    by_cases q : D < -D
    · obtain ⟨F, hF⟩ : ∃ x : Int, x = -D - (Y : Int) := ⟨_, rfl⟩
      have f3 : wrap64 (-D) = -D := IntWalk.wrap64_in _ (by omega)
      have f4 : wrap64 (-D - (Y : Int)) = F := by rw [hF]; exact IntWalk.wrap64_in _ (by omega)
      have f5 : wrap64 ((r.v : Int) + F) = (V' : Int) := by rw [hF]; exact (IntWalk.wrap64_in _ (by omega)).trans (by omega)
      clear h hr hb hc x1 x2 eM eV hM' hV' hS hX hY hD hF hk
      go_enter Try.func16, Try.ntmps16
      go_wp2_with fail
      refine HS.out.mono ?_
      rintro e w1 ⟨rfl, g1⟩
      obtain ⟨h1, o1⟩ := HH.out w1 g1
      have c3 := h1.c3
      have z3 := h1.fz 3
      obtain ⟨o2, c4, z4, h4⟩ := HA.out w1 h1
      have HR := Lib.hid (And.intro h4 (o1.trans o2))
      clear h1 o1 o2 h4 g1 c5
      go_wp2_with fail
      refine bodyPost_end (results_none rfl _ _ _) rfl ?_
      exact ⟨rfl, HR.out.1, HR.out.2⟩
    · obtain ⟨F, hF⟩ : ∃ x : Int, x = D - (Y : Int) := ⟨_, rfl⟩
      have f3 : wrap64 (-D) = -D := IntWalk.wrap64_in _ (by omega)
      have f4 : wrap64 (D - (Y : Int)) = F := by rw [hF]; exact IntWalk.wrap64_in _ (by omega)
      have f5 : wrap64 ((r.v : Int) + F) = (V' : Int) := by rw [hF]; exact (IntWalk.wrap64_in _ (by omega)).trans (by omega)
      clear h hr hb hc x1 x2 eM eV hM' hV' hS hX hY hD hF hk
      go_enter Try.func16, Try.ntmps16
      go_wp2_with fail
      refine HS.out.mono ?_
      rintro e w1 ⟨rfl, g1⟩
      obtain ⟨h1, o1⟩ := HH.out w1 g1
      have c3 := h1.c3
      have z3 := h1.fz 3
      obtain ⟨o2, c4, z4, h4⟩ := HA.out w1 h1
      have HR := Lib.hid (And.intro h4 (o1.trans o2))
      clear h1 o1 o2 h4 g1 c5
      go_wp2_with fail
      refine bodyPost_end (results_none rfl _ _ _) rfl ?_
      exact ⟨rfl, HR.out.1, HR.out.2⟩
  · have hk : r.known = false := by cases e : r.known <;> first | rfl | exact absurd e hk
    have eM : M' = 8 * c := by rw [hM']; unfold roM; rw [hk]; rfl
    have eV : V' = 2 * c := by rw [hV']; unfold roV; rw [hk]; rfl
    have f1 : wrap64 (8 * (c : Int)) = (M' : Int) := (IntWalk.wrap64_in _ (by omega)).trans (by omega)
    have f2 : wrap64 (2 * (c : Int)) = (V' : Int) := (IntWalk.wrap64_in _ (by omega)).trans (by omega)
    have c5 := h.c5
    rw [hk] at c5
    have c3 := h.c3
    have c4 := h.c4
    have z5 := h.fz 5
    have h1 := h.set5
    have z3 := h1.fz 3
    have h2 := h1.set3 M'
    have z4 := h2.fz 4
    have h3 := h2.set4 V'
    have e : roLr r c = { r with m := M', v := V', known := true } := by unfold roLr; rw [hM', hV']
    have HR := Lib.hid (And.intro h3 (((h.only hb 5 (.bool true)).trans (h1.only hb 3 (.int .i64 (M' : Int)))).trans (h2.only hb 4 (.int .i64 (V' : Int)))))
    rw [show ({ ({ ({ r with known := true } : Ro) with m := M' } : Ro) with v := V' } : Ro) = roLr r c from e.symm] at HR
    clear h hr hb hc x1 x2 eM eV hM' hV' hk h1 h2 h3 e
    go_enter Try.func16, Try.ntmps16
    go_wp2_with fail
    refine bodyPost_ret (results_none rfl _ _ _) rfl ?_
    exact ⟨rfl, HR.out.1, HR.out.2⟩
set_option maxRecDepth 10000 in
set_option maxHeartbeats 1000000 in
theorem backP (h : RpB w pb r) (hr : RoOk r) (hb : base ≤ pb) (hn : r.backs < 4611686018427387904) : Calls Try.prog 10 #[.pointer (some ⟨pb, 0, none⟩)] w fun e w' => e = .returned (.tuple #[]) ∧ RpB w' pb (roBk r) ∧ Only base Zr w w' := by
  have x1 := hr.hi
  have x2 := hr.n2
  obtain ⟨N, hN⟩ : ∃ x, x = roTop r.most (2 * r.now) := ⟨_, rfl⟩
  have eN : N = if r.most < 2 * r.now then r.most else 2 * r.now := hN
  obtain ⟨B, hB⟩ : ∃ x, x = r.backs + 1 := ⟨_, rfl⟩
  have wB : wrap64 ((r.backs : Int) + 1) = (B : Int) := by rw [hB]; exact (IntWalk.wrap64_in _ (by omega)).trans (by omega)
  have HC := Lib.hid (fun (q : World) (g : Grow w q) => And.intro (h.grow g).c2 (h.grow g).c1)
  have HA : Hid (∀ q : World, Grow w q → RpB q pb r ∧ Only base Zr w (q.setCell ⟨pb, 2, none⟩ (.int .i64 (N : Int))) ∧ (q.setCell ⟨pb, 2, none⟩ (.int .i64 (N : Int))).cell? ⟨pb, 6, none⟩ = some (.int .i64 (r.backs : Int)) ∧ (q.setCell ⟨pb, 2, none⟩ (.int .i64 (N : Int))).frozen? ⟨pb, 6, none⟩ = false ∧ RpB ((q.setCell ⟨pb, 2, none⟩ (.int .i64 (N : Int))).setCell ⟨pb, 6, none⟩ (.int .i64 (B : Int))) pb (roBk r) ∧ Only base Zr w ((q.setCell ⟨pb, 2, none⟩ (.int .i64 (N : Int))).setCell ⟨pb, 6, none⟩ (.int .i64 (B : Int)))) := fun q g => by
    have k := h.grow g
    have e : roBk r = { r with now := N, backs := B } := by unfold roBk; rw [hN, hB]
    have o := (Only.grow g (Nat.le_of_lt (Nat.lt_of_le_of_lt hb h.lt)) Zr).trans (k.only hb 2 (.int .i64 (N : Int)))
    rw [e]
    exact ⟨k, o, (k.set2 N).c6, (k.set2 N).fz 6, (k.set2 N).set6 B, o.trans ((k.set2 N).only hb 6 _)⟩
  obtain ⟨X, hX⟩ : ∃ x : Int, x = (r.most : Int) - (r.now : Int) := ⟨_, rfl⟩
  have g1 : IntKind.i64.wrap ((r.most : Int) - (r.now : Int)) = X := by rw [hX]; exact IntWalk.i64_in _ (by omega)
  have HW := Lib.hid g1
  by_cases q : X < (r.now : Int)
  · obtain ⟨Y, hY⟩ : ∃ x : Int, x = X := ⟨_, rfl⟩
    have HM := Lib.hid (And.intro q hY)
    have g2 : IntKind.i64.wrap ((r.now : Int) + Y) = (N : Int) := by rw [hY]; refine (IntWalk.i64_in _ (by omega)).trans ?_; rw [eN]; split <;> omega
    have HW2 := Lib.hid g2
    generalize r.most = h' at *
    clear h hr hb hn x1 x2 hN eN hB hX g1 g2 q hY
    generalize r.now = n at *
    go_enter Try.func10, Try.ntmps10
    go_upto_region 1 with fail
    refine wp_region_phase (A := ?frame1) (inList (isV (.pointer (some ⟨pb, 0, none⟩)) :: isV (.pointer (some ⟨pb, 0, none⟩)) :: isV (.pointer (some ⟨pb, 2, none⟩)) :: isV (.int .i64 (n : Int)) :: isV (.pointer (some ⟨pb, 0, none⟩)) :: isV (.pointer (some ⟨pb, 0, none⟩)) :: isV (.pointer (some ⟨pb, 2, none⟩)) :: isV (.int .i64 (n : Int)) :: isV (.pointer (some ⟨pb, 0, none⟩)) :: isV (.pointer (some ⟨pb, 0, none⟩)) :: isV (.pointer (some ⟨pb, 1, none⟩)) :: isV (.int .i64 (h' : Int)) :: isV (.pointer (some ⟨pb, 0, none⟩)) :: isV (.pointer (some ⟨pb, 0, none⟩)) :: isV (.pointer (some ⟨pb, 2, none⟩)) :: isV (.int .i64 (n : Int)) :: isV (.int .i64 X) :: isV (.int .i64 Y) :: isV (.int .i64 (N : Int)) :: isV (.pointer (some ⟨pb, 0, none⟩)) :: isV (.pointer (some ⟨pb, 2, none⟩)) :: [])) 21 (by kernel_rfl) (by kernel_rfl) (by kernel_rfl) (inList_stays ?_) (fun x => ?frameEq1) ?_ ?_
    case frameEq1 => go_simp; rfl
    · intro f hf
      simp only [List.mem_cons, List.not_mem_nil, or_false] at hf
      rcases hf with rfl | rfl | rfl | rfl | rfl | rfl | rfl | rfl | rfl | rfl | rfl | rfl | rfl | rfl | rfl | rfl | rfl | rfl | rfl | rfl | rfl <;> first | exact isV_stays _ | exact isB_stays _ | exact isBs_stays _
    · refine ⟨fun x w1 hg hd post hp => ?_, fun x w1 hg hd post hp => ?_, fun x w1 hg hd post hp => ?_, fun x w1 hg hd post hp => ?_, fun x w1 hg hd post hp => ?_, fun x w1 hg hd post hp => ?_, fun x w1 hg hd post hp => ?_, fun x w1 hg hd post hp => ?_, fun x w1 hg hd post hp => ?_, fun x w1 hg hd post hp => ?_, fun x w1 hg hd post hp => ?_, fun x w1 hg hd post hp => ?_, fun x w1 hg hd post hp => ?_, fun x w1 hg hd post hp => ?_, fun x w1 hg hd post hp => ?_, fun x w1 hg hd post hp => ?_, fun x w1 hg hd post hp => ?_, fun x w1 hg hd post hp => ?_, fun x w1 hg hd post hp => ?_, fun x w1 hg hd post hp => ?_, fun x w1 hg hd post hp => ?_, trivial⟩
      · -- 0: slot 4: Op.move t0
        clear hd
        go_simp
        exact hp _ _ (Grow.refl _) rfl
      · -- 1: slot 5: Op.nilCheck t4
        have h4 : x 4 = .pointer (some ⟨pb, 0, none⟩) := hd 0 (by decide) _ rfl
        clear hd
        go_simp
        exact hp _ _ (Grow.refl _) rfl
      · -- 2: slot 6: Op.fieldAddr 43 t5 2
        have h5 : x 5 = .pointer (some ⟨pb, 0, none⟩) := hd 1 (by decide) _ rfl
        clear hd
        go_simp
        exact hp _ _ (Grow.refl _) rfl
      · -- 3: slot 7: Op.load 3 t6
        have h6 : x 6 = .pointer (some ⟨pb, 2, none⟩) := hd 2 (by decide) _ rfl
        clear hd
        obtain ⟨c1, c2⟩ := HC.out _ hg
        go_simp
        exact hp _ _ (Grow.refl _) rfl
      · -- 4: slot 8: Op.move t0
        clear hd
        go_simp
        exact hp _ _ (Grow.refl _) rfl
      · -- 5: slot 9: Op.nilCheck t8
        have h8 : x 8 = .pointer (some ⟨pb, 0, none⟩) := hd 4 (by decide) _ rfl
        clear hd
        go_simp
        exact hp _ _ (Grow.refl _) rfl
      · -- 6: slot 10: Op.fieldAddr 43 t9 2
        have h9 : x 9 = .pointer (some ⟨pb, 0, none⟩) := hd 5 (by decide) _ rfl
        clear hd
        go_simp
        exact hp _ _ (Grow.refl _) rfl
      · -- 7: slot 11: Op.load 3 t10
        have h10 : x 10 = .pointer (some ⟨pb, 2, none⟩) := hd 6 (by decide) _ rfl
        clear hd
        obtain ⟨c1, c2⟩ := HC.out _ hg
        go_simp
        exact hp _ _ (Grow.refl _) rfl
      · -- 8: slot 12: Op.move t0
        clear hd
        go_simp
        exact hp _ _ (Grow.refl _) rfl
      · -- 9: slot 13: Op.nilCheck t12
        have h12 : x 12 = .pointer (some ⟨pb, 0, none⟩) := hd 8 (by decide) _ rfl
        clear hd
        go_simp
        exact hp _ _ (Grow.refl _) rfl
      · -- 10: slot 14: Op.fieldAddr 43 t13 1
        have h13 : x 13 = .pointer (some ⟨pb, 0, none⟩) := hd 9 (by decide) _ rfl
        clear hd
        go_simp
        exact hp _ _ (Grow.refl _) rfl
      · -- 11: slot 15: Op.load 3 t14
        have h14 : x 14 = .pointer (some ⟨pb, 1, none⟩) := hd 10 (by decide) _ rfl
        clear hd
        obtain ⟨c1, c2⟩ := HC.out _ hg
        go_simp
        exact hp _ _ (Grow.refl _) rfl
      · -- 12: slot 16: Op.move t0
        clear hd
        go_simp
        exact hp _ _ (Grow.refl _) rfl
      · -- 13: slot 17: Op.nilCheck t16
        have h16 : x 16 = .pointer (some ⟨pb, 0, none⟩) := hd 12 (by decide) _ rfl
        clear hd
        go_simp
        exact hp _ _ (Grow.refl _) rfl
      · -- 14: slot 18: Op.fieldAddr 43 t17 2
        have h17 : x 17 = .pointer (some ⟨pb, 0, none⟩) := hd 13 (by decide) _ rfl
        clear hd
        go_simp
        exact hp _ _ (Grow.refl _) rfl
      · -- 15: slot 19: Op.load 3 t18
        have h18 : x 18 = .pointer (some ⟨pb, 2, none⟩) := hd 14 (by decide) _ rfl
        clear hd
        obtain ⟨c1, c2⟩ := HC.out _ hg
        go_simp
        exact hp _ _ (Grow.refl _) rfl
      · -- 16: slot 20: Op.binOp BinOp.sub 3 t15 t19 3
        have h15 : x 15 = .int .i64 (h' : Int) := hd 11 (by decide) _ rfl
        have h19 : x 19 = .int .i64 (n : Int) := hd 15 (by decide) _ rfl
        clear hd
        have e := HW.out
        go_simp
        exact hp _ _ (Grow.refl _) rfl
      · -- 17: slot 21: Op.call { builtin min, args := #[t11, t20], argTypes := #[3, 3] }
        have h11 : x 11 = .int .i64 (n : Int) := hd 7 (by decide) _ rfl
        have h20 : x 20 = .int .i64 X := hd 16 (by decide) _ rfl
        clear hd
        have hq := HM.out.1
        have he := HM.out.2
        go_simp
        exact hp _ _ (Grow.refl _) (congrArg (Value.int .i64) he.symm)
      · -- 18: slot 22: Op.binOp BinOp.add 3 t7 t21 3
        have h7 : x 7 = .int .i64 (n : Int) := hd 3 (by decide) _ rfl
        have h21 : x 21 = .int .i64 Y := hd 17 (by decide) _ rfl
        clear hd
        have e := HW2.out
        go_simp
        exact hp _ _ (Grow.refl _) rfl
      · -- 19: slot 23: Op.nilCheck t4
        have h4 : x 4 = .pointer (some ⟨pb, 0, none⟩) := hd 0 (by decide) _ rfl
        clear hd
        go_simp
        exact hp _ _ (Grow.refl _) rfl
      · -- 20: slot 24: Op.fieldAddr 43 t23 2
        have h23 : x 23 = .pointer (some ⟨pb, 0, none⟩) := hd 19 (by decide) _ rfl
        clear hd
        go_simp
        exact hp _ _ (Grow.refl _) rfl
    · intro x w1 hg hd
      have h22 : x 22 = .int .i64 (N : Int) := hd 18 _ (by decide) rfl
      have h24 : x 24 = .pointer (some ⟨pb, 2, none⟩) := hd 20 _ (by decide) rfl
      clear hd
      obtain ⟨k, o1, c6, z6, h6, o6⟩ := HA.out w1 hg
      have c2 := (HC.out w1 hg).1
      have z2 := k.fz 2
      have HR := Lib.hid (And.intro h6 o6)
      rw [h22, h24]
      clear k o1 h6 o6 h22 h24 hg
      go_wp2_with fail
      refine bodyPost_end (results_none rfl _ _ _) rfl ?_
      exact ⟨rfl, HR.out.1, HR.out.2⟩
  · obtain ⟨Y, hY⟩ : ∃ x : Int, x = (r.now : Int) := ⟨_, rfl⟩
    have HM := Lib.hid (And.intro q hY)
    have g2 : IntKind.i64.wrap ((r.now : Int) + Y) = (N : Int) := by rw [hY]; refine (IntWalk.i64_in _ (by omega)).trans ?_; rw [eN]; split <;> omega
    have HW2 := Lib.hid g2
    generalize r.most = h' at *
    clear h hr hb hn x1 x2 hN eN hB hX g1 g2 q hY
    generalize r.now = n at *
    go_enter Try.func10, Try.ntmps10
    go_upto_region 1 with fail
    refine wp_region_phase (A := ?frame1) (inList (isV (.pointer (some ⟨pb, 0, none⟩)) :: isV (.pointer (some ⟨pb, 0, none⟩)) :: isV (.pointer (some ⟨pb, 2, none⟩)) :: isV (.int .i64 (n : Int)) :: isV (.pointer (some ⟨pb, 0, none⟩)) :: isV (.pointer (some ⟨pb, 0, none⟩)) :: isV (.pointer (some ⟨pb, 2, none⟩)) :: isV (.int .i64 (n : Int)) :: isV (.pointer (some ⟨pb, 0, none⟩)) :: isV (.pointer (some ⟨pb, 0, none⟩)) :: isV (.pointer (some ⟨pb, 1, none⟩)) :: isV (.int .i64 (h' : Int)) :: isV (.pointer (some ⟨pb, 0, none⟩)) :: isV (.pointer (some ⟨pb, 0, none⟩)) :: isV (.pointer (some ⟨pb, 2, none⟩)) :: isV (.int .i64 (n : Int)) :: isV (.int .i64 X) :: isV (.int .i64 Y) :: isV (.int .i64 (N : Int)) :: isV (.pointer (some ⟨pb, 0, none⟩)) :: isV (.pointer (some ⟨pb, 2, none⟩)) :: [])) 21 (by kernel_rfl) (by kernel_rfl) (by kernel_rfl) (inList_stays ?_) (fun x => ?frameEq1) ?_ ?_
    case frameEq1 => go_simp
    · intro f hf
      simp only [List.mem_cons, List.not_mem_nil, or_false] at hf
      rcases hf with rfl | rfl | rfl | rfl | rfl | rfl | rfl | rfl | rfl | rfl | rfl | rfl | rfl | rfl | rfl | rfl | rfl | rfl | rfl | rfl | rfl <;> first | exact isV_stays _ | exact isB_stays _ | exact isBs_stays _
    · refine ⟨fun x w1 hg hd post hp => ?_, fun x w1 hg hd post hp => ?_, fun x w1 hg hd post hp => ?_, fun x w1 hg hd post hp => ?_, fun x w1 hg hd post hp => ?_, fun x w1 hg hd post hp => ?_, fun x w1 hg hd post hp => ?_, fun x w1 hg hd post hp => ?_, fun x w1 hg hd post hp => ?_, fun x w1 hg hd post hp => ?_, fun x w1 hg hd post hp => ?_, fun x w1 hg hd post hp => ?_, fun x w1 hg hd post hp => ?_, fun x w1 hg hd post hp => ?_, fun x w1 hg hd post hp => ?_, fun x w1 hg hd post hp => ?_, fun x w1 hg hd post hp => ?_, fun x w1 hg hd post hp => ?_, fun x w1 hg hd post hp => ?_, fun x w1 hg hd post hp => ?_, fun x w1 hg hd post hp => ?_, trivial⟩
      · -- 0: slot 4: Op.move t0
        clear hd
        go_simp
        exact hp _ _ (Grow.refl _) rfl
      · -- 1: slot 5: Op.nilCheck t4
        have h4 : x 4 = .pointer (some ⟨pb, 0, none⟩) := hd 0 (by decide) _ rfl
        clear hd
        go_simp
        exact hp _ _ (Grow.refl _) rfl
      · -- 2: slot 6: Op.fieldAddr 43 t5 2
        have h5 : x 5 = .pointer (some ⟨pb, 0, none⟩) := hd 1 (by decide) _ rfl
        clear hd
        go_simp
        exact hp _ _ (Grow.refl _) rfl
      · -- 3: slot 7: Op.load 3 t6
        have h6 : x 6 = .pointer (some ⟨pb, 2, none⟩) := hd 2 (by decide) _ rfl
        clear hd
        obtain ⟨c1, c2⟩ := HC.out _ hg
        go_simp
        exact hp _ _ (Grow.refl _) rfl
      · -- 4: slot 8: Op.move t0
        clear hd
        go_simp
        exact hp _ _ (Grow.refl _) rfl
      · -- 5: slot 9: Op.nilCheck t8
        have h8 : x 8 = .pointer (some ⟨pb, 0, none⟩) := hd 4 (by decide) _ rfl
        clear hd
        go_simp
        exact hp _ _ (Grow.refl _) rfl
      · -- 6: slot 10: Op.fieldAddr 43 t9 2
        have h9 : x 9 = .pointer (some ⟨pb, 0, none⟩) := hd 5 (by decide) _ rfl
        clear hd
        go_simp
        exact hp _ _ (Grow.refl _) rfl
      · -- 7: slot 11: Op.load 3 t10
        have h10 : x 10 = .pointer (some ⟨pb, 2, none⟩) := hd 6 (by decide) _ rfl
        clear hd
        obtain ⟨c1, c2⟩ := HC.out _ hg
        go_simp
        exact hp _ _ (Grow.refl _) rfl
      · -- 8: slot 12: Op.move t0
        clear hd
        go_simp
        exact hp _ _ (Grow.refl _) rfl
      · -- 9: slot 13: Op.nilCheck t12
        have h12 : x 12 = .pointer (some ⟨pb, 0, none⟩) := hd 8 (by decide) _ rfl
        clear hd
        go_simp
        exact hp _ _ (Grow.refl _) rfl
      · -- 10: slot 14: Op.fieldAddr 43 t13 1
        have h13 : x 13 = .pointer (some ⟨pb, 0, none⟩) := hd 9 (by decide) _ rfl
        clear hd
        go_simp
        exact hp _ _ (Grow.refl _) rfl
      · -- 11: slot 15: Op.load 3 t14
        have h14 : x 14 = .pointer (some ⟨pb, 1, none⟩) := hd 10 (by decide) _ rfl
        clear hd
        obtain ⟨c1, c2⟩ := HC.out _ hg
        go_simp
        exact hp _ _ (Grow.refl _) rfl
      · -- 12: slot 16: Op.move t0
        clear hd
        go_simp
        exact hp _ _ (Grow.refl _) rfl
      · -- 13: slot 17: Op.nilCheck t16
        have h16 : x 16 = .pointer (some ⟨pb, 0, none⟩) := hd 12 (by decide) _ rfl
        clear hd
        go_simp
        exact hp _ _ (Grow.refl _) rfl
      · -- 14: slot 18: Op.fieldAddr 43 t17 2
        have h17 : x 17 = .pointer (some ⟨pb, 0, none⟩) := hd 13 (by decide) _ rfl
        clear hd
        go_simp
        exact hp _ _ (Grow.refl _) rfl
      · -- 15: slot 19: Op.load 3 t18
        have h18 : x 18 = .pointer (some ⟨pb, 2, none⟩) := hd 14 (by decide) _ rfl
        clear hd
        obtain ⟨c1, c2⟩ := HC.out _ hg
        go_simp
        exact hp _ _ (Grow.refl _) rfl
      · -- 16: slot 20: Op.binOp BinOp.sub 3 t15 t19 3
        have h15 : x 15 = .int .i64 (h' : Int) := hd 11 (by decide) _ rfl
        have h19 : x 19 = .int .i64 (n : Int) := hd 15 (by decide) _ rfl
        clear hd
        have e := HW.out
        go_simp
        exact hp _ _ (Grow.refl _) rfl
      · -- 17: slot 21: Op.call { builtin min, args := #[t11, t20], argTypes := #[3, 3] }
        have h11 : x 11 = .int .i64 (n : Int) := hd 7 (by decide) _ rfl
        have h20 : x 20 = .int .i64 X := hd 16 (by decide) _ rfl
        clear hd
        have hq := HM.out.1
        have he := HM.out.2
        go_simp
        exact hp _ _ (Grow.refl _) (congrArg (Value.int .i64) he.symm)
      · -- 18: slot 22: Op.binOp BinOp.add 3 t7 t21 3
        have h7 : x 7 = .int .i64 (n : Int) := hd 3 (by decide) _ rfl
        have h21 : x 21 = .int .i64 Y := hd 17 (by decide) _ rfl
        clear hd
        have e := HW2.out
        go_simp
        exact hp _ _ (Grow.refl _) rfl
      · -- 19: slot 23: Op.nilCheck t4
        have h4 : x 4 = .pointer (some ⟨pb, 0, none⟩) := hd 0 (by decide) _ rfl
        clear hd
        go_simp
        exact hp _ _ (Grow.refl _) rfl
      · -- 20: slot 24: Op.fieldAddr 43 t23 2
        have h23 : x 23 = .pointer (some ⟨pb, 0, none⟩) := hd 19 (by decide) _ rfl
        clear hd
        go_simp
        exact hp _ _ (Grow.refl _) rfl
    · intro x w1 hg hd
      have h22 : x 22 = .int .i64 (N : Int) := hd 18 _ (by decide) rfl
      have h24 : x 24 = .pointer (some ⟨pb, 2, none⟩) := hd 20 _ (by decide) rfl
      clear hd
      obtain ⟨k, o1, c6, z6, h6, o6⟩ := HA.out w1 hg
      have c2 := (HC.out w1 hg).1
      have z2 := k.fz 2
      have HR := Lib.hid (And.intro h6 o6)
      rw [h22, h24]
      clear k o1 h6 o6 h22 h24 hg
      go_wp2_with fail
      refine bodyPost_end (results_none rfl _ _ _) rfl ?_
      exact ⟨rfl, HR.out.1, HR.out.2⟩
end
end Go.Proofs.Ytpbnpkbmefjiaaa
