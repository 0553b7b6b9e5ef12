/- Contracts: the program's Sample; all that the laws' walks ask of the program. -/
import Derived.Test.YtpbnpkbmefjiaaaRoWr
namespace Go.Proofs.Ytpbnpkbmefjiaaa
set_option linter.unusedVariables false
set_option linter.unusedSimpArgs false
open Go.ChangeShapes Go.WideShapes Go.ChangeAt Go.RowKit

/-- A function that brings a number into l to h. -/
def isWi (l h : Int) (v : Value) (q : World) : Prop := ∃ a b : Nat, v = .func (.func 18) #[] #[.pointer (some ⟨a, 0, none⟩), .pointer (some ⟨b, 0, none⟩)] ∧ q.heap[a]? = some (.cells #[.int .i64 l] 3 (0, 0)) ∧ q.heap[b]? = some (.cells #[.int .i64 h] 3 (0, 0))
theorem isWi_stays (l h : Int) : stays (isWi l h) := fun v q q' g ⟨a, b, e, h1, h2⟩ => ⟨a, b, e, (g.block a (Array.getElem?_eq_some_iff.1 h1).1).trans h1, (g.block b (Array.getElem?_eq_some_iff.1 h2).1).trans h2⟩
theorem wi_new (w : World) (l h : Int) : ((w.alloc (.cells #[.int .i64 l] 3)).alloc (.cells #[.int .i64 h] 3)).heap[w.heap.size]? = some (.cells #[.int .i64 l] 3 (0, 0)) ∧ ((w.alloc (.cells #[.int .i64 l] 3)).alloc (.cells #[.int .i64 h] 3)).heap[w.heap.size + 1]? = some (.cells #[.int .i64 h] 3 (0, 0)) := by
  have b1 : (w.alloc (.cells #[.int .i64 l] 3)).heap[w.heap.size]? = some (.cells #[.int .i64 l] 3 (0, 0)) := heap_alloc_new w _
  have b2 := heap_alloc_new (w.alloc (.cells #[.int .i64 l] 3)) (.cells #[.int .i64 h] 3)
  have e : (w.alloc (.cells #[.int .i64 l] 3)).heap.size = w.heap.size + 1 := by show (w.heap.push _).size = _; exact Array.size_push ..
  rw [e] at b2
  exact ⟨((Grow.alloc _ (.cells #[.int .i64 h] 3)).block _ (Array.getElem?_eq_some_iff.1 b1).1).trans b1, b2⟩
theorem isWi_new (w : World) (l h : Int) : isWi l h (.func (.func 18) #[] #[.pointer (some ⟨w.heap.size, 0, none⟩), .pointer (some ⟨w.heap.size + 1, 0, none⟩)]) ((w.alloc (.cells #[.int .i64 l] 3)).alloc (.cells #[.int .i64 h] 3)) := ⟨_, _, rfl, wi_new w l h⟩
theorem isWi.call {l h n : Int} {v : Value} {q : World} (k : isWi l h v q) : ∃ a b : Nat, v = .func (.func 18) #[] #[.pointer (some ⟨a, 0, none⟩), .pointer (some ⟨b, 0, none⟩)] ∧ Calls Try.prog 18 #[.int .i64 n, .pointer (some ⟨a, 0, none⟩), .pointer (some ⟨b, 0, none⟩)] q fun e w' => e = .returned (.int .i64 (clipI l h n)) ∧ w' = q := by
  obtain ⟨a, b, e, h1, h2⟩ := k
  exact ⟨a, b, e, boundP q a b l h n ((cell_of_row q a 0 _ _ _ h1).trans rfl) ((cell_of_row q b 0 _ _ _ h2).trans rfl)⟩
section
variable {w : World} {base pb : Nat} {r : Ro}
set_option maxRecDepth 10000 in
set_option maxHeartbeats 1000000 in
theorem sampleP (h : RpB w pb r) (hr : RoOk r) (hb : base ≤ pb) (t : Int) : Calls Try.prog 12 #[.pointer (some ⟨pb, 0, none⟩), .int .i64 t] w fun e w' => e = .returned (.tuple #[]) ∧ RpB w' pb (roSp r (clipT t)) ∧ Only base Zr w w' := by
  have hc := clipT_le t
  have ht := clipI_T t
  obtain ⟨c, hcT⟩ : ∃ c, c = clipT t := ⟨_, rfl⟩
  rw [← hcT] at hc ht ⊢
  have hbw : base ≤ w.heap.size := Nat.le_of_lt (Nat.lt_of_le_of_lt hb h.lt)
  obtain ⟨r1, hr1⟩ : ∃ x, x = roLr r c := ⟨_, rfl⟩
  have e0 : r1.least = r.least := by rw [hr1]; rfl
  have e1 : r1.most = r.most := by rw [hr1]; rfl
  have eM : r1.m = roM r c := by rw [hr1]; rfl
  have eV : r1.v = roV r c := by rw [hr1]; rfl
  have k1 : RoOk r1 := ⟨by rw [e0]; exact hr.lo, by rw [e0, e1]; exact hr.le, by rw [e1]; exact hr.hi, by rw [e0, hr1]; exact hr.n1, by rw [e1, hr1]; exact hr.n2, by rw [eM]; exact roM_le hr hc, by rw [eV]; exact roV_le hr hc⟩
  obtain ⟨N, hN⟩ : ∃ x, x = roNow r1.least r1.most r1.m r1.v := ⟨_, rfl⟩
  have eF : roSp r c = { r1 with now := N, backs := 0 } := by rw [hN, hr1]; rfl
  have HL := Lib.hid (fun (q : World) (k : RpB q pb r) => hr1 ▸ learnP k hr hb c hc)
  obtain ⟨X, hX⟩ : ∃ x, x = r1.m / 8 := ⟨_, rfl⟩
  have HS := Lib.hid (fun (q : World) (k : RpB q pb r1) => hX ▸ smoothP k k1)
  obtain ⟨O, hO⟩ : ∃ x, x = roOne r1.v := ⟨_, rfl⟩
  have hO2 : (O : Int) = if (r1.v : Int) < 1 then 1 else (r1.v : Int) := by rw [hO]; unfold roOne; split <;> split <;> omega
  obtain ⟨T, hT⟩ : ∃ x, x = X + O := ⟨_, rfl⟩
  have vb := k1.vb
  have mb := k1.mb
  have oB : O ≤ 8388608 := by rw [hO]; unfold roOne; split <;> omega
  have wT : IntKind.i64.wrap ((X : Int) + (O : Int)) = (T : Int) := by rw [hT]; exact (IntWalk.i64_in _ (by omega)).trans (by omega)
  have HT := Lib.hid wT
  have HN : Hid (clipI (r1.least : Int) (r1.most : Int) (T : Int) = (N : Int)) := by unfold Hid; rw [hT, hX, hO, hN]; exact clipI_now _ _ _ _
  have HF : Hid (∀ q : World, RpB q pb r1 → RpB ((q.setCell ⟨pb, 2, none⟩ (.int .i64 (N : Int))).setCell ⟨pb, 6, none⟩ (.int .i64 0)) pb (roSp r c) ∧ Only base Zr q ((q.setCell ⟨pb, 2, none⟩ (.int .i64 (N : Int))).setCell ⟨pb, 6, none⟩ (.int .i64 0)) ∧ (q.setCell ⟨pb, 2, none⟩ (.int .i64 (N : Int))).cell? ⟨pb, 6, none⟩ = some (.int .i64 (r1.backs : Int)) ∧ (q.setCell ⟨pb, 2, none⟩ (.int .i64 (N : Int))).frozen? ⟨pb, 6, none⟩ = false) := fun q k => by
    rw [eF]
    exact ⟨(k.set2 N).set6 0, (k.only hb 2 _).trans ((k.set2 N).only hb 6 _), (k.set2 N).c6, (k.set2 N).fz 6⟩
  have HG : Hid (∀ q q' : World, Only base Zr w q → Grow q q' → Only base Zr w q') := fun q q' o g => o.trans (Only.grow g (Nat.le_trans hbw o.size) _)
  have HA := Lib.hid h
  have HW := Lib.hid (And.intro (fun (q : World) (g : Grow w q) => Only.grow g hbw Zr) ht)
  have HV := Lib.hid (And.intro vb hO2)
  clear h hr hb hcT hbw hr1 e0 e1 eM eV k1 hN eF hX hO hO2 hT vb mb oB wT hc ht
  go_enter Try.func12, Try.ntmps12
  go_wp2_with fail
  refine (withinP _ _ _).mono ?_
  rintro e w1 ⟨rfl, hw⟩
  have i1 := wi_new w 0 1048576
  rw [← hw] at i1
  have g1 : Grow w w1 := by rw [hw]; exact (Grow.alloc _ _).trans (Grow.alloc _ _)
  have cB := boundP w1 _ _ 0 1048576 t ((cell_of_row w1 _ 0 _ _ _ i1.1).trans rfl) ((cell_of_row w1 _ 0 _ _ _ i1.2).trans rfl)
  rw [HW.out.2] at cB
  have cL := HL.out w1 (HA.out.grow g1)
  have HO1 := Lib.hid (HW.out.1 w1 g1)
  clear hw i1 g1
  go_wp2_with fail
  refine cB.mono ?_
  rintro e w2 ⟨rfl, hw⟩
  subst w2
  clear cB
  go_wp2_with fail
  refine cL.mono ?_
  rintro e w2 ⟨rfl, h2, o2⟩
  have cS := HS.out w2 h2
  have HO2 := Lib.hid (And.intro h2 (HO1.out.trans o2))
  clear cL h2 o2 HO1
  go_wp2_with fail
  refine cS.mono ?_
  rintro e w3 ⟨rfl, g3⟩
  have HB := Lib.hid (fun (q : World) (g : Grow w3 q) => HO2.out.1.grow (g3.trans g))
  have HO3 := Lib.hid (HG.out _ _ HO2.out.2 g3)
  clear cS g3 HO2
  generalize r1.v / 4 = Y
  go_upto_region 3 with fail
  by_cases q : (r1.v : Int) < 1
  · have HO : Hid ((1 : Int) = (O : Int) ∧ (r1.v : Int) < 1) := ⟨by have e := HV.out.2; rw [if_pos q] at e; exact e.symm, q⟩
    clear q
    refine wp_region_phase (A := ?frame3) (inList (isV (.pointer (some ⟨pb, 0, none⟩)) :: isV (.pointer (some ⟨pb, 0, none⟩)) :: isV (.pointer (some ⟨pb, 0, none⟩)) :: isV (.pointer (some ⟨pb, 0, none⟩)) :: isV (.int .i64 (r1.least : Int)) :: isV (.pointer (some ⟨pb, 0, none⟩)) :: isV (.pointer (some ⟨pb, 0, none⟩)) :: isV (.pointer (some ⟨pb, 1, none⟩)) :: isV (.int .i64 (r1.most : Int)) :: (isWi (r1.least : Int) (r1.most : Int)) :: isV (.int .i64 (X : Int)) :: isV (.pointer (some ⟨pb, 0, none⟩)) :: isV (.pointer (some ⟨pb, 0, none⟩)) :: isV (.pointer (some ⟨pb, 4, none⟩)) :: isV (.int .i64 (r1.v : Int)) :: isV (.int .i64 (O : Int)) :: isV (.int .i64 (T : Int)) :: isV (.int .i64 (N : Int)) :: isV (.pointer (some ⟨pb, 0, none⟩)) :: isV (.pointer (some ⟨pb, 2, none⟩)) :: [])) 20 (by kernel_rfl) (by kernel_rfl) (by kernel_rfl) (inList_stays ?_) (fun x => ?frameEq3) ?_ ?_
    case frameEq3 => go_simp; rfl
    · intro f hf
      simp only [List.mem_cons, List.not_mem_nil, or_false] at hf
      rcases hf with rfl | rfl | rfl | rfl | rfl | rfl | rfl | rfl | rfl | rfl | rfl | rfl | rfl | rfl | rfl | rfl | rfl | rfl | rfl | rfl <;> first | exact isV_stays _ | exact isB_stays _ | exact isBs_stays _ | exact isWi_stays _ _
    · refine ⟨fun x w1 hg hd post hp => ?_, fun x w1 hg hd post hp => ?_, fun x w1 hg hd post hp => ?_, fun x w1 hg hd post hp => ?_, fun x w1 hg hd post hp => ?_, fun x w1 hg hd post hp => ?_, fun x w1 hg hd post hp => ?_, fun x w1 hg hd post hp => ?_, fun x w1 hg hd post hp => ?_, fun x w1 hg hd post hp => ?_, fun x w1 hg hd post hp => ?_, fun x w1 hg hd post hp => ?_, fun x w1 hg hd post hp => ?_, fun x w1 hg hd post hp => ?_, fun x w1 hg hd post hp => ?_, fun x w1 hg hd post hp => ?_, fun x w1 hg hd post hp => ?_, fun x w1 hg hd post hp => ?_, fun x w1 hg hd post hp => ?_, fun x w1 hg hd post hp => ?_, trivial⟩
      · -- 0: slot 18: Op.move t0
        clear hd
        go_simp
        exact hp _ _ (Grow.refl _) rfl
      · -- 1: slot 19: Op.move t0
        clear hd
        go_simp
        exact hp _ _ (Grow.refl _) rfl
      · -- 2: slot 20: Op.nilCheck t19
        have h19 : x 19 = .pointer (some ⟨pb, 0, none⟩) := hd 1 (by decide) _ rfl
        clear hd
        go_simp
        exact hp _ _ (Grow.refl _) rfl
      · -- 3: slot 21: Op.fieldAddr 43 t20 0
        have h20 : x 20 = .pointer (some ⟨pb, 0, none⟩) := hd 2 (by decide) _ rfl
        clear hd
        go_simp
        exact hp _ _ (Grow.refl _) rfl
      · -- 4: slot 22: Op.load 3 t21
        have h21 : x 21 = .pointer (some ⟨pb, 0, none⟩) := hd 3 (by decide) _ rfl
        clear hd
        have c0 := (HB.out _ hg).c0
        go_simp
        exact hp _ _ (Grow.refl _) rfl
      · -- 5: slot 23: Op.move t0
        clear hd
        go_simp
        exact hp _ _ (Grow.refl _) rfl
      · -- 6: slot 24: Op.nilCheck t23
        have h23 : x 23 = .pointer (some ⟨pb, 0, none⟩) := hd 5 (by decide) _ rfl
        clear hd
        go_simp
        exact hp _ _ (Grow.refl _) rfl
      · -- 7: slot 25: Op.fieldAddr 43 t24 1
        have h24 : x 24 = .pointer (some ⟨pb, 0, none⟩) := hd 6 (by decide) _ rfl
        clear hd
        go_simp
        exact hp _ _ (Grow.refl _) rfl
      · -- 8: slot 26: Op.load 3 t25
        have h25 : x 25 = .pointer (some ⟨pb, 1, none⟩) := hd 7 (by decide) _ rfl
        clear hd
        have c1 := (HB.out _ hg).c1
        go_simp
        exact hp _ _ (Grow.refl _) rfl
      · -- 9: slot 27: Op.call { value (Operand.func 17), args := #[t22, t26], argTypes := #[3, 3] }
        have h22 : x 22 = .int .i64 (r1.least : Int) := hd 4 (by decide) _ rfl
        have h26 : x 26 = .int .i64 (r1.most : Int) := hd 8 (by decide) _ rfl
        clear hd
        go_simp
        refine (withinP w1 _ _).mono ?_
        rintro e w2 ⟨rfl, rfl⟩
        exact ⟨_, rfl, hp _ _ ((Grow.alloc _ _).trans (Grow.alloc _ _)) (isWi_new _ _ _)⟩
      · -- 10: slot 28: Op.move t4
        clear hd
        go_simp
        exact hp _ _ (Grow.refl _) rfl
      · -- 11: slot 29: Op.move t0
        clear hd
        go_simp
        exact hp _ _ (Grow.refl _) rfl
      · -- 12: slot 30: Op.nilCheck t29
        have h29 : x 29 = .pointer (some ⟨pb, 0, none⟩) := hd 11 (by decide) _ rfl
        clear hd
        go_simp
        exact hp _ _ (Grow.refl _) rfl
      · -- 13: slot 31: Op.fieldAddr 43 t30 4
        have h30 : x 30 = .pointer (some ⟨pb, 0, none⟩) := hd 12 (by decide) _ rfl
        clear hd
        go_simp
        exact hp _ _ (Grow.refl _) rfl
      · -- 14: slot 32: Op.load 3 t31
        have h31 : x 31 = .pointer (some ⟨pb, 4, none⟩) := hd 13 (by decide) _ rfl
        clear hd
        have c4 := (HB.out _ hg).c4
        go_simp
        exact hp _ _ (Grow.refl _) rfl
      · -- 15: slot 33: Op.call { builtin max, args := #[t32, const (1:i64)], argTypes := #[3, 3] }
        have h32 : x 32 = .int .i64 (r1.v : Int) := hd 14 (by decide) _ rfl
        clear hd
        have e := HO.out.1
        have q := HO.out.2
        go_simp
        exact hp _ _ (Grow.refl _) (congrArg (Value.int .i64) (by rw [if_pos (by omega)]))
      · -- 16: slot 34: Op.binOp BinOp.add 3 t28 t33 3
        have h28 : x 28 = .int .i64 (X : Int) := hd 10 (by decide) _ rfl
        have h33 : x 33 = .int .i64 (O : Int) := hd 15 (by decide) _ rfl
        clear hd
        have e := HT.out
        go_simp
        exact hp _ _ (Grow.refl _) rfl
      · -- 17: slot 35: Op.call { value t27, args := #[t34], argTypes := #[3] }
        have h27 : (isWi (r1.least : Int) (r1.most : Int)) (x 27) w1 := hd 9 (by decide) _ rfl
        have h34 : x 34 = .int .i64 (T : Int) := hd 16 (by decide) _ rfl
        clear hd
        obtain ⟨a, b, e27, cN⟩ := h27.call (n := (T : Int))
        rw [HN.out] at cN
        go_simp
        refine cN.mono ?_
        rintro e w2 ⟨rfl, rfl⟩
        exact ⟨_, rfl, hp _ _ (Grow.refl _) rfl⟩
      · -- 18: slot 36: Op.nilCheck t18
        have h18 : x 18 = .pointer (some ⟨pb, 0, none⟩) := hd 0 (by decide) _ rfl
        clear hd
        go_simp
        exact hp _ _ (Grow.refl _) rfl
      · -- 19: slot 37: Op.fieldAddr 43 t36 2
        have h36 : x 36 = .pointer (some ⟨pb, 0, none⟩) := hd 18 (by decide) _ rfl
        clear hd
        go_simp
        exact hp _ _ (Grow.refl _) rfl
    · intro x w1 hg hd
      have h35 : x 35 = .int .i64 (N : Int) := hd 17 _ (by decide) rfl
      have h37 : x 37 = .pointer (some ⟨pb, 2, none⟩) := hd 19 _ (by decide) rfl
      clear hd
      have HR := Lib.hid (And.intro (HB.out _ hg) (HG.out _ _ HO3.out hg))
      have c2 := HR.out.1.c2
      have z2 := HR.out.1.fz 2
      obtain ⟨f1, f2, c6, z6⟩ := HF.out _ HR.out.1
      have HE := Lib.hid (And.intro f1 (HR.out.2.trans f2))
      rw [h35, h37]
      clear hg h35 h37 f1 f2
      go_wp2_with fail
      refine bodyPost_end (results_none rfl _ _ _) rfl ?_
      exact ⟨rfl, HE.out.1, HE.out.2⟩
  · have HO : Hid ((r1.v : Int) = (O : Int) ∧ ¬ (r1.v : Int) < 1) := ⟨by have e := HV.out.2; rw [if_neg q] at e; exact e.symm, q⟩
    clear q
    refine wp_region_phase (A := ?frame3) (inList (isV (.pointer (some ⟨pb, 0, none⟩)) :: isV (.pointer (some ⟨pb, 0, none⟩)) :: isV (.pointer (some ⟨pb, 0, none⟩)) :: isV (.pointer (some ⟨pb, 0, none⟩)) :: isV (.int .i64 (r1.least : Int)) :: isV (.pointer (some ⟨pb, 0, none⟩)) :: isV (.pointer (some ⟨pb, 0, none⟩)) :: isV (.pointer (some ⟨pb, 1, none⟩)) :: isV (.int .i64 (r1.most : Int)) :: (isWi (r1.least : Int) (r1.most : Int)) :: isV (.int .i64 (X : Int)) :: isV (.pointer (some ⟨pb, 0, none⟩)) :: isV (.pointer (some ⟨pb, 0, none⟩)) :: isV (.pointer (some ⟨pb, 4, none⟩)) :: isV (.int .i64 (r1.v : Int)) :: isV (.int .i64 (O : Int)) :: isV (.int .i64 (T : Int)) :: isV (.int .i64 (N : Int)) :: isV (.pointer (some ⟨pb, 0, none⟩)) :: isV (.pointer (some ⟨pb, 2, none⟩)) :: [])) 20 (by kernel_rfl) (by kernel_rfl) (by kernel_rfl) (inList_stays ?_) (fun x => ?frameEq3) ?_ ?_
    case frameEq3 => go_simp
    · intro f hf
      simp only [List.mem_cons, List.not_mem_nil, or_false] at hf
      rcases hf with rfl | rfl | rfl | rfl | rfl | rfl | rfl | rfl | rfl | rfl | rfl | rfl | rfl | rfl | rfl | rfl | rfl | rfl | rfl | rfl <;> first | exact isV_stays _ | exact isB_stays _ | exact isBs_stays _ | exact isWi_stays _ _
    · refine ⟨fun x w1 hg hd post hp => ?_, fun x w1 hg hd post hp => ?_, fun x w1 hg hd post hp => ?_, fun x w1 hg hd post hp => ?_, fun x w1 hg hd post hp => ?_, fun x w1 hg hd post hp => ?_, fun x w1 hg hd post hp => ?_, fun x w1 hg hd post hp => ?_, fun x w1 hg hd post hp => ?_, fun x w1 hg hd post hp => ?_, fun x w1 hg hd post hp => ?_, fun x w1 hg hd post hp => ?_, fun x w1 hg hd post hp => ?_, fun x w1 hg hd post hp => ?_, fun x w1 hg hd post hp => ?_, fun x w1 hg hd post hp => ?_, fun x w1 hg hd post hp => ?_, fun x w1 hg hd post hp => ?_, fun x w1 hg hd post hp => ?_, fun x w1 hg hd post hp => ?_, trivial⟩
      · -- 0: slot 18: Op.move t0
        clear hd
        go_simp
        exact hp _ _ (Grow.refl _) rfl
      · -- 1: slot 19: Op.move t0
        clear hd
        go_simp
        exact hp _ _ (Grow.refl _) rfl
      · -- 2: slot 20: Op.nilCheck t19
        have h19 : x 19 = .pointer (some ⟨pb, 0, none⟩) := hd 1 (by decide) _ rfl
        clear hd
        go_simp
        exact hp _ _ (Grow.refl _) rfl
      · -- 3: slot 21: Op.fieldAddr 43 t20 0
        have h20 : x 20 = .pointer (some ⟨pb, 0, none⟩) := hd 2 (by decide) _ rfl
        clear hd
        go_simp
        exact hp _ _ (Grow.refl _) rfl
      · -- 4: slot 22: Op.load 3 t21
        have h21 : x 21 = .pointer (some ⟨pb, 0, none⟩) := hd 3 (by decide) _ rfl
        clear hd
        have c0 := (HB.out _ hg).c0
        go_simp
        exact hp _ _ (Grow.refl _) rfl
      · -- 5: slot 23: Op.move t0
        clear hd
        go_simp
        exact hp _ _ (Grow.refl _) rfl
      · -- 6: slot 24: Op.nilCheck t23
        have h23 : x 23 = .pointer (some ⟨pb, 0, none⟩) := hd 5 (by decide) _ rfl
        clear hd
        go_simp
        exact hp _ _ (Grow.refl _) rfl
      · -- 7: slot 25: Op.fieldAddr 43 t24 1
        have h24 : x 24 = .pointer (some ⟨pb, 0, none⟩) := hd 6 (by decide) _ rfl
        clear hd
        go_simp
        exact hp _ _ (Grow.refl _) rfl
      · -- 8: slot 26: Op.load 3 t25
        have h25 : x 25 = .pointer (some ⟨pb, 1, none⟩) := hd 7 (by decide) _ rfl
        clear hd
        have c1 := (HB.out _ hg).c1
        go_simp
        exact hp _ _ (Grow.refl _) rfl
      · -- 9: slot 27: Op.call { value (Operand.func 17), args := #[t22, t26], argTypes := #[3, 3] }
        have h22 : x 22 = .int .i64 (r1.least : Int) := hd 4 (by decide) _ rfl
        have h26 : x 26 = .int .i64 (r1.most : Int) := hd 8 (by decide) _ rfl
        clear hd
        go_simp
        refine (withinP w1 _ _).mono ?_
        rintro e w2 ⟨rfl, rfl⟩
        exact ⟨_, rfl, hp _ _ ((Grow.alloc _ _).trans (Grow.alloc _ _)) (isWi_new _ _ _)⟩
      · -- 10: slot 28: Op.move t4
        clear hd
        go_simp
        exact hp _ _ (Grow.refl _) rfl
      · -- 11: slot 29: Op.move t0
        clear hd
        go_simp
        exact hp _ _ (Grow.refl _) rfl
      · -- 12: slot 30: Op.nilCheck t29
        have h29 : x 29 = .pointer (some ⟨pb, 0, none⟩) := hd 11 (by decide) _ rfl
        clear hd
        go_simp
        exact hp _ _ (Grow.refl _) rfl
      · -- 13: slot 31: Op.fieldAddr 43 t30 4
        have h30 : x 30 = .pointer (some ⟨pb, 0, none⟩) := hd 12 (by decide) _ rfl
        clear hd
        go_simp
        exact hp _ _ (Grow.refl _) rfl
      · -- 14: slot 32: Op.load 3 t31
        have h31 : x 31 = .pointer (some ⟨pb, 4, none⟩) := hd 13 (by decide) _ rfl
        clear hd
        have c4 := (HB.out _ hg).c4
        go_simp
        exact hp _ _ (Grow.refl _) rfl
      · -- 15: slot 33: Op.call { builtin max, args := #[t32, const (1:i64)], argTypes := #[3, 3] }
        have h32 : x 32 = .int .i64 (r1.v : Int) := hd 14 (by decide) _ rfl
        clear hd
        have e := HO.out.1
        have q := HO.out.2
        go_simp
        exact hp _ _ (Grow.refl _) (congrArg (Value.int .i64) (by rw [if_neg (by omega)]))
      · -- 16: slot 34: Op.binOp BinOp.add 3 t28 t33 3
        have h28 : x 28 = .int .i64 (X : Int) := hd 10 (by decide) _ rfl
        have h33 : x 33 = .int .i64 (O : Int) := hd 15 (by decide) _ rfl
        clear hd
        have e := HT.out
        go_simp
        exact hp _ _ (Grow.refl _) rfl
      · -- 17: slot 35: Op.call { value t27, args := #[t34], argTypes := #[3] }
        have h27 : (isWi (r1.least : Int) (r1.most : Int)) (x 27) w1 := hd 9 (by decide) _ rfl
        have h34 : x 34 = .int .i64 (T : Int) := hd 16 (by decide) _ rfl
        clear hd
        obtain ⟨a, b, e27, cN⟩ := h27.call (n := (T : Int))
        rw [HN.out] at cN
        go_simp
        refine cN.mono ?_
        rintro e w2 ⟨rfl, rfl⟩
        exact ⟨_, rfl, hp _ _ (Grow.refl _) rfl⟩
      · -- 18: slot 36: Op.nilCheck t18
        have h18 : x 18 = .pointer (some ⟨pb, 0, none⟩) := hd 0 (by decide) _ rfl
        clear hd
        go_simp
        exact hp _ _ (Grow.refl _) rfl
      · -- 19: slot 37: Op.fieldAddr 43 t36 2
        have h36 : x 36 = .pointer (some ⟨pb, 0, none⟩) := hd 18 (by decide) _ rfl
        clear hd
        go_simp
        exact hp _ _ (Grow.refl _) rfl
    · intro x w1 hg hd
      have h35 : x 35 = .int .i64 (N : Int) := hd 17 _ (by decide) rfl
      have h37 : x 37 = .pointer (some ⟨pb, 2, none⟩) := hd 19 _ (by decide) rfl
      clear hd
      have HR := Lib.hid (And.intro (HB.out _ hg) (HG.out _ _ HO3.out hg))
      have c2 := HR.out.1.c2
      have z2 := HR.out.1.fz 2
      obtain ⟨f1, f2, c6, z6⟩ := HF.out _ HR.out.1
      have HE := Lib.hid (And.intro f1 (HR.out.2.trans f2))
      rw [h35, h37]
      clear hg h35 h37 f1 f2
      go_wp2_with fail
      refine bodyPost_end (results_none rfl _ _ _) rfl ?_
      exact ⟨rfl, HE.out.1, HE.out.2⟩
end
theorem rtoIf : RIf Rpp where
  ok h := h.ok
  keep h k := ⟨h.ok, h.lo, k _ _ _ h.lo h.blk rfl (by unfold Zr; decide)⟩
  new w l h f hr := (newP w l h f hr).mono fun e w' ⟨he, hw⟩ => ⟨w.heap.size, he, ⟨roOk_none (by unfold RoRight at hr; omega) (by unfold RoRight at hr; omega) (by unfold RoRight at hr; omega) (by unfold RoRight at hr; omega), Nat.le_refl _, by rw [hw]; exact heap_alloc_new w _⟩, by rw [hw]; exact Grow.alloc _ _⟩
  newNot w l h f _ _ _ hr := newNotP w l h f hr
  sample h hb t _ := (sampleP h.blk h.ok h.lo t).mono fun e w' ⟨he, hw, o⟩ => ⟨he, ⟨h.ok.sp (clipT_le t), h.lo, hw⟩, o⟩
  back h hb hn := (backP h.blk h.ok h.lo hn).mono fun e w' ⟨he, hw, o⟩ => ⟨he, ⟨h.ok.bk, h.lo, hw⟩, o⟩
  now h := nowP h.blk
  smooth h := smoothP h.blk h.ok
  backs h := backsP h.blk
  sampleNil w t _ := sampleN w t
  backNil := backN
  nowNil := nowN
  smoothNil := smoothN
  backsNil := backsN
end Go.Proofs.Ytpbnpkbmefjiaaa
