/- PoolOnce: its walk. -/
import Derived.Test.YtkambcjinidomaaBpPr
namespace Go.Proofs.Ytkambcjinidomaa
set_option linter.unusedVariables false
set_option linter.unusedSimpArgs false
attribute [local irreducible] wpQuiet
open Go.ChangeShapes Go.WideShapes Go.ChangeAt Go.RowKit

/-- Between rounds. -/
structure OnB (Pp : BpT) (w wr : World) (pb : Nat) (p : Pls) (O : List (Int × Int)) (v : Value) : Prop where
  q : Pp wr w.heap.size pb p
  row : Prs wr w.heap.size v O
  us : Ous p O
  g : Grow w wr
/-- The law's own copy of a call. -/
def AcB (w : World) (ab : Nat) (d g a m s : Int) : Prop := w.heap[ab]? = some (.cells #[.int .i64 d, .int .i64 g, .int .i64 a, .int .i64 m, .int .i64 s] 32 (0, 0))
section
variable {w w' : World} {ab : Nat} {d g a m s : Int}
theorem AcB.lt (h : AcB w ab d g a m s) : ab < w.heap.size := (Array.getElem?_eq_some_iff.1 h).1
theorem AcB.grow (h : AcB w ab d g a m s) (k : Grow w w') : AcB w' ab d g a m s := (k.block ab h.lt).trans h
theorem AcB.only {b0 : Nat} (h : AcB w ab d g a m s) (o : Only b0 Zp w w') : AcB w' ab d g a m s := o.cells h fun z => z.2.2.1 rfl
theorem AcB.c0 (h : AcB w ab d g a m s) : w.cell? ⟨ab, 0, none⟩ = some (.int .i64 d) := (cell_of_row w ab 0 _ _ _ h).trans rfl
theorem AcB.c1 (h : AcB w ab d g a m s) : w.cell? ⟨ab, 1, none⟩ = some (.int .i64 g) := (cell_of_row w ab 1 _ _ _ h).trans rfl
theorem AcB.c2 (h : AcB w ab d g a m s) : w.cell? ⟨ab, 2, none⟩ = some (.int .i64 a) := (cell_of_row w ab 2 _ _ _ h).trans rfl
theorem AcB.c3 (h : AcB w ab d g a m s) : w.cell? ⟨ab, 3, none⟩ = some (.int .i64 m) := (cell_of_row w ab 3 _ _ _ h).trans rfl
theorem AcB.c4 (h : AcB w ab d g a m s) : w.cell? ⟨ab, 4, none⟩ = some (.int .i64 s) := (cell_of_row w ab 4 _ _ _ h).trans rfl
end
theorem zp_pr (b : Nat) : ¬ Zp b 57 := fun h => h.2.2.2 rfl
section
variable {Pp : BpT} {w wr w2 : World} {pb : Nat} {p p' : Pls} {O : List (Int × Int)} {v : Value}
theorem OnB.step (h : OnB Pp w wr pb p O v) (g1 : Grow wr w2) {w3 : World} (q : Pp w3 w.heap.size pb p') (o : Only w.heap.size Zp w2 w3) (us : Ous p' O) : OnB Pp w w3 pb p' O v :=
  ⟨q, (h.row.grow g1).only o zp_pr, us, Below.trans (h.g.trans g1) o.low⟩
end
theorem own_keep {wo w5 : World} {base : Nat} {v : Value} {O : List (Int × Int)} (hr : Prs wo base v O) (hk : ∀ b o, wo.heap[b]? = some o → v.ownBlock ≠ some b → w5.heap[b]? = some o) : ∀ b o T, wo.heap[b]? = some o → objT o = some T → Zp b T → w5.heap[b]? = some o := fun b o T ho hT hz => hk b o ho fun e => by
  obtain ⟨cs, h1, _⟩ := ownsRow_blk hr e
  rw [h1] at ho
  cases ho
  cases hT
  exact hz.2.2.2 rfl
set_option maxRecDepth 100000 in
set_option maxHeartbeats 4000000 in
theorem poolOnce_if {Pp : BpT} (I : BIf Pp) (w : World) {v : Value} {l : List Ba} (hl : Bas w v l) : Calls Try.prog 4 #[v] w fun e w' => e = .returned (.bool true) ∧ Below w.heap.size w w' := by
  have HC := Lib.hid (fun x w => bcode_any x w)
  have HLv := Lib.hid (fun w => blive_any I w)
  have HV := Lib.hid hl
  obtain ⟨A0, cp0, e0, hlc, hcm, _, _⟩ := hl
  obtain ⟨N, hN⟩ : ∃ N, N = l.length := ⟨_, rfl⟩
  rw [← hN] at e0
  subst e0
  have HN := Lib.hid hN
  clear hN hlc hcm
  by_cases q : 100 < N
  · have q1 : (100 : Int) < (N : Int) := by omega
    go_enter Try.func4, Try.ntmps4
    go_wp2_with fail
    refine (HLv.out _).mono ?_
    rintro e w' ⟨rfl, g⟩
    have G := Lib.hid g
    clear g
    go_wp2_with fail
    go_ret
    exact ⟨rfl, G.out⟩
  have q1 : ¬ ((100 : Int) < (N : Int)) := by omega
  have HQ : Hid (N ≤ 100) := Lib.hid (by omega)
  clear q
  have c0 := I.new w
  go_enter Try.func4, Try.ntmps4
  go_wp2_with fail
  refine c0.mono ?_
  rintro e w1 ⟨pb, rfl, h1, g1⟩
  have H1 : Hid (OnB Pp w w1 pb noneP [] (.slice none 0 0)) := ⟨h1, prs_none _ _, ous_none, g1⟩
  clear c0 h1 g1 q1
  go_wp2_with fail
  go_loopg [4, 5] N (fun gk s4 s5 wr => ∃ (k : Nat) (p : Pls) (O : List (Int × Int)) (A : Option Addr) (n c : Nat), gk = N - k ∧ s4 = .slice A n c ∧ s5 = .int .i64 (k : Int) ∧ Hid (k ≤ N ∧ n = O.length ∧ n ≤ k ∧ OnB Pp w wr pb p O (.slice A n c)))
  case atStart => exact ⟨0, noneP, [], none, 0, 0, rfl, rfl, rfl, Nat.zero_le _, rfl, Nat.le_refl _, H1.out⟩
  case round =>
    obtain ⟨k, p, O, A, n, c, rfl, rfl, rfl, HR⟩ := hrel
    rename World => wa
    clear H1
    rcases Nat.lt_or_ge k N with hlt | hge
    · obtain ⟨A9, c9, e9, _, _, hok, hcell⟩ := HV.out
      obtain ⟨b, off, hA, hb, hc⟩ := hcell (by have := HN.out; omega)
      obtain ⟨x, hx⟩ : ∃ x, l[k]? = some x := ⟨_, List.getElem?_eq_getElem (by have := HN.out; omega)⟩
      obtain ⟨x0, x1, x2, x3, x4⟩ := hc k x hx
      have hz := hok x (List.mem_iff_getElem?.2 ⟨k, hx⟩)
      have hA0 : A0 = some ⟨b, off, none⟩ := by rw [hA] at e9; injection e9
      obtain ⟨d, g, a, m, s⟩ := x
      have gg := HR.out.2.2.2.g
      have y0 := (gg.cell (p := ⟨b, off + k * 5, none⟩) hb).trans x0
      have y1 := (gg.cell (p := ⟨b, off + k * 5 + 1, none⟩) hb).trans x1
      have y2 := (gg.cell (p := ⟨b, off + k * 5 + 2, none⟩) hb).trans x2
      have y3 := (gg.cell (p := ⟨b, off + k * 5 + 3, none⟩) hb).trans x3
      have y4 := (gg.cell (p := ⟨b, off + k * 5 + 4, none⟩) hb).trans x4
      simp only at y0 y1 y2 y3 y4 hz
      have i0 : (k : Int) < (N : Int) := by omega
      have kb : k < 100 := by have := HQ.out; omega
      have HZ := Lib.hid (And.intro hz (And.intro hlt hb))
      subst hA0
      clear e9 hA hok hcell hc x0 x1 x2 x3 x4 hz hx gg hlt hb
      go_upto_region 9 with fail
      obtain ⟨W1, hW1⟩ : ∃ W1, W1 = wa.alloc (.cells #[.int .i64 d, .int .i64 g, .int .i64 a, .int .i64 m, .int .i64 s] 32) := ⟨_, rfl⟩
      rw [← hW1]
      obtain ⟨ab, hab⟩ : ∃ ab, ab = wa.heap.size := ⟨_, rfl⟩
      rw [← hab]
      have HB : Hid (AcB W1 ab d g a m s ∧ Grow wa W1) := ⟨by rw [hW1, hab]; exact heap_alloc_new wa _, by rw [hW1]; exact Grow.alloc _ _⟩
      have HPp := Lib.hid (I.grow HR.out.2.2.2.q HB.out.2)
      have HSz : Hid (w.heap.size ≤ W1.heap.size) := (HR.out.2.2.2.g.trans HB.out.2).size
      obtain ⟨o1, o2, o3, o4, o5⟩ := HZ.out.1
      have z0 := HB.out.1.c0
      have z1 := HB.out.1.c1
      clear hW1 hab y0 y1 y2 y3 y4
      by_cases d0 : d = 0
      · subst d0
        have z2 := HB.out.1.c2
        have z3 := HB.out.1.c3
        have z4 := HB.out.1.c4
        have c1 := I.prov HPp.out HSz.out g a m s o2 o3 o4 o5
        clear o1 o2 o3 o4 o5
        go_wp2_with fail
        refine c1.mono ?_
        rintro e w2 ⟨rfl, h2, q2⟩
        have H2 := Lib.hid (OnB.step HR.out.2.2.2 HB.out.2 h2 q2 (HR.out.2.2.2.us.same (pvP_out p g a m s)))
        clear c1 h2 q2 z0 z1 z2 z3 z4
        go_wp2_with fail
        go_roundg (N - (k + 1))
        case measure => have := HZ.out.2.1; omega
        case rel => exact ⟨k + 1, _, O, A, n, c, rfl, rfl, by go_num, by have := HZ.out.2.1; omega, HR.out.2.1, by have := HR.out.2.2.1; omega, H2.out⟩
      have e0 : (d == 0) = false := beq_eq_false_iff_ne.2 d0
      by_cases d1 : d = 1
      · subst d1
        have c1 := I.take HPp.out HSz.out g o2
        clear o1 o2 o3 o4 o5
        rcases tkE_cases p g with ⟨t1, t2⟩ | ⟨t1, t2, t3⟩
        · have u1 : (tkE p g == 0) = false := beq_eq_false_iff_ne.2 t1
          have ep := Lib.hid t2
          generalize tkE p g = te at *
          generalize tkI p g = ti at *
          generalize tkS p g = ts at *
          clear t2
          go_wp2_with fail
          refine c1.mono ?_
          rintro e w2 ⟨rfl, h2, q2⟩
          have H2 := Lib.hid (OnB.step HR.out.2.2.2 HB.out.2 h2 q2 (by rw [ep.out]; exact HR.out.2.2.2.us))
          clear c1 h2 q2 z0 z1
          go_wp2_with fail
          refine (HC.out _ _).mono ?_
          rintro e w' ⟨rfl, hw⟩
          subst w'
          go_wp2_with fail
          go_roundg (N - (k + 1))
          case measure => have := HZ.out.2.1; omega
          case rel => exact ⟨k + 1, _, O, A, n, c, rfl, rfl, by go_num, by have := HZ.out.2.1; omega, HR.out.2.1, by have := HR.out.2.2.1; omega, H2.out⟩
        · have HOu := Lib.hid (Ous.take HR.out.2.2.2.us (I.ok HPp.out) t2 t3)
          rw [t1] at c1
          generalize tkI p g = ti at *
          generalize tkS p g = ts at *
          clear t1 t2 t3
          go_wp2_with fail
          refine c1.mono ?_
          rintro e w2 ⟨rfl, h2, q2⟩
          have H2 : Hid (Pp w2 w.heap.size pb (tkP p g) ∧ Prs w2 w.heap.size (.slice A n c) O ∧ Grow w w2 ∧ AcB w2 ab 1 g a m s) := ⟨h2, (HR.out.2.2.2.row.grow HB.out.2).only q2 zp_pr, Below.trans (HR.out.2.2.2.g.trans HB.out.2) q2.low, HB.out.1.only q2⟩
          clear c1 h2 q2 z0 z1
          go_wp2_with fail
          refine (HC.out _ _).mono ?_
          rintro e w' ⟨rfl, hw⟩
          subst w'
          go_wp2_with fail
          go_loopg [10] n (fun gk s10 wr => ∃ j : Nat, gk = n - j ∧ s10 = .int .i64 (j : Int) ∧ Hid (j ≤ n ∧ Grow w2 wr))
          case atStart => exact ⟨0, rfl, rfl, Nat.zero_le _, Grow.refl _⟩
          case round =>
            obtain ⟨j, rfl, rfl, HJ⟩ := hrel
            rename World => wo
            have z1 := (H2.out.2.2.2.grow HJ.out.2).c1
            rcases Nat.lt_or_ge j n with hlt | hge
            · obtain ⟨b8, off8, c8, e8, hb8, hc8⟩ := H2.out.2.1.cell (by have := HR.out.2.1; omega)
              obtain ⟨x, hx⟩ : ∃ x, O[j]? = some x := ⟨_, List.getElem?_eq_getElem (by have := HR.out.2.1; omega)⟩
              obtain ⟨v0, v1⟩ := hc8 j x hx
              have hne : ¬ (x.1 = g ∧ x.2 = ti) := fun q => HOu.out.1 (by
                have := List.mem_iff_getElem?.2 ⟨j, hx⟩
                rw [← q.1, ← q.2]
                exact this)
              have e8' : A = some ⟨b8, off8, none⟩ := by injection e8
              obtain ⟨x1, x2⟩ := x
              simp only at v0 v1 hne
              have hb2 := Nat.lt_of_lt_of_le hb8 HJ.out.2.size
              have hl2 := (H2.out.2.2.2.grow HJ.out.2).lt
              have a0 := fun p : Gw wo => Gw.cell (p := p) (a := ⟨b8, off8 + j * 2, none⟩) hb2 ((HJ.out.2.cell (p := ⟨b8, off8 + j * 2, none⟩) hb8).trans v0)
              have a1 := fun p : Gw wo => Gw.cell (p := p) (a := ⟨b8, off8 + j * 2 + 1, none⟩) hb2 ((HJ.out.2.cell (p := ⟨b8, off8 + j * 2 + 1, none⟩) hb8).trans v1)
              have a2 := fun p : Gw wo => Gw.cell (p := p) (a := ⟨ab, 1, none⟩) hl2 z1
              have nq := fun p : Gw wo => (eqP x1 x2 g ti p.v).trans (by rw [decide_eq_false hne])
              have i1 : (j : Int) < (n : Int) := by omega
              have jb : j < 100 := by have := HR.out.2.2.1; have := HZ.out.2.1; have := HQ.out; omega
              subst e8'
              clear e8 hc8 v0 v1 hne hb8 hb2 hl2 hx z1 hlt
              go_upto_region 18 with fail
              refine wp_region_gw (by kernel_rfl) (by kernel_rfl) ?_
              repeat (go_big_quiet_step ((fail)))
              refine wpQuiet_nil ?_
              intro _ hw'
              obtain ⟨⟨wq, hgq⟩, hw2⟩ := hw'
              subst hw2
              have HG := Lib.hid hgq
              clear hgq
              go_wp2_with fail
              go_roundg (n - (j + 1))
              case measure => omega
              case rel => exact ⟨j + 1, rfl, by go_num, by omega, Grow.trans HJ.out.2 HG.out⟩
            · obtain rfl : j = n := by have := HJ.out.1; omega
              clear hge
              have HLn : Hid (O.length ≤ 1000000) := Lib.hid (by have := HR.out.2.1; have := HR.out.2.2.1; have := HR.out.1; have := HQ.out; omega)
              go_wp2_with (first | (show wpList _ _ _ (⟨some 76, _, _, _, _, _⟩ :: _) _ _; refine run_prapp wo w.heap.size _ O (g, ti) (H2.out.2.1.grow HJ.out.2) (Grow.trans H2.out.2.2.1 HJ.out.2).size HLn.out rfl (.tmp 70) (.tmp 75) rfl rfl rfl ?_; intro v5 w5 ho5 hs5 hk5 hb5; obtain ⟨A5, c5, hf5⟩ := ho5.form; obtain ⟨m5, hm5⟩ : ∃ m5, m5 = (O ++ [(g, ti)]).length := ⟨_, rfl⟩; rw [← hm5] at hf5; subst hf5; have H5 : Hid (OnB Pp w w5 pb (tkP p g) (O ++ [(g, ti)]) (.slice A5 m5 c5) ∧ m5 = (O ++ [(g, ti)]).length) := ⟨⟨I.keep (I.grow H2.out.1 HJ.out.2) (own_keep (H2.out.2.1.grow HJ.out.2) hk5), ho5, HOu.out.2, Below.trans (Grow.trans H2.out.2.2.1 HJ.out.2) hb5⟩, hm5⟩; clear ho5 hs5 hk5 hb5 hm5))
              go_roundg (N - (k + 1))
              case measure => have := HZ.out.2.1; omega
              case rel => exact ⟨k + 1, _, O ++ [(g, ti)], A5, m5, c5, rfl, rfl, by go_num, by have := HZ.out.2.1; omega, H5.out.2, by have := H5.out.2; rw [List.length_append, List.length_singleton] at this; have := HR.out.2.1; have := HR.out.2.2.1; omega, H5.out.1⟩
      have e1 : (d == 1) = false := beq_eq_false_iff_ne.2 d1
      by_cases d2 : d = 2
      · subst d2
        have z2 := HB.out.1.c2
        have c1 := I.give HPp.out HSz.out g a o2 o3
        clear o1 o2 o3 o4 o5
        rcases gvE_cases p g a with ⟨t1, t2⟩ | ⟨t1, t2, t3⟩
        · have u1 : (gvE p g a == 0) = false := beq_eq_false_iff_ne.2 t1
          have ep := Lib.hid t2
          generalize gvE p g a = te at *
          clear t2
          go_wp2_with fail
          refine c1.mono ?_
          rintro e w2 ⟨rfl, h2, q2⟩
          have H2 := Lib.hid (OnB.step HR.out.2.2.2 HB.out.2 h2 q2 (by rw [ep.out]; exact HR.out.2.2.2.us))
          clear c1 h2 q2 z0 z1 z2
          go_wp2_with fail
          refine (HC.out _ _).mono ?_
          rintro e w' ⟨rfl, hw⟩
          subst w'
          go_wp2_with fail
          go_roundg (N - (k + 1))
          case measure => have := HZ.out.2.1; omega
          case rel => exact ⟨k + 1, _, O, A, n, c, rfl, rfl, by go_num, by have := HZ.out.2.1; omega, HR.out.2.1, by have := HR.out.2.2.1; omega, H2.out⟩
        · have HOu := Lib.hid (Ous.give HR.out.2.2.2.us (I.ok HPp.out) t2 t3)
          have HFl := Lib.hid (filt_len HR.out.2.2.2.us.nd HOu.out.1)
          rw [t1] at c1
          clear t1 t2 t3
          go_wp2_with fail
          refine c1.mono ?_
          rintro e w2 ⟨rfl, h2, q2⟩
          have H2 : Hid (Pp w2 w.heap.size pb (gvP p g a) ∧ Prs w2 w.heap.size (.slice A n c) O ∧ Grow w w2 ∧ AcB w2 ab 2 g a m s) := ⟨h2, (HR.out.2.2.2.row.grow HB.out.2).only q2 zp_pr, Below.trans (HR.out.2.2.2.g.trans HB.out.2) q2.low, HB.out.1.only q2⟩
          clear c1 h2 q2 z0 z1 z2
          go_wp2_with fail
          refine (HC.out _ _).mono ?_
          rintro e w' ⟨rfl, hw⟩
          subst w'
          go_wp2_with fail
          go_loopg [11, 12] n (fun gk s11 s12 wr => ∃ (j : Nat) (A6 : Option Addr) (n6 c6 : Nat), gk = n - j ∧ s11 = .slice A6 n6 c6 ∧ s12 = .int .i64 (j : Int) ∧ Hid (j ≤ n ∧ n6 = ((O.take j).filter fun z => decide (z ≠ (g, a))).length ∧ Prs wr w2.heap.size (.slice A6 n6 c6) ((O.take j).filter fun z => decide (z ≠ (g, a))) ∧ Grow w2 wr))
          case atStart => exact ⟨0, none, 0, 0, rfl, rfl, rfl, Nat.zero_le _, by simp, by simpa using prs_none _ _, Grow.refl _⟩
          case round =>
            obtain ⟨j, A6, n6, c6, rfl, rfl, rfl, HJ⟩ := hrel
            rename World => wo
            have hac := H2.out.2.2.2.grow HJ.out.2.2.2
            rcases Nat.lt_or_ge j n with hlt | hge
            · obtain ⟨b8, off8, c8, e8, hb8, hc8⟩ := H2.out.2.1.cell (by have := HR.out.2.1; omega)
              have hjl : j < O.length := by have := HR.out.2.1; omega
              obtain ⟨x, hx⟩ : ∃ x, O[j]? = some x := ⟨_, List.getElem?_eq_getElem hjl⟩
              obtain ⟨v0, v1⟩ := hc8 j x hx
              have htk : (O.take (j + 1)) = O.take j ++ [x] := by
                rw [List.take_succ_eq_append_getElem hjl]
                rw [List.getElem?_eq_getElem hjl] at hx
                rw [Option.some.inj hx]
              have e8' : A = some ⟨b8, off8, none⟩ := by injection e8
              obtain ⟨x1, x2⟩ := x
              simp only at v0 v1
              have hb2 := Nat.lt_of_lt_of_le hb8 HJ.out.2.2.2.size
              have y0 := (HJ.out.2.2.2.cell (p := ⟨b8, off8 + j * 2, none⟩) hb8).trans v0
              have y1 := (HJ.out.2.2.2.cell (p := ⟨b8, off8 + j * 2 + 1, none⟩) hb8).trans v1
              have a0 := fun p : Gw wo => Gw.cell (p := p) (a := ⟨b8, off8 + j * 2, none⟩) hb2 y0
              have a1 := fun p : Gw wo => Gw.cell (p := p) (a := ⟨b8, off8 + j * 2 + 1, none⟩) hb2 y1
              have a2 := fun p : Gw wo => Gw.cell (p := p) (a := ⟨ab, 1, none⟩) hac.lt hac.c1
              have a3 := fun p : Gw wo => Gw.cell (p := p) (a := ⟨ab, 2, none⟩) hac.lt hac.c2
              have i1 : (j : Int) < (n : Int) := by omega
              have jb : j < 100 := by have := HR.out.2.2.1; have := HZ.out.2.1; have := HQ.out; omega
              have HY := Lib.hid (And.intro y0 (And.intro y1 (And.intro hb2 (And.intro htk hlt))))
              subst e8'
              by_cases hq : x1 = g ∧ x2 = a
              · have nq := fun p : Gw wo => (eqP x1 x2 g a p.v).trans (by rw [decide_eq_true hq])
                have HF : Hid ((O.take (j + 1)).filter (fun z => decide (z ≠ (g, a))) = (O.take j).filter fun z => decide (z ≠ (g, a))) := Lib.hid (by
                  rw [htk, List.filter_append, List.filter_cons_of_neg (by simp [hq.1, hq.2])]
                  simp)
                clear e8 hc8 v0 v1 hq hb8 hb2 hx htk y0 y1 hjl hlt hac
                go_upto_region 27 with fail
                refine wp_region_gw (by kernel_rfl) (by kernel_rfl) ?_
                repeat (go_big_quiet_step ((fail)))
                refine wpQuiet_nil ?_
                intro _ hw'
                obtain ⟨⟨wq, hgq⟩, hw2⟩ := hw'
                subst hw2
                have HG := Lib.hid hgq
                clear hgq
                go_wp2_with fail
                go_roundg (n - (j + 1))
                case measure => have := HY.out.2.2.2.2; omega
                case rel => exact ⟨j + 1, A6, n6, c6, rfl, rfl, by go_num, by have := HY.out.2.2.2.2; omega, by rw [HF.out]; exact HJ.out.2.1, by rw [HF.out]; exact HJ.out.2.2.1.grow HG.out, Grow.trans HJ.out.2.2.2 HG.out⟩
              · have nq := fun p : Gw wo => (eqP x1 x2 g a p.v).trans (by rw [decide_eq_false hq])
                have HF : Hid ((O.take (j + 1)).filter (fun z => decide (z ≠ (g, a))) = (O.take j).filter (fun z => decide (z ≠ (g, a))) ++ [(x1, x2)]) := Lib.hid (by
                  have hd : (fun z : Int × Int => decide (z ≠ (g, a))) (x1, x2) = true := decide_eq_true fun e => hq (Prod.mk.inj e)
                  rw [htk, List.filter_append, List.filter_cons_of_pos (p := fun z : Int × Int => decide (z ≠ (g, a))) hd]
                  rfl)
                have HLn : Hid (((O.take j).filter fun z => decide (z ≠ (g, a))).length ≤ 1000000) := Lib.hid (Nat.le_trans (List.length_filter_le _ _) (by rw [List.length_take]; omega))
                clear e8 hc8 v0 v1 hq hb8 hb2 hx htk y0 y1 hjl hlt hac
                go_upto_region 27 with fail
                refine wp_region_gw (by kernel_rfl) (by kernel_rfl) ?_
                repeat (go_big_quiet_step ((fail)))
                refine wpQuiet_nil ?_
                intro _ hw'
                obtain ⟨⟨wq, hgq⟩, hw2⟩ := hw'
                subst hw2
                have y0 := (hgq.cell (p := ⟨b8, off8 + j * 2, none⟩) HY.out.2.2.1).trans HY.out.1
                have y1 := (hgq.cell (p := ⟨b8, off8 + j * 2 + 1, none⟩) HY.out.2.2.1).trans HY.out.2.1
                have HG := Lib.hid hgq
                clear hgq
                rename World => wq
                go_wp2_with (first | (show wpList _ _ _ (⟨some 109, _, _, _, _, _⟩ :: _) _ _; refine run_prapp wq w2.heap.size _ _ (x1, x2) (HJ.out.2.2.1.grow HG.out) (Grow.trans HJ.out.2.2.2 HG.out).size HLn.out rfl (.tmp 103) (.tmp 108) rfl rfl rfl ?_; intro v5 w5 ho5 hs5 hk5 hb5; obtain ⟨A5, c5, hf5⟩ := ho5.form; obtain ⟨m5, hm5⟩ : ∃ m5, m5 = ((O.take j).filter (fun z => decide (z ≠ (g, a))) ++ [(x1, x2)]).length := ⟨_, rfl⟩; rw [← hm5] at hf5; subst hf5; have H5 := Lib.hid (And.intro ho5 (And.intro hb5 hm5)); clear ho5 hs5 hk5 hb5 hm5))
                go_roundg (n - (j + 1))
                case measure => have := HY.out.2.2.2.2; omega
                case rel => exact ⟨j + 1, A5, m5, c5, rfl, rfl, by go_num, by have := HY.out.2.2.2.2; omega, by rw [HF.out]; exact H5.out.2.2, by rw [HF.out]; exact H5.out.1, Below.trans (Grow.trans HJ.out.2.2.2 HG.out) H5.out.2.1⟩
            · obtain rfl : j = n := by have := HJ.out.1; omega
              have hfin : (O.take j).filter (fun z => decide (z ≠ (g, a))) = O.filter fun z => decide (z ≠ (g, a)) := by rw [List.take_of_length_le (by have := HR.out.2.1; omega)]
              have HE : Hid (n6 = (O.filter fun z => decide (z ≠ (g, a))).length ∧ OnB Pp w wo pb (gvP p g a) (O.filter fun z => decide (z ≠ (g, a))) (.slice A6 n6 c6)) := ⟨by rw [← hfin]; exact HJ.out.2.1, ⟨I.grow H2.out.1 HJ.out.2.2.2, by rw [← hfin]; exact ownsRow_base HJ.out.2.2.1 H2.out.2.2.1.size, HOu.out.2, H2.out.2.2.1.trans HJ.out.2.2.2⟩⟩
              have hn6 : n6 + 1 = j := by rw [HE.out.1, HFl.out]; exact HR.out.2.1.symm
              have w6 : IntKind.i64.wrap ((n6 : Int) + 1) = (j : Int) := by rw [IntKind.wrap_i64]; have := HR.out.2.2.1; omega
              have w7 : (n6 : Int) + 1 = (j : Int) := by omega
              have w8 : wrap64 (j : Int) = (j : Int) := by have := HR.out.2.2.1; unfold wrap64; omega
              have HN6 := Lib.hid hn6
              clear hge hfin hac hn6
              go_wp2_with fail
              go_roundg (N - (k + 1))
              case measure => have := HZ.out.2.1; omega
              case rel => exact ⟨k + 1, _, _, A6, n6, c6, rfl, rfl, by go_num, by have := HZ.out.2.1; omega, HE.out.1, by have := HN6.out; have := HR.out.2.2.1; omega, HE.out.2⟩
      have e2 : (d == 2) = false := beq_eq_false_iff_ne.2 d2
      by_cases d3 : d = 3
      · subst d3
        have z3 := HB.out.1.c3
        have c1 := I.rem HPp.out HSz.out g m o2 o4
        clear o1 o2 o3 o4 o5
        go_wp2_with fail
        refine c1.mono ?_
        rintro e w2 ⟨rfl, h2, q2⟩
        have H2 := Lib.hid (OnB.step HR.out.2.2.2 HB.out.2 h2 q2 (HR.out.2.2.2.us.same (rmP_out p g m)))
        clear c1 h2 q2 z0 z1 z3
        go_wp2_with fail
        go_roundg (N - (k + 1))
        case measure => have := HZ.out.2.1; omega
        case rel => exact ⟨k + 1, _, O, A, n, c, rfl, rfl, by go_num, by have := HZ.out.2.1; omega, HR.out.2.1, by have := HR.out.2.2.1; omega, H2.out⟩
      · have e3 : (d == 3) = false := beq_eq_false_iff_ne.2 d3
        clear o1 o2 o3 o4 o5
        go_wp2_with fail
        go_roundg (N - (k + 1))
        case measure => have := HZ.out.2.1; omega
        case rel => exact ⟨k + 1, _, O, A, n, c, rfl, rfl, by go_num, by have := HZ.out.2.1; omega, HR.out.2.1, by have := HR.out.2.2.1; omega, ⟨HPp.out, HR.out.2.2.2.row.grow HB.out.2, HR.out.2.2.2.us, HR.out.2.2.2.g.trans HB.out.2⟩⟩
    · obtain rfl : k = N := by have := HR.out.1; omega
      go_wp2_with fail
      refine (HLv.out _).mono ?_
      rintro e w' ⟨rfl, g⟩
      have G := Lib.hid g
      clear g
      go_wp2_with fail
      go_ret
      exact ⟨rfl, Below.trans HR.out.2.2.2.g (Below.mono G.out HR.out.2.2.2.g.size)⟩
end Go.Proofs.Ytkambcjinidomaa
