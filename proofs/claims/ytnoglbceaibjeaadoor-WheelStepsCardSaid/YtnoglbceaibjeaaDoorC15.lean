/- empty and advance, block by block. -/
import Derived.Test.YtnoglbceaibjeaaDoorC14
import Derived.Test.YtnoglbceaibjeaaDoorC08
import Derived.Test.YtnoglbceaibjeaaDoorC09
namespace Go.Proofs.YtnoglbceaibjeaaDoor
set_option linter.unusedVariables false
set_option linter.unusedSimpArgs false
open Go.ChangeShapes Go.WideShapes Go.ChangeAt Go.RowKit Go.Shelf
theorem sempty_x (w : World) (base wb mb now : Nat) (C : Nat → Nat → List Tm) (U : Nat → Nat) (h : Whl w base wb mb now C U) (no s : Nat) (hno : no < 7) (hs : s < 64) (met : List Tm) (v : Value) (hm : Trow w base v met) (hn : met.length + (C no s).length ≤ 1000000) :
    Calls Tryd.prog 38 #[.pointer (some ⟨wb, so no s, none⟩), v] w fun e w' => ∃ v', e = .returned v' ∧ Trow w' base v' (met ++ C no s) ∧ Whl w' base wb mb now (upd C no s []) U ∧ Only base Ze w w' ∧ Only base (Zx wb mb fun _ => False) w w' := by
  obtain ⟨cs, hB, hC⟩ := h.blk
  have hk1 : so no s + 1 < cs.size := by rw [hC.size]; unfold so; omega
  refine (empty_walk w base wb (so no s) (C no s) met v cs hB (hC.fst no s hno hs) hk1 (h.chn no s hno hs) hm h.bas hn).mono ?_
  rintro e w' ⟨v', w1, rfl, hr, o1, rfl⟩
  have hB1 : w1.heap[wb]? = some (.cells cs 68 (0, 0)) := o1.cells hB (fun e => absurd (show 68 = 60 from e) (by decide))
  have hB2 := heap_setCell_own (k := so no s) hB1 (.pointer none)
  have hB3 := heap_setCell_own (k := so no s + 1) hB2 (.pointer none)
  have o2 : Only base (fun b T => T = 68) w1 (w1.setCell ⟨wb, so no s, none⟩ (.pointer none)) := Only.set hB1 h.low rfl _
  have o3 := o2.trans (Only.set (Z := fun b T => T = 68) hB2 h.low rfl (i := so no s + 1) (.pointer none))
  have oE : Only base Ze w _ := (o1.mono (Y := Ze) fun _ _ _ _ _ e => .inr e).trans (o3.mono fun _ _ _ _ _ e => .inl e)
  refine ⟨v', rfl, hr.only o3 (fun b e => absurd e (by decide)), ?_, oE, (o1.mono (Y := Zx wb mb fun _ => False) fun _ _ _ _ _ e => .inr (.inr (.inr e))).trans ((Only.set hB1 h.low (Z := Zx wb mb fun _ => False) (.inl rfl) _).trans (Only.set (Z := Zx wb mb fun _ => False) hB2 h.low (.inl rfl) (i := so no s + 1) (.pointer none)))⟩
  refine h.slot hno hs hB3 (hC.slot hno hs (by simp) ?_ ?_ ?_) Chn.nil ?_ (by simp) (by simp) (by simp)
  · intro i h1 h2
    simp [Ne.symm h1, Ne.symm h2]
  · simp [lk, show so no s < cs.size from by omega]
  · simp [lk, hk1]
  · intro n m hn' hm' _ x hx
    obtain ⟨i, hi⟩ := List.getElem?_of_mem hx
    have hx1 := h.chn n m hn' hm' i x hi
    exact (oE.cells hx1 (fun e => by rcases e with e | e <;> exact absurd e (by decide))).trans hx1.symm
/-- Where advance stands: at the slot p of the wheel d. -/
structure AdvX (w0 w : World) (base wb mb now now' : Nat) (L : List Tm) (U V : Nat → Nat) (d p : Nat) (v : Value) : Prop where
  whl : Whl w base wb mb now' (advC now now' L d p) V
  old : ∀ n, d ≤ n → V n = U n
  new : ∀ n, n < d → V n = keepN now now' (U n) n
  row : Trow w base v (advM now now' L d p)
  only : Only base Ze w0 w
  frm : Only base (Zx wb mb fun _ => False) w0 w

section
variable {w0 w w' : World} {base wb mb now now' : Nat} {L : List Tm} {U V : Nat → Nat} {d p : Nat} {v : Value}
theorem AdvX.drew (h : AdvX w0 w base wb mb now now' L U V d p v) : AdvX w0 w.drew base wb mb now now' L U V d p v :=
  ⟨h.whl.drew, h.old, h.new, h.row.grow (Grow.drew _), h.only.trans (Only.grow (Grow.drew _) h.whl.bas Ze), h.frm.trans (Only.grow (Grow.drew _) h.whl.bas _)⟩
/-- One slot emptied. -/
theorem AdvX.step (h : AdvX w0 w base wb mb now now' L U V d p v) (hW : Wst w0 base wb mb now L U) (hd : d < 7) {x : Nat} (hx : x ≠ 0) (hl : Left now now' (U d) d p x) (hlen : L.length ≤ 1000) (hp : p ≤ 64) (hT : TabAt 0 Lib.deBruijn64tab w0) (hb : 0 < base) :
    Calls Tryd.prog 31 #[.int .u64 (x : Int)] w (fun e w' => e = .returned (.int .i64 (low x : Int)) ∧ w' = w) ∧
    Calls Tryd.prog 38 #[.pointer (some ⟨wb, 2 + d * 128 + low x * 2, none⟩), v] w (fun e w' => ∃ v', e = .returned v' ∧ AdvX w0 w' base wb mb now now' L U V d (low x + 1) v') := by
  obtain ⟨l1, l2, l3, l4, l5, l6⟩ := hl.step hx
  refine ⟨tz_any x hl.1 w fun _ => TabAt.only hT h.only hb, ?_⟩
  have e0 : so d (low x) = 2 + d * 128 + low x * 2 := by unfold so; omega
  have hC : advC now now' L d p d (low x) = chn now L d (low x) := by
    unfold advC
    rw [if_neg (fun e => by omega)]
  have hn : ∀ s, p ≤ s → s < low x → advS now now' L d s = [] := by
    intro s h1 h2
    unfold advS
    cases hm : metB now now' d s with
    | false => rfl
    | true =>
      rw [if_pos rfl]
      cases hc : chn now L d s with
      | nil => rfl
      | cons a r =>
        have := (hW.uBit d s hd (by omega)).2 (by rw [hc]; simp)
        rw [l5 s h1 h2 this] at hm
        cases hm
  have := sempty_x w base wb mb now' (advC now now' L d p) V h.whl d (low x) hd l1 (advM now now' L d p) v h.row (by have := advM_len now now' L d p (by omega) hp; have := advC_len now now' L d p d (low x); omega)
  rw [e0] at this
  refine this.mono ?_
  rintro e w' ⟨v', rfl, h1, h2, h3, h3x⟩
  rw [hC, ← advM_step l2 hn l4] at h1
  refine ⟨v', rfl, h2.congr ?_ (fun _ _ => rfl), h.old, h.new, h1, h.only.trans h3, h.frm.trans h3x⟩
  intro n s hn7 hs
  by_cases e1 : n = d ∧ s = low x
  · obtain ⟨rfl, rfl⟩ := e1
    rw [upd_same]
    unfold advC
    rw [if_pos ⟨.inr ⟨rfl, by omega⟩, l4⟩]
  · rw [upd_other e1]
    unfold advC
    by_cases e2 : (n < d ∨ n = d ∧ s < p) ∧ metB now now' n s = true
    · have e4 : n < d ∨ n = d ∧ s < low x + 1 := by
        rcases e2.1 with q | q
        · exact .inl q
        · exact .inr ⟨q.1, by omega⟩
      rw [if_pos e2, if_pos ⟨e4, e2.2⟩]
    · rw [if_neg e2]
      by_cases e3 : (n < d ∨ n = d ∧ s < low x + 1) ∧ metB now now' n s = true
      · rw [if_pos e3]
        have hnd : n = d ∧ p ≤ s ∧ s < low x := by
          rcases e3.1 with q | q
          · exact absurd ⟨.inl q, e3.2⟩ e2
          · refine ⟨q.1, ?_, by omega⟩
            rcases Nat.lt_or_ge s p with a | a
            · exact absurd ⟨.inr ⟨q.1, a⟩, e3.2⟩ e2
            · exact a
        obtain ⟨rfl, q1, q2⟩ := hnd
        have := hn s q1 q2
        unfold advS at this
        rw [if_pos e3.2] at this
        exact this.symm
      · rw [if_neg e3]
/-- A wheel done: its bits stored. -/
theorem AdvX.next (h : AdvX w0 w base wb mb now now' L U V d p v) (hW : Wst w0 base wb mb now L U) (hd : d < 7) (hl : Left now now' (U d) d p 0) (hp : p ≤ 64) :
    w.cell? ⟨wb, 898 + d, none⟩ = some (.int .u64 (U d : Int)) ∧ w.frozen? ⟨wb, 898 + d, none⟩ = false ∧ AdvX w0 (w.setCell ⟨wb, 898 + d, none⟩ (.int .u64 ((keepN now now' (U d) d : Nat) : Int))) base wb mb now now' L U (updU V d (keepN now now' (U d) d)) (d + 1) 0 v := by
  have hs := hl.stop
  obtain ⟨q1, q2⟩ := h.whl.cellU hd
  rw [h.old d (Nat.le_refl _)] at q1
  obtain ⟨k1, k2⟩ := h.whl.used hd (keepN now now' (U d) d)
  have k3 : Only base Ze w (w.setCell ⟨wb, 898 + d, none⟩ (.int .u64 ((keepN now now' (U d) d : Nat) : Int))) := by
    obtain ⟨cs, hB, _⟩ := h.whl.blk
    exact Only.set hB h.whl.low (.inl rfl) _
  have k3x : Only base (Zx wb mb fun _ => False) w (w.setCell ⟨wb, 898 + d, none⟩ (.int .u64 ((keepN now now' (U d) d : Nat) : Int))) := by
    obtain ⟨cs, hB, _⟩ := h.whl.blk
    exact Only.set hB h.whl.low (.inl rfl) _
  have hn : ∀ s, p ≤ s → s < 64 → advS now now' L d s = [] := by
    intro s h1 h2
    unfold advS
    cases hm : metB now now' d s with
    | false => rfl
    | true =>
      rw [if_pos rfl]
      cases hc : chn now L d s with
      | nil => rfl
      | cons a r =>
        have := (hW.uBit d s hd h2).2 (by rw [hc]; simp)
        rw [hs s h1 h2 this] at hm
        cases hm
  refine ⟨q1, q2, k1.congr ?_ (fun _ _ => rfl), ?_, ?_, ?_, h.only.trans k3, h.frm.trans k3x⟩
  · intro n s hn7 hs7
    unfold advC
    by_cases e2 : (n < d ∨ n = d ∧ s < p) ∧ metB now now' n s = true
    · rw [if_pos e2, if_pos ⟨by rcases e2.1 with q | q <;> left <;> omega, e2.2⟩]
    · rw [if_neg e2]
      by_cases e3 : (n < d + 1 ∨ n = d + 1 ∧ s < 0) ∧ metB now now' n s = true
      · rw [if_pos e3]
        have hnd : n = d ∧ p ≤ s := by
          rcases Nat.lt_or_ge n d with q | q
          · exact absurd ⟨.inl q, e3.2⟩ e2
          · refine ⟨by omega, ?_⟩
            rcases Nat.lt_or_ge s p with a | a
            · exact absurd ⟨.inr ⟨by omega, a⟩, e3.2⟩ e2
            · exact a
        obtain ⟨rfl, q9⟩ := hnd
        have := hn s q9 hs7
        unfold advS at this
        rw [if_pos e3.2] at this
        exact this.symm
      · rw [if_neg e3]
  · intro n hn'
    unfold updU
    rw [if_neg (by omega)]
    exact h.old n (by omega)
  · intro n hn'
    unfold updU
    split
    · rename_i e; rw [e]
    · exact h.new n (by omega)
  · have := h.row.only (k2 : Only base Zw w _) (fun b e => by rcases e with e | e <;> exact absurd e (by decide))
    rw [← advM_next, advM_some hp hn]
    exact this
end

set_option maxRecDepth 10000 in
set_option maxHeartbeats 4000000 in
theorem advance_x (w : World) (base wb mb now now' : Nat) (L : List Tm) (U : Nat → Nat) (h : Wst w base wb mb now L U) (hT : TabAt 0 Lib.deBruijn64tab w) (hb : 0 < base) (hnn : now ≤ now') (hm : now' ≤ maxT) (hlen : L.length ≤ 1000) :
    Calls Tryd.prog 27 #[.pointer (some ⟨wb, 0, none⟩), .int .i64 (now' : Int)] w fun e w' => ∃ v V, e = .returned v ∧ AdvX w w' base wb mb now now' L U V 7 0 v := by
  have a0 := h.whl.cell.1
  have c0 := differ_any now now' h.nowM hm w
  obtain ⟨T, hTT⟩ : ∃ T, T = difS now now' := ⟨_, rfl⟩
  rw [← hTT] at c0
  obtain ⟨f0, hN, oN⟩ := h.whl.setNow now'
  have oX : Only base (Zx wb mb fun _ => False) w (w.setCell ⟨wb, 0, none⟩ (.int .i64 (now' : Int))) := by
    obtain ⟨cs, hB, _⟩ := h.whl.blk
    exact Only.set hB h.whl.low (.inl rfl) _
  obtain ⟨W1, hW1⟩ : ∃ W1, W1 = w.setCell ⟨wb, 0, none⟩ (.int .i64 (now' : Int)) := ⟨_, rfl⟩
  have H0 : Hid (AdvX w W1 base wb mb now now' L U U 0 0 (.slice none 0 0)) := by
    rw [hW1]
    exact ⟨hN.congr (fun n s _ _ => by unfold advC; rw [if_neg (fun e => by omega)]) (fun _ _ => rfl), fun _ _ => rfl, fun n hn => absurd hn (Nat.not_lt_zero _), ⟨rfl, .inl ⟨rfl, rfl⟩⟩, oN, oX⟩
  have HW : Hid (Wst w base wb mb now L U ∧ TabAt 0 Lib.deBruijn64tab w ∧ 0 < base ∧ now ≤ now' ∧ now' ≤ maxT ∧ L.length ≤ 1000 ∧ T = difS now now') := ⟨h, hT, hb, hnn, hm, hlen, hTT⟩
  have HW1 := Lib.hid hW1
  clear h hT hb hnn hm hlen hTT hN oN oX hW1
  go_enter Tryd.func27, Tryd.ntmps27
  go_wp2_with fail
  refine c0.mono ?_
  rintro e w' ⟨rfl, hw⟩
  subst w'
  clear c0
  go_wp2_with fail
  rw [← HW1.out]
  clear a0 f0
  go_loopg [6, 20] 7 (fun gk s6 s20 wr => ∃ (d : Nat) (V : Nat → Nat), gk = 7 - d ∧ s20 = .int .i64 (d : Int) ∧ Hid (d ≤ 7 ∧ AdvX w wr base wb mb now now' L U V d 0 s6))
  case atStart => exact ⟨0, U, rfl, rfl, Nat.zero_le _, H0.out⟩
  case round =>
    obtain ⟨d, V, rfl, rfl, HR⟩ := hrel
    rcases Nat.lt_or_ge d 7 with hlt | hge
    · have i0 : (d : Int) < 7 := by omega
      have c1 := digit_any now' d HW.out.2.2.2.2.1 hlt wr
      obtain ⟨dg, hdg⟩ : ∃ dg, dg = dig now' d := ⟨_, rfl⟩
      rw [← hdg] at c1
      have hd64 : dg < 64 := by rw [hdg]; exact dig_lt _ _
      go_wp2_with fail
      refine c1.mono ?_
      rintro e w' ⟨rfl, hw⟩
      subst w'
      have HD : Hid (d < 7 ∧ dg < 64 ∧ (d < T → meetsN now now' d = 2 ^ 64 - 1) ∧ (¬ d < T → meetsN now now' d = 2 ^ (dg + 1) - 1)) := by
        refine ⟨hlt, hd64, fun h => ?_, fun h => ?_⟩
        · unfold meetsN
          rw [if_pos (by rw [← HW.out.2.2.2.2.2.2]; exact h)]
        · unfold meetsN
          rw [if_neg (by rw [← HW.out.2.2.2.2.2.2]; exact h), hdg]
      have hwm := wrap_meets hd64
      obtain ⟨m1, hm1⟩ : ∃ m1, m1 = 2 ^ (dg + 1) - 1 := ⟨_, rfl⟩
      rw [← hm1] at hwm
      have HM := Lib.hid hm1
      clear c1 hlt hdg hm1
      go_upto_region 8 with fail
      clear hwm hd64
      obtain ⟨me, hme⟩ : ∃ me, me = meetsN now now' d := ⟨_, rfl⟩
      have HME := Lib.hid hme
      clear hme
      go_cut [30] (fun s30 wx => s30 = .bool (decide (d < T)) ∧ wr = wx)
      case first =>
        rcases Nat.lt_or_ge d T with q | q
        · have q2 := decide_eq_true q
          have q3 : (d : Int) < (T : Int) := by omega
          go_wp2_with fail
          go_meet
          exact ⟨by rw [q2], rfl⟩
        · have q2 : decide (d < T) = false := decide_eq_false (by omega)
          have q3 : ¬ ((d : Int) < (T : Int)) := by omega
          go_wp2_with fail
          go_meet
          exact ⟨by rw [q2], rfl⟩
      case rest =>
        obtain ⟨rfl, rfl⟩ := hcut
        go_upto_if 30 with fail
        go_cut [8] (fun s8 wx => s8 = .int .u64 (me : Int) ∧ wr = wx)
        case first =>
          rcases Nat.lt_or_ge d T with q | q
          · have q2 := decide_eq_true q
            have e := HD.out.2.2.1 q
            have HE : Hid ((me : Int) = 18446744073709551615) := by show (me : Int) = _; rw [HME.out, e]; decide
            clear e
            go_wp2_with fail
            go_meet
            exact ⟨by rw [HE.out], rfl⟩
          · have q2 : decide (d < T) = false := decide_eq_false (by omega)
            have e := HD.out.2.2.2 (by omega)
            have HE : Hid (me = m1) := by show me = m1; rw [HME.out, HM.out, e]
            clear e
            go_wp2_with fail
            go_meet
            exact ⟨by rw [HE.out], rfl⟩
        case rest =>
          obtain ⟨rfl, rfl⟩ := hcut
          have hA := HR.out.2
          have hU := HW.out.1.uLt d HD.out.1
          have a1 := (hA.whl.cellU HD.out.1).1
          rw [hA.old d (Nat.le_refl _)] at a1
          have hml : me < 2 ^ 64 := by rw [HME.out]; exact meetsN_lt _ _ _
          have q1 := and_64 (U d) me hU hml
          have HL0 : Hid (Left now now' (U d) d 0 (U d &&& me)) := by rw [HME.out]; exact Left.start hU
          have HQ : Hid (bits .andNot .u64 (U d : Int) (me : Int) = ((keepN now now' (U d) d : Nat) : Int)) := by
            show _ = _
            rw [andNot_64 (U d) me hU hml]
            unfold keepN
            rw [← HME.out]
          generalize U d &&& me = x0 at *
          have HUL : Hid (U d < 2 ^ 64) := hU
          clear hA hU hml
          go_wp2_with fail
          clear q1 a1
          rename World => wo
          go_loopg [6, 9] 64 (fun gk s6 s9 wr => ∃ x p : Nat, gk = 64 - p ∧ s9 = .int .u64 (x : Int) ∧ Hid (p ≤ 64 ∧ Left now now' (U d) d p x ∧ AdvX w wr base wb mb now now' L U V d p s6))
          case atStart => exact ⟨x0, 0, rfl, rfl, Nat.zero_le _, HL0.out, HR.out.2⟩
          case round =>
            obtain ⟨x, p, rfl, rfl, HU⟩ := hrel
            by_cases hx : x = 0
            · have HL : Hid (Left now now' (U d) d p 0) := by rw [← hx]; exact HU.out.2.1
              subst hx
              obtain ⟨wD, hwD⟩ : ∃ wD, wD = wr.drew := ⟨_, rfl⟩
              obtain ⟨k1, k2, k3⟩ := (HU.out.2.2.drew).next HW.out.1 HD.out.1 HL.out HU.out.1
              rw [← hwD] at k1 k2 k3
              have q1 := HQ.out
              have HK := Lib.hid k3
              generalize keepN now now' (U d) d = kn at *
              generalize U d = ud at *
              have i0 : (d : Int) < 7 := by have := HD.out; omega
              obtain ⟨d1, hd1⟩ : ∃ d1, d1 = d + 1 := ⟨_, rfl⟩
              have n1 : (d : Int) + 1 = (d1 : Int) := by omega
              have n2 : IntKind.i64.wrap (d1 : Int) = (d1 : Int) := IntWalk.i64_in _ (by omega)
              have HD1 := Lib.hid hd1
              clear k3 hd1
              go_upto_region 14 with fail
              refine wp_region_still_tail 11 (by kernel_rfl) (by kernel_rfl) ?_
              simp only [List.take_succ_cons, List.take_zero, List.drop_succ_cons, List.drop_zero]
              change wpStill _ _ wr.drew (fun a' => wpList _ _ _ _ a' wr.drew) _ _
              rw [← hwD]
              have HDW := Lib.hid hwD
              clear hwD
              repeat still_step
              refine wpStill_nil ?_
              go_wp2_with fail
              go_roundg (7 - d1)
              case measure => have := HD.out; have := HD1.out; omega
              case rel => exact ⟨d1, _, rfl, rfl, by have := HD.out; have := HD1.out; omega, by rw [HD1.out]; exact HK.out⟩
            · obtain ⟨c2, c3⟩ := (HU.out.2.2.drew).step HW.out.1 HD.out.1 hx HU.out.2.1 HW.out.2.2.2.2.2.1 HU.out.1 HW.out.2.1 HW.out.2.2.1
              obtain ⟨l1, l2, _, _, _, l6⟩ := HU.out.2.1.step hx
              have hx64 := HU.out.2.1.1
              have q1 := and_64 x (x - 1) hx64 (by omega)
              obtain ⟨s, hs⟩ : ∃ s, s = low x := ⟨_, rfl⟩
              rw [← hs] at c2 c3 l1 l2 l6
              have HL : Hid (s < 64 ∧ p ≤ s ∧ Left now now' (U d) d (s + 1) (x &&& (x - 1))) := ⟨l1, l2, l6⟩
              generalize x &&& (x - 1) = x2 at *
              obtain ⟨x1, hx1⟩ : ∃ x1, x1 = x - 1 := ⟨_, rfl⟩
              rw [← hx1] at q1
              have n1 : (x : Int) - 1 = (x1 : Int) := by omega
              have n2 : IntKind.u64.wrap (x1 : Int) = (x1 : Int) := by rw [IntKind.wrap_u64]; omega
              have n3 : IntKind.u64.wrap ((x : Int) - 1) = (x1 : Int) := by rw [n1]; exact n2
              have j1 : ¬ ((x : Int) = 0) := by omega
              have j2 : ((x : Int) == 0) = false := by rw [beq_eq_false_iff_ne]; exact j1
              have j3 : (s : Int) < 64 := by omega
              have i0 : (d : Int) < 7 := by have := HD.out; omega
              have HN := Lib.hid (And.intro n1 (And.intro n2 (And.intro n3 q1)))
              clear hs hx l1 l2 l6 hx64 hx1 n1 n2 n3 q1
              go_upto_region 13 with fail
              clear j1 j2
              refine wp_region_still_tail 9 (by kernel_rfl) (by kernel_rfl) ?_
              simp only [List.take_succ_cons, List.take_zero, List.drop_succ_cons, List.drop_zero]
              still_step
              still_step
              still_step
              still_call c2
              still_step
              still_step
              still_step
              still_step
              still_step
              refine wpStill_nil ?_
              clear c2
              change wpList _ _ _ _ _ wr.drew
              go_wp2_with fail
              refine c3.mono ?_
              rintro e w2 ⟨v', rfl, h2⟩
              have H2 := Lib.hid h2
              clear c3 h2
              obtain ⟨n1, n2, n3, q1⟩ := HN.out
              go_wp2_with fail
              go_roundg (64 - (s + 1))
              case measure => have := HL.out.1; have := HL.out.2.1; omega
              case rel => exact ⟨x2, s + 1, rfl, rfl, by have := HL.out.1; omega, HL.out.2.2, H2.out⟩
    · obtain rfl : d = 7 := by have := HR.out.1; omega
      go_wp2_with fail
      go_ret
      exact ⟨_, V, rfl, HR.out.2⟩
end Go.Proofs.YtnoglbceaibjeaaDoor
/- Tick, block by block. -/
namespace Go.Proofs.YtnoglbceaibjeaaDoor
set_option linter.unusedVariables false
set_option linter.unusedSimpArgs false
open Go.ChangeShapes Go.WideShapes Go.ChangeAt Go.RowKit Go.Shelf
structure TickX (w0 w2 w : World) (base wb mb now now' : Nat) (L M : List Tm) (i : Nat) (V : Nat → Nat) (v s7 : Value) : Prop where
  whl : Whl w base wb mb now' (midC now now' L (M.take i)) V
  uLt : ∀ no, no < 7 → V no < 2 ^ 64
  uBit : ∀ no s, no < 7 → s < 64 → ((V no).testBit s = true ↔ midC now now' L (M.take i) no s ≠ [])
  map : IMap w mb ((inM now' L (M.take i)).map pairW)
  met : Trow w base v M
  lt : ∀ g, v.ownBlock = some g → g < w2.heap.size
  due : Trow w w2.heap.size s7 (dueL now' (M.take i))
  tms : TmIn w M
  siz : w2.heap.size ≤ w.heap.size
  bs : base ≤ w2.heap.size
  only : Only base Zt w0 w
  frm : Only base (Zx wb mb (· ∈ L)) w0 w
section
variable {w0 w2 w w' : World} {base wb mb now now' : Nat} {L M : List Tm} {i : Nat} {U V : Nat → Nat} {v s7 : Value} {t : Tm}
/-- One that is not due yet: what put leaves. -/
theorem TickX.put (c : TickC w0 base wb mb now now' L U) (h : TickX w0 w2 w base wb mb now now' L (metL now now' L) i V v s7) (ht : (metL now now' L)[i]? = some t) (hlate : now' < t.tk) :
    Calls Tryd.prog 24 #[.pointer (some ⟨wb, 0, none⟩), .pointer (some ⟨t.blk, 0, none⟩)] w fun e w' => e = .returned (.tuple #[]) ∧ ∃ V', TickX w0 w2 w' base wb mb now now' L (metL now now' L) (i + 1) V' v s7 := by
  have htm := List.mem_of_getElem? ht
  obtain ⟨m1, m2, m3⟩ := c.mem htm
  obtain ⟨x, y, hb⟩ := h.tms t htm
  obtain ⟨no, s, hpl⟩ : ∃ no s, plc now' t.tk = (no, s) := ⟨_, _, rfl⟩
  have hp := plc_lt c.mx m2
  rw [hpl] at hp
  obtain ⟨hno, hs⟩ : no < 7 ∧ s < 64 := hp
  refine (put_any w base wb mb now' _ V h.whl c.mx t m2 x y hb (fun n m _ _ u hu => c.apart ht hu) m3 h.uLt no s hpl).mono ?_
  rintro e w' ⟨rfl, h1, h2, h3⟩
  have hC : ∀ n m, midC now now' L ((metL now now' L).take (i + 1)) n m = upd (midC now now' L ((metL now now' L).take i)) no s (midC now now' L ((metL now now' L).take i) no s ++ [t]) n m := by
    intro n m
    rw [take_next ht, midC_late hlate hpl]
    rfl
  have hp2 : 2 ^ s < 2 ^ 64 := Nat.pow_lt_pow_right (by decide) hs
  have hw' := h1.congr (C' := midC now now' L ((metL now now' L).take (i + 1))) (fun n m _ _ => hC n m) (fun _ _ => rfl)
  refine ⟨rfl, _, hw', ?_, ?_, ?_, h.met.only h2 (fun b e => by rcases e with e | e <;> exact absurd e (by decide)), h.lt, ?_, ?_, Nat.le_trans h.siz h2.size, h.bs, h.only.trans (h2.mono fun _ _ _ _ _ e => .inl (.inl e)), h.frm.trans (Only.zx2 (S := (· ∈ L)) h2 (fun u hu => (midC_mem hu).elim (fun q => q.1) (fun q => (metL_mem (List.mem_of_mem_take q)).1)) m1 h3)⟩
  · intro n hn
    unfold updU
    split
    · exact Nat.or_lt_two_pow (h.uLt no hno) hp2
    · exact h.uLt n hn
  · intro n m hn hm
    rw [hC]
    by_cases e : n = no ∧ m = s
    · obtain ⟨rfl, rfl⟩ := e
      rw [upd_same]
      unfold updU
      rw [if_pos rfl, Nat.testBit_or, Nat.testBit_two_pow_self]
      simp
    · rw [upd_other e]
      unfold updU
      split <;> rename_i e3
      · subst e3
        rw [Nat.testBit_or, Nat.testBit_two_pow, decide_eq_false (fun e4 => e ⟨rfl, e4.symm⟩), Bool.or_false]
        exact h.uBit n m hn hm
      · exact h.uBit n m hn hm
  · have e1 : inM now' L ((metL now now' L).take (i + 1)) = inM now' L ((metL now now' L).take i) := by
      unfold inM
      rw [take_next ht, dueL_late hlate]
    rw [e1]
    exact h2.imap h.map zw_map
  · rw [take_next ht, dueL_late hlate]
    exact h2.row h.due (fun b _ e => by rcases e with e | e <;> exact absurd e (by decide))
  · intro u hu
    by_cases hin : u ∈ midC now now' L ((metL now now' L).take (i + 1)) no s
    · obtain ⟨j, hj⟩ := List.getElem?_of_mem hin
      exact ⟨_, _, hw'.chn no s hno hs j u hj⟩
    · obtain ⟨x', y', hb'⟩ := h.tms u hu
      refine ⟨x', y', (h3 u.blk ?_ ?_ ?_).trans hb'⟩
      · intro e
        obtain ⟨cs, hB, _⟩ := h.whl.blk
        rw [e, hB] at hb'
        injection hb' with hb'
        injection hb' with _ hb'
        exact absurd hb' (by decide)
      · intro e
        have := c.st.blkInj (metL_mem hu).1 m1 e
        subst this
        apply hin
        rw [hC, upd_same]
        simp
      · intro z hz e
        apply hin
        rw [hC, upd_same]
        have hzL : z ∈ L := by
          rcases midC_mem hz with q | q
          · exact q.1
          · exact (metL_mem (List.mem_of_mem_take q)).1
        have := c.st.blkInj (metL_mem hu).1 hzL e
        subst this
        exact List.mem_append_left _ hz
/-- One that is due: what its deletion from the map and its being appended leave. -/
theorem TickX.due_ (c : TickC w0 base wb mb now now' L U) (h : TickX w0 w2 w base wb mb now now' L (metL now now' L) i V v s7) (ht : (metL now now' L)[i]? = some t) (hdue : ¬ now' < t.tk) :
    ∃ j, ((inM now' L ((metL now now' L).take i)).map pairW)[j]? = some (t.id, t.blk) ∧ (((inM now' L ((metL now now' L).take i)).map pairW).map Prod.fst).Nodup ∧
      ∀ w3, IMap w3 mb (((inM now' L ((metL now now' L).take i)).map pairW).eraseIdx j) → w.grownBy w3 (some mb) → Trow w3 w2.heap.size s7 (dueL now' ((metL now now' L).take i)) ∧ w2.heap.size ≤ w3.heap.size ∧ (dueL now' ((metL now now' L).take i)).length ≤ 1000000 ∧
        ∀ v5 w5, Trow w5 w2.heap.size v5 (dueL now' ((metL now now' L).take i) ++ [t]) → Only w2.heap.size Zr w3 w5 → TickX w0 w2 w5 base wb mb now now' L (metL now now' L) (i + 1) V v v5 := by
  have htm := List.mem_of_getElem? ht
  obtain ⟨m1, m2, m3⟩ := c.mem htm
  have hin : t ∈ inM now' L ((metL now now' L).take i) := by
    refine List.mem_filter.2 ⟨m1, decide_eq_true fun hd => ?_⟩
    exact take_not c.nodup ht (List.mem_filter.1 hd).1
  obtain ⟨j, hj⟩ := List.getElem?_of_mem hin
  have hnod : ((inM now' L ((metL now now' L).take i)).map Tm.id).Nodup := (List.Sublist.map _ List.filter_sublist).nodup c.st.nod
  have he : ((inM now' L ((metL now now' L).take i)).map pairW).eraseIdx j = (inM now' L ((metL now now' L).take (i + 1))).map pairW := by
    rw [take_next ht, inM_due c.st.nod m1 hdue, ← erase_filter hnod hj, Go.ChangeMaps.map_eraseIdx]
  refine ⟨j, by rw [List.getElem?_map, hj]; rfl, by rw [List.map_map]; exact hnod, fun w3 hm3 hg3 => ?_⟩
  have kc := grown_cells h.map hg3
  have hmc : midC now now' L ((metL now now' L).take (i + 1)) = midC now now' L ((metL now now' L).take i) := by rw [take_next ht, midC_due hdue]
  have h3w : Whl w3 base wb mb now' (midC now now' L ((metL now now' L).take i)) V := h.whl.keep kc
  have o3 : Only base Zm w w3 := only_map h.map hg3 c.st.lowM h.whl.bas
  have hnz : ∀ b, ¬ Zm b 60 := fun b e => by
    rcases e with (e | e) | e <;> exact absurd e (by decide)
  have hd3 : Trow w3 w2.heap.size s7 (dueL now' ((metL now now' L).take i)) := o3.row h.due fun g _ => hnz g
  have hlen : (dueL now' ((metL now now' L).take i)).length ≤ 1000000 := by
    have h1 : (dueL now' ((metL now now' L).take i)).length ≤ ((metL now now' L).take i).length := List.length_filter_le _ _
    have h2 : ((metL now now' L).take i).length ≤ (metL now now' L).length := List.length_take_le' _ _
    have h3 := advM_len now now' L 7 0 (Nat.le_refl _) (by omega)
    rw [advM_all] at h3
    have := c.len
    omega
  refine ⟨hd3, Nat.le_trans h.siz o3.size, hlen, fun v5 w5 hr5 o5 => ?_⟩
  rw [he] at hm3
  have hbase := h.bs
  have o5' : Only base Zr w3 w5 := ⟨o5.low.mono hbase, o5.keep⟩
  refine ⟨?_, h.uLt, ?_, o5.imap hm3 (fun e => absurd (show mapT = 60 from e) (by decide)), ?_, h.lt, ?_, ?_, Nat.le_trans (Nat.le_trans h.siz o3.size) o5.size, h.bs, (h.only.trans (o3.mono fun _ _ _ _ _ e => .inl e)).trans (o5'.mono fun _ _ _ _ _ e => .inr e), (h.frm.trans (zx_map hg3 c.st.lowM h.whl.bas)).trans (o5'.mono fun _ _ _ _ _ e => .inr (.inr (.inr e)))⟩
  · rw [hmc]
    exact h3w.only o5 (fun b e => absurd (show 68 = 60 from e) (by decide)) (fun b e => absurd (show 70 = 60 from e) (by decide))
  · rw [hmc]; exact h.uBit
  · exact ownsRow_other (h.met.only o3 hnz) fun b cs hb _ => o5.low.block b (h.lt b hb)
  · rw [take_next ht, dueL_due hdue]
    exact hr5
  · intro u hu
    obtain ⟨x', y', hb'⟩ := h.tms u hu
    exact ⟨x', y', o5.cells ((kc _ _ _ hb').trans hb') (fun e => absurd (show 70 = 60 from e) (by decide))⟩
theorem TickX.drew (h : TickX w0 w2 w base wb mb now now' L M i V v s7) : TickX w0 w2 w.drew base wb mb now now' L M i V v s7 :=
  ⟨h.whl.drew, h.uLt, h.uBit, h.map.keep rfl, h.met.grow (Grow.drew _), h.lt, h.due.grow (Grow.drew _), fun t ht => h.tms t ht, h.siz, h.bs, h.only.trans (Only.grow (Grow.drew _) h.whl.bas Zt), h.frm.trans (Only.grow (Grow.drew _) h.whl.bas _)⟩
theorem TickX.start (c : TickC w0 base wb mb now now' L U) (h : AdvX w0 w base wb mb now now' L U V 7 0 v) : TickX w0 w w base wb mb now now' L (metL now now' L) 0 V v (.slice none 0 0) := by
  have hC : ∀ n s, n < 7 → s < 64 → midC now now' L ((metL now now' L).take 0) n s = advC now now' L 7 0 n s := by
    intro n s hn _
    rw [List.take_zero, midC_nil]
    unfold advC
    by_cases hm : metB now now' n s = true
    · rw [if_pos ⟨.inl hn, hm⟩]
      simp [hm]
    · rw [if_neg (fun e => hm e.2)]
      simp [hm]
  have hrow := h.row
  rw [advM_all] at hrow
  refine ⟨h.whl.congr hC (fun _ _ => rfl), ?_, ?_, ?_, hrow, fun g hg => (World.ownsRow.lt hrow g hg).2, ⟨rfl, .inl ⟨rfl, rfl⟩⟩, ?_, Nat.le_refl _, h.whl.bas, h.only.mono fun _ _ _ _ _ e => ?_, h.frm.mono fun _ _ _ _ _ e => zx_mono e (fun _ q => q.elim)⟩
  · intro n hn
    rw [h.new n hn]
    exact Nat.and_lt_two_pow _ (Nat.sub_lt (Nat.two_pow_pos 64) (Nat.succ_pos _))
  · intro n s hn hs
    rw [h.new n hn, keepN_bit hs, List.take_zero, midC_nil]
    have := c.st.uBit n s hn hs
    by_cases hm : metB now now' n s = true
    · simp [hm]
    · simp only [hm, Bool.not_false, Bool.and_true]
      rw [this]
      simp
  · rw [List.take_zero, inM_nil]
    exact h.only.imap c.st.map (fun e => by rcases e with e | e <;> exact absurd e (by decide))
  · intro t ht
    obtain ⟨x, y, hb⟩ := c.st.tmAt (metL_mem ht).1
    exact ⟨x, y, h.only.cells hb (fun e => by rcases e with e | e <;> exact absurd e (by decide))⟩
  · rcases e with e | e
    · exact .inl (.inl (.inl e))
    · exact .inr e
/-- When all have been laid anew, the due ones sorted and told. -/
theorem TickX.done (c : TickC w0 base wb mb now now' L U) (h : TickX w0 w2 w base wb mb now now' L (metL now now' L) (metL now now' L).length V v s7) {w' w4 : World} (o4 : Only w2.heap.size Zr w w4) (o5 : Only w0.heap.size Zi w4 w') (hs : w0.heap.size ≤ w2.heap.size) :
    Wst w' base wb mb now' (left now' L) V ∧ Only base Zt w0 w' ∧ Only base (Zx wb mb (· ∈ L)) w0 w' := by
  have e1 : (metL now now' L).take (metL now now' L).length = metL now now' L := List.take_length
  have hw := h.whl
  have hu := h.uBit
  have hm := h.map
  rw [e1] at hw hu hm
  rw [midC_all c.le c.mx c.st.tks] at hw hu
  rw [inM_all c.le c.mx c.st.tks] at hm
  have z1 : ∀ T, T ≠ 60 → ∀ b, ¬ Zr b T := fun T h b e => h e
  have z2 : ∀ T, T ≠ 3 → ∀ b, ¬ Zi b T := fun T h b e => h e
  refine ⟨⟨(hw.only o4 (z1 _ (by decide)) (z1 _ (by decide))).only o5 (z2 _ (by decide)) (z2 _ (by decide)), h.uLt, hu, o5.imap (o4.imap hm (z1 _ (by decide) _)) (z2 _ (by decide) _), c.st.lowM, (List.Sublist.map _ List.filter_sublist).nodup c.st.nod, fun t ht => c.st.tks t (List.mem_filter.1 ht).1, c.mx⟩, ?_⟩
  have hb0 := c.st.whl.bas
  exact ⟨(h.only.trans ((Only.mono ⟨o4.low.mono h.bs, o4.keep⟩ fun _ _ _ _ _ e => .inr e))).later o5.low hb0, (h.frm.trans ((Only.mono (base := base) (Z := Zr) ⟨o4.low.mono h.bs, o4.keep⟩ fun _ _ _ _ _ e => .inr (.inr (.inr e))))).later o5.low hb0⟩
end
set_option maxRecDepth 10000 in
set_option maxHeartbeats 4000000 in
theorem wTick_x (w : World) (base wb mb now now' : Nat) (L : List Tm) (U : Nat → Nat) (c : TickC w base wb mb now now' L U) (hT : TabAt 0 Lib.deBruijn64tab w) (hb : 0 < base) :
    Calls Tryd.prog 15 #[.pointer (some ⟨wb, 0, none⟩), .int .i64 (now' : Int)] w fun e w' => ∃ (D : List Tm) (v : Value) (V : Nat → Nat), e = .returned (.tuple #[v, .int .i64 0]) ∧
      Irow w' w.heap.size v D ∧ Srt tkI D ∧ Stb tkI D (L.filter fun t => decide (t.tk ≤ now')) ∧ Wst w' base wb mb now' (left now' L) V ∧ Only base Zt w w' ∧ Only base (Zx wb mb (· ∈ L)) w w' := by
  have a0 := c.st.whl.cell.1
  have c0 := advance_x w base wb mb now now' L U c.st hT hb c.le c.mx c.len
  have HC := Lib.hid c
  have d1 : decide ((now' : Int) < (now : Int)) = false := decide_eq_false (by have := c.le; omega)
  have d2 : ¬ (1099511627776 < (now' : Int)) := by have := c.mx; unfold maxT at this; omega
  have d3 : ¬ (now' < now) := by have := c.le; omega
  clear c hT hb
  go_enter Tryd.func15, Tryd.ntmps15
  go_wp2_with fail
  refine c0.mono ?_
  rintro e w2 ⟨v, V0, rfl, hA⟩
  have H0 := Lib.hid (TickX.start HC.out hA)
  have HS : Hid (w.heap.size ≤ w2.heap.size) := hA.only.size
  clear c0 hA a0 d1 d2 d3
  obtain ⟨M, hM⟩ : ∃ M, M = metL now now' L := ⟨_, rfl⟩
  have HM := Lib.hid hM
  have hM2 := HM.out
  rw [← hM] at H0
  obtain ⟨A, cp, hv⟩ := H0.out.met.form
  obtain ⟨n, hn⟩ : ∃ n, n = M.length := ⟨_, rfl⟩
  rw [← hn] at hv
  subst hv
  have HN := Lib.hid hn
  clear hM hM2 hn
  go_wp2_with fail
  go_loopg [7, 27] n (fun gk s7 s27 wr => ∃ (i : Nat) (V : Nat → Nat), gk = n - i ∧ s27 = .int .i64 (i : Int) ∧ Hid (i ≤ n ∧ TickX w w2 wr base wb mb now now' L M i V (.slice A n cp) s7))
  case atStart => exact ⟨0, V0, rfl, rfl, Nat.zero_le _, H0.out⟩
  case round =>
    obtain ⟨i, V, rfl, rfl, HR⟩ := hrel
    rcases Nat.lt_or_ge i n with hlt | hge
    · obtain ⟨t, ht⟩ : ∃ t, M[i]? = some t := ⟨_, List.getElem?_eq_getElem (by rw [← HN.out]; exact hlt)⟩
      obtain ⟨A', cp', e1, q1, q2, q3, q4⟩ := RdK.of_own HR.out.2.met
      obtain ⟨g, off, hg, hgl, hgc⟩ := q4 (by rw [← HN.out]; omega)
      have e2 : A = some ⟨g, off, none⟩ := by
        rw [hg] at e1
        injection e1
      have k0 : wr.cell? ⟨g, off + i, none⟩ = some (.pointer (some ⟨t.blk, 0, none⟩)) := hgc i (tpV t) (by rw [List.getElem?_map, ht]; rfl)
      obtain ⟨x, y, hb⟩ := HR.out.2.tms t (List.mem_of_getElem? ht)
      have k1 : wr.cell? ⟨t.blk, 1, none⟩ = some (.int .i64 (t.tk : Int)) := (cell_of_row wr t.blk 1 _ _ _ hb).trans rfl
      have k2 : wr.cell? ⟨t.blk, 0, none⟩ = some (.int .i64 t.id) := (cell_of_row wr t.blk 0 _ _ _ hb).trans rfl
      have i0 : (i : Int) < (n : Int) := by omega
      obtain ⟨i1, hi1⟩ : ∃ i1, i1 = i + 1 := ⟨_, rfl⟩
      have hnl : n ≤ 512000 := by
        have := HC.out.len
        have := metL_len now now' L
        rw [← HM.out, ← HN.out] at this
        omega
      have n1 : (i : Int) + 1 = (i1 : Int) := by omega
      have n2 : IntKind.i64.wrap (i1 : Int) = (i1 : Int) := IntWalk.i64_in _ (by omega)
      have n3 : IntKind.i64.wrap ((i : Int) + 1) = (i1 : Int) := by rw [n1]; exact n2
      have HI := Lib.hid (And.intro hi1 hlt)
      have HTM := Lib.hid ht
      subst e2
      clear q1 q2 q3 q4 e1 hg hgl hgc hb hi1 ht hnl hlt
      by_cases hl : now' < t.tk
      · have c1 := TickX.put HC.out (by rw [← HM.out]; exact HR.out.2) (by rw [← HM.out]; exact HTM.out) hl
        rw [← HM.out] at c1
        have l1 : (now' : Int) < (t.tk : Int) := by omega
        clear hl k2
        go_wp2_with fail
        refine c1.mono ?_
        rintro e w3 ⟨rfl, V', h3⟩
        have H3 := Lib.hid h3
        clear c1 h3 k0 k1 l1
        go_wp2_with fail
        go_roundg (n - i1)
        case measure => have := HI.out; omega
        case rel => exact ⟨i1, V', rfl, rfl, by have := HI.out; omega, by rw [HI.out.1]; exact H3.out⟩
      · have c1 := TickX.due_ HC.out (by rw [← HM.out]; exact HR.out.2.drew) (by rw [← HM.out]; exact HTM.out) hl
        rw [← HM.out] at c1
        obtain ⟨j, j1, j2, j3⟩ := c1
        have HJ := Lib.hid (And.intro j1 (And.intro j2 j3))
        have l1 : ¬ ((now' : Int) < (t.tk : Int)) := by omega
        have l2 : ¬ (now' < t.tk) := hl
        have k3 := HR.out.2.whl.cell.2
        have k4 := HR.out.2.drew.map
        obtain ⟨wD, hwD⟩ : ∃ wD, wD = wr.drew := ⟨_, rfl⟩
        have y1 : wD.cell? ⟨t.blk, 0, none⟩ = some (.int .i64 t.id) := by rw [hwD]; exact k2
        have y2 : wD.cell? ⟨wb, 1, none⟩ = some (.map (some mb)) := by rw [hwD]; exact k3
        rw [← hwD] at k4 HJ
        obtain ⟨A7, c7, e7⟩ := HR.out.2.due.form
        have HK := Lib.hid k4
        obtain ⟨n7, hn7⟩ : ∃ n7, n7 = (dueL now' (M.take i)).length := ⟨_, rfl⟩
        rw [← hn7] at e7
        subst e7
        clear j1 j2 j3 hl k2 k3 k4 hn7
        go_upto_region 12 with fail
        refine wp_region_still_tail 8 (by kernel_rfl) (by kernel_rfl) ?_
        simp only [List.take_succ_cons, List.take_zero, List.drop_succ_cons, List.drop_zero]
        change wpStill _ _ wr.drew (fun a' => wpList _ _ _ _ a' wr.drew) _ _
        rw [← hwD]
        have HDW := Lib.hid hwD
        clear hwD
        repeat still_step
        refine wpStill_nil ?_
        clear k0 k1 l1 l2 y1 y2
        go_wp2_with (first | (at_builtin; refine run_tapp w3 w2.heap.size (.slice A7 n7 c7) (dueL now' (M.take i)) t H3.out.1 H3.out.2.1 H3.out.2.2.1 rfl (.tmp 48) (.tmp 50) rfl rfl rfl ?_; intro v5 w5 hr5 o5; have H5 := Lib.hid (H3.out.2.2.2 v5 w5 hr5 o5); clear hr5 o5) | (refine run_idel wD HK.out HJ.out.2.1 HJ.out.1 rfl (.tmp 43) (.tmp 47) rfl rfl rfl ?_; intro w3 hm3 hg3; have H3 := Lib.hid (HJ.out.2.2 w3 hm3 hg3); clear hm3 hg3))
        go_roundg (n - i1)
        case measure => have := HI.out; omega
        case rel => exact ⟨i1, V, rfl, rfl, by have := HI.out; omega, by rw [HI.out.1]; exact H5.out⟩
    · obtain rfl : i = n := by have := HR.out.1; omega
      have h1 := HR.out.2.due
      have e1 : M.take i = M := by rw [HN.out, List.take_length]
      rw [e1] at h1
      obtain ⟨D, hD⟩ : ∃ D, D = dueL now' M := ⟨_, rfl⟩
      rw [← hD] at h1
      have hdl : D.length ≤ 1000000 := by
        have h2 : D.length ≤ M.length := by rw [hD]; exact List.length_filter_le _ _
        have := HC.out.len
        have h3 := metL_len now now' L
        rw [← HM.out] at h3
        omega
      have htm : TmIn wr D := fun t ht => HR.out.2.tms t (by rw [hD] at ht; exact (List.mem_filter.1 ht).1)
      obtain ⟨A7, c7, e7⟩ := h1.form
      have c1 := ssf_any wr w2.heap.size _ D h1 htm hdl
      have HD : Hid (D = dueL now' M ∧ D.length ≤ 1000000 ∧ TmIn wr D) := ⟨hD, hdl, htm⟩
      obtain ⟨n7, hn7⟩ : ∃ n7, n7 = D.length := ⟨_, rfl⟩
      rw [← hn7] at e7
      subst e7
      rename World => wo
      clear h1 e1 hD hdl htm hn7
      go_wp2_with fail
      refine c1.mono ?_
      rintro e w4 ⟨rfl, D', h2, h3, h4, o4⟩
      have htm4 : TmIn w4 D' := fun t ht => by
        obtain ⟨x, y, hb⟩ := HD.out.2.2 t (h4.mem ht)
        exact ⟨x, y, o4.cells hb (fun e => absurd (show 70 = 60 from e) (by decide))⟩
      have hsz : w.heap.size ≤ w4.heap.size := Nat.le_trans HS.out (Nat.le_trans HR.out.2.siz o4.size)
      have c2 := ids_any w4 w2.heap.size w.heap.size _ D' h2 hsz htm4 (by rw [h4.len]; exact HD.out.2.1)
      have H4 : Hid (Srt tkI D' ∧ Stb tkI D' D ∧ Only w2.heap.size Zr wo w4) := ⟨h3, h4, o4⟩
      clear c1 h2 h3 h4 o4 htm4 hsz
      go_wp2_with fail
      refine c2.mono ?_
      rintro e w5 ⟨v', rfl, h6, o6⟩
      have H6 := Lib.hid (And.intro h6 o6)
      clear c2 h6 o6
      go_wp2_with fail
      go_ret2
      have hR := HR.out.2
      rw [HN.out, HM.out] at hR
      obtain ⟨f1, f2, f3⟩ := TickX.done HC.out hR H4.out.2.2 H6.out.2 HS.out
      refine ⟨D', v', V, rfl, H6.out.1, H4.out.1, H4.out.2.1.trans ?_, f1, f2, f3⟩
      rw [HD.out.1, HM.out]
      exact due_stb HC.out.le HC.out.mx HC.out.st.tks
end Go.Proofs.YtnoglbceaibjeaaDoor
/- WheelSteps: two wheels side by side; one told in steps, the other at once. -/
namespace Go.Proofs.YtnoglbceaibjeaaDoor
set_option linter.unusedVariables false
set_option linter.unusedSimpArgs false
open Go.ChangeShapes Go.WideShapes Go.ChangeAt Go.RowKit Go.Shelf

def pr (t : Tm) : Tm := ⟨t.id, t.tk, 0⟩
theorem stb_pr {D E : List Tm} (h : Stb tkI D E) : Stb tkI (D.map pr) (E.map pr) := fun k => by
  rw [List.filter_map, List.filter_map]
  exact congrArg (List.map pr) (h k)
theorem srt_pr {D : List Tm} (h : Srt tkI D) : Srt tkI (D.map pr) := List.pairwise_map.2 h
theorem filter_pr (p : Tm → Bool) (hp : ∀ t, p (pr t) = p t) (l : List Tm) : (l.filter p).map pr = (l.map pr).filter p := by
  rw [List.filter_map]
  congr 1
  exact List.filter_congr fun t _ => (hp t).symm
theorem ids_pr (l : List Tm) : l.map Tm.id = (l.map pr).map Tm.id := by
  rw [List.map_map]
  rfl
/-- What was told in steps up to b. -/
structure StP (L0 L : List Tm) (at_ : Nat) (D : List Tm) (b : Int) : Prop where
  l : L = L0.filter fun t => decide (b < (t.tk : Int))
  s : Srt tkI D
  t : Stb tkI D (L0.filter fun t => decide ((t.tk : Int) ≤ b))
  o : b = (at_ : Int) ∨ (b = -1 ∧ at_ = 0)
section
variable {L0 L M0 D D' D2 : List Tm} {at_ x : Nat} {b : Int}
theorem StP.start (L : List Tm) : StP L L 0 [] (-1) := by
  refine ⟨(List.filter_eq_self.2 fun t _ => decide_eq_true (by omega)).symm, List.Pairwise.nil, ?_, .inr ⟨rfl, rfl⟩⟩
  rw [List.filter_eq_nil_iff.2 fun t _ => by simp; omega]
  exact Stb.refl _
theorem StP.le (h : StP L0 L at_ D b) : b ≤ (at_ : Int) := by rcases h.o with q | ⟨q, r⟩ <;> omega
theorem StP.step (h : StP L0 L at_ D b) (hx : at_ ≤ x) (hs : Srt tkI D') (ht : Stb tkI D' (L.filter fun t => decide (t.tk ≤ x))) : StP L0 (left x L) x (D ++ D') (x : Int) := by
  have hb := h.le
  refine ⟨?_, ?_, ?_, .inl rfl⟩
  · unfold left
    rw [h.l, List.filter_filter]
    refine List.filter_congr fun t _ => ?_
    by_cases q : x < t.tk
    · rw [decide_eq_true q, decide_eq_true (by omega), decide_eq_true (by omega)]; rfl
    · rw [decide_eq_false q, Bool.false_and]; exact (decide_eq_false (by omega)).symm
  · refine List.pairwise_append.2 ⟨h.s, hs, fun a ha c hc => ?_⟩
    have h1 := of_decide_eq_true (List.mem_filter.1 (h.t.mem ha)).2
    have h2 := (List.mem_filter.1 (ht.mem hc)).1
    rw [h.l] at h2
    have h3 := of_decide_eq_true (List.mem_filter.1 h2).2
    unfold tkI
    omega
  · refine (h.t.app ht).trans fun k => ?_
    rw [h.l, List.filter_append, List.filter_filter, List.filter_filter, List.filter_filter, List.filter_filter]
    by_cases q : k ≤ b
    · rw [show (L0.filter fun t => decide (tkI t = k) && decide (t.tk ≤ x) && decide (b < (t.tk : Int))) = [] from List.filter_eq_nil_iff.2 fun t _ => by unfold tkI; simp; omega, List.append_nil]
      refine List.filter_congr fun t _ => ?_
      unfold tkI
      by_cases e : (t.tk : Int) = k
      · rw [decide_eq_true e, decide_eq_true (by omega), decide_eq_true (by omega)]
      · rw [decide_eq_false e]; rfl
    · rw [show (L0.filter fun t => decide (tkI t = k) && decide ((t.tk : Int) ≤ b)) = [] from List.filter_eq_nil_iff.2 fun t _ => by unfold tkI; simp; omega, List.nil_append]
      refine List.filter_congr fun t _ => ?_
      unfold tkI
      by_cases e : (t.tk : Int) = k
      · rw [decide_eq_true e, decide_eq_true (show b < (t.tk : Int) by omega), Bool.and_true, Bool.true_and, Bool.true_and]
        by_cases r : t.tk ≤ x
        · rw [decide_eq_true r, decide_eq_true (by omega)]
        · rw [decide_eq_false r, decide_eq_false (by omega)]
      · rw [decide_eq_false e]; rfl
theorem StP.tight (h : StP L0 L at_ D b) (hne : D ≠ [] ∨ at_ ≠ 0) : b = (at_ : Int) := by
  rcases h.o with q | ⟨q, r⟩
  · exact q
  · rcases hne with hne | hne
    · exfalso
      apply hne
      refine List.eq_nil_iff_forall_not_mem.2 fun t ht => ?_
      have := of_decide_eq_true (List.mem_filter.1 (h.t.mem ht)).2
      omega
    · exact absurd r hne
theorem StP.fin (h : StP L0 L at_ D b) (hb : b = (at_ : Int)) (hs : Srt tkI D2) (ht : Stb tkI D2 (M0.filter fun t => decide (t.tk ≤ at_))) (hp : L0.map pr = M0.map pr) : D.map Tm.id = D2.map Tm.id ∧ L.length = (left at_ M0).length := by
  subst hb
  have e1 : (L0.filter fun t => decide ((t.tk : Int) ≤ (at_ : Int))).map pr = (M0.filter fun t => decide (t.tk ≤ at_)).map pr := by
    rw [filter_pr _ (fun _ => rfl), filter_pr _ (fun _ => rfl), hp]
    refine List.filter_congr fun t _ => ?_
    by_cases r : t.tk ≤ at_
    · rw [decide_eq_true r, decide_eq_true (by omega)]
    · rw [decide_eq_false r, decide_eq_false (by omega)]
  have e2 : (L0.filter fun t => decide ((at_ : Int) < (t.tk : Int))).map pr = (left at_ M0).map pr := by
    unfold left
    rw [filter_pr _ (fun _ => rfl), filter_pr _ (fun _ => rfl), hp]
    refine List.filter_congr fun t _ => ?_
    by_cases r : at_ < t.tk
    · rw [decide_eq_true r, decide_eq_true (by omega)]
    · rw [decide_eq_false r, decide_eq_false (by omega)]
  have h1 := stb_pr h.t
  rw [e1] at h1
  have e3 := srt_uniq _ _ (srt_pr h.s) (srt_pr hs) (h1.trans (stb_pr ht).symm)
  refine ⟨by rw [ids_pr, ids_pr D2, e3], ?_⟩
  rw [h.l]
  have := congrArg List.length e2
  simpa using this
theorem StP.len (h : StP L0 L at_ D b) : D.length ≤ L0.length ∧ L.length ≤ L0.length := by
  refine ⟨?_, by rw [h.l]; exact List.length_filter_le _ _⟩
  rw [h.t.len]
  exact List.length_filter_le _ _
end
/-- What Set leaves of the numbers and moments. -/
def cd (y : Int) : Int := if y < 0 ∨ 1099511627776 < y then 8 else 0
def stepP (x y : Int) (P : List Tm) : List Tm := if y < 0 ∨ 1099511627776 < y then P else (P.filter fun u => decide (u.id ≠ x)) ++ [⟨x, y.toNat, 0⟩]
/-- What one wheel's call may touch is not the other's. -/
theorem Wst.aside {w w' : World} {base wb mb now wc mc now2 : Nat} {L M : List Tm} {U V : Nat → Nat} (ha : Wst w base wb mb now L U) (hb : Wst w base wc mc now2 M V) (h1 : wb ≠ wc) (h2 : mb ≠ mc) (hd : ∀ t ∈ L, ∀ u ∈ M, t.blk ≠ u.blk) (o : Only base (Zx wb mb (· ∈ L)) w w') : Wst w' base wc mc now2 M V := by
  obtain ⟨csA, kA, _⟩ := ha.whl.blk
  obtain ⟨esA, ckA, kM, _⟩ := ha.map
  obtain ⟨csB, kB, cB⟩ := hb.whl.blk
  obtain ⟨esB, ckB, kN, _⟩ := hb.map
  refine ⟨⟨hb.whl.low, ⟨csB, o.cells kB ?_, cB⟩, fun no s hn hs i t ht => o.cells (hb.whl.chn no s hn hs i t ht) ?_, hb.whl.lowT, hb.whl.uniq⟩, hb.uLt, hb.uBit, o.imap hb.map ?_, hb.lowM, hb.nod, hb.tks, hb.nowM⟩
  · rintro (e | e | ⟨u, hu, e⟩ | e)
    · exact h1 e.symm
    · rw [e, kM] at kB
      cases kB
    · obtain ⟨x, y, hx⟩ := ha.tmAt hu
      rw [e, hx] at kB
      injection kB with kB
      injection kB with _ kB
      exact absurd kB (by decide)
    · exact absurd e (by decide)
  · have htM : t ∈ M := (List.mem_filter.1 (List.mem_of_getElem? ht)).1
    obtain ⟨x, y, hx⟩ := hb.tmAt htM
    rintro (e | e | ⟨u, hu, e⟩ | e)
    · rw [e, kA] at hx
      injection hx with hx
      injection hx with _ hx
      exact absurd hx (by decide)
    · rw [e, kM] at hx
      cases hx
    · exact hd u hu t htM e.symm
    · exact absurd e (by decide)
  · rintro (e | e | ⟨u, hu, e⟩ | e)
    · rw [e, kA] at kN
      cases kN
    · exact h2 e.symm
    · obtain ⟨x, y, hx⟩ := ha.tmAt hu
      rw [e, hx] at kN
      cases kN
    · exact absurd e (by decide)
theorem Wst.onlyG {w w' : World} {base b0 wb mb now : Nat} {L : List Tm} {U : Nat → Nat} {Z : Nat → TypeId → Prop} (h : Wst w base wb mb now L U) (o : Only b0 Z w w') (z1 : ∀ b, ¬ Z b 68) (z2 : ∀ b, ¬ Z b 70) (z3 : ∀ b, ¬ Z b mapT) : Wst w' base wb mb now L U :=
  ⟨h.whl.only o z1 z2, h.uLt, h.uBit, o.imap h.map (z3 _), h.lowM, h.nod, h.tks, h.nowM⟩
/-- Two wheels that share nothing. -/
structure Two (w w' : World) (base wb mb n1 wc mc n2 : Nat) (L M : List Tm) : Prop where
  a : ∃ U, Wst w' base wb mb n1 L U
  b : ∃ U, Wst w' base wc mc n2 M U
  nw : wb ≠ wc
  nm : mb ≠ mc
  dis : ∀ t ∈ L, ∀ u ∈ M, t.blk ≠ u.blk
  low : Below base w w'
  tab : DbB w'
section
variable {w w1 w2 : World} {base wb mb n1 wc mc n2 : Nat} {L M : List Tm}
theorem Two.swap (h : Two w w1 base wb mb n1 wc mc n2 L M) : Two w w1 base wc mc n2 wb mb n1 M L := ⟨h.b, h.a, h.nw.symm, h.nm.symm, fun u hu t ht e => h.dis t ht u hu e.symm, h.low, h.tab⟩
theorem Two.bas (h : Two w w1 base wb mb n1 wc mc n2 L M) : base ≤ w1.heap.size := by
  obtain ⟨U, hU⟩ := h.a
  exact hU.whl.bas
theorem Two.onlyG {Z : Nat → TypeId → Prop} (h : Two w w1 base wb mb n1 wc mc n2 L M) (hb0 : 0 < base) (o : Only base Z w1 w2) (z1 : ∀ b, ¬ Z b 68) (z2 : ∀ b, ¬ Z b 70) (z3 : ∀ b, ¬ Z b mapT) : Two w w2 base wb mb n1 wc mc n2 L M := by
  obtain ⟨U, hU⟩ := h.a
  obtain ⟨V, hV⟩ := h.b
  exact ⟨⟨U, hU.onlyG o z1 z2 z3⟩, ⟨V, hV.onlyG o z1 z2 z3⟩, h.nw, h.nm, h.dis, Below.trans h.low o.low, TabAt.only h.tab o hb0⟩
theorem Two.grow (h : Two w w1 base wb mb n1 wc mc n2 L M) (hb0 : 0 < base) (g : Grow w1 w2) : Two w w2 base wb mb n1 wc mc n2 L M :=
  h.onlyG hb0 (Only.grow g h.bas fun _ _ => False) (fun _ e => e) (fun _ e => e) (fun _ e => e)
/-- Set, of the first. -/
theorem Two.set (h : Two w w1 base wb mb n1 wc mc n2 L M) (hb0 : 0 < base) (hl : L.length ≤ 200) (x y : Int) :
    Calls Tryd.prog 11 #[.pointer (some ⟨wb, 0, none⟩), .int .i64 x, .int .i64 y] w1 fun e w2 => e = .returned (.int .i64 (cd y)) ∧ ∃ L', Two w w2 base wb mb n1 wc mc n2 L' M ∧ L'.map pr = stepP x y (L.map pr) ∧ L'.length ≤ L.length + 1 := by
  obtain ⟨U, hU⟩ := h.a
  obtain ⟨V, hV⟩ := h.b
  unfold cd stepP
  by_cases hy : y < 0 ∨ 1099511627776 < y
  · rw [if_pos hy, if_pos hy]
    refine (wSet_range w1 base wb mb n1 L U hU x y hy).mono ?_
    rintro e w2 ⟨rfl, rfl⟩
    exact ⟨rfl, L, h, rfl, by omega⟩
  · rw [if_neg hy, if_neg hy]
    obtain ⟨z, rfl⟩ := Int.eq_ofNat_of_zero_le (show 0 ≤ y by omega)
    refine (wSet_x w1 base wb mb n1 L U hU x z (by unfold maxT; omega) (.inr (by omega))).mono ?_
    rintro e w2 ⟨rfl, b, U2, h2, o2, x2, hbs⟩
    refine ⟨rfl, _, ⟨⟨U2, h2⟩, ⟨V, hU.aside hV h.nw h.nm h.dis x2⟩, h.nw, h.nm, fun t ht u hu => ?_, Below.trans h.low o2.low, TabAt.only h.tab o2 hb0⟩, ?_, ?_⟩
    · rcases List.mem_append.1 ht with q | q
      · exact h.dis t (List.mem_filter.1 q).1 u hu
      · rw [List.mem_singleton.1 q]
        obtain ⟨p, r, hu2⟩ := hV.tmAt hu
        have := (Array.getElem?_eq_some_iff.1 hu2).1
        show b ≠ u.blk
        omega
    · rw [List.map_append, filter_pr _ (fun _ => rfl)]
      rfl
    · rw [List.length_append]
      have := List.length_filter_le (fun u : Tm => decide (u.id ≠ x)) L
      simp only [List.length_singleton]
      omega
/-- Tick, of the first. -/
theorem Two.tick (h : Two w w1 base wb mb n1 wc mc n2 L M) (hb0 : 0 < base) (hl : L.length ≤ 200) (x : Nat) (h1 : n1 ≤ x) (h2 : x ≤ maxT) :
    Calls Tryd.prog 15 #[.pointer (some ⟨wb, 0, none⟩), .int .i64 (x : Int)] w1 fun e w2 => ∃ (D : List Tm) (v : Value), e = .returned (.tuple #[v, .int .i64 0]) ∧ Irow w2 w1.heap.size v D ∧ Srt tkI D ∧ Stb tkI D (L.filter fun t => decide (t.tk ≤ x)) ∧
      Two w w2 base wb mb x wc mc n2 (left x L) M ∧ Only base Zt w1 w2 := by
  obtain ⟨U, hU⟩ := h.a
  obtain ⟨V, hV⟩ := h.b
  refine (wTick_x w1 base wb mb n1 x L U ⟨hU, h1, h2, by omega⟩ h.tab hb0).mono ?_
  rintro e w2 ⟨D, v, U2, rfl, hi, hs, ht, hW, o2, x2⟩
  exact ⟨D, v, rfl, hi, hs, ht, ⟨⟨U2, hW⟩, ⟨V, hU.aside hV h.nw h.nm h.dis x2⟩, h.nw, h.nm, fun t ht u hu => h.dis t (List.mem_filter.1 ht).1 u hu, Below.trans h.low o2.low, TabAt.only h.tab o2 hb0⟩, o2⟩
end
/-- append(all, x...) -/
theorem run_iapps (w : World) (base b2 : Nat) (v u : Value) (l m : List Tm) (h : Irow w base v l) (hm : Irow w b2 u m) (hb : base ≤ w.heap.size) (hl : l.length + m.length ≤ 1000000) {ops : Array Oper} {rest : List Oper} {o : Oper} {a : Act} {Q : Exit → Act → World → Prop} (hgd : o.guard = none) (s x : Operand)
    (ho : o.op = .call { callee := .builtin .append, args := #[s, x], argTypes := #[38, 38] }) (hs : a.eval s = v) (hx : a.eval x = u)
    (hK : ∀ v5 w5, Irow w5 base v5 (l ++ m) → Only base Zi w w5 → wpList Tryd.prog ops Q rest (a.put o.dst v5) w5) : wpList Tryd.prog ops Q (o :: rest) a w := by
  refine wpList_appK _ hgd s x 38 ho 3 _ 1 8 Tryd.underlying38 infoIn rfl (by decide) base v _ l.length m.length _ _ hs hx h (RdK.of_own hm) (fun y hy => by obtain ⟨t, _, rfl⟩ := List.mem_map.1 hy; rfl) (by omega) (by unfold maxLen; omega) hb ?_
  intro v5 w5 ho5 hg5 _
  refine hK v5 w5 (by unfold Irow; rw [List.length_append, List.map_append]; exact ho5) (Only.grown hg5 (fun b e => ?_) hb)
  obtain ⟨cs, h1, h2⟩ := ownsRow_blk h e
  exact ⟨h2, fun o T ho' hT => by rw [h1] at ho'; cases ho'; cases hT; rfl⟩
theorem zi_w (b : Nat) : ¬ Zi b 68 := fun e => absurd (show 68 = 3 from e) (by decide)
theorem zi_t (b : Nat) : ¬ Zi b 70 := fun e => absurd (show 70 = 3 from e) (by decide)
theorem zi_m (b : Nat) : ¬ Zi b mapT := fun e => absurd (show mapT = 3 from e) (by decide)
theorem numsI_at {w : World} {A : Option Addr} {n c i : Nat} {l : List Int} (h : NumsI w (.slice A n c) l) (hi : i < n) :
    ∃ (b off : Nat) (y : Int), A = some ⟨b, off, none⟩ ∧ l[i]? = some y ∧ I64 y ∧ w.cell? ⟨b, off + i, none⟩ = some (.int .i64 y) := by
  obtain ⟨A', c', e, _, _, h3, h4⟩ := h
  injection e with e1 e2 e3
  have hl : i < l.length := by omega
  obtain ⟨b, off, hg, _, hc⟩ := h4 (by omega)
  have hx : l[i]? = some l[i] := List.getElem?_eq_getElem hl
  exact ⟨b, off, l[i], e1.trans hg, hx, h3 l[i] (List.getElem_mem hl), hc i _ hx⟩
end Go.Proofs.YtnoglbceaibjeaaDoor
