/- Contract: the reference's Pick. -/
import Derived.Test.YtkilfdhofbjkgaaPoRef7
namespace Go.Proofs.Ytkilfdhofbjkgaa
set_option linter.unusedVariables false
set_option linter.unusedSimpArgs false
open Go.ChangeShapes Go.WideShapes Go.ChangeAt Go.RowKit

theorem ports_at {t : Prt} {k : Nat} {x : Int} (h : (portsT t)[k]? = some x) : x = t.lo + (k : Int) ∧ (k : Int) ≤ t.hi - t.lo := by
  unfold portsT at h
  rw [List.getElem?_map] at h
  have hk : k < (t.hi - t.lo + 1).toNat := by
    rcases Nat.lt_or_ge k (t.hi - t.lo + 1).toNat with q | q
    · exact q
    · rw [List.getElem?_eq_none (by simpa using q)] at h
      simp at h
  rw [List.getElem?_range hk] at h
  simp at h
  exact ⟨h.symm, by omega⟩
theorem ports_get {t : Prt} {P : Int} (h1 : t.lo ≤ P) (h2 : P ≤ t.hi) : (portsT t)[(P - t.lo).toNat]? = some P := by
  unfold portsT
  rw [List.getElem?_map, List.getElem?_range (by omega)]
  simp
  omega
theorem find_fits {t : Prt} {a P : Int} {up : Bool} (h1 : t.lo ≤ P) (h2 : P ≤ t.hi) (hf : fits t a up P) (hno : ∀ p, t.lo ≤ p → p < P → ¬ fits t a up p) : (portsT t).find? (fun p => decide (fits t a up p)) = some P :=
  find_first (P := fun p => decide (fits t a up p)) (ports_get h1 h2) (decide_eq_true hf) fun j y hj hy => by
    obtain ⟨e, _⟩ := ports_at hy
    exact decide_eq_false (hno y (by omega) (by omega))
theorem find_nofits {t : Prt} {a : Int} {up : Bool} (hno : ∀ p, t.lo ≤ p → p ≤ t.hi → ¬ fits t a up p) : (portsT t).find? (fun p => decide (fits t a up p)) = none :=
  find_none (P := fun p => decide (fits t a up p)) fun j y hy => by
    obtain ⟨e, q⟩ := ports_at hy
    exact decide_eq_false (hno y (by omega) (by omega))
theorem pkS_up {t : Prt} {a P : Int} (h1 : t.lo ≤ P) (h2 : P ≤ t.hi) (hf : fits t a true P) (hno : ∀ p, t.lo ≤ p → p < P → ¬ fits t a true p) : pkS t a = some P := by
  unfold pkS
  rw [find_fits h1 h2 hf hno]
theorem pkS_dn {t : Prt} {a P : Int} (h0 : ∀ p, t.lo ≤ p → p ≤ t.hi → ¬ fits t a true p) (h1 : t.lo ≤ P) (h2 : P ≤ t.hi) (hf : fits t a false P) (hno : ∀ p, t.lo ≤ p → p < P → ¬ fits t a false p) : pkS t a = some P := by
  unfold pkS
  rw [find_nofits h0]
  exact find_fits h1 h2 hf hno
theorem pkS_none {t : Prt} {a : Int} (h0 : ∀ p, t.lo ≤ p → p ≤ t.hi → ¬ fits t a true p) (h1 : ∀ p, t.lo ≤ p → p ≤ t.hi → ¬ fits t a false p) : pkS t a = none := by
  unfold pkS
  rw [find_nofits h0]
  exact find_nofits h1
theorem wpList_load_tg (w : World) {ops : Array Oper} {rest : List Oper} {o : Oper} {a : Act} {Q : Exit → Act → World → Prop} (x : Operand) (ho : o.op = .load 32 x) (hw : Region.wanted o (yielded ops a.tmps) = true)
    (g : Nat) (lo hi la : Int) (vB vJ : Value) (hx : a.eval x = .pointer (some ⟨g, 0, none⟩)) (hb : TbB w g lo hi la vB vJ) (h : wpList Try.prog ops Q rest (a.put o.dst (.agg (tbA lo hi la vB vJ))) w) : wpList Try.prog ops Q (o :: rest) a w := by
  refine wpList_step fun _ hK => ?_
  rw [if_pos hw]
  unfold Oper.wp execOp
  simp only [ho, hx, Instr.loadAt, Instr.sureAddr, Sem.run_bind, Sem.run_pure, Result.andThen_ok, run_load_cs w g 0 _ (tbA lo hi la vB vJ) _ hb.at_ Try.underlying32 rfl sizeTb]
  exact hK _ _ h
/-- The boxes of Pick. -/
structure TwT (w W : World) (lo hi la : Int) (vB vJ : Value) : Prop where
  t : TbB W w.heap.size lo hi la vB vJ
  r : TbB W (w.heap.size + 1) 0 0 0 (.slice none 0 0) (.slice none 0 0)
  g : Grow w W
theorem twT (w : World) (lo hi la : Int) (vB vJ : Value) {W : World} (hW : W = (w.alloc (.cells (tbA lo hi la vB vJ) 32)).alloc (.cells (tbA 0 0 0 (.slice none 0 0) (.slice none 0 0)) 32)) : TwT w W lo hi la vB vJ := by
  subst hW
  have s1 : (w.alloc (.cells (tbA lo hi la vB vJ) 32)).heap.size = w.heap.size + 1 := Array.size_push _
  have h1 : TbB (w.alloc (.cells (tbA lo hi la vB vJ) 32)) w.heap.size lo hi la vB vJ := heap_alloc_new w _
  have h2 := heap_alloc_new (w.alloc (.cells (tbA lo hi la vB vJ) 32)) (.cells (tbA 0 0 0 (.slice none 0 0) (.slice none 0 0)) 32)
  rw [s1] at h2
  exact ⟨h1.grow (Grow.alloc _ _), h2, (Grow.alloc _ _).trans (Grow.alloc _ _)⟩
theorem TwT.grow {w W W' : World} {lo hi la : Int} {vB vJ : Value} (h : TwT w W lo hi la vB vJ) (g : Grow W W') : TwT w W' lo hi la vB vJ := ⟨h.t.grow g, h.r.grow g, h.g.trans g⟩
theorem TwT.set2 {w W : World} {lo hi la : Int} {vB vJ : Value} (h : TwT w W lo hi la vB vJ) (n : Int) : TwT w (W.setCell ⟨w.heap.size, 2, none⟩ (.int .i64 n)) lo hi n vB vJ :=
  ⟨h.t.set2 n, (Below.heap_setCell _ _ _ _ (by simp)).trans h.r, Below.setCell h.g (Nat.le_refl _) _⟩
set_option maxRecDepth 10000 in
set_option maxHeartbeats 4000000 in
theorem rPickT (w : World) (base : Nat) (hbase : base ≤ w.heap.size) (v : Value) (t : Prt) (h : RTb w base v t) (ok : TOk t) (a : Int) : Calls Try.prog 24 #[v, .int .u32 a] w fun e' w' => ∃ v', e' = .returned (.tuple #[v', .int .u16 (pkP t a), .int .i64 (pkE t a)]) ∧ RTb w' base v' (pkT t a) ∧ Grow w w' := by
  obtain ⟨vB, vJ, rfl, hB, hJ⟩ := h
  have hbl := ok.bl
  have o1 := ok.lo
  have o2 := ok.le
  have o3 := ok.hi
  obtain ⟨lo, hi, la, B, J⟩ := t
  simp only at hB hJ hbl o1 o2 o3
  obtain ⟨W, hW⟩ : ∃ W, W = (w.alloc (.cells (tbA lo hi la vB vJ) 32)).alloc (.cells (tbA 0 0 0 (.slice none 0 0) (.slice none 0 0)) 32) := ⟨_, rfl⟩
  have HT := Lib.hid (twT w lo hi la vB vJ hW)
  obtain ⟨RB, hRB⟩ : ∃ RB, RB = w.heap.size + 1 := ⟨_, rfl⟩
  have HRB := Lib.hid hRB
  have H1 := Lib.hid (fun n => tb_ones hB hJ lo hi n)
  have HR := Lib.hid (And.intro hB hJ)
  have HO := Lib.hid (And.intro o1 (And.intro o2 (And.intro o3 hbl)))
  clear hB hJ hbl o1 o2 o3 ok
  go_enter Try.func24, Try.ntmps24
  go_upto_region 1 with fail
  rw [← hW, ← hRB]
  have HW := Lib.hid hW
  clear hW hRB
  go_wp2_with fail
  go_loopg [7] 2 (fun gk s7 wr => ∃ r : Nat, gk = 2 - r ∧ s7 = .int .i64 (r : Int) ∧ Hid (r ≤ 2 ∧ Grow W wr ∧ (1 ≤ r → ∀ p, lo ≤ p → p ≤ hi → ¬ fits ⟨lo, hi, la, B, J⟩ a true p) ∧ (2 ≤ r → ∀ p, lo ≤ p → p ≤ hi → ¬ fits ⟨lo, hi, la, B, J⟩ a false p)))
  case atStart => exact ⟨0, rfl, rfl, by omega, Grow.refl _, fun h => by omega, fun h => by omega⟩
  case round =>
    obtain ⟨r, rfl, rfl, HL⟩ := hrel
    rename World => wo
    rcases Nat.lt_or_ge r 2 with hlt | hge
    · have i1 : (r : Int) < 2 := by omega
      have t0 := (HT.out.t.grow HL.out.2.1).c0
      obtain ⟨up, hup⟩ : ∃ up : Bool, ((r : Int) == 0) = up := ⟨_, rfl⟩
      have HUp := Lib.hid (And.intro hup hlt)
      clear hlt
      go_wp2_with fail
      go_loopg [8] (hi + 1 - lo).toNat (fun gk s8 wr => ∃ P : Int, gk = (hi + 1 - P).toNat ∧ s8 = .int .i64 P ∧ Hid (lo ≤ P ∧ P ≤ hi + 1 ∧ Grow W wr ∧ ∀ p, lo ≤ p → p < P → ¬ fits ⟨lo, hi, la, B, J⟩ a up p))
      case atStart => exact ⟨lo, rfl, rfl, Int.le_refl _, by have := HO.out.2.1; omega, HL.out.2.1, fun p h1 h2 => absurd h2 (by omega)⟩
      case round =>
        obtain ⟨P, rfl, rfl, HP⟩ := hrel
        rename World => wp
        clear t0
        have t1 := (HT.out.t.grow HP.out.2.2.1).c1
        have t2 := (HT.out.t.grow HP.out.2.2.1).c2
        have HTp := Lib.hid (HT.out.grow HP.out.2.2.1)
        by_cases hle : P ≤ hi
        · have d1 : decide (P ≤ hi) = true := decide_eq_true hle
          have hr : 1 ≤ P ∧ P ≤ 65535 := by have := HO.out; have := HP.out; omega
          have w1 : IntKind.u16.wrap P = P := by show P % 65536 = P; omega
          have w2 : IntKind.i64.wrap (P + 1) = P + 1 := IntWalk.i64_in _ (by omega)
          by_cases hq : decide (la < P) = up
          · have cT := rTakenT wp base lo hi la vB vJ B (HR.out.1.grow (HT.out.g.trans HP.out.2.2.1)) HO.out.2.2.2 ⟨a, P⟩
            have r1 : ((r : Int) == 0) = up := HUp.out.1
            have r3 : (up == up) = true := beq_self_eq_true _
            by_cases htk : takenT B ⟨a, P⟩
            · rw [decide_eq_true htk] at cT
              have HNo : Hid (¬ fits ⟨lo, hi, la, B, J⟩ a up P) := Lib.hid fun k => k.2 htk
              clear htk
              go_wp2_with (show wpList _ _ _ (⟨some 29, .load 32 (.tmp 2), _, _, _, _⟩ :: _) _ _; refine wpList_load_tg wp (.tmp 2) rfl (by go_simp) w.heap.size lo hi la vB vJ rfl HTp.out.t ?_)
              refine cT.mono ?_
              rintro e w5 ⟨rfl, g5⟩
              have HG := Lib.hid (HP.out.2.2.1.trans g5)
              clear cT g5 t1 t2
              go_wp2_with fail
              go_roundg (hi + 1 - (P + 1)).toNat
              case measure => have := HO.out; omega
              case rel => exact ⟨P + 1, rfl, rfl, by have := HP.out; omega, by omega, HG.out, fun p h1 h2 => by
                rcases Int.lt_or_le p P with k | k
                · exact HP.out.2.2.2 p h1 k
                · obtain rfl : p = P := by omega
                  exact HNo.out⟩
            · rw [decide_eq_false htk] at cT
              have HYes : Hid (fits ⟨lo, hi, la, B, J⟩ a up P) := ⟨hq, htk⟩
              clear htk
              go_wp2_with (show wpList _ _ _ (⟨some 29, .load 32 (.tmp 2), _, _, _, _⟩ :: _) _ _; refine wpList_load_tg wp (.tmp 2) rfl (by go_simp) w.heap.size lo hi la vB vJ rfl HTp.out.t ?_)
              refine cT.mono ?_
              rintro e w5 ⟨rfl, g5⟩
              have HT5 := Lib.hid (HTp.out.grow g5)
              clear cT g5 t1 t2
              have s0 := HT5.out.t.c2
              have s1 := HT5.out.t.fz 2
              go_upto_region 9 with fail
              obtain ⟨W3, hW3⟩ : ∃ W3, W3 = w5.setCell ⟨w.heap.size, 2, none⟩ (.int .i64 P) := ⟨_, rfl⟩
              rw [← hW3]
              have HT3 : Hid (TwT w W3 lo hi P vB vJ) := by rw [hW3]; exact HT5.out.set2 P
              have HRow : Hid (Bds W3 base vB B ∧ Jds W3 base vJ J) := by rw [hW3]; exact ⟨Bds.set_ (HR.out.1.grow HT5.out.g) HT5.out.t, Jds.set_ (HR.out.2.grow HT5.out.g) HT5.out.t⟩
              clear hW3 s0 s1
              have HE : Hid (pkS ⟨lo, hi, la, B, J⟩ a = some P) := by
                cases up with
                | true => exact pkS_up HP.out.1 hle HYes.out HP.out.2.2.2
                | false =>
                  have hr0 : 1 ≤ r := by
                    rcases Nat.eq_zero_or_pos r with k | k
                    · subst k; exact absurd r1 (by decide)
                    · exact k
                  exact pkS_dn (HL.out.2.2.1 hr0) HP.out.1 hle HYes.out HP.out.2.2.2
              go_wp2_with (first
    | (show wpList _ _ _ (⟨some 39, .load 32 (.tmp 2), _, _, _, _⟩ :: _) _ _; refine wpList_load_t W3 rfl _ rfl w.heap.size lo hi P vB vJ rfl HT3.out.t ?_)
    | (show wpList _ _ _ (⟨none, .store 32 (.tmp 4) (.tmp 39), _, _, _, _⟩ :: _) _ _; refine wpList_store_t w W3 rfl _ _ rfl rfl RB lo hi P 0 0 0 vB vJ (.slice none 0 0) (.slice none 0 0) rfl rfl (by rw [HRB.out]; exact HT3.out.r) (H1.out P) HT3.out.g (by have := HRB.out; omega) ?_; intro w9 hb9 hk9 hg9; have H2 := Lib.hid (And.intro hb9 (And.intro hk9 hg9)); clear hb9 hk9 hg9))
              refine bodyPost_ret (results_t3 rfl _ _ RB lo hi P vB vJ _ _ rfl rfl rfl H2.out.1) rfl ?_
              have hR9 := TbB.lt HT3.out.r
              refine ⟨_, by rw [show pkP ⟨lo, hi, la, B, J⟩ a = P by unfold pkP; rw [HE.out], show pkE ⟨lo, hi, la, B, J⟩ a = 0 by unfold pkE; rw [HE.out]]; rfl, ?_, H2.out.2.2⟩
              rw [show pkT ⟨lo, hi, la, B, J⟩ a = ⟨lo, hi, P, B, J⟩ by unfold pkT; rw [HE.out]]
              exact ⟨vB, vJ, rfl, Bds.but_ HRow.out.1 (by rw [HRB.out]; exact HT3.out.r) H2.out.2.1, Jds.but_ HRow.out.2 (by rw [HRB.out]; exact HT3.out.r) H2.out.2.1⟩
          · have r1 : ((r : Int) == 0) = up := HUp.out.1
            have r3 : (decide (la < P) == up) = false := beq_eq_false_iff_ne.2 hq
            have HNo : Hid (¬ fits ⟨lo, hi, la, B, J⟩ a up P) := Lib.hid fun k => hq k.1
            have HG := Lib.hid HP.out.2.2.1
            clear hq
            go_wp2_with fail
            go_roundg (hi + 1 - (P + 1)).toNat
            case measure => have := HO.out; omega
            case rel => exact ⟨P + 1, rfl, rfl, by have := HP.out; omega, by omega, HG.out, fun p h1 h2 => by
              rcases Int.lt_or_le p P with k | k
              · exact HP.out.2.2.2 p h1 k
              · obtain rfl : p = P := by omega
                exact HNo.out⟩
        · have d1 : decide (P ≤ hi) = false := decide_eq_false hle
          have HNo := Lib.hid HP.out.2.2.2
          have HG := Lib.hid HP.out.2.2.1
          have hPe : P = hi + 1 := by have := HP.out.2.1; omega
          have HPe := Lib.hid hPe
          have wr1 : IntKind.i64.wrap ((r : Int) + 1) = (r : Int) + 1 := IntWalk.i64_in _ (by have := HUp.out.2; omega)
          clear hPe
          go_wp2_with fail
          go_roundg (2 - (r + 1))
          case measure => have := HUp.out.2; omega
          case rel => exact ⟨r + 1, rfl, by go_num, by have := HUp.out.2; omega, HG.out, fun h p h1 h2 => by
            rcases Nat.eq_zero_or_pos r with k | k
            · subst k
              have e := HUp.out.1
              have e' : up = true := e.symm
              subst e'
              exact HNo.out p h1 (by have := HPe.out; omega)
            · exact HL.out.2.2.1 k p h1 h2, fun h p h1 h2 => by
            have k : r = 1 := by have := HUp.out.2; omega
            subst k
            have e' : up = false := HUp.out.1.symm
            subst e'
            exact HNo.out p h1 (by have := HPe.out; omega)⟩
    · obtain rfl : r = 2 := by have := HL.out.1; omega
      have HE : Hid (pkS ⟨lo, hi, la, B, J⟩ a = none) := pkS_none (HL.out.2.2.1 (by omega)) (HL.out.2.2.2 (Nat.le_refl _))
      have HT3 := Lib.hid (HT.out.grow HL.out.2.1)
      obtain ⟨W3, hW3⟩ : ∃ W3, W3 = wo := ⟨_, rfl⟩
      subst hW3
      go_wp2_with (first
    | (show wpList _ _ _ (⟨some 42, .load 32 (.tmp 2), _, _, _, _⟩ :: _) _ _; refine wpList_load_t W3 rfl _ rfl w.heap.size lo hi la vB vJ rfl HT3.out.t ?_)
    | (show wpList _ _ _ (⟨none, .store 32 (.tmp 4) (.tmp 42), _, _, _, _⟩ :: _) _ _; refine wpList_store_t w W3 rfl _ _ rfl rfl RB lo hi la 0 0 0 vB vJ (.slice none 0 0) (.slice none 0 0) rfl rfl (by rw [HRB.out]; exact HT3.out.r) (H1.out la) HT3.out.g (by have := HRB.out; omega) ?_; intro w9 hb9 hk9 hg9; have H2 := Lib.hid (And.intro hb9 (And.intro hk9 hg9)); clear hb9 hk9 hg9))
      refine bodyPost_ret (results_t3 rfl _ _ RB lo hi la vB vJ _ _ rfl rfl rfl H2.out.1) rfl ?_
      refine ⟨_, by rw [show pkP ⟨lo, hi, la, B, J⟩ a = 0 by unfold pkP; rw [HE.out], show pkE ⟨lo, hi, la, B, J⟩ a = 5 by unfold pkE; rw [HE.out]]; rfl, ?_, H2.out.2.2⟩
      rw [show pkT ⟨lo, hi, la, B, J⟩ a = ⟨lo, hi, la, B, J⟩ by unfold pkT; rw [HE.out]]
      exact ⟨vB, vJ, rfl, HR.out.1.grow H2.out.2.2, HR.out.2.grow H2.out.2.2⟩
end Go.Proofs.Ytkilfdhofbjkgaa
