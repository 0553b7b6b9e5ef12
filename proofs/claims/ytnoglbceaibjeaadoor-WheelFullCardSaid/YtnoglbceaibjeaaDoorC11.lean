/- WheelFull: its walk. -/
import Derived.Test.YtnoglbceaibjeaaDoorC09
import Derived.Test.YtnoglbceaibjeaaDoorRows
import Derived.Test.YtnoglbceaibjeaaDoorCards
import Derived.Test.YtnoglbceaibjeaaDoorTie
import Derived.Test.YtnoglbceaibjeaaDoorC01
import Derived.ProofKit
import Derived.OpenShut
import Derived.ShutString
import Derived.ChangeOld
import Derived.SizedLaws
import Derived.LaidMore
import Derived.Stop.Joined
import Derived.SevenTiedAt
import Derived.Deep.SlicePairs
namespace Go.Proofs.YtnoglbceaibjeaaDoor
set_option linter.unusedVariables false
set_option linter.unusedSimpArgs false
open Go.ChangeShapes Go.WideShapes Go.ChangeAt Go.RowKit Go.Shelf

/-- The timers 0 .. m - 1. -/
def Rng (L : List Tm) (m : Nat) : Prop := L.length = m ∧ ∀ t ∈ L, 0 ≤ t.id ∧ t.id < (m : Int)
theorem Rng.more {L : List Tm} {m : Nat} (h : Rng L m) (y b : Nat) : Rng ((L.filter fun u => decide (u.id ≠ (m : Int))) ++ [⟨(m : Int), y, b⟩]) (m + 1) := by
  have e : L.filter (fun u => decide (u.id ≠ (m : Int))) = L := List.filter_eq_self.2 fun u hu => decide_eq_true (by have := (h.2 u hu).2; omega)
  rw [e]
  refine ⟨by rw [List.length_append, h.1]; rfl, fun t ht => ?_⟩
  rcases List.mem_append.1 ht with q | q
  · have := h.2 t q
    omega
  · rw [List.mem_singleton.1 q]
    show (0 : Int) ≤ (m : Int) ∧ (m : Int) < _
    omega
theorem filter_len {L : List Tm} (hn : (L.map Tm.id).Nodup) {t : Tm} (ht : t ∈ L) : (L.filter fun u => decide (u.id ≠ t.id)).length = L.length - 1 := by
  obtain ⟨j, hj⟩ := List.getElem?_of_mem ht
  rw [← erase_filter hn hj, List.length_eraseIdx_of_lt (List.getElem?_eq_some_iff.1 hj).1]
structure FullAt (w w' : World) (base wb mb : Nat) (i : Nat) : Prop where
  st : ∃ L U, Wst w' base wb mb 0 L U ∧ Rng L (min i 4096) ∧ (0 < i → ∃ t ∈ L, t.id = 0)
  gr : Below base w w'
set_option maxRecDepth 100000 in
set_option maxHeartbeats 4000000 in
theorem wheelFull_walk (w : World) (n : Int) (hn : 0 ≤ n ∧ n ≤ 65535) (a : Int) (ha : 0 ≤ a ∧ a ≤ 65535) (hB : DbB w) : Calls Tryd.prog 5 #[.int .u16 n, .int .u16 a] w fun e w' => e = .returned (.bool true) ∧ Below w.heap.size w w' := by
  obtain ⟨M, rfl⟩ := Int.eq_ofNat_of_zero_le hn.1
  obtain ⟨y, rfl⟩ := Int.eq_ofNat_of_zero_le ha.1
  obtain ⟨k, hk⟩ : ∃ k, k = M % 4200 := ⟨_, rfl⟩
  have HK : Hid (k < 4200 ∧ y ≤ maxT) := ⟨by omega, by unfold maxT; omega⟩
  have e1 : (M : Int).tmod 4200 = (k : Int) := by rw [Int.tmod_eq_emod_of_nonneg (by omega)]; omega
  have e2 : (M : Int) % 4200 = (k : Int) := by omega
  have HY : Hid ((y : Int) ≤ 65535 ∧ (M : Int) ≤ 65535) := ⟨ha.2, hn.2⟩
  have HC := Lib.hid (fun x w => wcode_any x w)
  have HB := Lib.hid hB
  have c0 := wNew_any w w.heap.size (Nat.le_refl _) 0 (by unfold maxT; omega)
  have hn2 := hn.2
  have ha2 := ha.2
  clear hk hn ha hB
  go_enter Tryd.func5, Tryd.ntmps5
  go_wp2_with fail
  refine c0.mono ?_
  rintro e w1 ⟨rfl, h1, g1⟩
  have H1 : Hid (FullAt w w1 w.heap.size (w.heap.size + 1) w.heap.size 0) := ⟨⟨[], _, h1, ⟨rfl, fun t ht => by cases ht⟩, fun h => absurd h (Nat.lt_irrefl _)⟩, g1⟩
  clear c0 h1 g1
  go_wp2_with fail
  refine (HC.out _ _).mono ?_
  rintro e w' ⟨rfl, hw⟩
  subst w'
  go_wp2_with fail
  clear e1 e2 hn2
  go_loopg [8] k (fun gk s8 wr => ∃ i : Nat, gk = k - i ∧ s8 = .int .i64 (i : Int) ∧ Hid (i ≤ k ∧ FullAt w wr w.heap.size (w.heap.size + 1) w.heap.size i))
  case atStart => exact ⟨0, rfl, rfl, Nat.zero_le _, H1.out⟩
  case round =>
    obtain ⟨i, rfl, rfl, HR⟩ := hrel
    rcases Nat.lt_or_ge i k with hlt | hge
    · obtain ⟨L, U, h1, h2, h3⟩ := HR.out.2.st
      have hg := HR.out.2.gr
      have i0 : (i : Int) < (k : Int) := by omega
      obtain ⟨i1, hi1⟩ : ∃ i1, i1 = i + 1 := ⟨_, rfl⟩
      have hkk := HK.out.1
      have n1 : (i : Int) + 1 = (i1 : Int) := by omega
      have n2 : IntKind.i64.wrap (i1 : Int) = (i1 : Int) := IntWalk.i64_in _ (by omega)
      have n3 : IntKind.i64.wrap ((i : Int) + 1) = (i1 : Int) := by rw [n1]; exact n2
      have HI : Hid (i1 = i + 1 ∧ i < k) := ⟨hi1, hlt⟩
      have hit : i ≤ maxT := by unfold maxT; omega
      clear hkk hlt hi1
      rcases Nat.lt_or_ge i 4096 with hs | hs
      · have em : min i 4096 = i := Nat.min_eq_left (by omega)
        rw [em] at h2
        have c1 := wSet_ok wr _ _ _ _ _ _ h1 (i : Int) i hit (.inr (by rw [h2.1]; omega))
        have d1 : decide ((4096 : Int) ≤ (i : Int)) = false := decide_eq_false (by omega)
        have d2 : decide ((i : Int) < 4096) = true := decide_eq_true (by omega)
        have HS : Hid (i < 4096 ∧ Rng L i) := ⟨hs, h2⟩
        clear hs em hit
        go_wp2_with fail
        refine c1.mono ?_
        rintro e w2 ⟨rfl, b, U2, h4, o4⟩
        have H4 : Hid (FullAt w w2 w.heap.size (w.heap.size + 1) w.heap.size i1) := by
          refine ⟨⟨_, U2, h4, ?_, fun _ => ?_⟩, Below.trans hg o4.low⟩
          · rw [HI.out.1, Nat.min_eq_left (by have := HS.out.1; omega)]
            exact HS.out.2.more i b
          · by_cases hi0 : i = 0
            · exact ⟨⟨(i : Int), i, b⟩, by simp, by rw [hi0]; rfl⟩
            · obtain ⟨t, ht, he⟩ := h3 (by omega)
              exact ⟨t, List.mem_append_left _ (List.mem_filter.2 ⟨ht, decide_eq_true (by omega)⟩), he⟩
        clear c1 h1 h2 h3 hg h4 o4
        go_wp2_with (go_at_call 10; refine (HC.out _ _).mono ?_; rintro e w' ⟨rfl, hw⟩; subst w')
        go_roundg (k - i1)
        case measure => have := HI.out; omega
        case rel => exact ⟨i1, rfl, rfl, by have := HI.out; omega, H4.out⟩
      · have em : min i 4096 = 4096 := Nat.min_eq_right hs
        rw [em] at h2
        have c1 := wSet_full wr _ _ _ _ _ _ h1 (i : Int) (i : Int) (by omega) (by unfold maxT at hit; omega) (fun t ht e => by have := (h2.2 t ht).2; omega) h2.1
        have d1 : decide ((4096 : Int) ≤ (i : Int)) = true := decide_eq_true (by omega)
        have d2 : decide ((i : Int) < 4096) = false := decide_eq_false (by omega)
        have H4 : Hid (FullAt w wr w.heap.size (w.heap.size + 1) w.heap.size i1) := by
          refine ⟨⟨L, U, h1, ?_, fun _ => h3 (by omega)⟩, hg⟩
          rw [HI.out.1, Nat.min_eq_right (by omega)]
          exact h2
        clear hs em hit h1 h2 h3 hg
        go_wp2_with fail
        refine c1.mono ?_
        rintro e w2 ⟨rfl, hw⟩
        subst w2
        clear c1
        go_wp2_with (go_at_call 10; refine (HC.out _ _).mono ?_; rintro e w' ⟨rfl, hw⟩; subst w')
        go_roundg (k - i1)
        case measure => have := HI.out; omega
        case rel => exact ⟨i1, rfl, rfl, by have := HI.out; omega, H4.out⟩
    · obtain rfl : i = k := by have := HR.out.1; omega
      obtain ⟨L, U, h1, h2, h3⟩ := HR.out.2.st
      have hg := HR.out.2.gr
      have c1 := wSet_ok wr _ _ _ _ _ _ h1 0 y HK.out.2 (by
        rcases Nat.eq_zero_or_pos i with q | q
        · right; rw [h2.1]; omega
        · left; exact h3 q)
      obtain ⟨m, hm⟩ : ∃ m, m = min (max i 1) 4096 := ⟨_, rfl⟩
      have HL : Hid (∀ b : Nat, ((L.filter fun u : Tm => decide (u.id ≠ 0)) ++ [(⟨0, y, b⟩ : Tm)]).length = m) := by
        intro b
        rw [List.length_append, hm]
        show _ + 1 = _
        rcases Nat.eq_zero_or_pos i with q | q
        · have e : L = [] := List.eq_nil_of_length_eq_zero (by rw [h2.1]; omega)
          rw [e, q]
          rfl
        · obtain ⟨t, ht, he⟩ := h3 q
          have := filter_len h1.nod ht
          rw [he] at this
          rw [this, h2.1]
          omega
      have f1 : max (i : Int) 1 = ((max i 1 : Nat) : Int) := by omega
      have HM : Hid (m = min (max i 1) 4096) := hm
      have f2 : min ((max i 1 : Nat) : Int) 4096 = (m : Int) := by omega
      have f3 : min (max (i : Int) 1) 4096 = (m : Int) := by rw [f1]; exact f2
      have HF := Lib.hid (And.intro f1 (And.intro f2 f3))
      clear hm h2 h3 f1 f2 f3
      go_wp2_with fail
      refine c1.mono ?_
      rintro e w2 ⟨rfl, b, U2, h4, o4⟩
      have c2 := wLen_any w2 _ _ _ _ _ _ h4
      rw [HL.out b] at c2
      have HG := Lib.hid (show Below w.heap.size w w2 from Below.trans hg o4.low)
      clear c1 h1 hg h4 o4
      go_wp2_with fail
      refine (HC.out _ _).mono ?_
      rintro e w' ⟨rfl, hw⟩
      subst w'
      go_wp2_with fail
      refine c2.mono ?_
      rintro e w' ⟨rfl, hw⟩
      subst w'
      clear c2
      obtain ⟨f1, f2, f3⟩ := HF.out
      go_wp2_with fail
      refine (wlive_any _ (HB.out.grow HG.out)).mono ?_
      rintro e w3 ⟨rfl, g3⟩
      have H3 := Lib.hid g3
      clear g3
      go_wp2_with fail
      go_ret
      exact ⟨rfl, Below.trans HG.out (H3.out.mono HG.out.size)⟩
end Go.Proofs.YtnoglbceaibjeaaDoor
/- WheelFull: for every input the law returns true, and each argument reads behind the call as it read before; what the listed package-level variables hold is tied to the text of the program. No condition. -/
namespace Go.Proofs.YtnoglbceaibjeaaDoor.wheelFull
open Go.ChangeShapes Go.WideShapes Go.ChangeAt Go.RowKit
open Go.ChangeMaps (open_string shut_string)
set_option linter.unusedVariables false

theorem own : ownKnob Tryd.prog.godebug = none := by kernel_rfl
theorem laidOut : laidOutB Tryd.prog = true := by kernel_rfl

set_option maxRecDepth 100000 in
theorem lifted (os : Os) (started : os.Started) (H : Type) (enc : TypeId × Value → H) :
    ReturnsInHanded {} Tryd.checked os 5 .any (fun w args => (Rows.wheelFullSpec.pre enc Tryd.prog Tryd.f5 [] false w args ∧ laidMetH Tryd.prog laid4 w) ∧ sizedMet enc Tryd.prog Tryd.f5 (OpenSpec.ofChange Rows.wheelFullSpec) false w args)
      (Rows.wheelFullSpec.post enc Tryd.prog Tryd.f5 false true false false) := by
  refine returnsInHanded_of_change_and (C := Tryd.checked) (X := fun w _ => laidMetH Tryd.prog laid4 w) (fun _ _ _ hh h => h.of_heap hh) own started (by kernel_rfl) Tryd.func5
    (ChangeSpec.witness_shaped (enc := enc) (C := Tryd.checked) (os := os) (X := fun w _ => laidMetH Tryd.prog laid4 w) false (World.doorLaid Tryd.prog 14 os) #[.int .u16 0, .int .u16 0] 8 rfl (World.shaped_of_RefB (by kernel_rfl) (by kernel_rfl)) (by kernel_rfl) (by kernel_rfl) (by kernel_rfl) (door_met os _)) ?_
  intro W base args ds gs before hval0 hW _ hsz0 hL _
  have hsz : (DataW.weightsEach Tryd.prog (Tryd.f5.params.toList ++ Rows.wheelFullSpec.plain.varTypes Tryd.prog) (ds ++ gs)).all (· ≤ reachBytes) = true := hsz0
  have hval : ∀ (j : Nat) t v, Tryd.f5.params[j]? = some t → args[j]? = some v → Value.okWide Tryd.prog W .any base t v := hval0
  have hW' := hW
  obtain ⟨p, q, hA0, hV, rfl, hfz, hnd⟩ := hW
  have hA : DataW.TrodAll enc Tryd.prog W 0 (fun _ => true) true Tryd.f5.params.toList args.toList ds p := hA0
  rw [Tryd.params5] at hA hval hsz
  obtain ⟨v0, vs0, d0, ds0, p0, q0, hargs, rfl, rfl, h0, r0⟩ := trodAll_cons hA
  obtain ⟨v1, vs1, d1, ds1, p1, q1, rfl, rfl, rfl, h1, r1⟩ := trodAll_cons r0
  obtain ⟨rfl, rfl, rfl⟩ := trodAll_nil r1
  obtain rfl : args = #[v0, v1] := by cases args; simp_all
  obtain ⟨rfl, rfl⟩ := trodVars_none hV
  have hB := base_of_laid hL
  obtain ⟨a0, rfl, rfl, rfl, w0⟩ := open_int Tryd.underlying52 (hval 0 52 v0 rfl rfl) h0
  have z0 := bounds_u16 w0
  obtain ⟨a1, rfl, rfl, rfl, w1⟩ := open_int Tryd.underlying52 (hval 1 52 v1 rfl rfl) h1
  have z1 := bounds_u16 w1
  clear hA0 hval0
  refine (wheelFull_walk W a0 z0 a1 z1 hB).mono fun e W' ⟨he, bel⟩ => ?_
  subst he
  exact ⟨_, rfl, _, _, _, [], _, [], hW', trodAll_mk1 (shut_bool Tryd.underlying4 _), (trodAll_cons_mk (shut_int Tryd.underlying52 w0) (trodAll_cons_mk (shut_int Tryd.underlying52 w1) trodAll_mk0)), rfl, Below.frame bel _, fun h => by cases h⟩

theorem over : Rows.wheelFullRow.holds Tryd.pinned (OpenSpec.ofChange Rows.wheelFullSpec) :=
  OpenClaim.holds_of_wide 5 Tryd.f5 rfl rfl rfl rfl rfl rfl rfl ⟨rfl, rfl, rfl, rfl, rfl⟩ rfl rfl rfl rfl rfl (by kernel_rfl) Tryd.func5 (by kernel_rfl)
    (of_decide_eq_true (by kernel_rfl)) (by unfold Func.isWrapper; first | (rw [if_pos (by decide +kernel)]; kernel_rfl) | (rw [if_neg (by decide +kernel)]; exact ⟨rfl, rfl⟩))
    (fun os started H enc _ => lifted os started H enc)

/-- The statement. -/
theorem proved : Rows.WheelFullCardSaid :=
  Claim7.holds_tied_plain_at .later [] [.data] true Rows.wheelFullCard.stood.harness Rows.wheelFullCard.stood.looks
    over (fun _ h => by cases h) (by kernel_rfl) (fun _ h => by cases h) wheelFull_row_tie rfl ⟨rfl, rfl⟩ (by kernel_rfl) rfl
    (fun g fn hf hfn => by
      obtain rfl : g = 5 := Option.some.inj ((show Tryd.prog.funcNamed Rows.wheelFullRow.func = some 5 by kernel_rfl).symm.trans hf) |>.symm
      obtain rfl : fn = Tryd.f5 := (Option.some.inj (Tryd.func5.symm.trans hfn)).symm
      exact ⟨by kernel_rfl, fun j t ht => by
        rw [Tryd.params5] at ht
        have hm : t ∈ [52, 52] := by simpa using Array.mem_of_getElem? ht
        have hall : ([52, 52].all fun u => !Tryd.prog.wantsStandIn u) = true := by kernel_rfl
        exact (show Tryd.prog.wantsStandIn t = false by simpa using List.all_eq_true.1 hall t hm)⟩)
    (by kernel_rfl)
#print axioms proved
end Go.Proofs.YtnoglbceaibjeaaDoor.wheelFull
