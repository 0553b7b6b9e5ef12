/- Contracts: up of the first n. -/
import Derived.Test.YtdgbieapgmjjhaaAgDn
import Derived.Test.YtdgbieapgmjjhaaAgPp
namespace Go.Proofs.Ytdgbieapgmjjhaa
set_option linter.unusedVariables false
set_option linter.unusedSimpArgs false
open Go.ChangeShapes Go.WideShapes Go.ChangeAt Go.RowKit

set_option maxHeartbeats 4000000 in
theorem upn_any (w : World) (base ab mb : Nat) (v : Value) (E : List En) (mo pu : Int) (h : Qu w base ab mb v E mo pu) (j n : Nat) (hj : j < n) (hnl : n ≤ E.length) (hn : E.length ≤ 100000) (hu : UpAt E n j) :
    Calls Try.prog 31 #[qI ab, .int .i64 (j : Int)] w fun e w' => e = .returned (.tuple #[]) ∧ ∃ E', Qu w' base ab mb v E' mo pu ∧ E'.Perm E ∧ Hp E' n ∧ Only base Zq w w' ∧ ∀ m, n ≤ m → pt E' m = pt E m := by
  have hm1 := m_less ab
  have hm2 := m_swap ab
  have H0 : Hid (j < n ∧ Qu w base ab mb v E mo pu ∧ UpAt E n j ∧ n ≤ E.length ∧ E.length ≤ 100000) := ⟨hj, h, hu, hnl, hn⟩
  have HN : Hid (n ≤ 100000) := Nat.le_trans hnl hn
  clear h hj hn hu hnl
  unfold qI
  go_enter Try.func31, Try.ntmps31
  go_wp2_with fail
  go_loopg [1] (2 * j) (fun gk s1 wr => ∃ (k : Nat) (E' : List En), gk = 2 * k ∧ s1 = .int .i64 (k : Int) ∧ Hid (k < n ∧ Qu wr base ab mb v E' mo pu ∧ E'.Perm E ∧ UpAt E' n k ∧ (n ≤ E'.length ∧ E'.length ≤ 100000 ∧ ∀ m, n ≤ m → pt E' m = pt E m) ∧ Only base Zq w wr))
  case atStart => exact ⟨j, E, rfl, rfl, H0.out.1, H0.out.2.1, List.Perm.refl _, H0.out.2.2.1, ⟨H0.out.2.2.2.1, H0.out.2.2.2.2, fun _ _ => rfl⟩, Only.refl _ _ _⟩
  case round =>
    obtain ⟨k, F, rfl, rfl, HR⟩ := hrel
    rename World => wa
    clear H0
    rcases Nat.eq_zero_or_pos k with hk | hk
    · subst hk
      go_wp2_with fail
      refine bodyPost_end (results_none rfl _ _ _) rfl ?_
      exact ⟨rfl, F, HR.out.2.1, HR.out.2.2.1, HR.out.2.2.2.1.done (.inl rfl), HR.out.2.2.2.2.2, HR.out.2.2.2.2.1.2.2⟩
    · obtain ⟨k1, hk1⟩ : ∃ k1, k1 = k - 1 := ⟨_, rfl⟩
      obtain ⟨p, hp⟩ : ∃ p, p = par k := ⟨_, rfl⟩
      have hpk : p < k := by rw [hp]; exact par_lt hk
      have hp2 : p = k1 / 2 := by rw [hp, hk1]; rfl
      have hkn : k ≤ 100000 := by have := HR.out.1; have := HN.out; omega
      have n1 : (k : Int) - 1 = (k1 : Int) := by omega
      have n2 : IntKind.i64.wrap (k1 : Int) = (k1 : Int) := IntWalk.i64_in _ (by omega)
      have n3 : IntKind.i64.wrap ((k : Int) - 1) = (k1 : Int) := by rw [n1]; exact n2
      have n4 : (k1 : Int).tdiv 2 = (p : Int) := by rw [Int.tdiv_eq_ediv_of_nonneg (by omega)]; omega
      have n5 : (k1 : Int) / 2 = (p : Int) := by omega
      have n6 : IntKind.i64.wrap (p : Int) = (p : Int) := IntWalk.i64_in _ (by omega)
      have q0 : ((p : Int) == (k : Int)) = false := by rw [beq_eq_false_iff_ne]; omega
      have q1 : ¬ ((p : Int) = (k : Int)) := by omega
      have q2 : ¬ (p = k) := by omega
      have c1 := less_any wa base ab mb v F mo pu HR.out.2.1 k p (by have := HR.out; omega) (by have := HR.out; omega) HR.out.2.2.2.2.1.2.1
      have HP : Hid (p = par k ∧ p < k ∧ 0 < k) := ⟨hp, hpk, hk⟩
      clear hk1 hp hpk hp2 hkn hk
      by_cases hl : ltE (pt F k) (pt F p)
      · rw [decide_eq_true hl] at c1
        have HL := Lib.hid hl
        clear hl
        go_wp2_with fail
        refine c1.mono ?_
        rintro e w2 ⟨rfl, g2⟩
        have H2 : Hid (Qu w2 base ab mb v F mo pu ∧ Only base Zq w w2) := ⟨HR.out.2.1.grow g2, HR.out.2.2.2.2.2.trans (Only.grow g2 HR.out.2.1.bas _)⟩
        have c2 := swap_any w2 base ab mb v F mo pu H2.out.1 p k HP.out.2.1 (by have := HR.out; omega) HR.out.2.2.2.2.1.2.1
        clear c1 g2
        go_wp2_with fail
        refine c2.mono ?_
        rintro e w3 ⟨rfl, h3, o3⟩
        have H3 := Lib.hid (And.intro h3 o3)
        clear c2 h3 o3
        go_wp2_with fail
        go_roundg (2 * p)
        case measure => have := HP.out; omega
        case rel =>
          refine ⟨p, sw F p k, rfl, rfl, by have := HP.out; have := HR.out; omega, H3.out.1, ?_, ?_, ⟨by rw [sw_len]; exact HR.out.2.2.2.2.1.1, by rw [sw_len]; exact HR.out.2.2.2.2.1.2.1, fun m hm => ?_⟩, H2.out.2.trans H3.out.2⟩
          · exact (sw_perm (by have := HP.out; have := HR.out; omega) (by have := HR.out; omega)).trans HR.out.2.2.1
          · have := HR.out.2.2.2.1.step (by have := HR.out; omega) HR.out.1 HP.out.2.2 (by rw [← HP.out.1]; exact HL.out)
            rw [← HP.out.1] at this
            exact this
          · rw [pt_sw (by have := HP.out; have := HR.out; omega) (by have := HR.out; omega), if_neg (by have := HR.out.1; omega), if_neg (by have := HP.out; have := HR.out.1; omega)]
            exact HR.out.2.2.2.2.1.2.2 m hm
      · rw [decide_eq_false hl] at c1
        have HL := Lib.hid hl
        clear hl
        go_wp2_with fail
        refine c1.mono ?_
        rintro e w2 ⟨rfl, g2⟩
        have H2 : Hid (Qu w2 base ab mb v F mo pu ∧ Only base Zq w w2) := ⟨HR.out.2.1.grow g2, HR.out.2.2.2.2.2.trans (Only.grow g2 HR.out.2.1.bas _)⟩
        clear c1 g2
        go_wp2_with fail
        refine bodyPost_end (results_none rfl _ _ _) rfl ?_
        exact ⟨rfl, F, H2.out.1, HR.out.2.2.1, HR.out.2.2.2.1.done (.inr (by rw [← HP.out.1]; exact HL.out)), H2.out.2, HR.out.2.2.2.2.1.2.2⟩
end Go.Proofs.Ytdgbieapgmjjhaa
