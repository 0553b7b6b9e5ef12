/- Contract: container/heap's down, on an agenda's queue. -/
import Derived.Test.YtdgbieapgmjjhaaAgUp
namespace Go.Proofs.Ytdgbieapgmjjhaa
set_option linter.unusedVariables false
set_option linter.unusedSimpArgs false
open Go.ChangeShapes Go.WideShapes Go.ChangeAt Go.RowKit

/-- What down leaves. -/
def DnPost (w : World) (base ab mb : Nat) (v : Value) (E : List En) (mo pu : Int) (i0 n : Nat) (e : Ending) (w' : World) : Prop := ∃ (b : Bool) (E' : List En), e = .returned (.bool b) ∧ Qu w' base ab mb v E' mo pu ∧ Only base Zq w w' ∧ E'.Perm E ∧ (∀ m, n ≤ m → pt E' m = pt E m) ∧ True ∧
  (b = true → Hp E' n) ∧ (b = false → E' = E ∧ ∀ m, 0 < m → m < n → par m = i0 → ¬ ltE (pt E m) (pt E i0))
set_option maxHeartbeats 8000000 in
theorem down_any (w : World) (base ab mb : Nat) (v : Value) (E : List En) (mo pu : Int) (h : Qu w base ab mb v E mo pu) (i0 n : Nat) (hi : i0 ≤ 100000) (hnl : n ≤ E.length) (hn : E.length ≤ 100000) (hd : DnAt E n i0) :
    Calls Try.prog 32 #[qI ab, .int .i64 (i0 : Int), .int .i64 (n : Int)] w fun e w' => DnPost w base ab mb v E mo pu i0 n e w' := by
  have hm1 := m_less ab
  have hm2 := m_swap ab
  have H0 : Hid (Qu w base ab mb v E mo pu ∧ DnAt E n i0 ∧ n ≤ E.length ∧ E.length ≤ 100000 ∧ i0 ≤ 100000) := ⟨h, hd, hnl, hn, hi⟩
  clear h hi hnl hn hd
  unfold qI
  go_enter Try.func32, Try.ntmps32
  go_wp2_with fail
  go_loopg [7] (n - i0) (fun gk s7 wr => ∃ (k : Nat) (F : List En), gk = n - k ∧ s7 = .int .i64 (k : Int) ∧ Hid (Qu wr base ab mb v F mo pu ∧ F.Perm E ∧ (∀ m, n ≤ m → pt F m = pt E m) ∧ DnAt F n k ∧ Only base Zq w wr ∧ ((k = i0 ∧ F = E) ∨ (i0 < k ∧ ¬ ltE (pt F k) (pt F (par k)))) ∧ n ≤ F.length ∧ F.length ≤ 100000 ∧ k ≤ 100000))
  case atStart => exact ⟨i0, E, rfl, rfl, H0.out.1, List.Perm.refl _, fun _ _ => rfl, H0.out.2.1, Only.refl _ _ _, .inl ⟨rfl, rfl⟩, H0.out.2.2⟩
  case round =>
    obtain ⟨k, F, rfl, rfl, HR0⟩ := hrel
    rename World => wa
    clear H0
    have HR : Hid (Qu wa base ab mb v F mo pu ∧ F.Perm E ∧ (∀ m, n ≤ m → pt F m = pt E m) ∧ DnAt F n k ∧ True ∧ ((k = i0 ∧ F = E) ∨ (i0 < k ∧ ¬ ltE (pt F k) (pt F (par k)))) ∧ Only base Zq w wa) := ⟨HR0.out.1, HR0.out.2.1, HR0.out.2.2.1, HR0.out.2.2.2.1, trivial, HR0.out.2.2.2.2.2.1, HR0.out.2.2.2.2.1⟩
    have HS : Hid (n ≤ F.length ∧ F.length ≤ 100000) := ⟨HR0.out.2.2.2.2.2.2.1, HR0.out.2.2.2.2.2.2.2.1⟩
    have hk5 : k ≤ 100000 := HR0.out.2.2.2.2.2.2.2.2
    obtain ⟨k2, hk2⟩ : ∃ k2, k2 = 2 * k := ⟨_, rfl⟩
    obtain ⟨j1, hj1⟩ : ∃ j1, j1 = k2 + 1 := ⟨_, rfl⟩
    obtain ⟨j2, hj2⟩ : ∃ j2, j2 = j1 + 1 := ⟨_, rfl⟩
    have n1 : 2 * (k : Int) = (k2 : Int) := by omega
    have n2 : IntKind.i64.wrap (k2 : Int) = (k2 : Int) := IntWalk.i64_in _ (by omega)
    have n3 : IntKind.i64.wrap (2 * (k : Int)) = (k2 : Int) := by rw [n1]; exact n2
    have n4 : (k2 : Int) + 1 = (j1 : Int) := by omega
    have n5 : IntKind.i64.wrap (j1 : Int) = (j1 : Int) := IntWalk.i64_in _ (by omega)
    have n6 : IntKind.i64.wrap ((k2 : Int) + 1) = (j1 : Int) := by rw [n4]; exact n5
    have n7 : (j1 : Int) + 1 = (j2 : Int) := by omega
    have n8 : IntKind.i64.wrap (j2 : Int) = (j2 : Int) := IntWalk.i64_in _ (by omega)
    have n9 : IntKind.i64.wrap ((j1 : Int) + 1) = (j2 : Int) := by rw [n7]; exact n8
    have HJ : Hid (j1 = 2 * k + 1 ∧ j2 = 2 * k + 2) := ⟨by omega, by omega⟩
    clear HR0 hk2 hj1 hj2
    have u0 : ¬ ((j1 : Int) < 0) := by omega
    rcases Nat.lt_or_ge j1 n with h1 | h1
    · have u1 : ¬ ((n : Int) ≤ (j1 : Int)) := by omega
      have u1' : ¬ (n ≤ j1) := by omega
      rcases Nat.lt_or_ge j2 n with h2 | h2
      · have u2 : (j2 : Int) < (n : Int) := by omega
        have u2' : j2 < n := h2
        have c1 := less_any wa base ab mb v F mo pu HR.out.1 j2 j1 (by have := HS.out; omega) (by have := HS.out; omega) HS.out.2
        by_cases hl : ltE (pt F j2) (pt F j1)
        · have HK : Hid (Kid F n k j2) := ⟨by have := HJ.out; omega, h2, (kids (by have := HJ.out; omega)).2 (.inr HJ.out.2), fun m m0 mn mp => by
            rcases (kids m0).1 mp with a | a
            · rw [a, ← HJ.out.1]; exact ltE_asymm hl
            · rw [a, ← HJ.out.2]; exact fun q => ltE_asymm q q⟩
          rw [decide_eq_true hl] at c1
          clear hl h1 h2
          go_wp2_with fail
          refine c1.mono ?_
          rintro e wB ⟨rfl, g2⟩
          have HB : Hid (Qu wB base ab mb v F mo pu ∧ Only base Zq w wB) := ⟨HR.out.1.grow g2, HR.out.2.2.2.2.2.2.trans (Only.grow g2 HR.out.1.bas _)⟩
          clear c1 g2
          have c2 := less_any wB base ab mb v F mo pu HB.out.1 j2 k (by have := HK.out; have := HS.out; obtain ⟨a1, a2, a3, a4⟩ := HK.out; omega) (by obtain ⟨a1, a2, a3, a4⟩ := HK.out; have := par_lt a1; have := HS.out; omega) HS.out.2
          by_cases hl : ltE (pt F j2) (pt F k)
          · rw [decide_eq_true hl] at c2
            have HL := Lib.hid hl
            clear hl
            go_wp2_with fail
            refine c2.mono ?_
            rintro e w5 ⟨rfl, g5⟩
            have H5 : Hid (Qu w5 base ab mb v F mo pu ∧ Only base Zq w w5) := ⟨HB.out.1.grow g5, HB.out.2.trans (Only.grow g5 HB.out.1.bas _)⟩
            have c3 := swap_any w5 base ab mb v F mo pu H5.out.1 k j2 (by obtain ⟨a1, a2, a3, a4⟩ := HK.out; have := par_lt a1; omega) (by obtain ⟨a1, a2, a3, a4⟩ := HK.out; have := HS.out; omega) HS.out.2
            clear c2 g5
            go_wp2_with fail
            refine c3.mono ?_
            rintro e w6 ⟨rfl, h6, o6⟩
            have H6 := Lib.hid (And.intro h6 o6)
            clear c3 h6 o6
            go_wp2_with fail
            go_roundg (n - j2)
            case measure => obtain ⟨a1, a2, a3, a4⟩ := HK.out; have := par_lt a1; omega
            case rel =>
              obtain ⟨a1, a2, a3, a4⟩ := HK.out
              have hck := par_lt a1
              obtain ⟨s1, s2⟩ := HR.out.2.2.2.1.step HS.out.1 HK.out HL.out
              refine ⟨j2, sw F k j2, rfl, rfl, H6.out.1, (sw_perm (by have := HS.out; omega) (by have := HS.out; omega)).trans HR.out.2.1, fun m hm => ?_, s1, H5.out.2.trans H6.out.2, .inr ⟨?_, s2⟩, by rw [sw_len]; exact HS.out.1, by rw [sw_len]; exact HS.out.2, by have := HS.out; omega⟩
              · rw [pt_sw (by have := HS.out; omega) (by have := HS.out; omega), if_neg (by omega), if_neg (by omega)]
                exact HR.out.2.2.1 m hm
              · rcases HR.out.2.2.2.2.2.1 with ⟨e1, _⟩ | ⟨e1, _⟩ <;> omega
          · rw [decide_eq_false hl] at c2
            have HKD : Hid (∀ m, 0 < m → m < n → par m = k → ¬ ltE (pt F m) (pt F k)) := by
              obtain ⟨a1, a2, a3, a4⟩ := HK.out
              exact fun m m0 mn mp => ltE_ge (a4 m m0 mn mp) hl
            clear hl
            go_wp2_with fail
            refine c2.mono ?_
            rintro e w5 ⟨rfl, g5⟩
            have H5 : Hid (Qu w5 base ab mb v F mo pu ∧ Only base Zq w w5) := ⟨HB.out.1.grow g5, HB.out.2.trans (Only.grow g5 HB.out.1.bas _)⟩
            clear c2 g5
            rcases HR.out.2.2.2.2.2.1 with ⟨e1, e2⟩ | ⟨e1, e2⟩
            · have t9 : ¬ ((i0 : Int) < (k : Int)) := by omega
              have t8 : ¬ (i0 < k) := by omega
              have HE : Hid (k = i0 ∧ F = E) := ⟨e1, e2⟩
              clear e1 e2
              go_wp2_with fail
              go_ret
              unfold DnPost
              refine ⟨false, F, by first | rfl | (rw [decide_eq_false t8]; rfl) | simp [t8], H5.out.1, H5.out.2, HR.out.2.1, HR.out.2.2.1, trivial, fun q => (by cases q), fun _ => ⟨HE.out.2, ?_⟩⟩
              have := HKD.out
              rw [HE.out.2, HE.out.1] at this
              exact this
            · have t9 : (i0 : Int) < (k : Int) := by omega
              have t8 : i0 < k := by omega
              have HE : Hid (i0 < k ∧ ¬ ltE (pt F k) (pt F (par k))) := ⟨e1, e2⟩
              clear e1 e2
              go_wp2_with fail
              go_ret
              unfold DnPost
              exact ⟨true, F, by first | rfl | (rw [decide_eq_true t8]; rfl) | simp [t8], H5.out.1, H5.out.2, HR.out.2.1, HR.out.2.2.1, trivial, fun _ => HR.out.2.2.2.1.done HKD.out (.inr HE.out.2), fun q => (by cases q)⟩
        · have HK : Hid (Kid F n k j1) := ⟨by have := HJ.out; omega, h1, (kids (by have := HJ.out; omega)).2 (.inl HJ.out.1), fun m m0 mn mp => by
            rcases (kids m0).1 mp with a | a
            · rw [a, ← HJ.out.1]; exact fun q => ltE_asymm q q
            · rw [a, ← HJ.out.2]; exact hl⟩
          rw [decide_eq_false hl] at c1
          clear hl h1 h2
          go_wp2_with fail
          refine c1.mono ?_
          rintro e wB ⟨rfl, g2⟩
          have HB : Hid (Qu wB base ab mb v F mo pu ∧ Only base Zq w wB) := ⟨HR.out.1.grow g2, HR.out.2.2.2.2.2.2.trans (Only.grow g2 HR.out.1.bas _)⟩
          clear c1 g2
          have c2 := less_any wB base ab mb v F mo pu HB.out.1 j1 k (by have := HK.out; have := HS.out; obtain ⟨a1, a2, a3, a4⟩ := HK.out; omega) (by obtain ⟨a1, a2, a3, a4⟩ := HK.out; have := par_lt a1; have := HS.out; omega) HS.out.2
          by_cases hl : ltE (pt F j1) (pt F k)
          · rw [decide_eq_true hl] at c2
            have HL := Lib.hid hl
            clear hl
            go_wp2_with fail
            refine c2.mono ?_
            rintro e w5 ⟨rfl, g5⟩
            have H5 : Hid (Qu w5 base ab mb v F mo pu ∧ Only base Zq w w5) := ⟨HB.out.1.grow g5, HB.out.2.trans (Only.grow g5 HB.out.1.bas _)⟩
            have c3 := swap_any w5 base ab mb v F mo pu H5.out.1 k j1 (by obtain ⟨a1, a2, a3, a4⟩ := HK.out; have := par_lt a1; omega) (by obtain ⟨a1, a2, a3, a4⟩ := HK.out; have := HS.out; omega) HS.out.2
            clear c2 g5
            go_wp2_with fail
            refine c3.mono ?_
            rintro e w6 ⟨rfl, h6, o6⟩
            have H6 := Lib.hid (And.intro h6 o6)
            clear c3 h6 o6
            go_wp2_with fail
            go_roundg (n - j1)
            case measure => obtain ⟨a1, a2, a3, a4⟩ := HK.out; have := par_lt a1; omega
            case rel =>
              obtain ⟨a1, a2, a3, a4⟩ := HK.out
              have hck := par_lt a1
              obtain ⟨s1, s2⟩ := HR.out.2.2.2.1.step HS.out.1 HK.out HL.out
              refine ⟨j1, sw F k j1, rfl, rfl, H6.out.1, (sw_perm (by have := HS.out; omega) (by have := HS.out; omega)).trans HR.out.2.1, fun m hm => ?_, s1, H5.out.2.trans H6.out.2, .inr ⟨?_, s2⟩, by rw [sw_len]; exact HS.out.1, by rw [sw_len]; exact HS.out.2, by have := HS.out; omega⟩
              · rw [pt_sw (by have := HS.out; omega) (by have := HS.out; omega), if_neg (by omega), if_neg (by omega)]
                exact HR.out.2.2.1 m hm
              · rcases HR.out.2.2.2.2.2.1 with ⟨e1, _⟩ | ⟨e1, _⟩ <;> omega
          · rw [decide_eq_false hl] at c2
            have HKD : Hid (∀ m, 0 < m → m < n → par m = k → ¬ ltE (pt F m) (pt F k)) := by
              obtain ⟨a1, a2, a3, a4⟩ := HK.out
              exact fun m m0 mn mp => ltE_ge (a4 m m0 mn mp) hl
            clear hl
            go_wp2_with fail
            refine c2.mono ?_
            rintro e w5 ⟨rfl, g5⟩
            have H5 : Hid (Qu w5 base ab mb v F mo pu ∧ Only base Zq w w5) := ⟨HB.out.1.grow g5, HB.out.2.trans (Only.grow g5 HB.out.1.bas _)⟩
            clear c2 g5
            rcases HR.out.2.2.2.2.2.1 with ⟨e1, e2⟩ | ⟨e1, e2⟩
            · have t9 : ¬ ((i0 : Int) < (k : Int)) := by omega
              have t8 : ¬ (i0 < k) := by omega
              have HE : Hid (k = i0 ∧ F = E) := ⟨e1, e2⟩
              clear e1 e2
              go_wp2_with fail
              go_ret
              unfold DnPost
              refine ⟨false, F, by first | rfl | (rw [decide_eq_false t8]; rfl) | simp [t8], H5.out.1, H5.out.2, HR.out.2.1, HR.out.2.2.1, trivial, fun q => (by cases q), fun _ => ⟨HE.out.2, ?_⟩⟩
              have := HKD.out
              rw [HE.out.2, HE.out.1] at this
              exact this
            · have t9 : (i0 : Int) < (k : Int) := by omega
              have t8 : i0 < k := by omega
              have HE : Hid (i0 < k ∧ ¬ ltE (pt F k) (pt F (par k))) := ⟨e1, e2⟩
              clear e1 e2
              go_wp2_with fail
              go_ret
              unfold DnPost
              exact ⟨true, F, by first | rfl | (rw [decide_eq_true t8]; rfl) | simp [t8], H5.out.1, H5.out.2, HR.out.2.1, HR.out.2.2.1, trivial, fun _ => HR.out.2.2.2.1.done HKD.out (.inr HE.out.2), fun q => (by cases q)⟩
      · have u2 : ¬ ((j2 : Int) < (n : Int)) := by omega
        have u2' : ¬ (j2 < n) := by omega
        have HK : Hid (Kid F n k j1) := ⟨by have := HJ.out; omega, h1, (kids (by have := HJ.out; omega)).2 (.inl HJ.out.1), fun m m0 mn mp => by
            rcases (kids m0).1 mp with a | a
            · rw [a, ← HJ.out.1]; exact fun q => ltE_asymm q q
            · have := HJ.out; omega⟩
        have HB : Hid (Qu wa base ab mb v F mo pu ∧ Only base Zq w wa) := ⟨HR.out.1, HR.out.2.2.2.2.2.2⟩
        clear h1 h2
        have c2 := less_any wa base ab mb v F mo pu HB.out.1 j1 k (by have := HK.out; have := HS.out; obtain ⟨a1, a2, a3, a4⟩ := HK.out; omega) (by obtain ⟨a1, a2, a3, a4⟩ := HK.out; have := par_lt a1; have := HS.out; omega) HS.out.2
        by_cases hl : ltE (pt F j1) (pt F k)
        · rw [decide_eq_true hl] at c2
          have HL := Lib.hid hl
          clear hl
          go_wp2_with fail
          refine c2.mono ?_
          rintro e w5 ⟨rfl, g5⟩
          have H5 : Hid (Qu w5 base ab mb v F mo pu ∧ Only base Zq w w5) := ⟨HB.out.1.grow g5, HB.out.2.trans (Only.grow g5 HB.out.1.bas _)⟩
          have c3 := swap_any w5 base ab mb v F mo pu H5.out.1 k j1 (by obtain ⟨a1, a2, a3, a4⟩ := HK.out; have := par_lt a1; omega) (by obtain ⟨a1, a2, a3, a4⟩ := HK.out; have := HS.out; omega) HS.out.2
          clear c2 g5
          go_wp2_with fail
          refine c3.mono ?_
          rintro e w6 ⟨rfl, h6, o6⟩
          have H6 := Lib.hid (And.intro h6 o6)
          clear c3 h6 o6
          go_wp2_with fail
          go_roundg (n - j1)
          case measure => obtain ⟨a1, a2, a3, a4⟩ := HK.out; have := par_lt a1; omega
          case rel =>
            obtain ⟨a1, a2, a3, a4⟩ := HK.out
            have hck := par_lt a1
            obtain ⟨s1, s2⟩ := HR.out.2.2.2.1.step HS.out.1 HK.out HL.out
            refine ⟨j1, sw F k j1, rfl, rfl, H6.out.1, (sw_perm (by have := HS.out; omega) (by have := HS.out; omega)).trans HR.out.2.1, fun m hm => ?_, s1, H5.out.2.trans H6.out.2, .inr ⟨?_, s2⟩, by rw [sw_len]; exact HS.out.1, by rw [sw_len]; exact HS.out.2, by have := HS.out; omega⟩
            · rw [pt_sw (by have := HS.out; omega) (by have := HS.out; omega), if_neg (by omega), if_neg (by omega)]
              exact HR.out.2.2.1 m hm
            · rcases HR.out.2.2.2.2.2.1 with ⟨e1, _⟩ | ⟨e1, _⟩ <;> omega
        · rw [decide_eq_false hl] at c2
          have HKD : Hid (∀ m, 0 < m → m < n → par m = k → ¬ ltE (pt F m) (pt F k)) := by
            obtain ⟨a1, a2, a3, a4⟩ := HK.out
            exact fun m m0 mn mp => ltE_ge (a4 m m0 mn mp) hl
          clear hl
          go_wp2_with fail
          refine c2.mono ?_
          rintro e w5 ⟨rfl, g5⟩
          have H5 : Hid (Qu w5 base ab mb v F mo pu ∧ Only base Zq w w5) := ⟨HB.out.1.grow g5, HB.out.2.trans (Only.grow g5 HB.out.1.bas _)⟩
          clear c2 g5
          rcases HR.out.2.2.2.2.2.1 with ⟨e1, e2⟩ | ⟨e1, e2⟩
          · have t9 : ¬ ((i0 : Int) < (k : Int)) := by omega
            have t8 : ¬ (i0 < k) := by omega
            have HE : Hid (k = i0 ∧ F = E) := ⟨e1, e2⟩
            clear e1 e2
            go_wp2_with fail
            go_ret
            unfold DnPost
            refine ⟨false, F, by first | rfl | (rw [decide_eq_false t8]; rfl) | simp [t8], H5.out.1, H5.out.2, HR.out.2.1, HR.out.2.2.1, trivial, fun q => (by cases q), fun _ => ⟨HE.out.2, ?_⟩⟩
            have := HKD.out
            rw [HE.out.2, HE.out.1] at this
            exact this
          · have t9 : (i0 : Int) < (k : Int) := by omega
            have t8 : i0 < k := by omega
            have HE : Hid (i0 < k ∧ ¬ ltE (pt F k) (pt F (par k))) := ⟨e1, e2⟩
            clear e1 e2
            go_wp2_with fail
            go_ret
            unfold DnPost
            exact ⟨true, F, by first | rfl | (rw [decide_eq_true t8]; rfl) | simp [t8], H5.out.1, H5.out.2, HR.out.2.1, HR.out.2.2.1, trivial, fun _ => HR.out.2.2.2.1.done HKD.out (.inr HE.out.2), fun q => (by cases q)⟩
    · have u1 : (n : Int) ≤ (j1 : Int) := by omega
      have u1' : n ≤ j1 := h1
      have HKD : Hid (∀ m, 0 < m → m < n → par m = k → ¬ ltE (pt F m) (pt F k)) := fun m m0 mn mp => by
        rcases (kids m0).1 mp with a | a <;> have := HJ.out <;> omega
      clear h1
      rcases HR.out.2.2.2.2.2.1 with ⟨e1, e2⟩ | ⟨e1, e2⟩
      · have t9 : ¬ ((i0 : Int) < (k : Int)) := by omega
        have t8 : ¬ (i0 < k) := by omega
        have HE : Hid (k = i0 ∧ F = E) := ⟨e1, e2⟩
        clear e1 e2
        go_wp2_with fail
        go_ret
        unfold DnPost
        refine ⟨false, F, by first | rfl | (rw [decide_eq_false t8]; rfl) | simp [t8], HR.out.1, HR.out.2.2.2.2.2.2, HR.out.2.1, HR.out.2.2.1, trivial, fun q => (by cases q), fun _ => ⟨HE.out.2, ?_⟩⟩
        have := HKD.out
        rw [HE.out.2, HE.out.1] at this
        exact this
      · have t9 : (i0 : Int) < (k : Int) := by omega
        have t8 : i0 < k := by omega
        have HE : Hid (i0 < k ∧ ¬ ltE (pt F k) (pt F (par k))) := ⟨e1, e2⟩
        clear e1 e2
        go_wp2_with fail
        go_ret
        unfold DnPost
        exact ⟨true, F, by first | rfl | (rw [decide_eq_true t8]; rfl) | simp [t8], HR.out.1, HR.out.2.2.2.2.2.2, HR.out.2.1, HR.out.2.2.1, trivial, fun _ => HR.out.2.2.2.1.done HKD.out (.inr HE.out.2), fun q => (by cases q)⟩
end Go.Proofs.Ytdgbieapgmjjhaa
