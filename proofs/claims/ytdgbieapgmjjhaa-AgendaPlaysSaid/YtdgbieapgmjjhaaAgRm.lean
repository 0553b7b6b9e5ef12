/- Contract: container/heap's Remove on an agenda's queue. -/
import Derived.Test.YtdgbieapgmjjhaaAgHq
namespace Go.Proofs.Ytdgbieapgmjjhaa
set_option linter.unusedVariables false
set_option linter.unusedSimpArgs false
open Go.ChangeShapes Go.WideShapes Go.ChangeAt Go.RowKit

set_option maxHeartbeats 4000000 in
theorem hrem_any (w : World) (base ab mb : Nat) (v : Value) (E : List En) (mo pu : Int) (h : Qu w base ab mb v E mo pu) (i m : Nat) (hl : E.length = m + 1) (hi : i ≤ m) (hn : m ≤ 90000) (hp : Hp E (m + 1)) :
    Calls Try.prog 25 #[qI ab, .int .i64 (i : Int)] w fun e w' => e = .returned (.iface 66 (enV (pt E i))) ∧ ∃ v' E', Qu w' base ab mb v' E' mo pu ∧ (pt E i :: E').Perm E ∧ Hp E' E'.length ∧ Only base Zq w w' := by
  have hm1 := m_len ab
  have hm2 := m_swap ab
  have hm3 := m_pop ab
  obtain ⟨N, hN⟩ : ∃ N, N = m + 1 := ⟨_, rfl⟩
  have c0 := qlenI w base ab mb v E mo pu h (hl.trans hN.symm)
  have n1 : (N : Int) - 1 = (m : Int) := by omega
  have n2 : IntKind.i64.wrap (m : Int) = (m : Int) := IntWalk.i64_in _ (by omega)
  have n3 : IntKind.i64.wrap ((N : Int) - 1) = (m : Int) := by rw [n1]; exact n2
  rcases Nat.lt_or_ge i m with him | him
  · have q0 : ((m : Int) == (i : Int)) = false := by rw [beq_eq_false_iff_ne]; omega
    have q1 : ¬ ((m : Int) = (i : Int)) := by omega
    have q2 : ¬ (m = i) := by omega
    have c1 := swap_le w base ab mb v E mo pu h i m hi (by omega) (by omega)
    have HS : Hid (E.length = m + 1 ∧ m ≤ 90000 ∧ DnAt (sw E i m) m i ∧ (sw E i m).Perm E ∧ pt (sw E i m) m = pt E i ∧ (sw E i m).length = m + 1 ∧ i < m) := ⟨hl, hn, sw_dn hl him hp, sw_perm (by omega) (by omega), by rw [pt_sw (by omega) (by omega), if_pos rfl], by rw [sw_len]; exact hl, him⟩
    generalize sw E i m = F at *
    clear h hl hi hn hp hN him
    unfold qI
    go_enter Try.func25, Try.ntmps25
    go_wp2_with fail
    refine c0.mono ?_
    rintro e w' ⟨rfl, hw⟩
    subst w'
    clear c0
    go_wp2_with fail
    refine c1.mono ?_
    rintro e w2 ⟨rfl, h2, o2⟩
    have H2 := Lib.hid (And.intro h2 o2)
    have c2 := down_any w2 base ab mb v F mo pu H2.out.1 i m (by have := HS.out; omega) (by have := HS.out; omega) (by have := HS.out; omega) HS.out.2.2.1
    unfold qI at c2
    clear c1 h2 o2
    go_wp2_with fail
    refine c2.mono ?_
    intro e w3 hd
    unfold DnPost at hd
    obtain ⟨b, F2, rfl, h3, o3, p3, k3, _, t3, f3⟩ := hd
    cases b with
    | true =>
      have c3 := pop_end w3 base ab mb v E F2 mo pu h3 (m := m) (by rw [p3.length_eq]; exact HS.out.2.2.2.2.2.1) HS.out.2.1 (p3.trans HS.out.2.2.2.1) (t3 rfl) (x := pt E i) (by rw [k3 m (Nat.le_refl _)]; exact HS.out.2.2.2.2.1)
      have H3 := Lib.hid (H2.out.2.trans o3)
      clear c2 h3 o3 p3 k3 t3 f3
      go_wp2_with fail
      refine c3.mono ?_
      rintro e w4 ⟨rfl, v', E', h4, p4, q4, o4⟩
      have H4 : Hid (Qu w4 base ab mb v' E' mo pu ∧ (pt E i :: E').Perm E ∧ Hp E' E'.length ∧ Only base Zq w w4) := ⟨h4, p4, q4, H3.out.trans o4⟩
      clear c3 h4 p4 q4 o4
      go_wp2_with fail
      go_ret
      exact ⟨rfl, v', E', H4.out⟩
    | false =>
      obtain ⟨e1, e2⟩ := f3 rfl
      subst e1
      have c4 := upn_any w3 base ab mb v F2 mo pu h3 i m HS.out.2.2.2.2.2.2 (by have := HS.out; omega) (by have := HS.out; omega) (HS.out.2.2.1.up e2)
      unfold qI at c4
      have H3 := Lib.hid (H2.out.2.trans o3)
      clear c2 h3 o3 p3 k3 t3 f3 e2
      go_wp2_with fail
      refine c4.mono ?_
      rintro e w4 ⟨rfl, F3, h4, p4, q4, o4, k4⟩
      have c3 := pop_end w4 base ab mb v E F3 mo pu h4 (m := m) (by rw [p4.length_eq]; exact HS.out.2.2.2.2.2.1) HS.out.2.1 (p4.trans HS.out.2.2.2.1) q4 (x := pt E i) (by rw [k4 m (Nat.le_refl _)]; exact HS.out.2.2.2.2.1)
      have H4 := Lib.hid (H3.out.trans o4)
      clear c4 h4 p4 q4 o4 k4
      go_wp2_with fail
      refine c3.mono ?_
      rintro e w5 ⟨rfl, v', E', h5, p5, q5, o5⟩
      have H5 : Hid (Qu w5 base ab mb v' E' mo pu ∧ (pt E i :: E').Perm E ∧ Hp E' E'.length ∧ Only base Zq w w5) := ⟨h5, p5, q5, H4.out.trans o5⟩
      clear c3 h5 p5 q5 o5
      go_wp2_with fail
      go_ret
      exact ⟨rfl, v', E', H5.out⟩
  · obtain rfl : i = m := by omega
    have c3 := pop_end w base ab mb v E E mo pu h (m := i) hl hn (List.Perm.refl _) (hp.mono (by omega)) rfl
    clear h hl hi hn hp hN him
    unfold qI
    go_enter Try.func25, Try.ntmps25
    go_wp2_with fail
    refine c0.mono ?_
    rintro e w' ⟨rfl, hw⟩
    subst w'
    clear c0
    go_wp2_with fail
    refine c3.mono ?_
    rintro e w5 ⟨rfl, v', E', h5, p5, q5, o5⟩
    have H5 : Hid (Qu w5 base ab mb v' E' mo pu ∧ (pt E i :: E').Perm E ∧ Hp E' E'.length ∧ Only base Zq w w5) := ⟨h5, p5, q5, o5⟩
    clear c3 h5 p5 q5 o5
    go_wp2_with fail
    go_ret
    exact ⟨rfl, v', E', H5.out⟩
end Go.Proofs.Ytdgbieapgmjjhaa
