/- Contracts: container/heap's Fix, Pop, Remove on an agenda's queue. -/
import Derived.Test.YtdgbieapgmjjhaaAgUn
import Derived.Test.YtdgbieapgmjjhaaAgSs
namespace Go.Proofs.Ytdgbieapgmjjhaa
set_option linter.unusedVariables false
set_option linter.unusedSimpArgs false
open Go.ChangeShapes Go.WideShapes Go.ChangeAt Go.RowKit

theorem pt_take {F : List En} {m k : Nat} (h : k < m) : pt (F.take m) k = pt F k := by
  unfold pt
  rw [List.getD_eq_getElem?_getD, List.getD_eq_getElem?_getD, List.getElem?_take_of_lt h]
theorem last_perm {F : List En} {m : Nat} (hl : F.length = m + 1) : (pt F m :: F.take m).Perm F := by
  have e : F = F.take m ++ [pt F m] := by
    have h1 := List.take_append_drop m F
    have h2 : F.drop m = [pt F m] := by
      have hm : m < F.length := by omega
      rw [List.drop_eq_getElem_cons hm, List.drop_of_length_le (by omega)]
      have := pt_get hm
      rw [List.getElem?_eq_getElem hm] at this
      rw [Option.some.inj this]
    rw [h2] at h1
    exact h1.symm
  have h3 : (pt F m :: F.take m).Perm (F.take m ++ [pt F m]) := (List.perm_append_comm (l₁ := [pt F m]) (l₂ := F.take m))
  rw [← e] at h3
  exact h3
theorem take_hp {F : List En} {m : Nat} (hl : m ≤ F.length) (h : Hp F m) : Hp (F.take m) (F.take m).length := by
  have e : (F.take m).length = m := by rw [List.length_take]; omega
  rw [e]
  intro k k0 kn
  have := par_lt k0
  rw [pt_take kn, pt_take (by omega)]
  exact h k k0 kn
theorem sw_dn {E : List En} {i m : Nat} (hl : E.length = m + 1) (him : i < m) (h : Hp E (m + 1)) : DnAt (sw E i m) m i := by
  have e := fun k => pt_sw (E := E) (i := i) (j := m) (by omega) (by omega) k
  refine ⟨fun k k0 kn ki kp => ?_, fun k k0 kn kp i0 => ?_⟩
  · have := par_lt k0
    rw [e, e, if_neg (by omega), if_neg ki, if_neg (by omega), if_neg kp]
    exact h k k0 (by omega)
  · have h1 := par_lt k0
    have h2 := par_lt i0
    rw [e, e, if_neg (by omega), if_neg (by omega), if_neg (by omega), if_neg (by omega)]
    exact (h.dn i).c k k0 (by omega) kp i0
theorem swap_le (w : World) (base ab mb : Nat) (v : Value) (E : List En) (mo pu : Int) (h : Qu w base ab mb v E mo pu) (i j : Nat) (hij : i ≤ j) (hj : j < E.length) (hn : E.length ≤ 100000) :
    Calls Try.prog 74 #[.pointer (some ⟨ab, 2, none⟩), .int .i64 (i : Int), .int .i64 (j : Int)] w fun e w' => e = .returned (.tuple #[]) ∧ Qu w' base ab mb v (sw E i j) mo pu ∧ Only base Zq w w' := by
  rcases Nat.lt_or_ge i j with q | q
  · exact swap_any w base ab mb v E mo pu h i j q hj hn
  · obtain rfl : i = j := by omega
    exact swap_same w base ab mb v E mo pu h i hj hn
theorem qlenI (w : World) (base ab mb : Nat) (v : Value) (E : List En) (mo pu : Int) (h : Qu w base ab mb v E mo pu) {m : Nat} (hl : E.length = m) : Calls Try.prog 30 #[.pointer (some ⟨ab, 2, none⟩)] w fun e w' => e = .returned (.int .i64 (m : Int)) ∧ w' = w := by
  rw [← hl]
  exact qLen_any w base ab mb v E mo pu h
/-- Pop, of a queue whose first m are a heap. -/
theorem pop_end (w : World) (base ab mb : Nat) (v : Value) (E F : List En) (mo pu : Int) (h : Qu w base ab mb v F mo pu) {m : Nat} (hl : F.length = m + 1) (hn : m ≤ 90000) (hp : F.Perm E) (hh : Hp F m) {x : En} (hx : pt F m = x) :
    Calls Try.prog 72 #[.pointer (some ⟨ab, 2, none⟩)] w fun e w' => e = .returned (.iface 66 (enV x)) ∧ ∃ v' E', Qu w' base ab mb v' E' mo pu ∧ (x :: E').Perm E ∧ Hp E' E'.length ∧ Only base Zq w w' := by
  refine (qpop_any w base ab mb v F mo pu h m hl (by omega)).mono ?_
  rintro e w' ⟨rfl, v', h1, h2⟩
  refine ⟨by rw [hx], v', _, h1, ?_, take_hp (by omega) hh, h2⟩
  rw [← hx]
  exact (last_perm hl).trans hp
set_option maxHeartbeats 4000000 in
theorem hpop_any (w : World) (base ab mb : Nat) (v : Value) (E : List En) (mo pu : Int) (h : Qu w base ab mb v E mo pu) (m : Nat) (hl : E.length = m + 1) (hn : m ≤ 90000) (hp : Hp E (m + 1)) :
    Calls Try.prog 26 #[qI ab] w fun e w' => e = .returned (.iface 66 (enV (pt E 0))) ∧ ∃ v' E', Qu w' base ab mb v' E' mo pu ∧ (pt E 0 :: E').Perm E ∧ Hp E' E'.length ∧ Only base Zq w w' := by
  have hm1 := m_len ab
  have hm2 := m_swap ab
  have hm3 := m_pop ab
  obtain ⟨N, hN⟩ : ∃ N, N = m + 1 := ⟨_, rfl⟩
  have c0 := qlenI w base ab mb v E mo pu h (hl.trans hN.symm)
  have c1 := swap_le w base ab mb v E mo pu h 0 m (Nat.zero_le _) (by omega) (by omega)
  have n1 : (N : Int) - 1 = (m : Int) := by omega
  have n2 : IntKind.i64.wrap (m : Int) = (m : Int) := IntWalk.i64_in _ (by omega)
  have n3 : IntKind.i64.wrap ((N : Int) - 1) = (m : Int) := by rw [n1]; exact n2
  have hF : DnAt (sw E 0 m) m 0 := by
    rcases Nat.eq_zero_or_pos m with q | q
    · exact ⟨fun k k0 kn => by omega, fun k k0 kn => by omega⟩
    · exact sw_dn hl q hp
  have HS : Hid (E.length = m + 1 ∧ m ≤ 90000 ∧ DnAt (sw E 0 m) m 0 ∧ (sw E 0 m).Perm E ∧ pt (sw E 0 m) m = pt E 0 ∧ (sw E 0 m).length = m + 1) := ⟨hl, hn, hF, sw_perm (by omega) (by omega), by rw [pt_sw (by omega) (by omega), if_pos rfl], by rw [sw_len]; exact hl⟩
  generalize sw E 0 m = F at *
  clear h hl hn hp hF hN
  unfold qI
  go_enter Try.func26, Try.ntmps26
  go_wp2_with fail
  refine c0.mono ?_
  rintro e w' ⟨rfl, hw⟩
  subst w'
  clear c0
  go_wp2_with fail
  refine c1.mono ?_
  rintro e w2 ⟨rfl, h2, o2⟩
  have H2 := Lib.hid (And.intro h2 o2)
  have c2 := down_any w2 base ab mb v F mo pu H2.out.1 0 m (by omega) (by have := HS.out; omega) (by have := HS.out; omega) HS.out.2.2.1
  unfold qI at c2
  clear c1 h2 o2
  go_wp2_with fail
  refine c2.mono ?_
  intro e w3 hd
  unfold DnPost at hd
  obtain ⟨b, F2, rfl, h3, o3, p3, k3, _, t3, f3⟩ := hd
  have hh : Hp F2 m := by
    cases b with
    | true => exact t3 rfl
    | false =>
      obtain ⟨e1, e2⟩ := f3 rfl
      rw [e1]
      exact HS.out.2.2.1.done e2 (.inl rfl)
  have c3 := pop_end w3 base ab mb v E F2 mo pu h3 (m := m) (by rw [p3.length_eq]; exact HS.out.2.2.2.2.2) HS.out.2.1 (p3.trans HS.out.2.2.2.1) hh (x := pt E 0) (by rw [k3 m (Nat.le_refl _)]; exact HS.out.2.2.2.2.1)
  have H3 := Lib.hid (H2.out.2.trans o3)
  clear c2 h3 o3 p3 k3 t3 f3 hh
  go_wp2_with fail
  refine c3.mono ?_
  rintro e w4 ⟨rfl, v', E', h4, p4, q4, o4⟩
  have H4 : Hid (Qu w4 base ab mb v' E' mo pu ∧ (pt E 0 :: E').Perm E ∧ Hp E' E'.length ∧ Only base Zq w w4) := ⟨h4, p4, q4, H3.out.trans o4⟩
  clear c3 h4 p4 q4 o4
  go_wp2_with fail
  go_ret
  exact ⟨rfl, v', E', H4.out⟩
set_option maxHeartbeats 4000000 in
theorem hfix_any (w : World) (base ab mb : Nat) (v : Value) (E : List En) (mo pu : Int) (h : Qu w base ab mb v E mo pu) (i : Nat) (hi : i < E.length) (hn : E.length ≤ 90000) (hd : DnAt E E.length i) :
    Calls Try.prog 24 #[qI ab, .int .i64 (i : Int)] w fun e w' => e = .returned (.tuple #[]) ∧ ∃ E', Qu w' base ab mb v E' mo pu ∧ E'.Perm E ∧ Hp E' E'.length ∧ Only base Zq w w' := by
  have hm1 := m_len ab
  obtain ⟨N, hN⟩ : ∃ N, N = E.length := ⟨_, rfl⟩
  have c0 := qlenI w base ab mb v E mo pu h hN.symm
  rw [← hN] at hd hi hn
  have c1 := down_any w base ab mb v E mo pu h i N (by omega) (by omega) (by omega) hd
  have HS : Hid (N = E.length ∧ i < N ∧ N ≤ 90000 ∧ DnAt E N i) := ⟨hN, hi, hn, hd⟩
  clear h hN hi hn hd
  unfold qI at *
  go_enter Try.func24, Try.ntmps24
  go_wp2_with fail
  refine c0.mono ?_
  rintro e w' ⟨rfl, hw⟩
  subst w'
  clear c0
  go_wp2_with fail
  refine c1.mono ?_
  intro e w3 hd
  unfold DnPost at hd
  obtain ⟨b, F2, rfl, h3, o3, p3, k3, _, t3, f3⟩ := hd
  cases b with
  | true =>
    have H3 : Hid (Qu w3 base ab mb v F2 mo pu ∧ F2.Perm E ∧ Hp F2 F2.length ∧ Only base Zq w w3) := ⟨h3, p3, by rw [p3.length_eq, ← HS.out.1]; exact t3 rfl, o3⟩
    clear c1 h3 o3 p3 k3 t3 f3
    go_wp2_with fail
    refine bodyPost_end (results_none rfl _ _ _) rfl ?_
    exact ⟨rfl, F2, H3.out⟩
  | false =>
    obtain ⟨e1, e2⟩ := f3 rfl
    subst e1
    have c2 := upn_any w3 base ab mb v F2 mo pu h3 i N HS.out.2.1 (by have := HS.out; omega) (by have := HS.out; omega) (HS.out.2.2.2.up e2)
    unfold qI at c2
    have H3 := Lib.hid o3
    clear c1 h3 o3 p3 k3 t3 f3 e2
    go_wp2_with fail
    refine c2.mono ?_
    rintro e w4 ⟨rfl, E', h4, p4, q4, o4, _⟩
    have H4 : Hid (Qu w4 base ab mb v E' mo pu ∧ E'.Perm F2 ∧ Hp E' E'.length ∧ Only base Zq w w4) := ⟨h4, p4, by rw [p4.length_eq, ← HS.out.1]; exact q4, H3.out.trans o4⟩
    clear c2 h4 p4 q4 o4
    go_wp2_with fail
    refine bodyPost_end (results_none rfl _ _ _) rfl ?_
    exact ⟨rfl, E', H4.out⟩
end Go.Proofs.Ytdgbieapgmjjhaa
