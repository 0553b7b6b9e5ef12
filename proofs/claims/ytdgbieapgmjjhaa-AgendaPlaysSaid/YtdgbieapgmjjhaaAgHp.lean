/- Contracts: container/heap's Push on an agenda's queue; New, Len of an agenda. -/
import Derived.Test.YtdgbieapgmjjhaaAgRm
import Derived.Test.YtdgbieapgmjjhaaAgPu
namespace Go.Proofs.Ytdgbieapgmjjhaa
set_option linter.unusedVariables false
set_option linter.unusedSimpArgs false
open Go.ChangeShapes Go.WideShapes Go.ChangeAt Go.RowKit

theorem pt_app {E : List En} {x : En} {m : Nat} (hm : m < E.length) : pt (E ++ [x]) m = pt E m := by
  unfold pt
  rw [List.getD_eq_getElem?_getD, List.getD_eq_getElem?_getD, List.getElem?_append_left hm]
theorem app_up {E : List En} {n : Nat} (hn : E.length = n) (h : Hp E n) (x : En) : UpAt (E ++ [x]) (n + 1) n := by
  refine ⟨fun k k0 kn kj => ?_, fun k k0 kn kp _ => ?_⟩
  · have := par_lt k0
    rw [pt_app (by omega), pt_app (by omega)]
    exact h k k0 (by omega)
  · have := par_lt k0
    omega
set_option maxHeartbeats 4000000 in
theorem hpush_any (w : World) (base ab mb : Nat) (v : Value) (E : List En) (mo pu : Int) (h : Qu w base ab mb v E mo pu) (x : En) (hx : ∀ m, m < E.length → (pt E m).id ≠ x.id) (hn : E.length ≤ 80000) (hp : Hp E E.length) :
    Calls Try.prog 23 #[qI ab, .iface 66 (enV x)] w fun e w' => e = .returned (.tuple #[]) ∧ ∃ v' E', Qu w' base ab mb v' E' mo pu ∧ E'.Perm (x :: E) ∧ Hp E' E'.length ∧ Only base Zq w w' := by
  have hm1 := m_push ab
  have hm2 := m_len ab
  have c0 := qpush_any w base ab mb v E mo pu h x hx (by omega)
  obtain ⟨n, hnl⟩ : ∃ n, n = E.length := ⟨_, rfl⟩
  obtain ⟨N, hN⟩ : ∃ N, N = n + 1 := ⟨_, rfl⟩
  have n1 : (N : Int) - 1 = (n : Int) := by omega
  have n2 : IntKind.i64.wrap (n : Int) = (n : Int) := IntWalk.i64_in _ (by omega)
  have n3 : IntKind.i64.wrap ((N : Int) - 1) = (n : Int) := by rw [n1]; exact n2
  have HS : Hid (E.length = n ∧ n ≤ 80000 ∧ N = n + 1 ∧ Hp E n) := ⟨hnl.symm, by omega, hN, by rw [hnl]; exact hp⟩
  clear h hx hn hp hnl hN
  unfold qI enV at *
  go_enter Try.func23, Try.ntmps23
  go_wp2_with fail
  refine c0.mono ?_
  rintro e w2 ⟨rfl, v2, h2, o2⟩
  have hl2 : (E ++ [x]).length = N := by rw [List.length_append, List.length_singleton, HS.out.1, HS.out.2.2.1]
  have c1 := qlenI w2 base ab mb v2 (E ++ [x]) mo pu h2 hl2
  have c2 := upn_any w2 base ab mb v2 (E ++ [x]) mo pu h2 n N (by have := HS.out; omega) (by omega) (by have := HS.out; omega) (by rw [HS.out.2.2.1]; exact app_up HS.out.1 HS.out.2.2.2 x)
  unfold qI at c2
  have H2 : Hid ((E ++ [x]).length = N ∧ Only base Zq w w2) := ⟨hl2, o2⟩
  clear c0 h2 o2 hl2
  go_wp2_with fail
  refine c1.mono ?_
  rintro e w' ⟨rfl, hw⟩
  subst w'
  clear c1
  go_wp2_with fail
  refine c2.mono ?_
  rintro e w3 ⟨rfl, E', h3, p3, q3, o3, _⟩
  have H3 : Hid (Qu w3 base ab mb v2 E' mo pu ∧ E'.Perm (x :: E) ∧ Hp E' E'.length ∧ Only base Zq w w3) := ⟨h3, p3.trans (List.perm_append_comm (l₁ := E) (l₂ := [x])), by rw [p3.length_eq, H2.out.1]; exact q3, H2.out.2.trans o3⟩
  clear c2 h3 p3 q3 o3
  go_wp2_with fail
  refine bodyPost_end (results_none rfl _ _ _) rfl ?_
  exact ⟨rfl, v2, E', H3.out⟩
theorem code_any (x : Int) (w : World) : Calls Try.prog 8 #[.int .i64 x] w fun e w' => e = .returned (.int .i64 x) ∧ w' = w := by
  go_enter Try.func8, Try.ntmps8
  go_wp2_with fail
  go_ret
  exact ⟨rfl, rfl⟩
theorem aLen_nil (w : World) : Calls Try.prog 21 #[.pointer none] w fun e w' => e = .returned (.int .i64 0) ∧ w' = w := by
  go_enter Try.func21, Try.ntmps21
  go_wp2_with fail
  go_ret
  exact ⟨rfl, rfl⟩
theorem aLen_any (w : World) (base ab mb : Nat) (v : Value) (E : List En) (mo pu : Int) (h : Qu w base ab mb v E mo pu) : Calls Try.prog 21 #[.pointer (some ⟨ab, 0, none⟩)] w fun e w' => e = .returned (.int .i64 (E.length : Int)) ∧ w' = w := by
  have c0 := qLen_any w base ab mb v E mo pu h
  have a0 := h.cell.2.2.1
  clear h
  go_enter Try.func21, Try.ntmps21
  go_wp2_with fail
  refine c0.mono ?_
  rintro e w' ⟨rfl, hw⟩
  subst w'
  go_wp2_with fail
  go_ret
  exact ⟨rfl, rfl⟩
theorem aNew_not (w : World) (n : Int) (h : n < 1 ∨ 4096 < n) : Calls Try.prog 7 #[.int .i64 n] w fun e w' => e = .returned (.tuple #[.pointer none, .int .i64 1]) ∧ w' = w := by
  by_cases q : n < 1
  · have d1 : decide (n < 1) = true := decide_eq_true q
    clear h
    go_enter Try.func7, Try.ntmps7
    go_wp2_with fail
    go_ret2
    exact ⟨rfl, rfl⟩
  · have d1 : decide (n < 1) = false := decide_eq_false q
    have d2 : 4096 < n := by omega
    clear h
    go_enter Try.func7, Try.ntmps7
    go_wp2_with fail
    go_ret2
    exact ⟨rfl, rfl⟩
end Go.Proofs.Ytdgbieapgmjjhaa
