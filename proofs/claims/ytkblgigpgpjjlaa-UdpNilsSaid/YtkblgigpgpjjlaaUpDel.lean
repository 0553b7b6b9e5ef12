/- Contract: slices.Delete of the first datagram. -/
import Derived.Test.YtkblgigpgpjjlaaUpPut
import Derived.Test.YtkblgigpgpjjlaaRowS
namespace Go.Proofs.Ytkblgigpgpjjlaa
set_option linter.unusedVariables false
set_option linter.unusedSimpArgs false
open Go.ChangeShapes Go.WideShapes Go.ChangeAt Go.RowKit

theorem zeroMl (w : World) : (zeroValue 40).run Try.prog w = .ok (.agg #[.int .u32 0, .int .u16 0, .slice none 0 0]) w := by kernel_rfl
theorem zml_ones : ∀ y ∈ (Value.agg #[.int .u32 0, .int .u16 0, .slice none 0 0]).cells, y.oneCell' = true := fun y hy => by
  simp [Value.cells] at hy
  rcases hy with rfl | rfl | rfl <;> rfl
theorem own_cell {w : World} {base g n cp : Nat} {m : List Mc} (h : Mcw w base (.slice (some ⟨g, 0, none⟩) n cp) m) : ∀ j u, (m.flatMap mcC.f)[j]? = some u → w.cell? ⟨g, j, none⟩ = some u := fun j u hj => by
  obtain ⟨_, cur, k⟩ := h.blk1
  rw [cell_of_row w g j _ _ _ k.blk]
  rw [← k.tk, List.getElem?_take] at hj
  split at hj
  · rwa [Array.getElem?_toList] at hj
  · cases hj
set_option maxRecDepth 10000 in
set_option maxHeartbeats 2000000 in
theorem delU (w : World) (g n cp : Nat) (x : Mc) (m : List Mc) (h : Mcw w 0 (.slice (some ⟨g, 0, none⟩) (n + 1) cp) (x :: m)) (hn : n ≤ 1000000) :
    Calls Try.prog 28 #[.slice (some ⟨g, 0, none⟩) (n + 1) cp, .int .i64 0, .int .i64 1] w fun e w' => e = .returned (.slice (some ⟨g, 0, none⟩) n cp) ∧ Mcw w' 0 (.slice (some ⟨g, 0, none⟩) n cp) m ∧ w.grownBy w' (some g) := by
  obtain ⟨hb0, cur, hk⟩ := h.blk1
  have hml : m.length = n := by have := hk.len; simpa using this
  have hcp := hk.le
  have hcm := hk.mx
  unfold maxLen at hcm
  have HK := Lib.hid hk
  have hsz : 3 + m.length * 3 ≤ cp * 3 := by omega
  have HC : Hid (∀ j u, (m.flatMap mcC.f)[j]? = some u → w.cell? ((⟨g, 3, none⟩ : Addr).add j) = some u) := fun j u hj => by
    rw [add_at]
    refine own_cell h (3 + j) u ?_
    rw [List.flatMap_cons, List.getElem?_append_right (by rw [mcC.len]; exact Nat.le_add_right _ _), mcC.len]
    show (m.flatMap mcC.f)[3 + j - 3]? = _
    rwa [Nat.add_sub_cancel_left]
  have HF : Hid ((m.flatMap mcC.f).length = n * 3) := by
    have := mcC.flat_len m
    rw [hml] at this
    exact this
  obtain ⟨N, hN⟩ : ∃ N, N = n + 1 := ⟨_, rfl⟩
  rw [← hN] at hcp ⊢
  have HN : Hid (n = N - 1) := by rw [hN]; rfl
  have HML := Lib.hid hml
  have n1 : 1 ≤ N := by omega
  have hnb : N ≤ 1000001 := by omega
  have HB := Lib.hid hcp
  have n1i : (1 : Int) ≤ (N : Int) := by omega
  by_cases hc : cp = 1
  · subst hc
    have hN1 : N = 1 := by omega
    have hn0 : n = 0 := by omega
    have HM : Hid (m = []) := List.eq_nil_of_length_eq_zero (by omega)
    clear h hb0 hk hml hn hsz hN hcp HN HML n1 hnb HB n1i hcm
    subst hN1
    subst hn0
    go_enter Try.func28, Try.ntmps28
    go_upto_region 5 with fail
    go_region_law (refine step_appFront w.drew rfl (.tmp 22) (.tmp 25) 35 rfl 40 _ 3 32 Try.underlying35 infoMl g 1 cur HK.out.blk rfl ⟨g, 0, none⟩ 0 0 rfl [] rfl (fun j u h => by cases h) (fun y hy => by cases hy) (Nat.zero_le _) HK.out.sz ?_; intro w' new k1 k2 k3 k4; have H1 := Lib.hid (And.intro k1 (And.intro k2 (And.intro k3 k4))); clear k1 k2 k3 k4)
    go_wp2_with (show wpList _ _ _ (⟨none, _, _, _, _, _⟩ :: _) _ _; refine wpList_clearK _ rfl rfl (.tmp 31) 35 rfl 40 _ 3 Try.underlying35 zeroMl rfl zml_ones g 0 1 1 rfl new H1.out.1 (by rw [H1.out.2.1, HK.out.sz]; exact Nat.le_refl _) ?_; intro w2 new2 j1 j2 j3 j4; have H2 := Lib.hid (And.intro j1 (And.intro j2 (And.intro j3 j4))); clear j1 j2 j3 j4)
    go_ret
    refine ⟨rfl, ?_, ?_⟩
    · rw [HM.out]
      exact Blk1.own (cur := new2) ⟨H2.out.1, Nat.zero_le _, HK.out.mx, by rw [H2.out.2.1, H1.out.2.1, HK.out.sz], by rw [Nat.zero_mul, List.take_zero]; rfl, rfl⟩ (Nat.zero_le _)
    · exact ((⟨rfl, rfl, rfl, Nat.le_refl _, fun _ _ _ => rfl⟩ : w.grownBy w.drew (some g)).trans H1.out.2.2.2).trans H2.out.2.2.2
  · have c1 : 1 < cp := by omega
    have n2 : n ≤ N := by omega
    have n3 : N - n = 1 := by omega
    clear h hb0 hk hml hn hsz hN
    go_enter Try.func28, Try.ntmps28
    go_upto_region 5 with fail
    go_region_law (refine step_appFront w.drew rfl (.tmp 22) (.tmp 25) 35 rfl 40 _ 3 32 Try.underlying35 infoMl g cp cur HK.out.blk rfl ⟨g, 3, none⟩ n (cp - 1) (congrArg (fun k => Value.slice (some ⟨g, 3, none⟩) k (cp - 1)) (show N - 1 = n from HN.out.symm)) (m.flatMap mcC.f) HF.out HC.out (mcC.ones m) (by have := HN.out; have := HB.out; omega) HK.out.sz ?_; intro w' new k1 k2 k3 k4; have H1 := Lib.hid (And.intro k1 (And.intro k2 (And.intro k3 k4))); clear k1 k2 k3 k4)
    have m1 : (n : Int) ≤ (N : Int) := by omega
    have m2 : ¬ cp = n := by omega
    go_wp2_with (show wpList _ _ _ (⟨none, _, _, _, _, _⟩ :: _) _ _; refine wpList_clearK _ rfl rfl (.tmp 31) 35 rfl 40 _ 3 Try.underlying35 zeroMl rfl zml_ones g (n * 3) 1 (cp - n) rfl new H1.out.1 (by rw [H1.out.2.1, HK.out.sz]; show n * 3 + 1 * 3 ≤ cp * 3; omega) ?_; intro w2 new2 j1 j2 j3 j4; have H2 := Lib.hid (And.intro j1 (And.intro j2 (And.intro j3 j4))); clear j1 j2 j3 j4)
    go_ret
    refine ⟨rfl, ?_, ?_⟩
    · have e1 : (new2.toList.take (n * 3)) = m.flatMap mcC.f := H2.out.2.2.1.trans H1.out.2.2.1
      exact Blk1.own (cur := new2) ⟨H2.out.1, by omega, HK.out.mx, by rw [H2.out.2.1, H1.out.2.1, HK.out.sz], e1, HML.out⟩ (Nat.zero_le _)
    · exact ((⟨rfl, rfl, rfl, Nat.le_refl _, fun _ _ _ => rfl⟩ : w.grownBy w.drew (some g)).trans H1.out.2.2.2).trans H2.out.2.2.2
end Go.Proofs.Ytkblgigpgpjjlaa
