/- What All and Ways tell, by the nodes: in the document's order. -/
import Derived.Test.YtfdoofkofljgnaaRtTells
namespace Go.Proofs.Ytfdoofkofljgnaa
set_option linter.unusedVariables false
set_option linter.unusedSimpArgs false
open Go.RowKit

/-- The routes of a net and of those in it. -/
def allOf (M : Net) : Nat → Nat → Int → List Rt
  | 0, _, _ => []
  | f + 1, k, x => match M k x with
    | none => []
    | some d => d.ws ++ (allOf M f (k + 1) x ++ allOf M f (k + 1) (x + sz ((k : Int) + 1)))
theorem allOf_none {M : Net} {k : Nat} {x : Int} (h : M k x = none) (f : Nat) : allOf M f k x = [] := by
  cases f with
  | zero => rfl
  | succ f => unfold allOf; rw [h]
theorem allOf_some {M : Net} {k : Nat} {x : Int} {d : Nd} (h : M k x = some d) (f : Nat) : allOf M (f + 1) k x = d.ws ++ (allOf M f (k + 1) x ++ allOf M f (k + 1) (x + sz ((k : Int) + 1))) := by
  rw [allOf, h]
/-- The routes of the nets on the way to an address, the narrowest first. -/
def downOf (M : Net) (a : Int) : Nat → List Rt
  | 0 => []
  | j + 1 => (match M j (netOf a (j : Int)) with
    | none => []
    | some d => d.ws) ++ downOf M a j
theorem downOf_some {M : Net} {a : Int} {j : Nat} {d : Nd} (h : M j (netOf a (j : Int)) = some d) : downOf M a (j + 1) = d.ws ++ downOf M a j := by rw [downOf, h]

theorem up_chain {M : Net} (up : ∀ (k : Nat) x, M (k + 1) x ≠ none → M k (netOf x k) ≠ none) {y : Int} (hy : 0 ≤ y) (i j : Nat) (hij : i ≤ j) (hj : j ≤ 33) (h : M j (netOf y j) ≠ none) : M i (netOf y i) ≠ none := by
  induction j with
  | zero => obtain rfl : i = 0 := by omega
            exact h
  | succ j ih =>
    rcases Nat.lt_or_ge i (j + 1) with h1 | h1
    · have := up j _ h
      rw [net_less hy j (j + 1) (by omega) hj] at this
      exact ih (by omega) (by omega) this
    · obtain rfl : i = j + 1 := by omega
      exact h
theorem ws_rises {M : Net} {r : List Rt} (h : Tells M r) {k : Nat} {x : Int} {d : Nd} (hd : M k x = some d) : d.ws.Pairwise fun a b => risesB a b = true := by
  have hm := h.mem _ _ _ hd
  rw [List.pairwise_iff_getElem]
  intro i j hi hj hij
  have hc := List.pairwise_iff_getElem.1 (h.srt _ _ _ hd) i j hi hj hij
  have h1 := (hm _).1 (List.getElem_mem hi)
  have h2 := (hm _).1 (List.getElem_mem hj)
  rw [rises_iff]
  exact .inr ⟨by rw [h1.2.2, h2.2.2], .inr ⟨by rw [h1.2.1, h2.2.1], hc⟩⟩
theorem ws_narrow {M : Net} {r : List Rt} (h : Tells M r) {k : Nat} {x : Int} {d : Nd} (hd : M k x = some d) : d.ws.Pairwise fun a b => narrowB a b = true := by
  have hm := h.mem _ _ _ hd
  rw [List.pairwise_iff_getElem]
  intro i j hi hj hij
  have hc := List.pairwise_iff_getElem.1 (h.srt _ _ _ hd) i j hi hj hij
  have h1 := (hm _).1 (List.getElem_mem hi)
  have h2 := (hm _).1 (List.getElem_mem hj)
  rw [narrow_iff]
  exact .inr ⟨by rw [h1.2.1, h2.2.1], hc⟩

theorem allOf_spec {M : Net} {r : List Rt} (h : Tells M r) (hF : Fine r) (up : ∀ (k : Nat) x, M (k + 1) x ≠ none → M k (netOf x k) ≠ none) (h33 : ∀ x k, 33 ≤ k → M k x = none) :
    ∀ (f k : Nat) (x : Int), InNet k x → 33 ≤ k + f → k ≤ 33 → (allOf M f k x).Pairwise (fun a b => risesB a b = true) ∧ ∀ y, y ∈ allOf M f k x ↔ y ∈ r ∧ (k : Int) ≤ y.bits ∧ netOf y.net k = x
  | f, k, x => by
    intro hx hf hk
    have gd : ∀ y ∈ r, 0 ≤ y.bits ∧ y.bits ≤ 32 ∧ netOf y.net y.bits = y.net ∧ 0 ≤ y.net ∧ y.net ≤ 4294967295 := fun y hy => by
      have g := Rt.good_iff.1 (hF.good y hy).1
      have o := (hF.good y hy).2
      exact ⟨g.1, g.2.1, g.2.2.1, o.n0, o.n1⟩
    cases hm : M k x with
    | none =>
      rw [allOf_none hm]
      refine ⟨List.Pairwise.nil, fun y => ⟨fun h0 => absurd h0 (by simp), fun ⟨h1, h2, h3⟩ => ?_⟩⟩
      have g := gd y h1
      have h4 := h.has y h1
      have hb : y.bits = (y.bits.toNat : Int) := by omega
      rw [show y.net = netOf y.net (y.bits.toNat : Int) from by rw [← hb]; exact g.2.2.1.symm] at h4
      have h5 := up_chain up g.2.2.2.1 k y.bits.toNat (by omega) (by omega) h4
      rw [h3] at h5
      exact absurd hm h5
    | some d =>
      have hk32 : k ≤ 32 := by
        rcases Nat.lt_or_ge k 33 with h1 | h1
        · omega
        · rw [h33 x k h1] at hm; cases hm
      obtain ⟨f', rfl⟩ : ∃ f', f = f' + 1 := ⟨f - 1, by omega⟩
      have hp := sz_pos ((k : Int) + 1)
      rw [allOf_some hm]
      -- the halves
      have hmem := h.mem _ _ _ hm
      have hL := fun (hi : InNet (k + 1) x) => allOf_spec h hF up h33 f' (k + 1) x hi (by omega) (by omega)
      have hR := fun (hi : InNet (k + 1) (x + sz ((k : Int) + 1))) => allOf_spec h hF up h33 f' (k + 1) (x + sz ((k : Int) + 1)) hi (by omega) (by omega)
      have sL : (allOf M f' (k + 1) x).Pairwise (fun a b => risesB a b = true) ∧ ∀ y, y ∈ allOf M f' (k + 1) x ↔ y ∈ r ∧ (k : Int) + 1 ≤ y.bits ∧ netOf y.net ((k : Int) + 1) = x := by
        rcases Nat.lt_or_ge 31 k with h1 | h1
        · obtain rfl : k = 32 := by omega
          rw [allOf_none (h33 _ _ (by omega))]
          exact ⟨List.Pairwise.nil, fun y => ⟨fun h0 => absurd h0 (by simp), fun ⟨h2, h3, _⟩ => by have := gd y h2; omega⟩⟩
        · have hi : InNet (k + 1) x := by
            refine ⟨hx.1, hx.2.1, ?_⟩
            have hs := sz_half h1
            have h0 := net_row x (k : Int)
            rw [hx.2.2, hs] at h0
            have := (row_iff (show 0 < sz ((k : Int) + 1) by omega) x (2 * (x / (2 * sz ((k : Int) + 1))))).2
            have e : sz ((k : Int) + 1) * (2 * (x / (2 * sz ((k : Int) + 1)))) = x := by rw [← Int.mul_assoc, Int.mul_comm (sz ((k : Int) + 1)) 2]; exact h0.symm
            rw [e] at this
            exact this (by omega)
          exact hL hi
      have sR : (allOf M f' (k + 1) (x + sz ((k : Int) + 1))).Pairwise (fun a b => risesB a b = true) ∧ ∀ y, y ∈ allOf M f' (k + 1) (x + sz ((k : Int) + 1)) ↔ y ∈ r ∧ (k : Int) + 1 ≤ y.bits ∧ netOf y.net ((k : Int) + 1) = x + sz ((k : Int) + 1) := by
        rcases Nat.lt_or_ge 31 k with h1 | h1
        · obtain rfl : k = 32 := by omega
          rw [allOf_none (h33 _ _ (by omega))]
          exact ⟨List.Pairwise.nil, fun y => ⟨fun h0 => absurd h0 (by simp), fun ⟨h2, h3, _⟩ => by have := gd y h2; omega⟩⟩
        · have hi : InNet (k + 1) (x + sz ((k : Int) + 1)) := by
            have hs := sz_half h1
            have ht := net_top (a := x) (k := (k : Int)) ⟨hx.1, hx.2.1⟩ ⟨by omega, by omega⟩
            rw [hx.2.2] at ht
            refine ⟨by have := hx.1; omega, by omega, ?_⟩
            have h0 := net_row x (k : Int)
            rw [hx.2.2, hs] at h0
            have := (row_iff (show 0 < sz ((k : Int) + 1) by omega) (x + sz ((k : Int) + 1)) (2 * (x / (2 * sz ((k : Int) + 1))) + 1)).2
            have e : sz ((k : Int) + 1) * (2 * (x / (2 * sz ((k : Int) + 1))) + 1) = x + sz ((k : Int) + 1) := by
              rw [Int.mul_add, Int.mul_one, ← Int.mul_assoc, Int.mul_comm (sz ((k : Int) + 1)) 2, ← h0]
            rw [e] at this
            exact this (by omega)
          exact hR hi
      have loNet : ∀ y, y ∈ r → netOf y.net ((k : Int) + 1) ≤ y.net ∧ y.net < netOf y.net ((k : Int) + 1) + sz ((k : Int) + 1) := fun y hy => by
        have := (net_same (a := y.net) (b := y.net) (k := (k : Int) + 1)).1 rfl
        omega
      refine ⟨?_, fun y => ?_⟩
      · rw [List.pairwise_append, List.pairwise_append]
        refine ⟨ws_rises h hm, ⟨sL.1, sR.1, fun a ha b hb => ?_⟩, fun a ha b hb => ?_⟩
        · have h1 := (sL.2 a).1 ha
          have h2 := (sR.2 b).1 hb
          have h3 := loNet a h1.1
          have h4 := loNet b h2.1
          rw [rises_iff]
          rw [h1.2.2] at h3
          rw [h2.2.2] at h4
          exact .inl (by omega)
        · have h1 := (hmem a).1 ha
          rw [rises_iff]
          rcases List.mem_append.1 hb with h2 | h2
          · have h2 := (sL.2 b).1 h2
            have h4 := loNet b h2.1
            rw [h2.2.2] at h4
            by_cases e : a.net = b.net
            · exact .inr ⟨e, .inl (by omega)⟩
            · exact .inl (by omega)
          · have h2 := (sR.2 b).1 h2
            have h4 := loNet b h2.1
            rw [h2.2.2] at h4
            exact .inl (by omega)
      · rw [List.mem_append, List.mem_append, hmem, sL.2, sR.2]
        constructor
        · rintro (⟨h1, h2, h3⟩ | ⟨h1, h2, h3⟩ | ⟨h1, h2, h3⟩)
          · have g := gd y h1
            refine ⟨h1, by omega, ?_⟩
            rw [← h2, g.2.2.1, h3]
          · have g := gd y h1
            refine ⟨h1, by omega, ?_⟩
            rw [← net_less g.2.2.2.1 k (k + 1) (by omega) (by omega)]
            show netOf (netOf y.net ((k : Int) + 1)) k = x
            rw [h3]
            exact hx.2.2
          · have g := gd y h1
            refine ⟨h1, by omega, ?_⟩
            rw [← net_less g.2.2.2.1 k (k + 1) (by omega) (by omega)]
            show netOf (netOf y.net ((k : Int) + 1)) k = x
            rw [h3]
            exact kid_up hx (by omega)
        · rintro ⟨h1, h2, h3⟩
          have g := gd y h1
          by_cases hb : y.bits = (k : Int)
          · refine .inl ⟨h1, hb, ?_⟩
            rw [← h3, ← hb]
            exact g.2.2.1.symm
          · have hs := net_step y.net k hk32
            rw [h3] at hs
            rcases bitOf_two y.net k with hbt | hbt
            · rw [hbt] at hs
              exact .inr (.inl ⟨h1, by omega, by omega⟩)
            · rw [hbt] at hs
              exact .inr (.inr ⟨h1, by omega, by omega⟩)
  termination_by f => f
theorem allOf_all {M : Net} {r : List Rt} (h : Tells M r) (hF : Fine r) (up : ∀ (k : Nat) x, M (k + 1) x ≠ none → M k (netOf x k) ≠ none) (h33 : ∀ x k, 33 ≤ k → M k x = none) : allOf M 34 0 0 = rallL r := by
  have s := allOf_spec h hF up h33 34 0 0 ⟨by omega, by omega, netOf_zero ⟨by omega, by omega⟩⟩ (by omega) (by omega)
  refine hF.all_eq s.1 fun y => ?_
  rw [s.2]
  constructor
  · exact fun h1 => h1.1
  · intro h1
    have g := Rt.good_iff.1 (hF.good y h1).1
    have o := (hF.good y h1).2
    exact ⟨h1, by have := g.1; omega, netOf_zero ⟨o.n0, o.n1⟩⟩
theorem downOf_spec {M : Net} {r : List Rt} (h : Tells M r) (hF : Fine r) (a : Int) : ∀ m : Nat, (∀ j, j < m → ∃ d, M j (netOf a (j : Int)) = some d) → (downOf M a m).Pairwise (fun a b => narrowB a b = true) ∧ ∀ y, y ∈ downOf M a m ↔ y ∈ r ∧ y.bits < (m : Int) ∧ netOf a y.bits = y.net
  | 0, _ => ⟨List.Pairwise.nil, fun y => ⟨fun h0 => absurd h0 (by simp [downOf]), fun ⟨h1, h2, _⟩ => by have := (Rt.good_iff.1 (hF.good y h1).1).1; omega⟩⟩
  | j + 1, hs => by
    obtain ⟨d, hd⟩ := hs j (by omega)
    obtain ⟨i1, i2⟩ := downOf_spec h hF a j fun i hi => hs i (by omega)
    have hmem := h.mem _ _ _ hd
    rw [downOf_some hd]
    refine ⟨?_, fun y => ?_⟩
    · rw [List.pairwise_append]
      refine ⟨ws_narrow h hd, i1, fun b hb c hc => ?_⟩
      have h1 := (hmem b).1 hb
      have h2 := (i2 c).1 hc
      rw [narrow_iff]
      exact .inl (by omega)
    · rw [List.mem_append, hmem, i2]
      constructor
      · rintro (⟨h1, h2, h3⟩ | ⟨h1, h2, h3⟩)
        · exact ⟨h1, by omega, by rw [h2, h3]⟩
        · exact ⟨h1, by omega, h3⟩
      · rintro ⟨h1, h2, h3⟩
        by_cases hb : y.bits = (j : Int)
        · exact .inl ⟨h1, hb, by rw [← h3, hb]⟩
        · exact .inr ⟨h1, by omega, h3⟩
theorem downOf_ways {M : Net} {r : List Rt} (h : Tells M r) (hF : Fine r) {a : Int} {m : Nat} (hs : ∀ j, j < m → ∃ d, M j (netOf a (j : Int)) = some d) (hn : ∀ j, m ≤ j → M j (netOf a (j : Int)) = none) : downOf M a m = rwaysL r a := by
  obtain ⟨s1, s2⟩ := downOf_spec h hF a m hs
  refine hF.ways_eq s1 fun y => ?_
  rw [s2]
  constructor
  · exact fun ⟨h1, _, h3⟩ => ⟨h1, h3⟩
  · rintro ⟨h1, h3⟩
    refine ⟨h1, ?_, h3⟩
    have g := Rt.good_iff.1 (hF.good y h1).1
    rcases Int.lt_or_le y.bits (m : Int) with h4 | h4
    · exact h4
    · have h5 := h.has y h1
      have := hn y.bits.toNat (by omega)
      rw [show (y.bits.toNat : Int) = y.bits from by omega, h3] at this
      exact absurd this h5
theorem rallL_length (r : List Rt) : (rallL r).length = r.length := length_insAll _ _
theorem rwaysL_length (r : List Rt) (a : Int) : (rwaysL r a).length ≤ r.length := by
  unfold rwaysL to_
  rw [length_insAll]
  exact List.length_filter_le _ _
end Go.Proofs.Ytfdoofkofljgnaa
