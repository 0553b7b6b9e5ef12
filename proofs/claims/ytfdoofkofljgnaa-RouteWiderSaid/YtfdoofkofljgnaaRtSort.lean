/- slices.SortFunc on routes, by the library's contract. -/
import Derived.Test.YtfdoofkofljgnaaRtSearch
import Derived.Test.YtfdoofkofljgnaaSortL
namespace Go.Proofs.Ytfdoofkofljgnaa
set_option linter.unusedVariables false
set_option linter.unusedSimpArgs false
open Go.ChangeShapes Go.WideShapes Go.ChangeAt Go.RowKit Go.Shelf

theorem cells5_get : ∀ (l : List Rt) (j : Nat), j < l.length * 5 → (cells5 l)[j]? = some ((rc l[j / 5]!)[j % 5]!)
  | [], j, h => absurd h (by simp)
  | p :: r, j, h => by
    have e : cells5 (p :: r) = rc p ++ cells5 r := by simp [cells5]
    have h5 : (rc p).length = 5 := rfl
    rw [e]
    rcases Nat.lt_or_ge j 5 with hj | hj
    · rw [List.getElem?_append_left (by rw [h5]; exact hj), Nat.div_eq_of_lt hj, Nat.mod_eq_of_lt hj]
      simp only [List.getElem!_cons_zero]
      rw [List.getElem!_eq_getElem?_getD, List.getElem?_eq_getElem (show j < (rc p).length from hj)]
      rfl
    · obtain ⟨i, rfl⟩ : ∃ i, j = i + 5 := ⟨j - 5, by omega⟩
      rw [List.getElem?_append_right (by rw [h5]; omega), h5, Nat.add_sub_cancel, cells5_get r i (by simp at h; omega)]
      rw [show (i + 5) / 5 = i / 5 + 1 from by omega, show (i + 5) % 5 = i % 5 from by omega]
      simp
theorem flat_cells5 (l : List Rt) : (Go.Sort.flatK rc 5 l.toArray).toList = cells5 l := by
  apply List.ext_getElem?
  intro j
  rcases Nat.lt_or_ge j (l.length * 5) with hj | hj
  · have hs : j < (Go.Sort.flatK rc 5 l.toArray).size := by rw [Go.Sort.size_flatK]; exact hj
    have h1 := Go.Sort.get_flatK rc 5 l.toArray j (by simpa using hj)
    rw [getElem!_pos _ j hs] at h1
    rw [Array.getElem?_toList, Array.getElem?_eq_getElem hs, h1, cells5_get l j hj]
    simp
  · rw [List.getElem?_eq_none (by simpa using hj), List.getElem?_eq_none (by rw [cells5_length]; exact hj)]
theorem swoCost : Go.Sort.SWO (ltOf fun x y : Rt => cmpI x.cost y.cost) where
  irrefl x := by unfold ltOf; rw [decide_eq_false_iff_not, cmpI_lt]; omega
  trans x y z h1 h2 := by unfold ltOf at *; rw [decide_eq_true_iff, cmpI_lt] at *; omega
  ntrans x y z h1 h2 := by unfold ltOf at *; rw [decide_eq_false_iff_not, cmpI_lt] at *; omega
theorem byCost_lays (blk off size : Nat) (w : World) : CmpLays Try.prog 42 #[] rc 5 (fun x y => cmpI x.cost y.cost) blk off size w := by
  intro m os dk hs x y
  refine (byCost_at x y _).mono ?_
  rintro e w' ⟨rfl, rfl⟩
  exact ⟨rfl, 0, _, by rw [Go.Sort.alloc_eq_grow, Go.Sort.alloc_eq_grow, Go.Sort.grow_grow]; rfl⟩

set_option maxHeartbeats 1000000 in
theorem sort_any (w : World) (base g cap : Nat) (ws : List Rt) (h : Orow 72 w base (.slice (some ⟨g, 0, none⟩) ws.length cap) ws) (hlen : ws.length ≤ 1000000) :
    Calls Try.prog 43 #[.slice (some ⟨g, 0, none⟩) ws.length cap, .func (.func 42) #[] #[]] w fun e w' => e = .returned (.tuple #[]) ∧
      ∃ ws' : List Rt, ws'.Perm ws ∧ (ws'.Pairwise fun a b => a.cost ≤ b.cost) ∧ Orow 72 w' base (.slice (some ⟨g, 0, none⟩) ws.length cap) ws' ∧ w.grownBy w' (some g) := by
  have eg : ∀ args w, (callFunc 42 args).run Try.prog w = .ok (.enter 42 args) w := enters_of Try.func42 (by kernel_rfl) rfl
  obtain ⟨hl, hr⟩ := id h
  rcases hr with ⟨h', _⟩ | ⟨g', cap', cur, hv, hbg, hh, hnc, hcm, hcs, ht⟩
  · cases h'
  · cases hv
    have hglt : g < w.heap.size := (Array.getElem?_eq_some_iff.1 hh).1
    have hH : Go.Sort.HoldsK rc 5 w g 0 ws.toArray := by
      intro j hj
      have hj' : j < ws.length * 5 := by rw [Go.Sort.size_flatK] at hj; simpa using hj
      refine ⟨?_, by rw [Nat.zero_add]; exact frozen_of_row w g j cur _ hh⟩
      rw [Nat.zero_add, h.cellAt j hj', ← flat_cells5, Array.getElem?_toList, Array.getElem?_eq_getElem hj, getElem!_pos _ j hj]
      rfl
    have hcon := AnyQ.slices_SortFunc Try.sortW 5 Try.isAgg72 Try.sizeOf72 rc (fun _ => rfl) (fun x v hv => by simp [rc] at hv; rcases hv with rfl | rfl | rfl | rfl | rfl <;> rfl) (fun x y => cmpI x.cost y.cost) swoCost 42 #[] g 0 cap ws.toArray w eg (byCost_lays g 0 _ w) hH hglt (by simp; omega)
    have hs : ws.toArray.size = ws.length := by simp
    rw [hs] at hcon
    change Calls Try.prog 43 _ _ _ at hcon
    refine hcon.mono ?_
    rintro e w' ⟨rfl, d', n, os, ⟨hds, hdo, hdp⟩, hsort, rfl⟩
    rw [hs] at hds
    have hE : (d'.extract 0 ws.length).toList = d'.toList := by rw [← hds]; simp
    have hE2 : (ws.toArray.extract 0 ws.length).toList = ws := by simp
    rw [hE, hE2] at hdp
    have hdl : d'.toList.length = ws.length := by simpa using hds
    refine ⟨rfl, d'.toList, hdp, ?_, ?_, ?_⟩
    · rw [List.pairwise_iff_getElem]
      intro i j hi hj hij
      have := hsort i j (Nat.zero_le _) hij (by rw [hdl] at hj; exact hj)
      have hi' : i < d'.size := by simpa using hi
      have hj' : j < d'.size := by simpa using hj
      rw [getElem!_pos d' i hi', getElem!_pos d' j hj'] at this
      unfold ltOf at this
      rw [decide_eq_false_iff_not, cmpI_lt] at this
      simp only [Array.getElem_toList]
      omega
    · refine ⟨by rw [cells5_length], .inr ⟨g, cap, Go.Sort.putCells id 0 (Go.Sort.flatK rc 5 d') cur, by rw [hdl], hbg, ?_, by rw [hdl]; exact hnc, hcm, by unfold Go.Sort.putCells; rw [Array.size_mapIdx]; exact hcs, ?_⟩⟩
      · unfold sortWorldK Go.Sort.grow Go.Sort.putRowK Go.Sort.putRow Go.Sort.mapBlock Go.Sort.ahead
        show (w.heap.modify g _ ++ os)[g]? = _
        rw [Array.getElem?_append_left (by simpa using hglt), Array.getElem?_modify, if_pos rfl, hh]
        rfl
      · have e1 : cells5 d'.toList = (Go.Sort.flatK rc 5 d').toList := by
          have := flat_cells5 d'.toList
          rw [← this]
        rw [e1, hdl]
        apply List.ext_getElem?
        intro j
        rw [List.getElem?_take]
        have hfs : (Go.Sort.flatK rc 5 d').size = ws.length * 5 := by rw [Go.Sort.size_flatK, hds]
        split
        · rename_i hj
          have hj2 : j < cur.size := by rw [hcs]; have := Nat.mul_le_mul_right 5 hnc; omega
          rw [Array.getElem?_toList, Array.getElem?_toList]
          unfold Go.Sort.putCells
          rw [Array.getElem?_mapIdx, Array.getElem?_eq_getElem hj2, Option.map_some, if_pos ⟨Nat.zero_le _, by rw [hfs]; omega⟩, Array.getElem?_eq_getElem (by rw [hfs]; exact hj), Nat.sub_zero, getElem!_pos _ j (by rw [hfs]; exact hj)]
          rfl
        · rename_i hj
          rw [List.getElem?_eq_none (by rw [Array.length_toList, hfs]; omega)]
    · refine ⟨rfl, rfl, rfl, ?_, fun b hb hne => ?_⟩
      · show w.heap.size ≤ (w.heap.modify g _ ++ os).size
        simp
      · show (w.heap.modify g _ ++ os)[b]? = _
        rw [Array.getElem?_append_left (by simpa using hb), Array.getElem?_modify, if_neg (fun e => hne (by rw [e]))]
end Go.Proofs.Ytfdoofkofljgnaa
