/- slices.SortFunc on entries, by the library's contract. -/
import Derived.Test.YtdgbieapgmjjhaaAgCmp2
import Derived.Test.YtdgbieapgmjjhaaAgAgd
import Derived.Test.YtdgbieapgmjjhaaSortL
namespace Go.Proofs.Ytdgbieapgmjjhaa
set_option linter.unusedVariables false
set_option linter.unusedSimpArgs false
open Go.ChangeShapes Go.WideShapes Go.ChangeAt Go.RowKit Go.Shelf

theorem flat_en_get : ∀ (l : List En) (j : Nat), j < l.length * 4 → (l.flatMap en)[j]? = some ((en l[j / 4]!)[j % 4]!)
  | [], j, h => absurd h (by simp)
  | p :: r, j, h => by
    have e : (p :: r).flatMap en = en p ++ r.flatMap en := by simp
    have h5 : (en p).length = 4 := rfl
    rw [e]
    rcases Nat.lt_or_ge j 4 with hj | hj
    · rw [List.getElem?_append_left (by rw [h5]; exact hj), Nat.div_eq_of_lt hj, Nat.mod_eq_of_lt hj]
      simp only [List.getElem!_cons_zero]
      rw [List.getElem!_eq_getElem?_getD, List.getElem?_eq_getElem (show j < (en p).length from hj)]
      rfl
    · obtain ⟨i, rfl⟩ : ∃ i, j = i + 4 := ⟨j - 4, by omega⟩
      rw [List.getElem?_append_right (by rw [h5]; omega), h5, Nat.add_sub_cancel, flat_en_get r i (by simp at h; omega)]
      rw [show (i + 4) / 4 = i / 4 + 1 from by omega, show (i + 4) % 4 = i % 4 from by omega]
      simp
theorem flat_flatK (l : List En) : (Go.Sort.flatK en 4 l.toArray).toList = l.flatMap en := by
  apply List.ext_getElem?
  intro j
  rcases Nat.lt_or_ge j (l.length * 4) with hj | hj
  · have hs : j < (Go.Sort.flatK en 4 l.toArray).size := by rw [Go.Sort.size_flatK]; exact hj
    have h1 := Go.Sort.get_flatK en 4 l.toArray j (by simpa using hj)
    rw [getElem!_pos _ j hs] at h1
    rw [Array.getElem?_toList, Array.getElem?_eq_getElem hs, h1, flat_en_get l j hj]
    simp
  · rw [List.getElem?_eq_none (by simpa using hj), List.getElem?_eq_none (by rw [flat_en_len]; exact hj)]
theorem swoE : Go.Sort.SWO (ltOf cmpE) where
  irrefl x := by unfold ltOf; rw [decide_eq_false_iff_not, cmpE_lt]; unfold ltE; omega
  trans x y z h1 h2 := by unfold ltOf at *; rw [decide_eq_true_iff, cmpE_lt] at *; unfold ltE at *; omega
  ntrans x y z h1 h2 := by unfold ltOf at *; rw [decide_eq_false_iff_not, cmpE_lt] at *; unfold ltE at *; omega
theorem compare_lays (blk off size : Nat) (w : World) : CmpLays Try.prog 29 #[] en 4 cmpE blk off size w := by
  intro m os dk hs x y
  refine (compare_gd x y _).mono ?_
  rintro e w' ⟨rfl, g⟩
  exact ⟨rfl, g.form⟩
abbrev sortArg : Value := .func (.func 29) #[] #[]
set_option maxHeartbeats 1000000 in
theorem sortE_any (w : World) (base g cap : Nat) (ws : List En) (h : w.ownsRow base 66 4 (.slice (some ⟨g, 0, none⟩) ws.length cap) ws.length (ws.flatMap en)) (hlen : ws.length ≤ 1000000) :
    Calls Try.prog 28 #[.slice (some ⟨g, 0, none⟩) ws.length cap, sortArg] w fun e w' => e = .returned (.tuple #[]) ∧
      ∃ ws' : List En, ws'.Perm ws ∧ SrtE ws' ∧ w'.ownsRow base 66 4 (.slice (some ⟨g, 0, none⟩) ws.length cap) ws.length (ws'.flatMap en) ∧ w.grownBy w' (some g) := by
  have eg : ∀ args w, (callFunc 29 args).run Try.prog w = .ok (.enter 29 args) w := enters_of Try.func29 (by kernel_rfl) rfl
  obtain ⟨hl, hr⟩ := id h
  rcases hr with ⟨h', _⟩ | ⟨g', cap', cur, hv, hbg, hh, hnc, hcm, hcs, ht⟩
  · cases h'
  · cases hv
    have hglt : g < w.heap.size := (Array.getElem?_eq_some_iff.1 hh).1
    have hH : Go.Sort.HoldsK en 4 w g 0 ws.toArray := by
      intro j hj
      have hj' : j < ws.length * 4 := by rw [Go.Sort.size_flatK] at hj; simpa using hj
      refine ⟨?_, frozen_of hh⟩
      have hc := World.ownsRow.cells h (g := g) rfl j _ (flat_en_get ws j hj')
      rw [add_at] at hc
      rw [hc, ← flat_en_get ws j hj', ← flat_flatK, Array.getElem?_toList, Array.getElem?_eq_getElem hj, getElem!_pos _ j hj]
      rfl
    have hcon := AnyQ.slices_SortFunc Try.sortW 4 Try.isAgg66 Try.sizeOf66 en (fun _ => rfl) (fun x v hv => by simp [en] at hv; rcases hv with rfl | rfl | rfl | rfl <;> rfl) cmpE swoE 29 #[] g 0 cap ws.toArray w eg (compare_lays g 0 _ w) hH hglt (by simp; omega)
    have hs : ws.toArray.size = ws.length := by simp
    rw [hs] at hcon
    change Calls Try.prog 28 _ _ _ at hcon
    refine hcon.mono ?_
    rintro e w' ⟨rfl, d', n, os, ⟨hds, hdo, hdp⟩, hsort, rfl⟩
    rw [hs] at hds
    have hE : (d'.extract 0 ws.length).toList = d'.toList := by rw [← hds]; simp
    have hE2 : (ws.toArray.extract 0 ws.length).toList = ws := by simp
    rw [hE, hE2] at hdp
    have hdl : d'.toList.length = ws.length := by simpa using hds
    refine ⟨rfl, d'.toList, hdp, ?_, ?_, ?_⟩
    · unfold SrtE
      rw [List.pairwise_iff_getElem]
      intro i j hi hj hij
      have := hsort i j (Nat.zero_le _) hij (by rw [hdl] at hj; exact hj)
      have hi' : i < d'.size := by simpa using hi
      have hj' : j < d'.size := by simpa using hj
      rw [getElem!_pos d' i hi', getElem!_pos d' j hj'] at this
      unfold ltOf at this
      rw [decide_eq_false_iff_not, cmpE_lt] at this
      simp only [Array.getElem_toList]
      exact this
    · refine ⟨by rw [flat_en_len, hdl], .inr ⟨g, cap, Go.Sort.putCells id 0 (Go.Sort.flatK en 4 d') cur, rfl, hbg, ?_, hnc, hcm, by unfold Go.Sort.putCells; rw [Array.size_mapIdx]; exact hcs, ?_⟩⟩
      · unfold sortWorldK Go.Sort.grow Go.Sort.putRowK Go.Sort.putRow Go.Sort.mapBlock Go.Sort.ahead
        show (w.heap.modify g _ ++ os)[g]? = _
        rw [Array.getElem?_append_left (by simpa using hglt), Array.getElem?_modify, if_pos rfl, hh]
        rfl
      · have e1 : d'.toList.flatMap en = (Go.Sort.flatK en 4 d').toList := by
          have := flat_flatK d'.toList
          rw [← this]
        rw [e1]
        apply List.ext_getElem?
        intro j
        rw [List.getElem?_take]
        have hfs : (Go.Sort.flatK en 4 d').size = ws.length * 4 := by rw [Go.Sort.size_flatK, hds]
        split
        · rename_i hj
          have hj2 : j < cur.size := by rw [hcs]; have := Nat.mul_le_mul_right 4 hnc; omega
          rw [Array.getElem?_toList, Array.getElem?_toList]
          unfold Go.Sort.putCells
          rw [Array.getElem?_mapIdx, Array.getElem?_eq_getElem hj2, Option.map_some, if_pos ⟨Nat.zero_le _, by rw [hfs]; omega⟩, Array.getElem?_eq_getElem (by rw [hfs]; exact hj), Nat.sub_zero, getElem!_pos _ j (by rw [hfs]; exact hj)]
          rfl
        · rename_i hj
          rw [List.getElem?_eq_none (by rw [Array.length_toList, hfs]; omega)]
    · refine ⟨rfl, rfl, rfl, ?_, fun b hb hne => ?_⟩
      · show w.heap.size ≤ (w.heap.modify g _ ++ os).size
        simp
      · show (w.heap.modify g _ ++ os)[b]? = _
        rw [Array.getElem?_append_left (by simpa using hb), Array.getElem?_modify, if_neg (fun e => hne (by rw [e]))]
theorem len0_any (w : World) : Calls Try.prog 34 #[.int .u64 0] w fun e w' => e = .returned (.int .i64 0) ∧ w' = w := by
  have h := Any.bits_Len (SlLaysF0.n15.bits (P := Try.prog) (ρ := Try.sortW_ren) { Try.sortW with }) (0 : Int) w (by omega) (by omega)
  exact h
theorem ins0_any (w : World) (A : Option Addr) (c : Nat) : Calls Try.prog 37 #[.slice A 0 c, .int .i64 0, .int .i64 0, sortArg] w fun e w' => e = .returned (.tuple #[]) ∧ w' = w := by
  go_enter Try.func37, Try.ntmps37
  go_wp2_with fail
  go_loopg [8] 0 (fun g s8 wr => s8 = .int .i64 1 ∧ wr = w ∧ g = 0)
  case atStart => exact ⟨rfl, rfl, rfl⟩
  case round =>
    obtain ⟨rfl, rfl, rfl⟩ := hrel
    go_wp2_with fail
    refine bodyPost_end (results_none rfl _ _ _) rfl ?_
    exact ⟨rfl, rfl⟩
set_option maxRecDepth 10000 in
theorem pdq0_any (w : World) (A : Option Addr) (c : Nat) : Calls Try.prog 33 #[.slice A 0 c, .int .i64 0, .int .i64 0, .int .i64 0, sortArg] w fun e w' => e = .returned (.tuple #[]) ∧ w' = w := by
  have c0 := ins0_any w A c
  go_enter Try.func33, Try.ntmps33
  go_wp2_with fail
  go_loopg [1, 2, 3] 0 (fun g s1 s2 s3 wr => s1 = .int .i64 0 ∧ s2 = .int .i64 0 ∧ s3 = .int .i64 0 ∧ wr = w ∧ g = 0)
  case atStart => exact ⟨rfl, rfl, rfl, rfl, rfl⟩
  case round =>
    obtain ⟨rfl, rfl, rfl, rfl, rfl⟩ := hrel
    go_wp2_with fail
    refine c0.mono ?_
    rintro e w' ⟨rfl, hw⟩
    subst w'
    go_wp2_with fail
    refine bodyPost_ret (results_none rfl _ _ _) rfl ?_
    exact ⟨rfl, rfl⟩
theorem sort0_any (w : World) (A : Option Addr) (c : Nat) : Calls Try.prog 28 #[.slice A 0 c, sortArg] w fun e w' => e = .returned (.tuple #[]) ∧ w' = w := by
  have c0 := pdq0_any w A c
  have c1 := len0_any w
  go_enter Try.func28, Try.ntmps28
  go_wp2_with fail
  refine c1.mono ?_
  rintro e w' ⟨rfl, hw⟩
  subst w'
  go_wp2_with fail
  refine c0.mono ?_
  rintro e w' ⟨rfl, hw⟩
  subst w'
  go_wp2_with fail
  refine bodyPost_end (results_none rfl _ _ _) rfl ?_
  exact ⟨rfl, rfl⟩
end Go.Proofs.Ytdgbieapgmjjhaa
