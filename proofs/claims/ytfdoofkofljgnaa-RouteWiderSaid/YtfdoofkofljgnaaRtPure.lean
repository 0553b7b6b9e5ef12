/- What the laws of layer 10 say of the document's lists: added and removed; one more way. -/
import Derived.Test.YtfdoofkofljgnaaRtFind
namespace Go.Proofs.Ytfdoofkofljgnaa
set_option linter.unusedVariables false
set_option linter.unusedSimpArgs false

theorem rem_none {r : List Rt} {n b c : Int} (h : ¬ placeOf r n b c < r.length) : rremL r n b c = r ∧ rremE r n b c = 6 := by
  unfold rremL rremE
  rw [if_neg h, if_neg h]
  exact ⟨rfl, rfl⟩
theorem back_pure {r : List Rt} {x : Rt} (h : ¬ placeOf r x.net x.bits x.cost < r.length) : rremL (raddL r x) x.net x.bits x.cost = r ∧
    ((raddE r x = 0 ∧ rremE (raddL r x) x.net x.bits x.cost = 0) ∨ (raddE r x = 1 ∧ rremE (raddL r x) x.net x.bits x.cost = 6) ∨ (raddE r x = 5 ∧ rremE (raddL r x) x.net x.bits x.cost = 6)) := by
  by_cases hg : x.good = true
  · by_cases h64 : 64 ≤ r.length
    · have e1 : raddL r x = r := by unfold raddL; rw [if_pos hg, if_neg h, if_pos h64]
      have e2 : raddE r x = 5 := by unfold raddE; rw [if_pos hg, if_neg h, if_pos h64]
      rw [e1, e2]
      exact ⟨(rem_none h).1, .inr (.inr ⟨rfl, (rem_none h).2⟩)⟩
    · have e1 : raddL r x = r ++ [x] := by unfold raddL; rw [if_pos hg, if_neg h, if_neg h64]
      have e2 : raddE r x = 0 := by unfold raddE; rw [if_pos hg, if_neg h, if_neg h64]
      rw [e1, e2]
      have hp : placeOf (r ++ [x]) x.net x.bits x.cost = r.length := by
        have hle := placeOf_le r x.net x.bits x.cost
        have hlen : r.findIdx (fun y => y.at x.net x.bits x.cost) = r.length := by
          show placeOf r x.net x.bits x.cost = r.length
          omega
        have hx : x.at x.net x.bits x.cost = true := Rt.at_iff.2 ⟨rfl, rfl, rfl⟩
        unfold placeOf
        rw [List.findIdx_append, hlen]
        simp [hx]
      have hlt : placeOf (r ++ [x]) x.net x.bits x.cost < (r ++ [x]).length := by rw [hp]; simp
      have e3 : rremL (r ++ [x]) x.net x.bits x.cost = r := by
        unfold rremL
        rw [if_pos hlt, hp]
        rw [List.eraseIdx_append_of_length_le (Nat.le_refl _)]
        simp
      have e4 : rremE (r ++ [x]) x.net x.bits x.cost = 0 := by unfold rremE; rw [if_pos hlt]
      exact ⟨e3, .inl ⟨rfl, e4⟩⟩
  · have e1 : raddL r x = r := by unfold raddL; rw [if_neg hg]
    have e2 : raddE r x = 1 := by unfold raddE; rw [if_neg hg]
    rw [e1, e2]
    exact ⟨(rem_none h).1, .inr (.inl ⟨rfl, (rem_none h).2⟩)⟩

/-- The ways to an address: in order, each narrower than the next. -/
theorem ways_sorted {r : List Rt} (h : Fine r) (a : Int) : (rwaysL r a).Pairwise fun x y => narrowB x y = true := by
  unfold rwaysL insAll
  refine insAll_go_sorted narrow_tr _ _ ?_ (by simp) List.Pairwise.nil
  have h1 : (to_ r a).Pairwise fun a b => ¬ (a.net = b.net ∧ a.bits = b.bits ∧ a.cost = b.cost) := List.Pairwise.sublist List.filter_sublist h.key
  refine h1.imp_of_mem fun {x y} hx hy hk => ?_
  have ex := (mem_to.1 hx).2
  have ey := (mem_to.1 hy).2
  rw [narrow_iff, narrow_iff]
  by_cases hb : x.bits = y.bits
  · have : x.net = y.net := by rw [← ex, ← ey, hb]
    omega
  · omega
theorem mem_ways {r : List Rt} {a : Int} {y : Rt} : y ∈ rwaysL r a ↔ y ∈ r ∧ netOf a y.bits = y.net := by
  unfold rwaysL
  exact mem_insAll.trans mem_to
theorem first_ways {r : List Rt} (h : Fine r) {a : Int} {y : Rt} {ys : List Rt} (he : rwaysL r a = y :: ys) : (y ∈ r ∧ netOf a y.bits = y.net) ∧ ∀ z ∈ r, netOf a z.bits = z.net → z = y ∨ narrowB y z = true := by
  refine ⟨mem_ways.1 (by rw [he]; simp), fun z hz hn => ?_⟩
  have hm : z ∈ rwaysL r a := mem_ways.2 ⟨hz, hn⟩
  have hs := ways_sorted h a
  rw [he] at hm hs
  rcases List.mem_cons.1 hm with h1 | h1
  · exact .inl h1
  · exact .inr ((List.pairwise_cons.1 hs).1 z h1)
theorem mem_radd {r : List Rt} (h : Fine r) {x : Rt} (he : raddE r x = 0) (y : Rt) : y ∈ raddL r x ↔ (y ∈ r ∧ ¬ (y.net = x.net ∧ y.bits = x.bits ∧ y.cost = x.cost)) ∨ y = x := by
  unfold raddE at he
  split at he
  · rename_i hg
    split at he
    · rename_i hp
      unfold raddL
      rw [if_pos hg, if_pos hp, mem_set_key h hp]
      constructor
      · rintro (h1 | h1)
        · exact .inr h1
        · exact .inl h1
      · rintro (h1 | h1)
        · exact .inr h1
        · exact .inl h1
    · rename_i hp
      split at he
      · cases he
      · rename_i h64
        unfold raddL
        rw [if_pos hg, if_neg hp, if_neg h64, List.mem_append, List.mem_singleton]
        have := placeOf_none hp
        constructor
        · rintro (h1 | h1)
          · exact .inl ⟨h1, this y h1⟩
          · exact .inr h1
        · rintro (h1 | h1)
          · exact .inl h1.1
          · exact .inr h1
  · cases he
theorem radd_bad {r : List Rt} {x : Rt} (he : raddE r x ≠ 0) : raddL r x = r := by
  unfold raddE at he
  unfold raddL
  split at he
  · rename_i hg
    split at he
    · exact absurd rfl he
    · rename_i hp
      split at he
      · rename_i h64
        rw [if_pos hg, if_neg hp, if_pos h64]
      · exact absurd rfl he
  · rename_i hg
    rw [if_neg hg]
theorem findE_nil {l : List Rt} (h : findE l ≠ 0) : l = [] := by
  cases l with
  | nil => rfl
  | cons y ys => exact absurd rfl h

theorem wider_none {r : List Rt} (h : Fine r) {x : Rt} (hx : x.Ok) {a : Int} (he : rwaysL r a = []) : rwaysL (raddL r x) a = [] ∨ findR (rwaysL (raddL r x) a) = x := by
  cases hW : rwaysL (raddL r x) a with
  | nil => exact .inl rfl
  | cons y ys =>
    right
    show y = x
    have hy := (first_ways (h.add hx) hW).1
    by_cases hE : raddE r x = 0
    · rcases (mem_radd h hE y).1 hy.1 with h1 | h1
      · have : y ∈ rwaysL r a := mem_ways.2 ⟨h1.1, hy.2⟩
        rw [he] at this
        simp at this
      · exact h1
    · rw [radd_bad hE, he] at hW
      cases hW
theorem wider_some {r : List Rt} (h : Fine r) {x : Rt} (hx : x.Ok) {a : Int} {y : Rt} {ys : List Rt} (he : rwaysL r a = y :: ys) (hE : raddE r x = 0) :
    ∃ z zs, rwaysL (raddL r x) a = z :: zs ∧ (z = y ∨ (z = x ∧ y.bits ≤ x.bits)) := by
  have hy := first_ways h he
  have hxm : x ∈ raddL r x := (mem_radd h hE x).2 (.inr rfl)
  cases hW : rwaysL (raddL r x) a with
  | nil =>
    exfalso
    by_cases hk : y.net = x.net ∧ y.bits = x.bits ∧ y.cost = x.cost
    · have : x ∈ rwaysL (raddL r x) a := mem_ways.2 ⟨hxm, by rw [← hk.1, ← hk.2.1]; exact hy.1.2⟩
      rw [hW] at this
      simp at this
    · have : y ∈ rwaysL (raddL r x) a := mem_ways.2 ⟨(mem_radd h hE y).2 (.inl ⟨hy.1.1, hk⟩), hy.1.2⟩
      rw [hW] at this
      simp at this
  | cons z zs =>
    refine ⟨z, zs, rfl, ?_⟩
    have hz := first_ways (h.add hx) hW
    by_cases hk : y.net = x.net ∧ y.bits = x.bits ∧ y.cost = x.cost
    · rcases (mem_radd h hE z).1 hz.1.1 with h1 | h1
      · exfalso
        have q1 := hy.2 z h1.1 hz.1.2
        have q2 := hz.2 x hxm (by rw [← hk.1, ← hk.2.1]; exact hy.1.2)
        rcases q1 with q1 | q1
        · exact h1.2 (by rw [q1]; exact hk)
        · rcases q2 with q2 | q2
          · exact h1.2 (by rw [← q2]; exact ⟨rfl, rfl, rfl⟩)
          · rw [narrow_iff] at q1 q2
            omega
      · exact .inr ⟨h1, by omega⟩
    · have hym : y ∈ raddL r x := (mem_radd h hE y).2 (.inl ⟨hy.1.1, hk⟩)
      have q2 := hz.2 y hym hy.1.2
      rcases (mem_radd h hE z).1 hz.1.1 with h1 | h1
      · rcases hy.2 z h1.1 hz.1.2 with q1 | q1
        · exact .inl q1
        · rcases q2 with q2 | q2
          · exact .inl q2.symm
          · rw [narrow_iff] at q1 q2
            omega
      · rcases q2 with q2 | q2
        · exact .inl q2.symm
        · rw [narrow_iff] at q2
          subst h1
          exact .inr ⟨rfl, by omega⟩
theorem raddE_val (r : List Rt) (x : Rt) : raddE r x = 0 ∨ raddE r x = 1 ∨ raddE r x = 5 := by
  unfold raddE
  split
  · split
    · exact .inl rfl
    · split
      · exact .inr (.inr rfl)
      · exact .inl rfl
  · exact .inr (.inl rfl)
/-- What the two finds and the add between them answer. -/
theorem wider_all {r : List Rt} (h : Fine r) {x : Rt} (hx : x.Ok) (a : Int) :
    (findE (rwaysL r a) = 6 ∧ (findE (rwaysL (raddL r x) a) = 6 ∨ (findE (rwaysL (raddL r x) a) = 0 ∧ findR (rwaysL (raddL r x) a) = x))) ∨
    (findE (rwaysL r a) = 0 ∧ findE (rwaysL (raddL r x) a) = 0 ∧ ((raddE r x ≠ 0 ∧ findR (rwaysL (raddL r x) a) = findR (rwaysL r a)) ∨
      (raddE r x = 0 ∧ (findR (rwaysL (raddL r x) a) = findR (rwaysL r a) ∨ (findR (rwaysL (raddL r x) a) = x ∧ (findR (rwaysL r a)).bits ≤ x.bits))))) := by
  cases hW : rwaysL r a with
  | nil =>
    left
    refine ⟨rfl, ?_⟩
    rcases wider_none h hx hW with h1 | h1
    · rw [h1]; exact .inl rfl
    · cases hV : rwaysL (raddL r x) a with
      | nil => exact .inl rfl
      | cons z zs => rw [hV] at h1; exact .inr ⟨rfl, h1⟩
  | cons y ys =>
    right
    by_cases hE : raddE r x = 0
    · obtain ⟨z, zs, hV, h1⟩ := wider_some h hx hW hE
      rw [hV]
      exact ⟨rfl, rfl, .inr ⟨hE, h1⟩⟩
    · rw [radd_bad hE, hW]
      exact ⟨rfl, rfl, .inl ⟨hE, rfl⟩⟩
end Go.Proofs.Ytfdoofkofljgnaa
