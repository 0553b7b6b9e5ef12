/- A REGION THAT DRAWS ITS ORDER AND ENDS IN ONE OPERATION THAT WAITS FOR ALL OTHERS: the others by facts that stay (Loose); the last one by whatever it does. Nothing here is trusted. -/
import Derived.Test.YtmfgbanckehcgaaDoorLoose
namespace Go.Proofs.YtmfgbanckehcgaaDoor
set_option linter.unusedVariables false
open Go.RowKit

section
variable {P : Program} {ops : Array Oper} {Q : Exit → Act → World → Prop} {md : Region.Mode}

/-- Each operation but the last is waited for by a later one. -/
def tailOk (md : Region.Mode) (ops : Array Oper) : Bool :=
  (List.range (ops.size - 1)).all fun j => ops.toList.zipIdx.any fun (o, i) => decide (j < i) && (bindsOn md o).contains j

theorem tailOk_at (h : tailOk md ops = true) {j : Nat} (hj : j + 1 < ops.size) : ∃ i o, ops[i]? = some o ∧ j < i ∧ j ∈ bindsOn md o := by
  unfold tailOk at h
  rw [List.all_eq_true] at h
  have h1 := h j (List.mem_range.2 (by omega))
  rw [List.any_eq_true] at h1
  obtain ⟨⟨o, i⟩, hm, hc⟩ := h1
  rw [List.mem_zipIdx_iff_getElem?] at hm
  simp only [Bool.and_eq_true, decide_eq_true_eq, List.contains_iff_mem] at hc
  exact ⟨i, o, by simpa using hm, hc.1, hc.2⟩

/-- Where the last one may come, all others have come. -/
theorem tail_all (h : tailOk md ops = true) {listed : Array Bool} (hcl : ∀ (i : Nat) o, ops[i]? = some o → (listed.getD i true = true ∨ i + 1 = ops.size) → ∀ j ∈ bindsOn md o, listed.getD j true = true) :
    ∀ (n j : Nat), j + n + 1 = ops.size → 0 < n → listed.getD j true = true := by
  intro n
  induction n using Nat.strongRecOn with
  | _ n ih =>
    intro j hj hn
    obtain ⟨i, o, ho, hji, hb⟩ := tailOk_at h (j := j) (by omega)
    have hi : i < ops.size := (Array.getElem?_eq_some_iff.1 ho).1
    rcases Nat.lt_or_ge (i + 1) ops.size with h1 | h1
    · exact hcl i o ho (.inl (ih (ops.size - 1 - i) (by omega) i (by omega) (by omega))) j hb
    · exact hcl i o ho (.inr (by omega)) j hb

theorem wpAny_tail {a₀ : Act} {w₀ : World} {F : Nat → Value → World → Prop} {m : Nat} {oL : Oper} (hm : ops.size = m + 1) (hoL : ops[m]? = some oL) (hk : looseOk md ops a₀.tmps.size = true) (ht : tailOk md ops = true)
    (hF : ∀ i v w w', Grow w w' → F i v w → F i v w') (hs : looseSteps P md ops (fun x => fillAct x ops.toList a₀) w₀ F 0 (ops.toList.take m))
    (fin : ∀ (x : Tmp → Value) (w : World), Grow w₀ w → (∀ (j : Nat) o', j < m → ops[j]? = some o' → F j (leftBy x o') w) →
      if Region.wanted oL (yielded ops (fillAct x ops.toList a₀).tmps) = true then looseUpon P (fun v w' => Q .normal ((fillAct x ops.toList a₀).put oL.dst v) w') ((execOp (fillAct x ops.toList a₀).eval oL).run P w)
      else Q .normal ((fillAct x ops.toList a₀).put oL.dst undef) w) :
    ∀ (fuel : Nat) (listed : Array Bool) (x : Tmp → Value) (w : World), unl listed ops.size ≤ fuel → listed.size = ops.size → Grow w₀ w →
      listed.getD m true = false → (∀ (i : Nat) o, ops[i]? = some o → listed.getD i true = true → ∀ j ∈ bindsOn md o, listed.getD j true = true) →
      (∀ i o, ops[i]? = some o → listed.getD i true = true → F i (leftBy x o) w) → wpAny P md ops Q fuel listed (fillAct x ops.toList a₀) w := by
  have none_ready : ∀ (listed : Array Bool), (∀ i, i < ops.size → listed.getD i true = true) → Region.ready md ops listed = [] := by
    intro listed h
    rw [List.eq_nil_iff_forall_not_mem]
    intro j hj
    obtain ⟨h0, o, ho, _⟩ := mem_ready.1 hj
    rw [h j (Array.getElem?_eq_some_iff.1 ho).1] at h0
    cases h0
  have ended : ∀ (fuel : Nat) (listed : Array Bool) (a : Act) (w : World), (∀ i, i < ops.size → listed.getD i true = true) → Q .normal a w → wpAny P md ops Q fuel listed a w := by
    intro fuel listed a w h hq
    have hr := none_ready listed h
    cases fuel with
    | zero => exact ⟨hr, hq⟩
    | succ fuel => exact ⟨fun _ => hq, fun i hi => by rw [hr] at hi; cases hi⟩
  intro fuel
  induction fuel with
  | zero =>
    intro listed x w hu hsz hg hm0 hcl hf
    have := unl_zero listed ops.size (by omega) m (by omega)
    rw [this] at hm0
    cases hm0
  | succ fuel ih =>
    intro listed x w hu hsz hg hm0 hcl hf
    refine ⟨fun hr => ?_, fun i hi => ?_⟩
    · have := all_listed hk hr m (by omega)
      rw [this] at hm0
      cases hm0
    · obtain ⟨h0, o, ho, hall⟩ := mem_ready.1 hi
      have hilt : i < ops.size := (Array.getElem?_eq_some_iff.1 ho).1
      have hdepl : ∀ j ∈ bindsOn md o, listed.getD j true = true := fun j hj => by
        unfold bindsOn at hj
        obtain ⟨e, he, rfl⟩ := List.mem_map.1 hj
        obtain ⟨he1, he2⟩ := List.mem_filter.1 he
        have h1 := hall e (by simpa using he1) he2
        have hs' : e.on < listed.size := by
          rcases Nat.lt_or_ge e.on listed.size with h' | h'
          · exact h'
          · simp [Array.getElem?_eq_none h'] at h1
        simpa [hs'] using h1
      by_cases him : i = m
      · subst him
        have hoe : o = oL := Option.some.inj (ho.symm.trans hoL)
        subst hoe
        have hbef : ∀ j, j < i → listed.getD j true = true := fun j hj =>
          tail_all ht (listed := listed) (fun i' o' ho' hor => by
            rcases hor with h | h
            · exact hcl i' o' ho' h
            · have e : i' = i := by omega
              subst e
              rw [ho] at ho'
              cases ho'
              exact hdepl) (i - j) j (by omega) (by omega)
        have h1 := fin x w hg fun j o' hj ho' => hf j o' ho' (hbef j hj)
        have hall' : ∀ j, j < ops.size → (listed.setIfInBounds i true).getD j true = true := fun j hj => by
          by_cases hji : j = i
          · subst hji
            simp [hsz, hj]
          · rw [getD_set_ne true (Ne.symm hji)]
            exact hbef j (by omega)
        unfold wpOp
        rw [hoL]
        show if Region.wanted _ (yielded ops (fillAct x ops.toList a₀).tmps) = true then _ else _
        split
        · rename_i hw
          rw [if_pos hw] at h1
          exact .inl (wp_of_loose (fun v w' hq => ended _ _ _ _ hall' hq) h1)
        · rename_i hw
          rw [if_neg hw] at h1
          exact ended _ _ _ _ hall' h1
      · have hst := looseSteps_at (ops.toList.take m) 0 hs i o (by rw [List.getElem?_take, if_pos (by omega)]; simpa using ho)
        rw [Nat.zero_add] at hst
        have hdeps : ∀ j ∈ bindsOn md o, ∀ o', ops[j]? = some o' → F j (leftBy x o') w := fun j hj o' ho' => hf j o' ho' (hdepl j hj)
        have hm1 : (listed.setIfInBounds i true).getD m true = false := by rw [getD_set_ne true him]; exact hm0
        have hcl1 : ∀ (i' : Nat) o', ops[i']? = some o' → (listed.setIfInBounds i true).getD i' true = true → ∀ j ∈ bindsOn md o', (listed.setIfInBounds i true).getD j true = true := by
          intro i' o' ho' hl j hj
          have up : listed.getD j true = true → (listed.setIfInBounds i true).getD j true = true := fun h => by
            by_cases e : i = j
            · subst e
              have : i < listed.size := by omega
              simp [this]
            · rw [getD_set_ne true e]; exact h
          by_cases e : i = i'
          · subst e
            rw [ho] at ho'
            cases ho'
            exact up (hdepl j hj)
          · rw [getD_set_ne true e] at hl
            exact up (hcl i' o' ho' hl j hj)
        have next : ∀ v w', Grow w w' → F i (leftAs o v) w' → wpAny P md ops Q fuel (listed.setIfInBounds i true) ((fillAct x ops.toList a₀).put o.dst v) w' := by
          intro v w' hg' hv
          have hun := unl_set listed i h0 ops.size hilt
          cases hd : o.dst with
          | none =>
            refine ih _ x w' (by omega) (by simpa using hsz) (hg.trans hg') hm1 hcl1 fun j o' ho' hl => ?_
            by_cases hij : i = j
            · subst hij
              rw [ho] at ho'
              cases ho'
              simpa [leftBy, leftAs, hd] using hv
            · rw [getD_set_ne true hij] at hl
              exact hF _ _ _ _ hg' (hf j o' ho' hl)
          | some d =>
            obtain ⟨hds, hdn⟩ := looseOk_slot hk ho hd
            rw [fillAct_put x ops.toList a₀ d v ⟨o, by simpa using Array.mem_of_getElem? ho, hd⟩ hds]
            refine ih _ _ w' (by omega) (by simpa using hsz) (hg.trans hg') hm1 hcl1 fun j o' ho' hl => ?_
            by_cases hij : i = j
            · subst hij
              rw [ho] at ho'
              cases ho'
              simpa [leftBy, leftAs, hd] using hv
            · rw [getD_set_ne true hij] at hl
              have hne := hdn j o' ho' hij
              have : leftBy (fun t => if t = d then v else x t) o' = leftBy x o' := by
                unfold leftBy
                cases hd' : o'.dst with
                | none => rfl
                | some d' =>
                  have : d' ≠ d := fun e => hne (by rw [hd', e])
                  simp [this]
              rw [this]
              exact hF _ _ _ _ hg' (hf j o' ho' hl)
        have h1 := hst x w hg hdeps (fun v w' => wpAny P md ops Q fuel (listed.setIfInBounds i true) ((fillAct x ops.toList a₀).put o.dst v) w') next
        unfold wpOp
        rw [ho]
        show if Region.wanted o (yielded ops (fillAct x ops.toList a₀).tmps) = true then _ else _
        split
        · rename_i hw
          rw [if_pos hw] at h1
          exact .inl (wp_of_loose (fun _ _ h => h) h1)
        · rename_i hw
          rw [if_neg hw] at h1
          exact h1

/-- **A region that draws its order and ends in one operation.** -/
theorem wp_region_tail {id : Nat} {a : Act} {w : World} {A : (Tmp → Value) → Act} (F : Nat → Value → World → Prop) (m : Nat) (oL : Oper) (hm : P.follows .mixedOrders = true) (hsz : ops.size = m + 1) (hoL : ops[m]? = some oL) (hk : looseOk .any ops a.tmps.size = true) (ht : tailOk .any ops = true)
    (hF : ∀ i v w w', Grow w w' → F i v w → F i v w') (hA : ∀ x, fillAct x ops.toList a = A x) (hs : looseSteps P .any ops A w F 0 (ops.toList.take m))
    (fin : ∀ (x : Tmp → Value) (w' : World), Grow w w' → (∀ (j : Nat) o', j < m → ops[j]? = some o' → F j (leftBy x o') w') →
      if Region.wanted oL (yielded ops (A x).tmps) = true then looseUpon P (fun v w'' => Q .normal ((A x).put oL.dst v) w'') ((execOp (A x).eval oL).run P w')
      else Q .normal ((A x).put oL.dst undef) w') :
    (Code.region id ops true).wp P Q a w := by
  obtain rfl : (fun x => fillAct x ops.toList a) = A := funext hA
  refine wp_region_any hm ?_
  have h := wpAny_tail (Q := Q) hsz hoL hk ht hF hs fin ops.size (Array.replicate ops.size false) (fun t => a.tmps.getD t undef) w.drew ?_ (by simp) (Grow.drew w) (by simp [hsz]) ?_ ?_
  · rw [fillAct_own a ops.toList fun o ho d hd => ?_] at h
    · exact h
    · obtain ⟨i, hi⟩ := List.getElem?_of_mem ho
      exact (looseOk_slot hk (i := i) (by simpa using hi) hd).1
  · have : ∀ n, unl (Array.replicate ops.size false) n ≤ n := fun n => by
      induction n with
      | zero => exact Nat.le_refl _
      | succ n ih => simp only [unl]; split <;> omega
    exact this _
  · intro i o ho hl
    have hi : i < ops.size := (Array.getElem?_eq_some_iff.1 ho).1
    simp [hi] at hl
  · intro i o ho hl
    have hi : i < ops.size := (Array.getElem?_eq_some_iff.1 ho).1
    simp [hi] at hl
end
end Go.Proofs.YtmfgbanckehcgaaDoor
