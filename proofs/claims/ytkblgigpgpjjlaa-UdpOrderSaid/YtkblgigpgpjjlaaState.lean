/- A REGION THAT DRAWS ITS ORDER, BY A STATE: J knows which operations are done and what they left; each operation takes J on. Values that hang on nothing else are facts (F). For what neither only reads nor only grows: a box that is made anywhere and written late. Nothing here is trusted. -/
import Derived.Test.YtkblgigpgpjjlaaLoose
namespace Go.Proofs.Ytkblgigpgpjjlaa
set_option linter.unusedVariables false
open Go.RowKit

section
variable {P : Program} {ops : Array Oper} {Q : Exit → Act → World → Prop} {md : Region.Mode}

/-- The slots with one more filled. -/
def putAt (d : Option Tmp) (v : Value) (x : Tmp → Value) : Tmp → Value := match d with
  | some d => fun t => if t = d then v else x t
  | none => x
def nowDone (L : Nat → Bool) (i : Nat) : Nat → Bool := fun j => if j = i then true else L j
def stateStep (P : Program) (md : Region.Mode) (ops : Array Oper) (A : (Tmp → Value) → Act) (F : Nat → Value → Prop) (J : (Nat → Bool) → (Tmp → Value) → World → Prop) (i : Nat) (o : Oper) : Prop :=
  ∀ (L : Nat → Bool) (x : Tmp → Value) (w : World), J L x w → L i = false → (∀ j ∈ bindsOn md o, L j = true ∧ ∀ o', ops[j]? = some o' → F j (leftBy x o')) →
    ∀ post : Value → World → Prop, (∀ v w', F i (leftAs o v) → J (nowDone L i) (putAt o.dst v x) w' → post v w') →
    if Region.wanted o (yielded ops (A x).tmps) = true then looseUpon P post ((execOp (A x).eval o).run P w) else post undef w
def stateSteps (P : Program) (md : Region.Mode) (ops : Array Oper) (A : (Tmp → Value) → Act) (F : Nat → Value → Prop) (J : (Nat → Bool) → (Tmp → Value) → World → Prop) : Nat → List Oper → Prop
  | _, [] => True
  | i, o :: r => stateStep P md ops A F J i o ∧ stateSteps P md ops A F J (i + 1) r
theorem stateSteps_at {A : (Tmp → Value) → Act} {F : Nat → Value → Prop} {J : (Nat → Bool) → (Tmp → Value) → World → Prop} : ∀ (l : List Oper) (k : Nat), stateSteps P md ops A F J k l → ∀ (i : Nat) (o : Oper), l[i]? = some o → stateStep P md ops A F J (k + i) o
  | [], _, _, _, _, h => by simp at h
  | o' :: r, k, hs, 0, o, h => by
    simp at h
    subst h
    exact hs.1
  | o' :: r, k, hs, i + 1, o, h => by
    have := stateSteps_at r (k + 1) hs.2 i o (by simpa using h)
    rwa [show k + 1 + i = k + (i + 1) from by omega] at this
theorem nowDone_set (listed : Array Bool) (i : Nat) : (fun j => (listed.setIfInBounds i true).getD j true) = nowDone (fun j => listed.getD j true) i := by
  funext j
  unfold nowDone
  by_cases e : j = i
  · subst e
    rw [if_pos rfl]
    by_cases h : j < listed.size
    · simp [h]
    · simp [h]
  · rw [if_neg e, getD_set_ne true (Ne.symm e)]
theorem wpAny_state {a₀ : Act} {F : Nat → Value → Prop} {J : (Nat → Bool) → (Tmp → Value) → World → Prop} (hk : looseOk md ops a₀.tmps.size = true)
    (hs : stateSteps P md ops (fun x => fillAct x ops.toList a₀) F J 0 ops.toList)
    (fin : ∀ (L : Nat → Bool) (x : Tmp → Value) (w : World), (∀ j, j < ops.size → L j = true) → J L x w → (∀ (j : Nat) o', ops[j]? = some o' → F j (leftBy x o')) → Q .normal (fillAct x ops.toList a₀) w) :
    ∀ (fuel : Nat) (listed : Array Bool) (x : Tmp → Value) (w : World), unl listed ops.size ≤ fuel → J (fun j => listed.getD j true) x w →
      (∀ i o, ops[i]? = some o → listed.getD i true = true → F i (leftBy x o)) → wpAny P md ops Q fuel listed (fillAct x ops.toList a₀) w := by
  have done : ∀ (listed : Array Bool) (x : Tmp → Value) (w : World), J (fun j => listed.getD j true) x w → (∀ i o, ops[i]? = some o → listed.getD i true = true → F i (leftBy x o)) →
      Region.ready md ops listed = [] → Q .normal (fillAct x ops.toList a₀) w := fun listed x w hg hf hr =>
    fin _ x w (fun j hj => all_listed hk hr j hj) hg (fun j o ho => hf j o ho (all_listed hk hr j (Array.getElem?_eq_some_iff.1 ho).1))
  intro fuel
  induction fuel with
  | zero =>
    intro listed x w hu hg hf
    have hr : Region.ready md ops listed = [] := by
      rw [List.eq_nil_iff_forall_not_mem]
      intro j hj
      obtain ⟨h0, o, ho, _⟩ := mem_ready.1 hj
      have := unl_zero listed ops.size (by omega) j (Array.getElem?_eq_some_iff.1 ho).1
      rw [this] at h0
      cases h0
    exact ⟨hr, done listed x w hg hf hr⟩
  | succ fuel ih =>
    intro listed x w hu hg hf
    refine ⟨fun hr => done listed x w hg hf hr, fun i hi => ?_⟩
    obtain ⟨h0, o, ho, hall⟩ := mem_ready.1 hi
    have hilt : i < ops.size := (Array.getElem?_eq_some_iff.1 ho).1
    have hst := stateSteps_at ops.toList 0 hs i o (by simpa using ho)
    rw [Nat.zero_add] at hst
    have hdeps : ∀ j ∈ bindsOn md o, listed.getD j true = true ∧ ∀ o', ops[j]? = some o' → F j (leftBy x o') := fun j hj => by
      unfold bindsOn at hj
      obtain ⟨e, he, rfl⟩ := List.mem_map.1 hj
      obtain ⟨he1, he2⟩ := List.mem_filter.1 he
      have h1 := hall e (by simpa using he1) he2
      have hs' : e.on < listed.size := by
        rcases Nat.lt_or_ge e.on listed.size with h' | h'
        · exact h'
        · simp [Array.getElem?_eq_none h'] at h1
      have h2 : listed.getD e.on true = true := by simpa [hs'] using h1
      exact ⟨h2, fun o' ho' => hf e.on o' ho' h2⟩
    have next : ∀ v w', F i (leftAs o v) → J (nowDone (fun j => listed.getD j true) i) (putAt o.dst v x) w' → wpAny P md ops Q fuel (listed.setIfInBounds i true) ((fillAct x ops.toList a₀).put o.dst v) w' := by
      intro v w' hv hj'
      have hun := unl_set listed i h0 ops.size hilt
      rw [← nowDone_set] at hj'
      cases hd : o.dst with
      | none =>
        rw [hd] at hj'
        refine ih _ x w' (by omega) hj' fun j o' ho' hl => ?_
        by_cases hij : i = j
        · subst hij
          rw [ho] at ho'
          cases ho'
          simpa [leftBy, leftAs, hd] using hv
        · rw [getD_set_ne true hij] at hl
          exact hf j o' ho' hl
      | some d =>
        rw [hd] at hj'
        obtain ⟨hds, hdn⟩ := looseOk_slot hk ho hd
        rw [fillAct_put x ops.toList a₀ d v ⟨o, by simpa using Array.mem_of_getElem? ho, hd⟩ hds]
        refine ih _ _ w' (by omega) hj' fun j o' ho' hl => ?_
        by_cases hij : i = j
        · subst hij
          rw [ho] at ho'
          cases ho'
          simpa [leftBy, leftAs, hd] using hv
        · rw [getD_set_ne true hij] at hl
          have hne := hdn j o' ho' hij
          have : leftBy (fun t => if t = d then v else x t) o' = leftBy x o' := by
            unfold leftBy
            cases hd' : o'.dst with
            | none => rfl
            | some d' =>
              have : d' ≠ d := fun e => hne (by rw [hd', e])
              simp [this]
          rw [this]
          exact hf j o' ho' hl
    have h1 := hst _ x w hg h0 hdeps (fun v w' => wpAny P md ops Q fuel (listed.setIfInBounds i true) ((fillAct x ops.toList a₀).put o.dst v) w') next
    unfold wpOp
    rw [ho]
    show if Region.wanted o (yielded ops (fillAct x ops.toList a₀).tmps) = true then _ else _
    split
    · rename_i hw
      rw [if_pos hw] at h1
      exact .inl (wp_of_loose (fun _ _ h => h) h1)
    · rename_i hw
      rw [if_neg hw] at h1
      exact h1

/-- Facts in a list, one for each operation. -/
def inVals4 (Fs : List (Value → Prop)) (i : Nat) (v : Value) : Prop := ((Fs[i]?).getD fun _ => True) v
def isW4 (u : Value) (v : Value) : Prop := v = u
def isAll4 (_ : Value) : Prop := True

/-- **A region that draws its order, by a state.** -/
theorem wp_region_state {id : Nat} {a : Act} {w : World} {A : (Tmp → Value) → Act} (F : Nat → Value → Prop) (J : (Nat → Bool) → (Tmp → Value) → World → Prop) (hm : P.follows .mixedOrders = true) (hk : looseOk .any ops a.tmps.size = true)
    (hA : ∀ x, fillAct x ops.toList a = A x) (h0 : ∀ (L : Nat → Bool) (x : Tmp → Value), (∀ j, j < ops.size → L j = false) → J L x w.drew) (hs : stateSteps P .any ops A F J 0 ops.toList)
    (fin : ∀ (L : Nat → Bool) (x : Tmp → Value) (w' : World), (∀ j, j < ops.size → L j = true) → J L x w' → (∀ (j : Nat) o', ops[j]? = some o' → F j (leftBy x o')) → Q .normal (A x) w') :
    (Code.region id ops true).wp P Q a w := by
  obtain rfl : (fun x => fillAct x ops.toList a) = A := funext hA
  refine wp_region_any hm ?_
  have h := wpAny_state (Q := Q) hk hs fin ops.size (Array.replicate ops.size false) (fun t => a.tmps.getD t undef) w.drew ?_ (h0 _ _ fun j hj => by simp [hj]) ?_
  · rw [fillAct_own a ops.toList fun o ho d hd => ?_] at h
    · exact h
    · obtain ⟨i, hi⟩ := List.getElem?_of_mem ho
      exact (looseOk_slot hk (i := i) (by simpa using hi) hd).1
  · have : ∀ n, unl (Array.replicate ops.size false) n ≤ n := fun n => by
      induction n with
      | zero => exact Nat.le_refl _
      | succ n ih => simp only [unl]; split <;> omega
    exact this _
  · intro i o ho hl
    have hi : i < ops.size := (Array.getElem?_eq_some_iff.1 ho).1
    simp [hi] at hl
end
end Go.Proofs.Ytkblgigpgpjjlaa
