/- A REGION THAT DRAWS ITS ORDER AND THEN GOES ON IN THE TEXT's ORDER: its first m operations by facts that stay (Loose), in whatever order; the others wait for them and for one another (the phase of the stores), and are walked as any list of operations. Nothing here is trusted. -/
import Derived.Test.YtpbnpkbmefjiaaaLoose
import Derived.Tactics
namespace Go.Proofs.Ytpbnpkbmefjiaaa
set_option linter.unusedVariables false
open Go.RowKit

section
variable {P : Program} {ops : Array Oper} {Q : Exit → Act → World → Prop} {md : Region.Mode}

/-- Of the first m each is waited for by a later one, up to the one at m; from there on each waits for the one ahead of it. -/
def phaseOk (md : Region.Mode) (ops : Array Oper) (m : Nat) : Bool :=
  decide (m < ops.size) && ((List.range m).all fun j => ops.toList.zipIdx.any fun (o, i) => decide (j < i) && decide (i ≤ m) && (bindsOn md o).contains j) &&
  (ops.toList.zipIdx.all fun (o, i) => decide (i ≤ m) || (bindsOn md o).contains (i - 1))

theorem phase_lt {m : Nat} (h : phaseOk md ops m = true) : m < ops.size := by
  unfold phaseOk at h
  simp only [Bool.and_eq_true, decide_eq_true_eq] at h
  exact h.1.1
theorem phase_at {m : Nat} (h : phaseOk md ops m = true) {j : Nat} (hj : j < m) : ∃ i o, ops[i]? = some o ∧ j < i ∧ i ≤ m ∧ j ∈ bindsOn md o := by
  unfold phaseOk at h
  simp only [Bool.and_eq_true] at h
  have h1 := List.all_eq_true.1 h.1.2 j (List.mem_range.2 hj)
  rw [List.any_eq_true] at h1
  obtain ⟨⟨o, i⟩, hm, hc⟩ := h1
  rw [List.mem_zipIdx_iff_getElem?] at hm
  simp only [Bool.and_eq_true, decide_eq_true_eq, List.contains_iff_mem] at hc
  exact ⟨i, o, by simpa using hm, hc.1.1, hc.1.2, hc.2⟩
theorem phase_seq {m : Nat} (h : phaseOk md ops m = true) {i : Nat} {o : Oper} (ho : ops[i]? = some o) (hi : m < i) : i - 1 ∈ bindsOn md o := by
  unfold phaseOk at h
  simp only [Bool.and_eq_true] at h
  have h1 := List.all_eq_true.1 h.2 (o, i) (by rw [List.mem_zipIdx_iff_getElem?]; simpa using ho)
  simp only [Bool.or_eq_true, decide_eq_true_eq, List.contains_iff_mem] at h1
  exact h1.resolve_left (by omega)

theorem dep_listed {listed : Array Bool} {o : Oper} (hall : ∀ e ∈ o.after, Region.binds md e = true → listed.getD e.on false = true) : ∀ j ∈ bindsOn md o, listed.getD j true = true ∧ j < listed.size := by
  intro j hj
  unfold bindsOn at hj
  obtain ⟨e, he, rfl⟩ := List.mem_map.1 hj
  obtain ⟨he1, he2⟩ := List.mem_filter.1 he
  have h1 := hall e (by simpa using he1) he2
  have hs' : e.on < listed.size := by
    rcases Nat.lt_or_ge e.on listed.size with h' | h'
    · exact h'
    · simp [Array.getElem?_eq_none h'] at h1
  exact ⟨by simpa [hs'] using h1, hs'⟩

/-- All up to k have come, no other: the rest comes in the text's order. -/
theorem wpAny_seq {m size : Nat} (hk : looseOk md ops size = true) (hp : phaseOk md ops m = true) : ∀ (fuel : Nat) (listed : Array Bool) (k : Nat) (a : Act) (w : World), m ≤ k → k ≤ ops.size → ops.size - k ≤ fuel → listed.size = ops.size →
    (∀ j, j < ops.size → listed.getD j true = decide (j < k)) → wpList P ops Q (ops.toList.drop k) a w → wpAny P md ops Q fuel listed a w := by
  intro fuel
  induction fuel with
  | zero =>
    intro listed k a w hmk hkm hf hsz hl h
    obtain rfl : k = ops.size := by omega
    refine ⟨?_, ?_⟩
    · rw [List.eq_nil_iff_forall_not_mem]
      intro j hj
      obtain ⟨h0, o, ho, _⟩ := mem_ready.1 hj
      have hj := (Array.getElem?_eq_some_iff.1 ho).1
      rw [hl j hj] at h0
      simp [hj] at h0
    · rw [List.drop_of_length_le (by simp)] at h
      exact h
  | succ fuel ih =>
    intro listed k a w hmk hkm hf hsz hl h
    rcases Nat.lt_or_ge k ops.size with hlt | hge
    · have hdrop : ops.toList.drop k = ops[k] :: ops.toList.drop (k + 1) := by
        rw [List.drop_eq_getElem_cons (by simpa using hlt)]
        simp
      rw [hdrop] at h
      have hset : ∀ j, j < ops.size → (listed.setIfInBounds k true).getD j true = decide (j < k + 1) := fun j hj => by
        by_cases e : j = k
        · subst e
          have : j < listed.size := by omega
          simp [this]
        · rw [getD_set_ne true (Ne.symm e), hl j hj]
          by_cases h' : j < k
          · rw [decide_eq_true h', decide_eq_true (by omega)]
          · rw [decide_eq_false h', decide_eq_false (by omega)]
      have next : ∀ a w, wpList P ops Q (ops.toList.drop (k + 1)) a w → wpAny P md ops Q fuel (listed.setIfInBounds k true) a w := fun a w h' =>
        ih _ (k + 1) a w (by omega) (by omega) (by omega) (by simpa using hsz) hset h'
      refine ⟨fun hr => ?_, fun i hi => ?_⟩
      · exfalso
        have h1 := all_listed hk hr k hlt
        rw [hl k hlt] at h1
        simp at h1
      · obtain ⟨h0, o, ho, hall⟩ := mem_ready.1 hi
        have hilt : i < ops.size := (Array.getElem?_eq_some_iff.1 ho).1
        have hik : k ≤ i := by
          rw [hl i hilt] at h0
          simpa using h0
        have : i = k := by
          rcases Nat.lt_or_ge k i with h' | h'
          · have hd := (dep_listed hall _ (phase_seq hp ho (by omega))).1
            rw [hl (i - 1) (by omega)] at hd
            simp at hd
            omega
          · omega
        subst this
        unfold wpOp
        rw [ho]
        rw [show ops[i] = o from by rw [Array.getElem?_eq_getElem hilt] at ho; exact Option.some.inj ho] at h
        simp only [wpList] at h
        show if Region.wanted o (yielded ops a.tmps) = true then _ else _
        split
        · rename_i hw
          rw [if_pos hw] at h
          exact h.imp (Oper.wp_mono next) id
        · rename_i hw
          rw [if_neg hw] at h
          exact next _ _ h
    · obtain rfl : k = ops.size := by omega
      rw [List.drop_of_length_le (by simp)] at h
      refine ⟨fun _ => h, fun i hi => ?_⟩
      obtain ⟨h0, o, ho, _⟩ := mem_ready.1 hi
      have hilt := (Array.getElem?_eq_some_iff.1 ho).1
      rw [hl i hilt] at h0
      simp [hilt] at h0

theorem wpAny_phase {a₀ : Act} {w₀ : World} {F : Nat → Value → World → Prop} {m : Nat} (hp : phaseOk md ops m = true) (hk : looseOk md ops a₀.tmps.size = true)
    (hF : ∀ i v w w', Grow w w' → F i v w → F i v w') (hs : looseSteps P md ops (fun x => fillAct x (ops.toList.take m) a₀) w₀ F 0 (ops.toList.take m))
    (fin : ∀ (x : Tmp → Value) (w : World), Grow w₀ w → (∀ (j : Nat) o', j < m → ops[j]? = some o' → F j (leftBy x o') w) → wpList P ops Q (ops.toList.drop m) (fillAct x (ops.toList.take m) a₀) w) :
    ∀ (fuel : Nat) (listed : Array Bool) (x : Tmp → Value) (w : World), unl listed ops.size ≤ fuel → ops.size - m ≤ fuel → listed.size = ops.size → Grow w₀ w →
      (∀ j, m ≤ j → j < ops.size → listed.getD j true = false) → (∀ (i : Nat) o, ops[i]? = some o → listed.getD i true = true → ∀ j ∈ bindsOn md o, listed.getD j true = true) →
      (∀ i o, ops[i]? = some o → listed.getD i true = true → F i (leftBy x o) w) → wpAny P md ops Q fuel listed (fillAct x (ops.toList.take m) a₀) w := by
  have hlt := phase_lt hp
  intro fuel
  induction fuel with
  | zero =>
    intro listed x w hu hf hsz hg hm0 hcl hf'
    have h1 := unl_zero listed ops.size (by omega) m (by omega)
    rw [hm0 m (Nat.le_refl _) hlt] at h1
    cases h1
  | succ fuel ih =>
    intro listed x w hu hfu hsz hg hm0 hcl hf
    by_cases hall0 : ∀ j, j < m → listed.getD j true = true
    · refine wpAny_seq hk hp (fuel + 1) listed m _ w (Nat.le_refl _) (by omega) (by omega) hsz (fun j hj => ?_) (fin x w hg fun j o' hj ho' => hf j o' ho' (hall0 j hj))
      by_cases h' : j < m
      · rw [hall0 j h', decide_eq_true h']
      · rw [hm0 j (by omega) hj, decide_eq_false h']
    · have hfuel : ops.size - m ≤ fuel := by
        have h1 : ∀ (n : Nat), n ≤ ops.size → n - m ≤ unl listed n := by
          intro n
          induction n with
          | zero => intro _; simp
          | succ n ihn =>
            intro hn
            have := ihn (by omega)
            simp only [unl]
            by_cases h' : m ≤ n
            · rw [if_neg (by rw [hm0 n h' (by omega)]; simp)]
              omega
            · split <;> omega
        have h2 : ∃ j, j < m ∧ listed.getD j true = false := by
          rcases Classical.not_forall.1 hall0 with ⟨j, hj⟩
          rcases Classical.not_imp.1 hj with ⟨h3, h4⟩
          exact ⟨j, h3, by simpa using h4⟩
        obtain ⟨j, hj, hjl⟩ := h2
        have h3 : ∀ (n : Nat), n ≤ ops.size → j < n → n - m + 1 ≤ unl listed n := by
          intro n
          induction n with
          | zero => intro _ h; omega
          | succ n ihn =>
            intro hn hjn
            simp only [unl]
            by_cases e : j = n
            · subst e
              have := h1 j (by omega)
              rw [if_neg (by rw [hjl]; simp)]
              omega
            · have := ihn (by omega) (by omega)
              by_cases h' : m ≤ n
              · rw [if_neg (by rw [hm0 n h' (by omega)]; simp)]
                omega
              · split <;> omega
        have := h3 ops.size (Nat.le_refl _) (by omega)
        omega
      refine ⟨fun hr => ?_, fun i hi => ?_⟩
      · have := all_listed hk hr m hlt
        rw [hm0 m (Nat.le_refl _) hlt] at this
        cases this
      · obtain ⟨h0, o, ho, hall⟩ := mem_ready.1 hi
        have hilt : i < ops.size := (Array.getElem?_eq_some_iff.1 ho).1
        have hdepl : ∀ j ∈ bindsOn md o, listed.getD j true = true := fun j hj => (dep_listed hall j hj).1
        have him : i < m := by
          rcases Nat.lt_or_ge i m with h' | h'
          · exact h'
          · exfalso
            have e : i = m := by
              rcases Nat.lt_or_ge m i with h2 | h2
              · have h3 := hdepl _ (phase_seq hp ho h2)
                rw [hm0 (i - 1) (by omega) (by omega)] at h3
                cases h3
              · omega
            subst e
            apply hall0
            have key : ∀ (n j : Nat), j + n = i → 0 < n → listed.getD j true = true := by
              intro n
              induction n using Nat.strongRecOn with
              | _ n ihn =>
                intro j hj hn
                obtain ⟨i', o', ho', hji, him', hb⟩ := phase_at hp (j := j) (by omega)
                rcases Nat.lt_or_ge i' i with h1 | h1
                · exact hcl i' o' ho' (ihn (i - i') (by omega) i' (by omega) (by omega)) j hb
                · obtain rfl : i' = i := by omega
                  rw [ho] at ho'
                  cases ho'
                  exact hdepl j hb
            exact fun j hj => key (i - j) j (by omega) (by omega)
        have hst := looseSteps_at (ops.toList.take m) 0 hs i o (by rw [List.getElem?_take, if_pos (by omega)]; simpa using ho)
        rw [Nat.zero_add] at hst
        have hdeps : ∀ j ∈ bindsOn md o, ∀ o', ops[j]? = some o' → F j (leftBy x o') w := fun j hj o' ho' => hf j o' ho' (hdepl j hj)
        have hm1 : ∀ j, m ≤ j → j < ops.size → (listed.setIfInBounds i true).getD j true = false := fun j h1 h2 => by rw [getD_set_ne true (by omega)]; exact hm0 j h1 h2
        have hcl1 : ∀ (i' : Nat) o', ops[i']? = some o' → (listed.setIfInBounds i true).getD i' true = true → ∀ j ∈ bindsOn md o', (listed.setIfInBounds i true).getD j true = true := by
          intro i' o' ho' hl j hj
          have up : listed.getD j true = true → (listed.setIfInBounds i true).getD j true = true := fun h => by
            by_cases e : i = j
            · subst e
              have : i < listed.size := by omega
              simp [this]
            · rw [getD_set_ne true e]; exact h
          by_cases e : i = i'
          · subst e
            rw [ho] at ho'
            cases ho'
            exact up (hdepl j hj)
          · rw [getD_set_ne true e] at hl
            exact up (hcl i' o' ho' hl j hj)
        have hmem : o ∈ ops.toList.take m := by
          have h1 : (ops.toList.take m)[i]? = some o := by rw [List.getElem?_take, if_pos him]; simpa using ho
          exact List.mem_of_getElem? h1
        have next : ∀ v w', Grow w w' → F i (leftAs o v) w' → wpAny P md ops Q fuel (listed.setIfInBounds i true) ((fillAct x (ops.toList.take m) a₀).put o.dst v) w' := by
          intro v w' hg' hv
          have hun := unl_set listed i h0 ops.size hilt
          cases hd : o.dst with
          | none =>
            refine ih _ x w' (by omega) hfuel (by simpa using hsz) (hg.trans hg') hm1 hcl1 fun j o' ho' hl => ?_
            by_cases hij : i = j
            · subst hij
              rw [ho] at ho'
              cases ho'
              simpa [leftBy, leftAs, hd] using hv
            · rw [getD_set_ne true hij] at hl
              exact hF _ _ _ _ hg' (hf j o' ho' hl)
          | some d =>
            obtain ⟨hds, hdn⟩ := looseOk_slot hk ho hd
            rw [fillAct_put x (ops.toList.take m) a₀ d v ⟨o, hmem, hd⟩ hds]
            refine ih _ _ w' (by omega) hfuel (by simpa using hsz) (hg.trans hg') hm1 hcl1 fun j o' ho' hl => ?_
            by_cases hij : i = j
            · subst hij
              rw [ho] at ho'
              cases ho'
              simpa [leftBy, leftAs, hd] using hv
            · rw [getD_set_ne true hij] at hl
              have hne := hdn j o' ho' hij
              have : leftBy (fun t => if t = d then v else x t) o' = leftBy x o' := by
                unfold leftBy
                cases hd' : o'.dst with
                | none => rfl
                | some d' =>
                  have : d' ≠ d := fun e => hne (by rw [hd', e])
                  simp [this]
              rw [this]
              exact hF _ _ _ _ hg' (hf j o' ho' hl)
        have h1 := hst x w hg hdeps (fun v w' => wpAny P md ops Q fuel (listed.setIfInBounds i true) ((fillAct x (ops.toList.take m) a₀).put o.dst v) w') next
        unfold wpOp
        rw [ho]
        show if Region.wanted o (yielded ops (fillAct x (ops.toList.take m) a₀).tmps) = true then _ else _
        split
        · rename_i hw
          rw [if_pos hw] at h1
          exact .inl (wp_of_loose (fun _ _ h => h) h1)
        · rename_i hw
          rw [if_neg hw] at h1
          exact h1

/-- **A region that draws its order, up to its m-th operation; behind them the text's order.** -/
theorem wp_region_phase {id : Nat} {a : Act} {w : World} {A : (Tmp → Value) → Act} (F : Nat → Value → World → Prop) (m : Nat) (hm : P.follows .mixedOrders = true) (hp : phaseOk .any ops m = true) (hk : looseOk .any ops a.tmps.size = true)
    (hF : ∀ i v w w', Grow w w' → F i v w → F i v w') (hA : ∀ x, fillAct x (ops.toList.take m) a = A x) (hs : looseSteps P .any ops A w F 0 (ops.toList.take m))
    (fin : ∀ (x : Tmp → Value) (w' : World), Grow w w' → (∀ (j : Nat) o', j < m → ops[j]? = some o' → F j (leftBy x o') w') → wpList P ops Q (ops.toList.drop m) (A x) w') :
    (Code.region id ops true).wp P Q a w := by
  obtain rfl : (fun x => fillAct x (ops.toList.take m) a) = A := funext hA
  refine wp_region_any hm ?_
  have hlt := phase_lt hp
  have hrep : ∀ j, j < ops.size → (Array.replicate ops.size false).getD j true = false := fun j hj => by simp [hj]
  have h := wpAny_phase (Q := Q) hp hk hF hs fin ops.size (Array.replicate ops.size false) (fun t => a.tmps.getD t undef) w.drew ?_ (by omega) (by simp) (Grow.drew w) (fun j _ hj => hrep j hj) ?_ ?_
  · rw [fillAct_own a (ops.toList.take m) fun o ho d hd => ?_] at h
    · exact h
    · obtain ⟨i, hi⟩ := List.getElem?_of_mem (List.mem_of_mem_take ho)
      exact (looseOk_slot hk (i := i) (by simpa using hi) hd).1
  · have : ∀ n, unl (Array.replicate ops.size false) n ≤ n := fun n => by
      induction n with
      | zero => exact Nat.le_refl _
      | succ n ih => simp only [unl]; split <;> omega
    exact this _
  · intro i o ho hl
    rw [hrep i (Array.getElem?_eq_some_iff.1 ho).1] at hl
    cases hl
  · intro i o ho hl
    rw [hrep i (Array.getElem?_eq_some_iff.1 ho).1] at hl
    cases hl
end
end Go.Proofs.Ytpbnpkbmefjiaaa
