/- A REGION THAT DRAWS ITS ORDER, SOME OF ITS OPERATIONS IN A CHAIN: each link waits for the one ahead of it and may do to new memory what it likes; the others only read old memory, and may come anywhere between. Nothing here is trusted. -/
import Derived.Test.YtkblgigpgpjjlaaLoose
namespace Go.Proofs.Ytkblgigpgpjjlaa
set_option linter.unusedVariables false
open Go.RowKit

section
variable {P : Program} {ops : Array Oper} {Q : Exit → Act → World → Prop} {md : Region.Mode}

/-- The links lie in the region, are other ones, and each waits for the one ahead of it. -/
def weaveOk (md : Region.Mode) (ops : Array Oper) (seq : List Nat) : Bool :=
  (seq.all fun i => decide (i < ops.size)) &&
  ((List.range seq.length).all fun j => (List.range seq.length).all fun j' => decide (j = j') || decide (seq[j]? ≠ seq[j']?)) &&
  ((List.range seq.length).all fun j => match seq[j]?, seq[j + 1]? with
    | some i, some i' => (match ops[i']? with
      | some o => (bindsOn md o).contains i
      | none => false)
    | _, _ => true)

theorem weave_other {seq : List Nat} (h : weaveOk md ops seq = true) {j j' i : Nat} (h1 : seq[j]? = some i) (h2 : seq[j']? = some i) : j = j' := by
  unfold weaveOk at h
  simp only [Bool.and_eq_true] at h
  have l1 := (List.getElem?_eq_some_iff.1 h1).1
  have l2 := (List.getElem?_eq_some_iff.1 h2).1
  have h3 := List.all_eq_true.1 (List.all_eq_true.1 h.1.2 j (List.mem_range.2 l1)) j' (List.mem_range.2 l2)
  simp only [Bool.or_eq_true, decide_eq_true_eq] at h3
  rcases h3 with h3 | h3
  · exact h3
  · exact absurd (h1.trans h2.symm) h3
theorem weave_next {seq : List Nat} (h : weaveOk md ops seq = true) {j i i' : Nat} {o : Oper} (h1 : seq[j]? = some i) (h2 : seq[j + 1]? = some i') (ho : ops[i']? = some o) : i ∈ bindsOn md o := by
  unfold weaveOk at h
  simp only [Bool.and_eq_true] at h
  have l1 := (List.getElem?_eq_some_iff.1 h1).1
  have h3 := List.all_eq_true.1 h.2 j (List.mem_range.2 l1)
  simp only [h1, h2, ho, List.contains_iff_mem] at h3
  exact h3

/-- The value that an operation left, by its place. -/
def valAt (ops : Array Oper) (x : Tmp → Value) (i : Nat) : Value := match ops[i]? with
  | some o => leftBy x o
  | none => undef
def valsAt (ops : Array Oper) (x : Tmp → Value) (seq : List Nat) (k : Nat) : List Value := (seq.take k).map (valAt ops x)

/-- What is asked of an operation that only reads. -/
def calmStep (P : Program) (md : Region.Mode) (ops : Array Oper) (A : (Tmp → Value) → Act) (I : World → Prop) (seq : List Nat) (F : Nat → Value → Prop) (i : Nat) (o : Oper) : Prop :=
  seq.contains i = false → ∀ (x : Tmp → Value) (w : World), I w → (∀ j ∈ bindsOn md o, seq.contains j = false → ∀ o', ops[j]? = some o' → F j (leftBy x o')) →
    ∀ post : Value → World → Prop, (∀ v, F i (leftAs o v) → post v w) → if Region.wanted o (yielded ops (A x).tmps) = true then looseUpon P post ((execOp (A x).eval o).run P w) else post undef w
def calmSteps (P : Program) (md : Region.Mode) (ops : Array Oper) (A : (Tmp → Value) → Act) (I : World → Prop) (seq : List Nat) (F : Nat → Value → Prop) : Nat → List Oper → Prop
  | _, [] => True
  | i, o :: r => calmStep P md ops A I seq F i o ∧ calmSteps P md ops A I seq F (i + 1) r
theorem calmSteps_at {A : (Tmp → Value) → Act} {I : World → Prop} {seq : List Nat} {F : Nat → Value → Prop} : ∀ (l : List Oper) (k : Nat), calmSteps P md ops A I seq F k l → ∀ (i : Nat) (o : Oper), l[i]? = some o → calmStep P md ops A I seq F (k + i) o
  | [], _, _, _, _, h => by simp at h
  | o' :: r, k, hs, 0, o, h => by
    simp at h
    subst h
    exact hs.1
  | o' :: r, k, hs, i + 1, o, h => by
    have := calmSteps_at r (k + 1) hs.2 i o (by simpa using h)
    rwa [show k + 1 + i = k + (i + 1) from by omega] at this
/-- What is asked of a link. -/
def linkStep (P : Program) (md : Region.Mode) (ops : Array Oper) (A : (Tmp → Value) → Act) (I : World → Prop) (seq : List Nat) (F : Nat → Value → Prop) (S : Nat → List Value → World → Prop) (j : Nat) (o : Oper) : Prop :=
  ∀ (x : Tmp → Value) (w : World), I w → (∀ d ∈ bindsOn md o, seq.contains d = false → ∀ o', ops[d]? = some o' → F d (leftBy x o')) → S j (valsAt ops x seq j) w →
    ∀ post : Value → World → Prop, (∀ v w', I w' → S (j + 1) (valsAt ops x seq j ++ [leftAs o v]) w' → post v w') →
      if Region.wanted o (yielded ops (A x).tmps) = true then looseUpon P post ((execOp (A x).eval o).run P w) else post undef w
def linkSteps (P : Program) (md : Region.Mode) (ops : Array Oper) (A : (Tmp → Value) → Act) (I : World → Prop) (seq : List Nat) (F : Nat → Value → Prop) (S : Nat → List Value → World → Prop) : Nat → List Oper → Prop
  | _, [] => True
  | j, o :: r => linkStep P md ops A I seq F S j o ∧ linkSteps P md ops A I seq F S (j + 1) r
theorem linkSteps_at {A : (Tmp → Value) → Act} {I : World → Prop} {seq : List Nat} {F : Nat → Value → Prop} {S : Nat → List Value → World → Prop} : ∀ (l : List Oper) (k : Nat), linkSteps P md ops A I seq F S k l → ∀ (i : Nat) (o : Oper), l[i]? = some o → linkStep P md ops A I seq F S (k + i) o
  | [], _, _, _, _, h => by simp at h
  | o' :: r, k, hs, 0, o, h => by
    simp at h
    subst h
    exact hs.1
  | o' :: r, k, hs, i + 1, o, h => by
    have := linkSteps_at r (k + 1) hs.2 i o (by simpa using h)
    rwa [show k + 1 + i = k + (i + 1) from by omega] at this

theorem valAt_put {size : Nat} (hk : looseOk md ops size = true) {i : Nat} {o : Oper} {d : Nat} (ho : ops[i]? = some o) (hd : o.dst = some d) (v : Value) (x : Tmp → Value) (i' : Nat) (hne : i' ≠ i) :
    valAt ops (fun t => if t = d then v else x t) i' = valAt ops x i' := by
  unfold valAt
  cases ho' : ops[i']? with
  | none => rfl
  | some o' =>
    have h1 := (looseOk_slot hk ho hd).2 i' o' ho' (Ne.symm hne)
    simp only [leftBy]
    cases hd' : o'.dst with
    | none => rfl
    | some d' =>
      have : d' ≠ d := fun e => h1 (by rw [hd', e])
      simp [this]

theorem wpAny_weave {a₀ : Act} {I : World → Prop} {seq : List Nat} {so : List Oper} {F : Nat → Value → Prop} {S : Nat → List Value → World → Prop} (hw : weaveOk md ops seq = true) (hk : looseOk md ops a₀.tmps.size = true)
    (hso : seq.map (fun i => ops[i]?) = so.map some)
    (hL : calmSteps P md ops (fun x => fillAct x ops.toList a₀) I seq F 0 ops.toList) (hS : linkSteps P md ops (fun x => fillAct x ops.toList a₀) I seq F S 0 so)
    (fin : ∀ (x : Tmp → Value) (w : World), I w → (∀ (j : Nat) o', ops[j]? = some o' → seq.contains j = false → F j (leftBy x o')) → S seq.length (valsAt ops x seq seq.length) w → Q .normal (fillAct x ops.toList a₀) w) :
    ∀ (fuel : Nat) (listed : Array Bool) (x : Tmp → Value) (w : World) (k : Nat), unl listed ops.size ≤ fuel → listed.size = ops.size → I w →
      (∀ i o, ops[i]? = some o → seq.contains i = false → listed.getD i true = true → F i (leftBy x o)) → (∀ j i, seq[j]? = some i → (listed.getD i true = true ↔ j < k)) → k ≤ seq.length →
      S k (valsAt ops x seq k) w → wpAny P md ops Q fuel listed (fillAct x ops.toList a₀) w := by
  have done : ∀ (listed : Array Bool) (x : Tmp → Value) (w : World) (k : Nat), I w → (∀ i o, ops[i]? = some o → seq.contains i = false → listed.getD i true = true → F i (leftBy x o)) →
      (∀ j i, seq[j]? = some i → (listed.getD i true = true ↔ j < k)) → k ≤ seq.length → S k (valsAt ops x seq k) w → Region.ready md ops listed = [] → Q .normal (fillAct x ops.toList a₀) w := by
    intro listed x w k hI hf hq hkl hs hr
    have hall := all_listed hk hr
    have hkk : k = seq.length := by
      rcases Nat.lt_or_ge k seq.length with h' | h'
      · have h1 := (hq k seq[k] (List.getElem?_eq_getElem h')).1 (by
          rcases Nat.lt_or_ge seq[k] ops.size with h2 | h2
          · exact hall _ h2
          · unfold weaveOk at hw
            simp only [Bool.and_eq_true] at hw
            have h3 := List.all_eq_true.1 hw.1.1 seq[k] (List.getElem_mem h')
            simp at h3
            omega)
        omega
      · omega
    subst hkk
    exact fin x w hI (fun j o ho hn => hf j o ho hn (hall j (Array.getElem?_eq_some_iff.1 ho).1)) hs
  intro fuel
  induction fuel with
  | zero =>
    intro listed x w k hu hsz hI hf hq hkl hs
    have hr : Region.ready md ops listed = [] := by
      rw [List.eq_nil_iff_forall_not_mem]
      intro j hj
      obtain ⟨h0, o, ho, _⟩ := mem_ready.1 hj
      have := unl_zero listed ops.size (by omega) j (Array.getElem?_eq_some_iff.1 ho).1
      rw [this] at h0
      cases h0
    exact ⟨hr, done listed x w k hI hf hq hkl hs hr⟩
  | succ fuel ih =>
    intro listed x w k hu hsz hI hf hq hkl hs
    refine ⟨fun hr => done listed x w k hI hf hq hkl hs hr, fun i hi => ?_⟩
    obtain ⟨h0, o, ho, hall⟩ := mem_ready.1 hi
    have hilt : i < ops.size := (Array.getElem?_eq_some_iff.1 ho).1
    have hdepl : ∀ j ∈ bindsOn md o, listed.getD j true = true := fun j hj => by
      unfold bindsOn at hj
      obtain ⟨e, he, rfl⟩ := List.mem_map.1 hj
      obtain ⟨he1, he2⟩ := List.mem_filter.1 he
      have h1 := hall e (by simpa using he1) he2
      have hs' : e.on < listed.size := by
        rcases Nat.lt_or_ge e.on listed.size with h' | h'
        · exact h'
        · simp [Array.getElem?_eq_none h'] at h1
      simpa [hs'] using h1
    have hdeps : ∀ j ∈ bindsOn md o, seq.contains j = false → ∀ o', ops[j]? = some o' → F j (leftBy x o') := fun j hj hn o' ho' => hf j o' ho' hn (hdepl j hj)
    have hun := unl_set listed i h0 ops.size hilt
    have hself : (listed.setIfInBounds i true).getD i true = true := by
      have : i < listed.size := by omega
      simp [this]
    -- the new values: those of other places are as they were
    have keepF : ∀ (x' : Tmp → Value), (∀ i', i' ≠ i → valAt ops x' i' = valAt ops x i') → (seq.contains i = false → F i (valAt ops x' i)) →
        ∀ i' o', ops[i']? = some o' → seq.contains i' = false → (listed.setIfInBounds i true).getD i' true = true → F i' (leftBy x' o') := by
      intro x' hx hi' i' o' ho' hn hl
      have e1 : leftBy x' o' = valAt ops x' i' := by unfold valAt; rw [ho']
      by_cases hii : i' = i
      · subst hii
        rw [e1]
        exact hi' hn
      · rw [getD_set_ne true (Ne.symm hii)] at hl
        rw [e1, hx i' hii]
        have := hf i' o' ho' hn hl
        unfold valAt
        rw [ho']
        exact this
    have putEq : ∀ v, ∃ x', (fillAct x ops.toList a₀).put o.dst v = fillAct x' ops.toList a₀ ∧ (∀ i', i' ≠ i → valAt ops x' i' = valAt ops x i') ∧ valAt ops x' i = leftAs o v := by
      intro v
      cases hd : o.dst with
      | none => exact ⟨x, rfl, fun _ _ => rfl, by unfold valAt; rw [ho]; simp [leftBy, leftAs, hd]⟩
      | some d =>
        obtain ⟨hds, hdn⟩ := looseOk_slot hk ho hd
        exact ⟨_, fillAct_put x ops.toList a₀ d v ⟨o, by simpa using Array.mem_of_getElem? ho, hd⟩ hds, fun i' hne => valAt_put hk ho hd v x i' hne, by unfold valAt; rw [ho]; simp [leftBy, leftAs, hd]⟩
    have close : ∀ (K : Value → World → Prop) , (∀ v w', K v w' → wpAny P md ops Q fuel (listed.setIfInBounds i true) ((fillAct x ops.toList a₀).put o.dst v) w') →
        (if Region.wanted o (yielded ops (fillAct x ops.toList a₀).tmps) = true then looseUpon P K ((execOp (fillAct x ops.toList a₀).eval o).run P w) else K undef w) →
        wpOp P ops Q i (wpAny P md ops Q fuel (listed.setIfInBounds i true)) (fillAct x ops.toList a₀) w := by
      intro K hK h1
      unfold wpOp
      rw [ho]
      show if Region.wanted o (yielded ops (fillAct x ops.toList a₀).tmps) = true then _ else _
      split
      · rename_i hw'
        rw [if_pos hw'] at h1
        exact .inl (wp_of_loose hK h1)
      · rename_i hw'
        rw [if_neg hw'] at h1
        exact hK _ _ h1
    by_cases hc : seq.contains i = true
    · obtain ⟨j, hj⟩ := List.getElem?_of_mem (List.contains_iff_mem.1 hc)
      have hjk : ¬ j < k := fun h => by
        have := (hq j i hj).2 h
        rw [this] at h0
        cases h0
      have hjk2 : j = k := by
        rcases Nat.eq_zero_or_pos j with hz | hz
        · omega
        · have hj1 : j - 1 < seq.length := by have := (List.getElem?_eq_some_iff.1 hj).1; omega
          have hp := List.getElem?_eq_getElem hj1
          have hmem := weave_next hw hp (by rw [show j - 1 + 1 = j from by omega]; exact hj) ho
          have := (hq (j - 1) _ hp).1 (hdepl _ hmem)
          omega
      subst hjk2
      have hso' : so[j]? = some o := by
        have h1 := congrArg (fun q => q[j]?) hso
        simp only [List.getElem?_map, hj, Option.map_some, ho] at h1
        cases h2 : so[j]? with
        | none => rw [h2] at h1; simp at h1
        | some o2 => rw [h2] at h1; simp at h1; rw [h1]
      have hst := linkSteps_at so 0 hS j o hso'
      rw [Nat.zero_add] at hst
      have hjl := (List.getElem?_eq_some_iff.1 hj).1
      refine close (fun v w' => I w' ∧ S (j + 1) (valsAt ops x seq j ++ [leftAs o v]) w') (fun v w' hvw => ?_) (hst x w hI hdeps hs _ fun v w' h1 h2 => ⟨h1, h2⟩)
      obtain ⟨x', e', hx', hv'⟩ := putEq v
      rw [e']
      refine ih _ x' w' (j + 1) (by omega) (by simpa using hsz) hvw.1 (keepF x' hx' fun hn => by rw [hc] at hn; cases hn) (fun j' i' hj' => ?_) (by omega) ?_
      · by_cases e : i' = i
        · subst e
          have := weave_other hw hj' hj
          rw [hself]
          exact ⟨fun _ => by omega, fun _ => rfl⟩
        · rw [getD_set_ne true (Ne.symm e), hq j' i' hj']
          constructor
          · intro h; omega
          · intro h
            rcases Nat.lt_or_ge j' j with h' | h'
            · exact h'
            · have : j' = j := by omega
              subst this
              rw [hj] at hj'
              exact absurd (Option.some.inj hj').symm e
      · have e3 : valsAt ops x' seq (j + 1) = valsAt ops x seq j ++ [leftAs o v] := by
          unfold valsAt
          rw [List.take_succ_eq_append_getElem hjl, List.map_append]
          have e4 : seq[j] = i := (List.getElem?_eq_some_iff.1 hj).2
          congr 1
          · apply List.map_congr_left
            intro i' hi'
            refine hx' i' fun e => ?_
            subst e
            obtain ⟨j', hj'⟩ := List.getElem?_of_mem hi'
            have hlt' : j' < j := by
              have := (List.getElem?_eq_some_iff.1 hj').1
              simp at this
              omega
            rw [List.getElem?_take, if_pos hlt'] at hj'
            have := weave_other hw hj' hj
            omega
          · simp [e4, hv']
        rw [e3]
        exact hvw.2
    · have hc' : seq.contains i = false := by simpa using hc
      have hst := calmSteps_at ops.toList 0 hL i o (by simpa using ho)
      rw [Nat.zero_add] at hst
      refine close (fun v w' => w' = w ∧ F i (leftAs o v)) (fun v w' hvw => ?_) (hst hc' x w hI hdeps _ fun v h1 => ⟨rfl, h1⟩)
      obtain ⟨rfl, hv⟩ := hvw
      obtain ⟨x', e', hx', hv'⟩ := putEq v
      rw [e']
      have hnot : ∀ j' i', seq[j']? = some i' → i' ≠ i := fun j' i' hj' e => by
        subst e
        rw [List.contains_iff_mem.2 (List.mem_of_getElem? hj')] at hc'
        cases hc'
      refine ih _ x' _ k (by omega) (by simpa using hsz) hI (keepF x' hx' fun _ => by rw [hv']; exact hv) (fun j' i' hj' => by rw [getD_set_ne true (Ne.symm (hnot j' i' hj'))]; exact hq j' i' hj') hkl ?_
      have e3 : valsAt ops x' seq k = valsAt ops x seq k := by
        unfold valsAt
        apply List.map_congr_left
        intro i' hi'
        obtain ⟨j', hj'⟩ := List.getElem?_of_mem (List.mem_of_mem_take hi')
        exact hx' i' (hnot j' i' hj')
      rw [e3]
      exact hs

/-- **A region that draws its order: a chain, and what only reads.** -/
theorem wp_region_weave {id : Nat} {a : Act} {w : World} {A : (Tmp → Value) → Act} (seq : List Nat) (I : World → Prop) (F : Nat → Value → Prop) (S : Nat → List Value → World → Prop) (hm : P.follows .mixedOrders = true) (hw : weaveOk .any ops seq = true) (hk : looseOk .any ops a.tmps.size = true)
    (hso : seq.map (fun i => ops[i]?) = (seq.filterMap fun i => ops[i]?).map some) (hA : ∀ x, fillAct x ops.toList a = A x) (h0 : I w.drew) (h1 : S 0 [] w.drew)
    (hL : calmSteps P .any ops A I seq F 0 ops.toList) (hS : linkSteps P .any ops A I seq F S 0 (seq.filterMap fun i => ops[i]?))
    (fin : ∀ (x : Tmp → Value) (w : World), I w → (∀ (j : Nat) o', ops[j]? = some o' → seq.contains j = false → F j (leftBy x o')) → S seq.length (valsAt ops x seq seq.length) w → Q .normal (A x) w) :
    (Code.region id ops true).wp P Q a w := by
  obtain rfl : (fun x => fillAct x ops.toList a) = A := funext hA
  refine wp_region_any hm ?_
  have hrep : ∀ j, j < ops.size → (Array.replicate ops.size false).getD j true = false := fun j hj => by simp [hj]
  have h := wpAny_weave (Q := Q) hw hk hso hL hS fin ops.size (Array.replicate ops.size false) (fun t => a.tmps.getD t undef) w.drew 0 ?_ (by simp) h0 ?_ ?_ (Nat.zero_le _) (by simpa [valsAt] using h1)
  · rw [fillAct_own a ops.toList fun o ho d hd => ?_] at h
    · exact h
    · obtain ⟨i, hi⟩ := List.getElem?_of_mem ho
      exact (looseOk_slot hk (i := i) (by simpa using hi) hd).1
  · have : ∀ n, unl (Array.replicate ops.size false) n ≤ n := fun n => by
      induction n with
      | zero => exact Nat.le_refl _
      | succ n ih => simp only [unl]; split <;> omega
    exact this _
  · intro i o ho _ hl
    rw [hrep i (Array.getElem?_eq_some_iff.1 ho).1] at hl
    cases hl
  · intro j i hj
    constructor
    · intro hl
      unfold weaveOk at hw
      simp only [Bool.and_eq_true] at hw
      have h3 := List.all_eq_true.1 hw.1.1 i (List.mem_of_getElem? hj)
      rw [hrep i (by simpa using h3)] at hl
      cases hl
    · intro hl
      omega

/-- Facts in a list, one for each operation. -/
def inVals (Fs : List (Value → Prop)) (i : Nat) (v : Value) : Prop := ((Fs[i]?).getD fun _ => True) v
def isW (u : Value) (v : Value) : Prop := v = u
def isAll (_ : Value) : Prop := True
end
end Go.Proofs.Ytkblgigpgpjjlaa
