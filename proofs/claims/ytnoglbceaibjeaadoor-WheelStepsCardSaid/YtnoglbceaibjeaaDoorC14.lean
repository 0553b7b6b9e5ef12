/- A REGION THAT DRAWS ITS ORDER, SOME OF ITS OPERATIONS IN A CHAIN: each link waits for the one ahead of it and may do to new memory what it likes; the others only read old memory, and may come anywhere between. Nothing here is trusted. -/
import Derived.Test.YtnoglbceaibjeaaDoorC01
import Derived.Test.YtnoglbceaibjeaaDoorC04
namespace Go.Proofs.YtnoglbceaibjeaaDoor
set_option linter.unusedVariables false
open Go.RowKit

section
variable {P : Program} {ops : Array Oper} {Q : Exit → Act → World → Prop} {md : Region.Mode}

/-- The links lie in the region, are other ones, and each waits for the one ahead of it. -/
def weaveOk (md : Region.Mode) (ops : Array Oper) (seq : List Nat) : Bool :=
  (seq.all fun i => decide (i < ops.size)) &&
  ((List.range seq.length).all fun j => (List.range seq.length).all fun j' => decide (j = j') || decide (seq[j]? ≠ seq[j']?)) &&
  ((List.range seq.length).all fun j => match seq[j]?, seq[j + 1]? with
    | some i, some i' => (match ops[i']? with
      | some o => (bindsOn md o).contains i
      | none => false)
    | _, _ => true)

theorem weave_other {seq : List Nat} (h : weaveOk md ops seq = true) {j j' i : Nat} (h1 : seq[j]? = some i) (h2 : seq[j']? = some i) : j = j' := by
  unfold weaveOk at h
  simp only [Bool.and_eq_true] at h
  have l1 := (List.getElem?_eq_some_iff.1 h1).1
  have l2 := (List.getElem?_eq_some_iff.1 h2).1
  have h3 := List.all_eq_true.1 (List.all_eq_true.1 h.1.2 j (List.mem_range.2 l1)) j' (List.mem_range.2 l2)
  simp only [Bool.or_eq_true, decide_eq_true_eq] at h3
  rcases h3 with h3 | h3
  · exact h3
  · exact absurd (h1.trans h2.symm) h3
theorem weave_next {seq : List Nat} (h : weaveOk md ops seq = true) {j i i' : Nat} {o : Oper} (h1 : seq[j]? = some i) (h2 : seq[j + 1]? = some i') (ho : ops[i']? = some o) : i ∈ bindsOn md o := by
  unfold weaveOk at h
  simp only [Bool.and_eq_true] at h
  have l1 := (List.getElem?_eq_some_iff.1 h1).1
  have h3 := List.all_eq_true.1 h.2 j (List.mem_range.2 l1)
  simp only [h1, h2, ho, List.contains_iff_mem] at h3
  exact h3

/-- The value that an operation left, by its place. -/
def valAt (ops : Array Oper) (x : Tmp → Value) (i : Nat) : Value := match ops[i]? with
  | some o => leftBy x o
  | none => undef
def valsAt (ops : Array Oper) (x : Tmp → Value) (seq : List Nat) (k : Nat) : List Value := (seq.take k).map (valAt ops x)

/-- What is asked of an operation that only reads. -/
def calmStep (P : Program) (md : Region.Mode) (ops : Array Oper) (A : (Tmp → Value) → Act) (I : World → Prop) (seq : List Nat) (F : Nat → Value → Prop) (i : Nat) (o : Oper) : Prop :=
  seq.contains i = false → ∀ (x : Tmp → Value) (w : World), I w → (∀ j ∈ bindsOn md o, seq.contains j = false → ∀ o', ops[j]? = some o' → F j (leftBy x o')) →
    ∀ post : Value → World → Prop, (∀ v, F i (leftAs o v) → post v w) → if Region.wanted o (yielded ops (A x).tmps) = true then looseUpon P post ((execOp (A x).eval o).run P w) else post undef w
def calmSteps (P : Program) (md : Region.Mode) (ops : Array Oper) (A : (Tmp → Value) → Act) (I : World → Prop) (seq : List Nat) (F : Nat → Value → Prop) : Nat → List Oper → Prop
  | _, [] => True
  | i, o :: r => calmStep P md ops A I seq F i o ∧ calmSteps P md ops A I seq F (i + 1) r
theorem calmSteps_at {A : (Tmp → Value) → Act} {I : World → Prop} {seq : List Nat} {F : Nat → Value → Prop} : ∀ (l : List Oper) (k : Nat), calmSteps P md ops A I seq F k l → ∀ (i : Nat) (o : Oper), l[i]? = some o → calmStep P md ops A I seq F (k + i) o
  | [], _, _, _, _, h => by simp at h
  | o' :: r, k, hs, 0, o, h => by
    simp at h
    subst h
    exact hs.1
  | o' :: r, k, hs, i + 1, o, h => by
    have := calmSteps_at r (k + 1) hs.2 i o (by simpa using h)
    rwa [show k + 1 + i = k + (i + 1) from by omega] at this
/-- What is asked of a link. -/
def linkStep (P : Program) (md : Region.Mode) (ops : Array Oper) (A : (Tmp → Value) → Act) (I : World → Prop) (seq : List Nat) (F : Nat → Value → Prop) (S : Nat → List Value → World → Prop) (j : Nat) (o : Oper) : Prop :=
  ∀ (x : Tmp → Value) (w : World), I w → (∀ d ∈ bindsOn md o, seq.contains d = false → ∀ o', ops[d]? = some o' → F d (leftBy x o')) → S j (valsAt ops x seq j) w →
    ∀ post : Value → World → Prop, (∀ v w', I w' → S (j + 1) (valsAt ops x seq j ++ [leftAs o v]) w' → post v w') →
      if Region.wanted o (yielded ops (A x).tmps) = true then looseUpon P post ((execOp (A x).eval o).run P w) else post undef w
def linkSteps (P : Program) (md : Region.Mode) (ops : Array Oper) (A : (Tmp → Value) → Act) (I : World → Prop) (seq : List Nat) (F : Nat → Value → Prop) (S : Nat → List Value → World → Prop) : Nat → List Oper → Prop
  | _, [] => True
  | j, o :: r => linkStep P md ops A I seq F S j o ∧ linkSteps P md ops A I seq F S (j + 1) r
theorem linkSteps_at {A : (Tmp → Value) → Act} {I : World → Prop} {seq : List Nat} {F : Nat → Value → Prop} {S : Nat → List Value → World → Prop} : ∀ (l : List Oper) (k : Nat), linkSteps P md ops A I seq F S k l → ∀ (i : Nat) (o : Oper), l[i]? = some o → linkStep P md ops A I seq F S (k + i) o
  | [], _, _, _, _, h => by simp at h
  | o' :: r, k, hs, 0, o, h => by
    simp at h
    subst h
    exact hs.1
  | o' :: r, k, hs, i + 1, o, h => by
    have := linkSteps_at r (k + 1) hs.2 i o (by simpa using h)
    rwa [show k + 1 + i = k + (i + 1) from by omega] at this

theorem valAt_put {size : Nat} (hk : looseOk md ops size = true) {i : Nat} {o : Oper} {d : Nat} (ho : ops[i]? = some o) (hd : o.dst = some d) (v : Value) (x : Tmp → Value) (i' : Nat) (hne : i' ≠ i) :
    valAt ops (fun t => if t = d then v else x t) i' = valAt ops x i' := by
  unfold valAt
  cases ho' : ops[i']? with
  | none => rfl
  | some o' =>
    have h1 := (looseOk_slot hk ho hd).2 i' o' ho' (Ne.symm hne)
    simp only [leftBy]
    cases hd' : o'.dst with
    | none => rfl
    | some d' =>
      have : d' ≠ d := fun e => h1 (by rw [hd', e])
      simp [this]

theorem wpAny_weave {a₀ : Act} {I : World → Prop} {seq : List Nat} {so : List Oper} {F : Nat → Value → Prop} {S : Nat → List Value → World → Prop} (hw : weaveOk md ops seq = true) (hk : looseOk md ops a₀.tmps.size = true)
    (hso : seq.map (fun i => ops[i]?) = so.map some)
    (hL : calmSteps P md ops (fun x => fillAct x ops.toList a₀) I seq F 0 ops.toList) (hS : linkSteps P md ops (fun x => fillAct x ops.toList a₀) I seq F S 0 so)
    (fin : ∀ (x : Tmp → Value) (w : World), I w → (∀ (j : Nat) o', ops[j]? = some o' → seq.contains j = false → F j (leftBy x o')) → S seq.length (valsAt ops x seq seq.length) w → Q .normal (fillAct x ops.toList a₀) w) :
    ∀ (fuel : Nat) (listed : Array Bool) (x : Tmp → Value) (w : World) (k : Nat), unl listed ops.size ≤ fuel → listed.size = ops.size → I w →
      (∀ i o, ops[i]? = some o → seq.contains i = false → listed.getD i true = true → F i (leftBy x o)) → (∀ j i, seq[j]? = some i → (listed.getD i true = true ↔ j < k)) → k ≤ seq.length →
      S k (valsAt ops x seq k) w → wpAny P md ops Q fuel listed (fillAct x ops.toList a₀) w := by
  have done : ∀ (listed : Array Bool) (x : Tmp → Value) (w : World) (k : Nat), I w → (∀ i o, ops[i]? = some o → seq.contains i = false → listed.getD i true = true → F i (leftBy x o)) →
      (∀ j i, seq[j]? = some i → (listed.getD i true = true ↔ j < k)) → k ≤ seq.length → S k (valsAt ops x seq k) w → Region.ready md ops listed = [] → Q .normal (fillAct x ops.toList a₀) w := by
    intro listed x w k hI hf hq hkl hs hr
    have hall := all_listed hk hr
    have hkk : k = seq.length := by
      rcases Nat.lt_or_ge k seq.length with h' | h'
      · have h1 := (hq k seq[k] (List.getElem?_eq_getElem h')).1 (by
          rcases Nat.lt_or_ge seq[k] ops.size with h2 | h2
          · exact hall _ h2
          · unfold weaveOk at hw
            simp only [Bool.and_eq_true] at hw
            have h3 := List.all_eq_true.1 hw.1.1 seq[k] (List.getElem_mem h')
            simp at h3
            omega)
        omega
      · omega
    subst hkk
    exact fin x w hI (fun j o ho hn => hf j o ho hn (hall j (Array.getElem?_eq_some_iff.1 ho).1)) hs
  intro fuel
  induction fuel with
  | zero =>
    intro listed x w k hu hsz hI hf hq hkl hs
    have hr : Region.ready md ops listed = [] := by
      rw [List.eq_nil_iff_forall_not_mem]
      intro j hj
      obtain ⟨h0, o, ho, _⟩ := mem_ready.1 hj
      have := unl_zero listed ops.size (by omega) j (Array.getElem?_eq_some_iff.1 ho).1
      rw [this] at h0
      cases h0
    exact ⟨hr, done listed x w k hI hf hq hkl hs hr⟩
  | succ fuel ih =>
    intro listed x w k hu hsz hI hf hq hkl hs
    refine ⟨fun hr => done listed x w k hI hf hq hkl hs hr, fun i hi => ?_⟩
    obtain ⟨h0, o, ho, hall⟩ := mem_ready.1 hi
    have hilt : i < ops.size := (Array.getElem?_eq_some_iff.1 ho).1
    have hdepl : ∀ j ∈ bindsOn md o, listed.getD j true = true := fun j hj => by
      unfold bindsOn at hj
      obtain ⟨e, he, rfl⟩ := List.mem_map.1 hj
      obtain ⟨he1, he2⟩ := List.mem_filter.1 he
      have h1 := hall e (by simpa using he1) he2
      have hs' : e.on < listed.size := by
        rcases Nat.lt_or_ge e.on listed.size with h' | h'
        · exact h'
        · simp [Array.getElem?_eq_none h'] at h1
      simpa [hs'] using h1
    have hdeps : ∀ j ∈ bindsOn md o, seq.contains j = false → ∀ o', ops[j]? = some o' → F j (leftBy x o') := fun j hj hn o' ho' => hf j o' ho' hn (hdepl j hj)
    have hun := unl_set listed i h0 ops.size hilt
    have hself : (listed.setIfInBounds i true).getD i true = true := by
      have : i < listed.size := by omega
      simp [this]
    -- the new values: those of other places are as they were
    have keepF : ∀ (x' : Tmp → Value), (∀ i', i' ≠ i → valAt ops x' i' = valAt ops x i') → (seq.contains i = false → F i (valAt ops x' i)) →
        ∀ i' o', ops[i']? = some o' → seq.contains i' = false → (listed.setIfInBounds i true).getD i' true = true → F i' (leftBy x' o') := by
      intro x' hx hi' i' o' ho' hn hl
      have e1 : leftBy x' o' = valAt ops x' i' := by unfold valAt; rw [ho']
      by_cases hii : i' = i
      · subst hii
        rw [e1]
        exact hi' hn
      · rw [getD_set_ne true (Ne.symm hii)] at hl
        rw [e1, hx i' hii]
        have := hf i' o' ho' hn hl
        unfold valAt
        rw [ho']
        exact this
    have putEq : ∀ v, ∃ x', (fillAct x ops.toList a₀).put o.dst v = fillAct x' ops.toList a₀ ∧ (∀ i', i' ≠ i → valAt ops x' i' = valAt ops x i') ∧ valAt ops x' i = leftAs o v := by
      intro v
      cases hd : o.dst with
      | none => exact ⟨x, rfl, fun _ _ => rfl, by unfold valAt; rw [ho]; simp [leftBy, leftAs, hd]⟩
      | some d =>
        obtain ⟨hds, hdn⟩ := looseOk_slot hk ho hd
        exact ⟨_, fillAct_put x ops.toList a₀ d v ⟨o, by simpa using Array.mem_of_getElem? ho, hd⟩ hds, fun i' hne => valAt_put hk ho hd v x i' hne, by unfold valAt; rw [ho]; simp [leftBy, leftAs, hd]⟩
    have close : ∀ (K : Value → World → Prop) , (∀ v w', K v w' → wpAny P md ops Q fuel (listed.setIfInBounds i true) ((fillAct x ops.toList a₀).put o.dst v) w') →
        (if Region.wanted o (yielded ops (fillAct x ops.toList a₀).tmps) = true then looseUpon P K ((execOp (fillAct x ops.toList a₀).eval o).run P w) else K undef w) →
        wpOp P ops Q i (wpAny P md ops Q fuel (listed.setIfInBounds i true)) (fillAct x ops.toList a₀) w := by
      intro K hK h1
      unfold wpOp
      rw [ho]
      show if Region.wanted o (yielded ops (fillAct x ops.toList a₀).tmps) = true then _ else _
      split
      · rename_i hw'
        rw [if_pos hw'] at h1
        exact .inl (wp_of_loose hK h1)
      · rename_i hw'
        rw [if_neg hw'] at h1
        exact hK _ _ h1
    by_cases hc : seq.contains i = true
    · obtain ⟨j, hj⟩ := List.getElem?_of_mem (List.contains_iff_mem.1 hc)
      have hjk : ¬ j < k := fun h => by
        have := (hq j i hj).2 h
        rw [this] at h0
        cases h0
      have hjk2 : j = k := by
        rcases Nat.eq_zero_or_pos j with hz | hz
        · omega
        · have hj1 : j - 1 < seq.length := by have := (List.getElem?_eq_some_iff.1 hj).1; omega
          have hp := List.getElem?_eq_getElem hj1
          have hmem := weave_next hw hp (by rw [show j - 1 + 1 = j from by omega]; exact hj) ho
          have := (hq (j - 1) _ hp).1 (hdepl _ hmem)
          omega
      subst hjk2
      have hso' : so[j]? = some o := by
        have h1 := congrArg (fun q => q[j]?) hso
        simp only [List.getElem?_map, hj, Option.map_some, ho] at h1
        cases h2 : so[j]? with
        | none => rw [h2] at h1; simp at h1
        | some o2 => rw [h2] at h1; simp at h1; rw [h1]
      have hst := linkSteps_at so 0 hS j o hso'
      rw [Nat.zero_add] at hst
      have hjl := (List.getElem?_eq_some_iff.1 hj).1
      refine close (fun v w' => I w' ∧ S (j + 1) (valsAt ops x seq j ++ [leftAs o v]) w') (fun v w' hvw => ?_) (hst x w hI hdeps hs _ fun v w' h1 h2 => ⟨h1, h2⟩)
      obtain ⟨x', e', hx', hv'⟩ := putEq v
      rw [e']
      refine ih _ x' w' (j + 1) (by omega) (by simpa using hsz) hvw.1 (keepF x' hx' fun hn => by rw [hc] at hn; cases hn) (fun j' i' hj' => ?_) (by omega) ?_
      · by_cases e : i' = i
        · subst e
          have := weave_other hw hj' hj
          rw [hself]
          exact ⟨fun _ => by omega, fun _ => rfl⟩
        · rw [getD_set_ne true (Ne.symm e), hq j' i' hj']
          constructor
          · intro h; omega
          · intro h
            rcases Nat.lt_or_ge j' j with h' | h'
            · exact h'
            · have : j' = j := by omega
              subst this
              rw [hj] at hj'
              exact absurd (Option.some.inj hj').symm e
      · have e3 : valsAt ops x' seq (j + 1) = valsAt ops x seq j ++ [leftAs o v] := by
          unfold valsAt
          rw [List.take_succ_eq_append_getElem hjl, List.map_append]
          have e4 : seq[j] = i := (List.getElem?_eq_some_iff.1 hj).2
          congr 1
          · apply List.map_congr_left
            intro i' hi'
            refine hx' i' fun e => ?_
            subst e
            obtain ⟨j', hj'⟩ := List.getElem?_of_mem hi'
            have hlt' : j' < j := by
              have := (List.getElem?_eq_some_iff.1 hj').1
              simp at this
              omega
            rw [List.getElem?_take, if_pos hlt'] at hj'
            have := weave_other hw hj' hj
            omega
          · simp [e4, hv']
        rw [e3]
        exact hvw.2
    · have hc' : seq.contains i = false := by simpa using hc
      have hst := calmSteps_at ops.toList 0 hL i o (by simpa using ho)
      rw [Nat.zero_add] at hst
      refine close (fun v w' => w' = w ∧ F i (leftAs o v)) (fun v w' hvw => ?_) (hst hc' x w hI hdeps _ fun v h1 => ⟨rfl, h1⟩)
      obtain ⟨rfl, hv⟩ := hvw
      obtain ⟨x', e', hx', hv'⟩ := putEq v
      rw [e']
      have hnot : ∀ j' i', seq[j']? = some i' → i' ≠ i := fun j' i' hj' e => by
        subst e
        rw [List.contains_iff_mem.2 (List.mem_of_getElem? hj')] at hc'
        cases hc'
      refine ih _ x' _ k (by omega) (by simpa using hsz) hI (keepF x' hx' fun _ => by rw [hv']; exact hv) (fun j' i' hj' => by rw [getD_set_ne true (Ne.symm (hnot j' i' hj'))]; exact hq j' i' hj') hkl ?_
      have e3 : valsAt ops x' seq k = valsAt ops x seq k := by
        unfold valsAt
        apply List.map_congr_left
        intro i' hi'
        obtain ⟨j', hj'⟩ := List.getElem?_of_mem (List.mem_of_mem_take hi')
        exact hx' i' (hnot j' i' hj')
      rw [e3]
      exact hs

/-- **A region that draws its order: a chain, and what only reads.** -/
theorem wp_region_weave {id : Nat} {a : Act} {w : World} {A : (Tmp → Value) → Act} (seq : List Nat) (I : World → Prop) (F : Nat → Value → Prop) (S : Nat → List Value → World → Prop) (hm : P.follows .mixedOrders = true) (hw : weaveOk .any ops seq = true) (hk : looseOk .any ops a.tmps.size = true)
    (hso : seq.map (fun i => ops[i]?) = (seq.filterMap fun i => ops[i]?).map some) (hA : ∀ x, fillAct x ops.toList a = A x) (h0 : I w.drew) (h1 : S 0 [] w.drew)
    (hL : calmSteps P .any ops A I seq F 0 ops.toList) (hS : linkSteps P .any ops A I seq F S 0 (seq.filterMap fun i => ops[i]?))
    (fin : ∀ (x : Tmp → Value) (w : World), I w → (∀ (j : Nat) o', ops[j]? = some o' → seq.contains j = false → F j (leftBy x o')) → S seq.length (valsAt ops x seq seq.length) w → Q .normal (A x) w) :
    (Code.region id ops true).wp P Q a w := by
  obtain rfl : (fun x => fillAct x ops.toList a) = A := funext hA
  refine wp_region_any hm ?_
  have hrep : ∀ j, j < ops.size → (Array.replicate ops.size false).getD j true = false := fun j hj => by simp [hj]
  have h := wpAny_weave (Q := Q) hw hk hso hL hS fin ops.size (Array.replicate ops.size false) (fun t => a.tmps.getD t undef) w.drew 0 ?_ (by simp) h0 ?_ ?_ (Nat.zero_le _) (by simpa [valsAt] using h1)
  · rw [fillAct_own a ops.toList fun o ho d hd => ?_] at h
    · exact h
    · obtain ⟨i, hi⟩ := List.getElem?_of_mem ho
      exact (looseOk_slot hk (i := i) (by simpa using hi) hd).1
  · have : ∀ n, unl (Array.replicate ops.size false) n ≤ n := fun n => by
      induction n with
      | zero => exact Nat.le_refl _
      | succ n ih => simp only [unl]; split <;> omega
    exact this _
  · intro i o ho _ hl
    rw [hrep i (Array.getElem?_eq_some_iff.1 ho).1] at hl
    cases hl
  · intro j i hj
    constructor
    · intro hl
      unfold weaveOk at hw
      simp only [Bool.and_eq_true] at hw
      have h3 := List.all_eq_true.1 hw.1.1 i (List.mem_of_getElem? hj)
      rw [hrep i (by simpa using h3)] at hl
      cases hl
    · intro hl
      omega

/-- Facts in a list, one for each operation. -/
def inVals (Fs : List (Value → Prop)) (i : Nat) (v : Value) : Prop := ((Fs[i]?).getD fun _ => True) v
def isW (u : Value) (v : Value) : Prop := v = u
def isAll (_ : Value) : Prop := True
end
end Go.Proofs.YtnoglbceaibjeaaDoor
/- What a call of a wheel may touch, block by block: remove, take. -/
namespace Go.Proofs.YtnoglbceaibjeaaDoor
set_option linter.unusedVariables false
set_option linter.unusedSimpArgs false
open Go.ChangeShapes Go.WideShapes Go.ChangeAt Go.RowKit Go.Shelf

/-- What a call of a wheel may touch: its block, its map, these timers, rows of timers. -/
def Zx (wb mb : Nat) (S : Tm → Prop) (b : Nat) (T : TypeId) : Prop := b = wb ∨ b = mb ∨ (∃ t, S t ∧ b = t.blk) ∨ T = 60
section
variable {w w' : World} {base wb mb : Nat} {S S' : Tm → Prop} {Z : Nat → TypeId → Prop} {l : List Tm} {t : Tm}
theorem Only.zx (o : Only base Z w w') (hs : ∀ u ∈ l, S u) (k : ∀ b, b ≠ wb → (∀ u ∈ l, b ≠ u.blk) → w'.heap[b]? = w.heap[b]?) : Only base (Zx wb mb S) w w' :=
  ⟨o.low, fun i ob T hi ht hz => (k i (fun e => hz (.inl e)) (fun u hu e => hz (.inr (.inr (.inl ⟨u, hs u hu, e⟩))))).trans hi⟩
theorem Only.zx2 (o : Only base Z w w') (hs : ∀ u ∈ l, S u) (ht : S t) (k : ∀ b, b ≠ wb → b ≠ t.blk → (∀ u ∈ l, b ≠ u.blk) → w'.heap[b]? = w.heap[b]?) : Only base (Zx wb mb S) w w' :=
  ⟨o.low, fun i ob T hi h2 hz => (k i (fun e => hz (.inl e)) (fun e => hz (.inr (.inr (.inl ⟨t, ht, e⟩)))) (fun u hu e => hz (.inr (.inr (.inl ⟨u, hs u hu, e⟩))))).trans hi⟩
theorem zx_map (hg : w.grownBy w' (some mb)) (hlow : base ≤ mb) (hs : base ≤ w.heap.size) : Only base (Zx wb mb S) w w' :=
  Only.grown hg (fun g e => by cases e; exact ⟨hlow, fun _ _ _ _ => .inr (.inl rfl)⟩) hs
theorem zx_mono {b : Nat} {T : TypeId} (h : Zx wb mb S b T) (hs : ∀ t, S t → S' t) : Zx wb mb S' b T := by
  rcases h with h | h | ⟨t, h1, h2⟩ | h
  · exact .inl h
  · exact .inr (.inl h)
  · exact .inr (.inr (.inl ⟨t, hs t h1, h2⟩))
  · exact .inr (.inr (.inr h))
end
set_option maxHeartbeats 2000000 in
theorem srem_x (w : World) (base wb mb now : Nat) (C : Nat → Nat → List Tm) (U : Nat → Nat) (h : Whl w base wb mb now C U) (no s j : Nat) (hno : no < 7) (hs : s < 64) (t : Tm) (ht : (C no s)[j]? = some t) :
    Calls Tryd.prog 35 #[.pointer (some ⟨wb, so no s, none⟩), .pointer (some ⟨t.blk, 0, none⟩)] w fun e w' => e = .returned (.tuple #[]) ∧ Whl w' base wb mb now (upd C no s ((C no s).eraseIdx j)) U ∧ Only base Zw w w' ∧ ∀ b, b ≠ wb → (∀ u ∈ C no s, b ≠ u.blk) → w'.heap[b]? = w.heap[b]? := by
  obtain ⟨cs, hB, hC⟩ := h.blk
  have hj : j < (C no s).length := (List.getElem?_eq_some_iff.1 ht).1
  have hT := h.chn no s hno hs j t ht
  have htw := (h.ltT hno hs (List.mem_of_getElem? ht)).2
  have hsz : so no s + 1 < cs.size := by rw [hC.size]; unfold so; omega
  have hsz0 : so no s < cs.size := by omega
  have hf0 := hC.fst no s hno hs
  have hl0 := hC.lst no s hno hs
  have apart : ∀ (a b : Nat) (x y : Tm), (C no s)[a]? = some x → (C no s)[b]? = some y → a ≠ b → x.blk ≠ y.blk := fun a b x y ha hb hab e => hab (h.uniq _ _ _ _ _ _ _ _ hno hs hno hs ha hb e).2.2
  rcases Nat.eq_zero_or_pos j with hj0 | hj0 <;> rcases Nat.lt_or_ge (j + 1) (C no s).length with hjl | hjl
  · -- the first one, others behind
    obtain ⟨y, hy⟩ : ∃ y, (C no s)[j + 1]? = some y := ⟨_, List.getElem?_eq_getElem hjl⟩
    have ep : prv (C no s) j = .pointer none := by subst hj0; rfl
    have en : nxt (C no s) j = .pointer (some ⟨y.blk, 0, none⟩) := by unfold nxt; rw [hy]; rfl
    have hyb := h.chn no s hno hs _ y hy
    have hyw := (h.ltT hno hs (List.mem_of_getElem? hy)).2
    have hyt := apart _ _ _ _ hy ht (by omega)
    refine (rem_01 w wb (so no s) t.blk y.blk cs _ _ _ _ _ _ hB hT (congrArg some ep) (congrArg some en) htw hf0 hyb rfl hyt hyw).mono ?_
    rintro e w' ⟨rfl, rfl⟩
    have hB1 := heap_setCell_own (k := so no s) hB (.pointer (some ⟨y.blk, 0, none⟩))
    have hY1 : (w.setCell ⟨wb, so no s, none⟩ (.pointer (some ⟨y.blk, 0, none⟩))).drew.heap[y.blk]? = w.heap[y.blk]? := Below.heap_setCell _ _ _ _ hyw
    have hY2 := heap_setCell_own (k := 2) (hY1.trans hyb) (.pointer none)
    refine ⟨rfl, h.rem hno hs hj hC ((Below.heap_setCell _ _ _ _ (Ne.symm hyw)).trans hB1) (by simp) ?_ ?_ ?_ ?_ ?_ ?_, ?_, ?_⟩
    · intro i h1 h2
      simp [Ne.symm h1]
    · subst hj0
      rw [if_pos rfl, en]
      simp [hsz0]
    · rw [if_neg (by omega)]
      simpa using hl0
    · intro z hp; omega
    · intro y' hy'
      rw [hy] at hy'
      cases hy'
      rw [ep]
      exact hY2
    · intro b h1 h2 h3
      rw [Below.heap_setCell _ _ _ _ (h3 y hy)]
      exact Below.heap_setCell _ _ _ _ h1
    · have o1 : Only base Zw w (w.setCell ⟨wb, so no s, none⟩ (.pointer (some ⟨y.blk, 0, none⟩))) := Only.set hB h.low (.inl rfl) _
      have o2 := o1.trans (Only.grow (Grow.drew _) (Nat.le_trans (Nat.le_of_lt (Nat.lt_of_le_of_lt h.low (Array.getElem?_eq_some_iff.1 hB).1)) o1.size) Zw)
      exact o2.trans (Only.set (hY1.trans hyb) (h.lowT no s hno hs y (List.mem_of_getElem? hy)) (Z := Zw) (.inr rfl) (i := 2) (.pointer none))
    · intro b h1 h3
      rw [Below.heap_setCell _ _ _ _ (h3 y (List.mem_of_getElem? hy))]
      exact Below.heap_setCell _ _ _ _ h1
  · -- the only one
    have hj1 : j + 1 = (C no s).length := by omega
    have ep : prv (C no s) j = .pointer none := by subst hj0; rfl
    have en : nxt (C no s) j = .pointer none := by unfold nxt; rw [List.getElem?_eq_none (by omega)]; rfl
    refine (rem_00 w wb (so no s) t.blk cs _ _ _ _ _ hB hT (congrArg some ep) (congrArg some en) htw hf0 hl0).mono ?_
    rintro e w' ⟨rfl, rfl⟩
    have hB1 := heap_setCell_own (k := so no s) hB (.pointer none)
    have hB2 := heap_setCell_own (k := so no s + 1) hB1 (.pointer none)
    refine ⟨rfl, h.rem hno hs hj hC hB2 (by simp) ?_ ?_ ?_ ?_ ?_ ?_, ?_, ?_⟩
    · intro i h1 h2
      simp [Ne.symm h1, Ne.symm h2]
    · subst hj0
      rw [if_pos rfl, en]
      simp [hsz0]
    · rw [if_pos hj1, ep]
      simp [hsz]
    · intro z hp; omega
    · intro y' hy'
      rw [List.getElem?_eq_none (by omega)] at hy'
      cases hy'
    · intro b h1 h2 h3
      rw [Below.heap_setCell _ _ _ _ h1, Below.heap_setCell _ _ _ _ h1]
    · have o1 : Only base Zw w (w.setCell ⟨wb, so no s, none⟩ (.pointer none)) := Only.set hB h.low (.inl rfl) _
      exact o1.trans (Only.set hB1 h.low (Z := Zw) (.inl rfl) (i := so no s + 1) (.pointer none))
    · intro b h1 _
      rw [Below.heap_setCell _ _ _ _ h1, Below.heap_setCell _ _ _ _ h1]
  · -- between others
    obtain ⟨y, hy⟩ : ∃ y, (C no s)[j + 1]? = some y := ⟨_, List.getElem?_eq_getElem hjl⟩
    obtain ⟨z, hz⟩ : ∃ z, (C no s)[j - 1]? = some z := ⟨_, List.getElem?_eq_getElem (by omega)⟩
    have ep : prv (C no s) j = .pointer (some ⟨z.blk, 0, none⟩) := by unfold prv; rw [if_neg (by omega), hz]; rfl
    have en : nxt (C no s) j = .pointer (some ⟨y.blk, 0, none⟩) := by unfold nxt; rw [hy]; rfl
    have hyb := h.chn no s hno hs _ y hy
    have hyw := (h.ltT hno hs (List.mem_of_getElem? hy)).2
    have hyt := apart _ _ _ _ hy ht (by omega)
    have hzb := h.chn no s hno hs _ z hz
    have hzw := (h.ltT hno hs (List.mem_of_getElem? hz)).2
    have hzt := apart _ _ _ _ hz ht (by omega)
    have hzy := apart _ _ _ _ hz hy (by omega)
    refine (rem_11 w wb (so no s) t.blk z.blk y.blk cs _ _ _ _ _ _ _ hB hT (congrArg some ep) (congrArg some en) htw hzb rfl hzt hzw hyb rfl hyt hyw hzy).mono ?_
    rintro e w' ⟨rfl, rfl⟩
    have hZ2 : (w.drew.setCell ⟨z.blk, 3, none⟩ (.pointer (some ⟨y.blk, 0, none⟩))).heap[z.blk]? = _ := heap_setCell_own (w := w.drew) (k := 3) hzb (.pointer (some ⟨y.blk, 0, none⟩))
    have hY1 : (w.drew.setCell ⟨z.blk, 3, none⟩ (.pointer (some ⟨y.blk, 0, none⟩))).drew.heap[y.blk]? = w.heap[y.blk]? := Below.heap_setCell _ _ _ _ (Ne.symm hzy)
    have hY2 := heap_setCell_own (k := 2) (hY1.trans hyb) (.pointer (some ⟨z.blk, 0, none⟩))
    have hB1 : (w.drew.setCell ⟨z.blk, 3, none⟩ (.pointer (some ⟨y.blk, 0, none⟩))).heap[wb]? = w.heap[wb]? := Below.heap_setCell _ _ _ _ (Ne.symm hzw)
    refine ⟨rfl, h.rem hno hs hj hC ((Below.heap_setCell _ _ _ _ (Ne.symm hyw)).trans (hB1.trans hB)) rfl ?_ ?_ ?_ ?_ ?_ ?_, ?_, ?_⟩
    · intro i h1 h2; rfl
    · rw [if_neg (by omega)]; exact hf0
    · rw [if_neg (by omega)]; exact hl0
    · intro z' hp hz'
      rw [hz] at hz'
      cases hz'
      rw [Below.heap_setCell _ _ _ _ hzy, en]
      exact hZ2
    · intro y' hy'
      rw [hy] at hy'
      cases hy'
      rw [ep]
      exact hY2
    · intro b h1 h2 h3
      rw [Below.heap_setCell _ _ _ _ (h3 y hy)]
      exact Below.heap_setCell _ _ _ _ (h2 z hj0 hz)
    · have hbs : base ≤ w.heap.size := Nat.le_of_lt (Nat.lt_of_le_of_lt h.low (Array.getElem?_eq_some_iff.1 hB).1)
      have o0 : Only base Zw w w.drew := Only.grow (Grow.drew _) hbs Zw
      have o1 := o0.trans (Only.set (show w.drew.heap[z.blk]? = _ from hzb) (h.lowT no s hno hs z (List.mem_of_getElem? hz)) (Z := Zw) (.inr rfl) (i := 3) (.pointer (some ⟨y.blk, 0, none⟩)))
      have o2 := o1.trans (Only.grow (Grow.drew _) (Nat.le_trans hbs o1.size) Zw)
      exact o2.trans (Only.set (hY1.trans hyb) (h.lowT no s hno hs y (List.mem_of_getElem? hy)) (Z := Zw) (.inr rfl) (i := 2) (.pointer (some ⟨z.blk, 0, none⟩)))
    · intro b h1 h3
      rw [Below.heap_setCell _ _ _ _ (h3 y (List.mem_of_getElem? hy))]
      exact Below.heap_setCell _ _ _ _ (h3 z (List.mem_of_getElem? hz))
  · -- the last one, others ahead
    have hj1 : j + 1 = (C no s).length := by omega
    obtain ⟨z, hz⟩ : ∃ z, (C no s)[j - 1]? = some z := ⟨_, List.getElem?_eq_getElem (by omega)⟩
    have ep : prv (C no s) j = .pointer (some ⟨z.blk, 0, none⟩) := by unfold prv; rw [if_neg (by omega), hz]; rfl
    have en : nxt (C no s) j = .pointer none := by unfold nxt; rw [List.getElem?_eq_none (by omega)]; rfl
    have hzb := h.chn no s hno hs _ z hz
    have hzw := (h.ltT hno hs (List.mem_of_getElem? hz)).2
    have hzt := apart _ _ _ _ hz ht (by omega)
    refine (rem_10 w wb (so no s) t.blk z.blk cs _ _ _ _ _ _ hB hT (congrArg some ep) (congrArg some en) htw hzb rfl hzt hzw hl0).mono ?_
    rintro e w' ⟨rfl, rfl⟩
    have hZ2 : (w.drew.setCell ⟨z.blk, 3, none⟩ (.pointer none)).heap[z.blk]? = _ := heap_setCell_own (w := w.drew) (k := 3) hzb (.pointer none)
    have hB1 : (w.drew.setCell ⟨z.blk, 3, none⟩ (.pointer none)).heap[wb]? = w.heap[wb]? := Below.heap_setCell _ _ _ _ (Ne.symm hzw)
    have hB2 := heap_setCell_own (k := so no s + 1) (hB1.trans hB) (.pointer (some ⟨z.blk, 0, none⟩))
    refine ⟨rfl, h.rem hno hs hj hC hB2 (by simp) ?_ ?_ ?_ ?_ ?_ ?_, ?_, ?_⟩
    · intro i h1 h2
      simp [Ne.symm h2]
    · rw [if_neg (by omega)]
      simpa using hf0
    · rw [if_pos hj1, ep]
      simp [hsz]
    · intro z' hp hz'
      rw [hz] at hz'
      cases hz'
      rw [Below.heap_setCell _ _ _ _ hzw, en]
      exact hZ2
    · intro y' hy'
      rw [List.getElem?_eq_none (by omega)] at hy'
      cases hy'
    · intro b h1 h2 h3
      rw [Below.heap_setCell _ _ _ _ h1]
      exact Below.heap_setCell _ _ _ _ (h2 z hj0 hz)
    · have hbs : base ≤ w.heap.size := Nat.le_of_lt (Nat.lt_of_le_of_lt h.low (Array.getElem?_eq_some_iff.1 hB).1)
      have o0 : Only base Zw w w.drew := Only.grow (Grow.drew _) hbs Zw
      have o1 := o0.trans (Only.set (show w.drew.heap[z.blk]? = _ from hzb) (h.lowT no s hno hs z (List.mem_of_getElem? hz)) (Z := Zw) (.inr rfl) (i := 3) (.pointer none))
      exact o1.trans (Only.set (hB1.trans hB) h.low (Z := Zw) (.inl rfl) (i := so no s + 1) (.pointer (some ⟨z.blk, 0, none⟩)))
    · intro b h1 h3
      rw [Below.heap_setCell _ _ _ _ h1]
      exact Below.heap_setCell _ _ _ _ (h3 z (List.mem_of_getElem? hz))
set_option maxHeartbeats 1000000 in
theorem take_x (w : World) (base wb mb now : Nat) (C : Nat → Nat → List Tm) (U : Nat → Nat) (h : Whl w base wb mb now C U) (hnow : now ≤ maxT) (t : Tm) (htk : t.tk ≤ maxT) (hU : ∀ no, no < 7 → U no < 2 ^ 64)
    (no s j : Nat) (hpl : plc now t.tk = (no, s)) (hj : (C no s)[j]? = some t) :
    Calls Tryd.prog 26 #[.pointer (some ⟨wb, 0, none⟩), .pointer (some ⟨t.blk, 0, none⟩)] w fun e w' => e = .returned (.tuple #[]) ∧
      Whl w' base wb mb now (upd C no s ((C no s).eraseIdx j)) (if (C no s).eraseIdx j = [] then updU U no (clr (U no) s) else U) ∧ Only base Zw w w' ∧ ∀ b, b ≠ wb → (∀ u ∈ C no s, b ≠ u.blk) → w'.heap[b]? = w.heap[b]? := by
  have hp := plc_lt hnow htk
  have c0 := place_any wb now t.tk hnow htk w h.cell.1
  rw [hpl] at hp c0
  obtain ⟨hno, hs⟩ : no < 7 ∧ s < 64 := hp
  have c1 := srem_x w base wb mb now C U h no s j hno hs t hj
  have ht := h.chn no s hno hs j t hj
  have a0 : w.cell? ⟨t.blk, 1, none⟩ = some (.int .i64 (t.tk : Int)) := (cell_of_row w t.blk 1 _ _ _ ht).trans rfl
  have i1 : (no : Int) < 7 := by omega
  have i2 : (s : Int) < 64 := by omega
  have e1 : so no s = 2 + no * 128 + s * 2 := by unfold so; omega
  have hp2 : 2 ^ s < 2 ^ 64 := Nat.pow_lt_pow_right (by decide) hs
  have q1 : bits .andNot .u64 (U no : Int) (IntKind.u64.wrap (2 ^ s)) = ((clr (U no) s : Nat) : Int) := by
    rw [wrap_pow hs]
    exact andNot_64 (U no) (2 ^ s) (hU no hno) hp2
  have Q1 := Lib.hid q1
  generalize hl : (C no s).eraseIdx j = l at *
  -- behind the call
  have F2 : Hid (∀ w2, Whl w2 base wb mb now (upd C no s l) U → Only base Zw w w2 → (∀ b, b ≠ wb → (∀ u ∈ C no s, b ≠ u.blk) → w2.heap[b]? = w.heap[b]?) → w2.cell? ⟨wb, so no s, none⟩ = some (lk l.head?) ∧ Hid (Whl w2 base wb mb now (upd C no s l) U ∧ Only base Zw w w2 ∧ ∀ b, b ≠ wb → (∀ u ∈ C no s, b ≠ u.blk) → w2.heap[b]? = w.heap[b]?) ∧ w2.drew.cell? ⟨wb, 898 + no, none⟩ = some (.int .u64 (U no : Int)) ∧ w2.drew.frozen? ⟨wb, 898 + no, none⟩ = false ∧
      Hid (Whl (w2.drew.setCell ⟨wb, 898 + no, none⟩ (.int .u64 ((clr (U no) s : Nat) : Int))) base wb mb now (upd C no s l) (updU U no (clr (U no) s)) ∧ Only base Zw w (w2.drew.setCell ⟨wb, 898 + no, none⟩ (.int .u64 ((clr (U no) s : Nat) : Int))) ∧ ∀ b, b ≠ wb → (∀ u ∈ C no s, b ≠ u.blk) → (w2.drew.setCell ⟨wb, 898 + no, none⟩ (.int .u64 ((clr (U no) s : Nat) : Int))).heap[b]? = w.heap[b]?)) := by
    intro w2 h2 o2 k2
    obtain ⟨b1, b2⟩ := h2.drew.cellU hno
    obtain ⟨b3, b4⟩ := h2.drew.used hno (clr (U no) s)
    have b0 := h2.cellF hno hs
    rw [upd_same] at b0
    refine ⟨b0, ⟨h2, o2, k2⟩, b1, b2, b3, (o2.trans (Only.grow (Grow.drew w2) h2.bas Zw)).trans b4, fun b c1 c3 => ?_⟩
    rw [Below.heap_setCell _ _ _ _ c1]
    exact k2 b c1 c3
  rw [e1] at c1 F2
  clear hpl htk ht hU h hnow hno hs e1 hp2 q1 hj hl
  go_enter Tryd.func26, Tryd.ntmps26
  go_wp2_with fail
  refine c0.mono ?_
  rintro e w' ⟨rfl, rfl⟩
  go_wp2_with fail
  refine c1.mono ?_
  rintro e w2 ⟨rfl, h2, o2, k2⟩
  obtain ⟨b0, HY, b1, b2, HX⟩ := F2.out w2 h2 o2 k2
  clear c0 c1 a0 h2 o2 k2 F2
  cases l with
  | cons x l =>
    simp only [List.head?_cons, lk] at b0
    go_wp2_with fail
    refine bodyPost_end (results_none rfl _ _ _) rfl ?_
    exact ⟨rfl, HY.out⟩
  | nil =>
    simp only [List.head?_nil, lk] at b0
    go_upto_region 4 with fail
    obtain ⟨wD, hwD⟩ : ∃ wD, wD = w2.drew := ⟨_, rfl⟩
    rw [← hwD] at b1 b2 HX
    refine wp_region_still_tail 12 (by kernel_rfl) (by kernel_rfl) ?_
    simp only [List.take_succ_cons, List.take_zero, List.drop_succ_cons, List.drop_zero]
    change wpStill _ _ w2.drew (fun a' => wpList _ _ _ _ a' w2.drew) _ _
    rw [← hwD]
    have HD := Lib.hid hwD
    clear hwD
    repeat still_step
    refine wpStill_nil ?_
    go_wp2_with fail
    refine bodyPost_end (results_none rfl _ _ _) rfl ?_
    refine ⟨rfl, ?_⟩
    rw [Q1.out]
    exact HX.out
end Go.Proofs.YtnoglbceaibjeaaDoor
/- Stop and Set, block by block. -/
namespace Go.Proofs.YtnoglbceaibjeaaDoor
set_option linter.unusedVariables false
set_option linter.unusedSimpArgs false
open Go.ChangeShapes Go.WideShapes Go.ChangeAt Go.RowKit Go.Shelf
set_option maxHeartbeats 1000000 in
theorem wStop_x1 (w : World) (base wb mb now : Nat) (L : List Tm) (U : Nat → Nat) (h : Wst w base wb mb now L U) (t : Tm) (ht : t ∈ L) :
    Calls Tryd.prog 13 #[.pointer (some ⟨wb, 0, none⟩), .int .i64 t.id] w fun e w' => e = .returned (.bool true) ∧ ∃ U', Wst w' base wb mb now (L.filter fun u => decide (u.id ≠ t.id)) U' ∧ Only base Zm w w' ∧ Only base (Zx wb mb (· ∈ L)) w w' := by
  obtain ⟨jL, hjL⟩ := List.getElem?_of_mem ht
  have hjM : (L.map pairW)[jL]? = some (t.id, t.blk) := by rw [List.getElem?_map, hjL]; rfl
  have hp := plc_lt h.nowM (h.tks t ht)
  have hin := h.inChn ht
  obtain ⟨no, s, hpl⟩ : ∃ no s, plc now t.tk = (no, s) := ⟨_, _, rfl⟩
  rw [hpl] at hp hin
  obtain ⟨hno, hs⟩ : no < 7 ∧ s < 64 := hp
  obtain ⟨j, hj⟩ := List.getElem?_of_mem hin
  have a0 := h.whl.cell.2
  have a1 := h.map.look_some h.nodM hjM
  have c0 := take_x w base wb mb now (chn now L) U h.whl h.nowM t (h.tks t ht) h.uLt no s j hpl hj
  have hmap := List.map_congr_left (l := L) (f := pairW) (g := pairW) fun _ _ => rfl
  have he : (L.map pairW).eraseIdx jL = (L.filter fun u => decide (u.id ≠ t.id)).map pairW := by
    rw [← erase_filter h.nod hjL, Go.ChangeMaps.map_eraseIdx]
  have hce := chn_erase h.nod hpl hj
  have F2 : Hid (∀ U2 w2, U2 = (if (chn now L no s).eraseIdx j = [] then updU U no (clr (U no) s) else U) → Whl w2 base wb mb now (upd (chn now L) no s ((chn now L no s).eraseIdx j)) U2 → Only base Zw w w2 → (∀ b, b ≠ wb → (∀ u ∈ chn now L no s, b ≠ u.blk) → w2.heap[b]? = w.heap[b]?) →
      w2.cell? ⟨wb, 1, none⟩ = some (.map (some mb)) ∧ IMap w2 mb (L.map pairW) ∧ ∀ w3, IMap w3 mb ((L.map pairW).eraseIdx jL) → w2.grownBy w3 (some mb) → Wst w3 base wb mb now (L.filter fun u => decide (u.id ≠ t.id)) U2 ∧ Only base Zm w w3 ∧ Only base (Zx wb mb (· ∈ L)) w w3) := by
    intro U2 w2 hU2 h2 o2 k2
    have hm2 := o2.imap h.map zw_map
    refine ⟨h2.cell.2, hm2, fun w3 hm3 hg3 => ?_⟩
    rw [he] at hm3
    have o3 : Only base Zm w w3 := (o2.mono fun _ _ _ _ _ e => .inl e).trans (only_map hm2 hg3 h.lowM h2.bas)
    refine ⟨⟨?_, ?_, ?_, hm3, h.lowM, ?_, fun u hu => h.tks u (List.mem_filter.1 hu).1, h.nowM⟩, o3, (Only.zx (S := (· ∈ L)) o2 (fun u hu => (List.mem_filter.1 hu).1) k2).trans (zx_map hg3 h.lowM h2.bas)⟩
    · rw [hce]
      exact h2.keep (grown_cells hm2 hg3)
    · intro n hn
      rw [hU2]
      split
      · unfold updU
        split
        · exact clr_lt _ _
        · exact h.uLt n hn
      · exact h.uLt n hn
    · intro n m hn hm
      rw [hce, hU2]
      by_cases e : n = no ∧ m = s
      · obtain ⟨rfl, rfl⟩ := e
        rw [upd_same]
        split <;> rename_i e2
        · unfold updU
          rw [if_pos rfl, clr_bit _ _ _ hm hm]
          simp [e2]
        · rw [h.uBit n m hn hm]
          exact ⟨fun _ => e2, fun _ => List.ne_nil_of_mem hin⟩
      · rw [upd_other e]
        split
        · unfold updU
          split <;> rename_i e3
          · subst e3
            rw [clr_bit _ _ _ hs hm, ← h.uBit n m hn hm]
            simp [show m ≠ s from fun e4 => e ⟨rfl, e4⟩]
          · exact h.uBit n m hn hm
        · exact h.uBit n m hn hm
    · exact (List.Sublist.map _ List.filter_sublist).nodup h.nod
  have HN := Lib.hid h.nodM
  clear hpl hmap he hce hin hno hs hj h ht hjL
  go_enter Tryd.func13, Tryd.ntmps13
  go_wp2_with fail
  refine c0.mono ?_
  rintro e w2 ⟨rfl, h2, o2, k2⟩
  obtain ⟨b0, b1, HX⟩ := F2.out _ w2 rfl h2 o2 k2
  have HX := Lib.hid HX
  clear c0 h2 o2 k2 F2
  go_wp2_with (refine run_idel w2 b1 HN.out hjM rfl (.tmp 27) (.tmp 28) rfl rfl rfl ?_; intro w3 hm3 hg3; have HR := Lib.hid (HX.out w3 hm3 hg3); clear hm3 hg3)
  go_ret
  exact ⟨rfl, _, HR.out⟩
theorem wStop_x (w : World) (base wb mb now : Nat) (L : List Tm) (U : Nat → Nat) (h : Wst w base wb mb now L U) (x : Int) :
    Calls Tryd.prog 13 #[.pointer (some ⟨wb, 0, none⟩), .int .i64 x] w fun e w' => e = .returned (.bool (decide (∃ t ∈ L, t.id = x))) ∧ ∃ U', Wst w' base wb mb now (L.filter fun u => decide (u.id ≠ x)) U' ∧ Only base Zm w w' ∧ Only base (Zx wb mb (· ∈ L)) w w' := by
  by_cases hx : ∃ t ∈ L, t.id = x
  · rw [decide_eq_true hx]
    obtain ⟨t, ht, rfl⟩ := hx
    exact wStop_x1 w base wb mb now L U h t ht
  · rw [decide_eq_false hx]
    have hx' : ∀ t ∈ L, t.id ≠ x := fun t ht e => hx ⟨t, ht, e⟩
    refine (wStop_none w base wb mb now L U h x hx').mono ?_
    rintro e w' ⟨rfl, rfl⟩
    refine ⟨rfl, U, ?_, Only.refl _ _ _, Only.refl _ _ _⟩
    rw [List.filter_eq_self.2 fun u hu => decide_eq_true (hx' u hu)]
    exact h
theorem set_tail_x (w w2 : World) (base wb mb now : Nat) (L : List Tm) (U : Nat → Nat) (h : Wst w2 base wb mb now L U) (o : Only base Zm w w2) {S : Tm → Prop} (ox : Only base (Zx wb mb S) w w2) (hS : ∀ u ∈ L, S u) (x : Int) (y : Nat) (h1 : y ≤ maxT) (hx : ∀ u ∈ L, u.id ≠ x) :
    ∃ w4, (w2.alloc (.cells #[.int .i64 x, .int .i64 (y : Int), .pointer none, .pointer none] 70)).cell? ⟨wb, 1, none⟩ = some (.map (some mb)) ∧
      (Instr.mapUpdate 59 (.map (some mb)) (.int .i64 x) (.pointer (some ⟨w2.heap.size, 0, none⟩))).run Tryd.prog (w2.alloc (.cells #[.int .i64 x, .int .i64 (y : Int), .pointer none, .pointer none] 70)) = .ok () w4 ∧
      Calls Tryd.prog 24 #[.pointer (some ⟨wb, 0, none⟩), .pointer (some ⟨w2.heap.size, 0, none⟩)] w4 fun e w' => e = .returned (.tuple #[]) ∧ ∃ U', Wst w' base wb mb now (L ++ [⟨x, y, w2.heap.size⟩]) U' ∧ Only base Zm w w' ∧ Only base (Zx wb mb S) w w' ∧ w.heap.size ≤ w2.heap.size := by
  obtain ⟨W3, hW3⟩ : ∃ W3, W3 = w2.alloc (.cells #[.int .i64 x, .int .i64 (y : Int), .pointer none, .pointer none] 70) := ⟨_, rfl⟩
  have g3 : Grow w2 W3 := by rw [hW3]; exact Grow.alloc _ _
  have hnew : W3.heap[w2.heap.size]? = some (.cells (tmC ⟨x, y, w2.heap.size⟩ (.pointer none) (.pointer none)) 70 (0, 0)) := by rw [hW3]; exact heap_alloc_new w2 _
  have h3 : Whl W3 base wb mb now (chn now L) U := h.whl.keep fun b T cs hb => g3.block b (Array.getElem?_eq_some_iff.1 hb).1
  have o3 : Only base Zm w2 W3 := Only.grow g3 h.whl.bas _
  have hm3 : IMap W3 mb (L.map pairW) := h.map.keep (by
    obtain ⟨es, ck, e, _⟩ := h.map
    exact g3.block mb (Array.getElem?_eq_some_iff.1 e).1)
  obtain ⟨w4, hrun, hm4, hg4⟩ := hm3.upd (h.absent hx) w2.heap.size
  have kc := grown_cells hm3 hg4
  have h4 : Whl w4 base wb mb now (chn now L) U := h3.keep kc
  have hnew4 := (kc _ _ _ hnew).trans hnew
  have o4 := (o.trans o3).trans (only_map hm3 hg4 h.lowM h3.bas)
  obtain ⟨no, s, hpl⟩ : ∃ no s, plc now y = (no, s) := ⟨_, _, rfl⟩
  have hp := plc_lt h.nowM h1
  rw [hpl] at hp
  have cP := put_any w4 base wb mb now (chn now L) U h4 h.nowM ⟨x, y, w2.heap.size⟩ h1 _ _ hnew4 (fun n m hn hm u hu => by
    have := (h.whl.ltT hn hm hu).1
    show u.blk ≠ w2.heap.size
    omega) h.whl.bas h.uLt no s hpl
  rw [← hW3]
  refine ⟨w4, h3.cell.2, hrun, cP.mono ?_⟩
  rintro e w' ⟨rfl, h5, o5, k5⟩
  refine ⟨rfl, _, h.more (t := ⟨x, y, w2.heap.size⟩) h1 hx hpl h5 (o5.imap hm4 zw_map), o4.trans (o5.mono fun _ _ _ _ _ e => .inl e), ?_, ox.size⟩
  have ox4 : Only base (Zx wb mb S) w w4 := (ox.trans (Only.grow g3 h.whl.bas _)).trans (zx_map hg4 h.lowM h3.bas)
  refine ⟨ox4.low.trans o5.low, fun i ob T hi hT hz => ?_⟩
  have hil := (Array.getElem?_eq_some_iff.1 hi).1
  have hsz := ox.size
  refine (k5 i (fun e => hz (.inl e)) (fun e => ?_) (fun u hu e => hz (.inr (.inr (.inl ⟨u, hS u (List.mem_filter.1 hu).1, e⟩))))).trans (ox4.keep i ob T hi hT hz)
  have e2 : i = w2.heap.size := e
  omega

set_option maxHeartbeats 1000000 in
theorem wSet_x1 (w : World) (base wb mb now : Nat) (L : List Tm) (U : Nat → Nat) (h : Wst w base wb mb now L U) (x : Int) (y : Nat) (h1 : y ≤ maxT) (t : Tm) (ht : t ∈ L) (hx : t.id = x) :
    Calls Tryd.prog 11 #[.pointer (some ⟨wb, 0, none⟩), .int .i64 x, .int .i64 (y : Int)] w fun e w' => e = .returned (.int .i64 0) ∧ ∃ b U', Wst w' base wb mb now ((L.filter fun u => decide (u.id ≠ x)) ++ [⟨x, y, b⟩]) U' ∧ Only base Zm w w' ∧ Only base (Zx wb mb (· ∈ L)) w w' ∧ w.heap.size ≤ b := by
  have a0 := h.whl.cell.2
  obtain ⟨j, hj⟩ := List.getElem?_of_mem ht
  have a1 := h.map.look_some h.nodM (x := x) (b := t.blk) (j := j) (by rw [List.getElem?_map, hj, ← hx]; rfl)
  have i1 : ¬ (1099511627776 < (y : Int)) := by unfold maxT at h1; omega
  have i2 : ¬ ((y : Int) < 0) := by omega
  have c0 := wStop_x w base wb mb now L U h x
  have HT : Hid (∀ w2 U2, Wst w2 base wb mb now (L.filter fun u => decide (u.id ≠ x)) U2 → Only base Zm w w2 → Only base (Zx wb mb (· ∈ L)) w w2 → _) := fun w2 U2 h2 o2 ox2 => set_tail_x w w2 base wb mb now _ U2 h2 o2 ox2 (fun u hu => (List.mem_filter.1 hu).1) x y h1 (fun u hu => of_decide_eq_true (List.mem_filter.1 hu).2)
  generalize (L.filter fun u => decide (u.id ≠ x)) = L' at *
  clear h hj ht hx h1
  go_enter Tryd.func11, Tryd.ntmps11
  go_wp2_with fail
  refine c0.mono ?_
  rintro e w2 ⟨rfl, U2, h2, o2, ox2⟩
  obtain ⟨w4, b1, b2, b3⟩ := HT.out w2 U2 h2 o2 ox2
  clear c0 h2 o2 ox2 HT
  go_wp2_with fail
  refine b3.mono ?_
  rintro e w5 ⟨rfl, U5, h5, o5⟩
  have HR := Lib.hid (And.intro h5 o5)
  clear h5 o5 b1 b2 b3
  go_wp2_with fail
  go_ret
  exact ⟨rfl, _, _, HR.out⟩
set_option maxHeartbeats 1000000 in
theorem wSet_x2 (w : World) (base wb mb now : Nat) (L : List Tm) (U : Nat → Nat) (h : Wst w base wb mb now L U) (x : Int) (y : Nat) (h1 : y ≤ maxT) (hx : ∀ t ∈ L, t.id ≠ x) (hl : L.length ≠ 4096) :
    Calls Tryd.prog 11 #[.pointer (some ⟨wb, 0, none⟩), .int .i64 x, .int .i64 (y : Int)] w fun e w' => e = .returned (.int .i64 0) ∧ ∃ b U', Wst w' base wb mb now ((L.filter fun u => decide (u.id ≠ x)) ++ [⟨x, y, b⟩]) U' ∧ Only base Zm w w' ∧ Only base (Zx wb mb (· ∈ L)) w w' ∧ w.heap.size ≤ b := by
  have a0 := h.whl.cell.2
  have a1 := h.map.look_none (h.absent hx)
  have a2 := h.map.len 3
  rw [List.length_map] at a2
  have i0 : ¬ ((L.length : Int) = 4096) := by omega
  have i1 : ¬ (1099511627776 < (y : Int)) := by unfold maxT at h1; omega
  have i2 : ¬ ((y : Int) < 0) := by omega
  have c0 := wStop_x w base wb mb now L U h x
  have HT : Hid (∀ w2 U2, Wst w2 base wb mb now (L.filter fun u => decide (u.id ≠ x)) U2 → Only base Zm w w2 → Only base (Zx wb mb (· ∈ L)) w w2 → _) := fun w2 U2 h2 o2 ox2 => set_tail_x w w2 base wb mb now _ U2 h2 o2 ox2 (fun u hu => (List.mem_filter.1 hu).1) x y h1 (fun u hu => of_decide_eq_true (List.mem_filter.1 hu).2)
  generalize (L.filter fun u => decide (u.id ≠ x)) = L' at *
  clear h hx hl h1
  go_enter Tryd.func11, Tryd.ntmps11
  go_wp2_with fail
  refine c0.mono ?_
  rintro e w2 ⟨rfl, U2, h2, o2, ox2⟩
  obtain ⟨w4, b1, b2, b3⟩ := HT.out w2 U2 h2 o2 ox2
  clear c0 h2 o2 ox2 HT
  go_wp2_with fail
  refine b3.mono ?_
  rintro e w5 ⟨rfl, U5, h5, o5⟩
  have HR := Lib.hid (And.intro h5 o5)
  clear h5 o5 b1 b2 b3
  go_wp2_with fail
  go_ret
  exact ⟨rfl, _, _, HR.out⟩
theorem wSet_x (w : World) (base wb mb now : Nat) (L : List Tm) (U : Nat → Nat) (h : Wst w base wb mb now L U) (x : Int) (y : Nat) (h1 : y ≤ maxT) (hp : (∃ t ∈ L, t.id = x) ∨ L.length ≠ 4096) :
    Calls Tryd.prog 11 #[.pointer (some ⟨wb, 0, none⟩), .int .i64 x, .int .i64 (y : Int)] w fun e w' => e = .returned (.int .i64 0) ∧ ∃ b U', Wst w' base wb mb now ((L.filter fun u => decide (u.id ≠ x)) ++ [⟨x, y, b⟩]) U' ∧ Only base Zm w w' ∧ Only base (Zx wb mb (· ∈ L)) w w' ∧ w.heap.size ≤ b := by
  by_cases hx : ∃ t ∈ L, t.id = x
  · obtain ⟨t, ht, he⟩ := hx
    exact wSet_x1 w base wb mb now L U h x y h1 t ht he
  · exact wSet_x2 w base wb mb now L U h x y h1 (fun t ht e => hx ⟨t, ht, e⟩) (hp.resolve_left hx)
end Go.Proofs.YtnoglbceaibjeaaDoor
