/- A REGION THAT DRAWS ITS ORDER, SOME OF ITS OPERATIONS IN A CHAIN: each link waits for the one ahead of it and may do to new memory what it likes; the others only read old memory, and may come anywhere between. Nothing here is trusted. -/
import Derived.Test.YtfjmcfkpbacicaaC01
import Derived.Test.YtfjmcfkpbacicaaC02
import Derived.Laws.CopyRow
import Derived.Lib.AppendZerosOnto
import Derived.Lib.SliceRun
import Derived.Maps.AppendAt
import Derived.Deep.RegionLaw
import Derived.Deep.QuietTactic
import Derived.BigQuiet
import Derived.Laws.StructEq
import Derived.WalkSpells
namespace Go.Proofs.Ytfjmcfkpbacicaa
set_option linter.unusedVariables false
open Go.RowKit

section
variable {P : Program} {ops : Array Oper} {Q : Exit → Act → World → Prop} {md : Region.Mode}

/-- The links lie in the region, are other ones, and each waits for the one ahead of it. -/
def weaveOk (md : Region.Mode) (ops : Array Oper) (seq : List Nat) : Bool :=
  (seq.all fun i => decide (i < ops.size)) &&
  ((List.range seq.length).all fun j => (List.range seq.length).all fun j' => decide (j = j') || decide (seq[j]? ≠ seq[j']?)) &&
  ((List.range seq.length).all fun j => match seq[j]?, seq[j + 1]? with
    | some i, some i' => (match ops[i']? with
      | some o => (bindsOn md o).contains i
      | none => false)
    | _, _ => true)

theorem weave_other {seq : List Nat} (h : weaveOk md ops seq = true) {j j' i : Nat} (h1 : seq[j]? = some i) (h2 : seq[j']? = some i) : j = j' := by
  unfold weaveOk at h
  simp only [Bool.and_eq_true] at h
  have l1 := (List.getElem?_eq_some_iff.1 h1).1
  have l2 := (List.getElem?_eq_some_iff.1 h2).1
  have h3 := List.all_eq_true.1 (List.all_eq_true.1 h.1.2 j (List.mem_range.2 l1)) j' (List.mem_range.2 l2)
  simp only [Bool.or_eq_true, decide_eq_true_eq] at h3
  rcases h3 with h3 | h3
  · exact h3
  · exact absurd (h1.trans h2.symm) h3
theorem weave_next {seq : List Nat} (h : weaveOk md ops seq = true) {j i i' : Nat} {o : Oper} (h1 : seq[j]? = some i) (h2 : seq[j + 1]? = some i') (ho : ops[i']? = some o) : i ∈ bindsOn md o := by
  unfold weaveOk at h
  simp only [Bool.and_eq_true] at h
  have l1 := (List.getElem?_eq_some_iff.1 h1).1
  have h3 := List.all_eq_true.1 h.2 j (List.mem_range.2 l1)
  simp only [h1, h2, ho, List.contains_iff_mem] at h3
  exact h3

/-- The value that an operation left, by its place. -/
def valAt (ops : Array Oper) (x : Tmp → Value) (i : Nat) : Value := match ops[i]? with
  | some o => leftBy x o
  | none => undef
def valsAt (ops : Array Oper) (x : Tmp → Value) (seq : List Nat) (k : Nat) : List Value := (seq.take k).map (valAt ops x)

/-- What is asked of an operation that only reads. -/
def calmStep (P : Program) (md : Region.Mode) (ops : Array Oper) (A : (Tmp → Value) → Act) (I : World → Prop) (seq : List Nat) (F : Nat → Value → Prop) (i : Nat) (o : Oper) : Prop :=
  seq.contains i = false → ∀ (x : Tmp → Value) (w : World), I w → (∀ j ∈ bindsOn md o, seq.contains j = false → ∀ o', ops[j]? = some o' → F j (leftBy x o')) →
    ∀ post : Value → World → Prop, (∀ v, F i (leftAs o v) → post v w) → if Region.wanted o (yielded ops (A x).tmps) = true then looseUpon P post ((execOp (A x).eval o).run P w) else post undef w
def calmSteps (P : Program) (md : Region.Mode) (ops : Array Oper) (A : (Tmp → Value) → Act) (I : World → Prop) (seq : List Nat) (F : Nat → Value → Prop) : Nat → List Oper → Prop
  | _, [] => True
  | i, o :: r => calmStep P md ops A I seq F i o ∧ calmSteps P md ops A I seq F (i + 1) r
theorem calmSteps_at {A : (Tmp → Value) → Act} {I : World → Prop} {seq : List Nat} {F : Nat → Value → Prop} : ∀ (l : List Oper) (k : Nat), calmSteps P md ops A I seq F k l → ∀ (i : Nat) (o : Oper), l[i]? = some o → calmStep P md ops A I seq F (k + i) o
  | [], _, _, _, _, h => by simp at h
  | o' :: r, k, hs, 0, o, h => by
    simp at h
    subst h
    exact hs.1
  | o' :: r, k, hs, i + 1, o, h => by
    have := calmSteps_at r (k + 1) hs.2 i o (by simpa using h)
    rwa [show k + 1 + i = k + (i + 1) from by omega] at this
/-- What is asked of a link. -/
def linkStep (P : Program) (md : Region.Mode) (ops : Array Oper) (A : (Tmp → Value) → Act) (I : World → Prop) (seq : List Nat) (F : Nat → Value → Prop) (S : Nat → List Value → World → Prop) (j : Nat) (o : Oper) : Prop :=
  ∀ (x : Tmp → Value) (w : World), I w → (∀ d ∈ bindsOn md o, seq.contains d = false → ∀ o', ops[d]? = some o' → F d (leftBy x o')) → S j (valsAt ops x seq j) w →
    ∀ post : Value → World → Prop, (∀ v w', I w' → S (j + 1) (valsAt ops x seq j ++ [leftAs o v]) w' → post v w') →
      if Region.wanted o (yielded ops (A x).tmps) = true then looseUpon P post ((execOp (A x).eval o).run P w) else post undef w
def linkSteps (P : Program) (md : Region.Mode) (ops : Array Oper) (A : (Tmp → Value) → Act) (I : World → Prop) (seq : List Nat) (F : Nat → Value → Prop) (S : Nat → List Value → World → Prop) : Nat → List Oper → Prop
  | _, [] => True
  | j, o :: r => linkStep P md ops A I seq F S j o ∧ linkSteps P md ops A I seq F S (j + 1) r
theorem linkSteps_at {A : (Tmp → Value) → Act} {I : World → Prop} {seq : List Nat} {F : Nat → Value → Prop} {S : Nat → List Value → World → Prop} : ∀ (l : List Oper) (k : Nat), linkSteps P md ops A I seq F S k l → ∀ (i : Nat) (o : Oper), l[i]? = some o → linkStep P md ops A I seq F S (k + i) o
  | [], _, _, _, _, h => by simp at h
  | o' :: r, k, hs, 0, o, h => by
    simp at h
    subst h
    exact hs.1
  | o' :: r, k, hs, i + 1, o, h => by
    have := linkSteps_at r (k + 1) hs.2 i o (by simpa using h)
    rwa [show k + 1 + i = k + (i + 1) from by omega] at this

theorem valAt_put {size : Nat} (hk : looseOk md ops size = true) {i : Nat} {o : Oper} {d : Nat} (ho : ops[i]? = some o) (hd : o.dst = some d) (v : Value) (x : Tmp → Value) (i' : Nat) (hne : i' ≠ i) :
    valAt ops (fun t => if t = d then v else x t) i' = valAt ops x i' := by
  unfold valAt
  cases ho' : ops[i']? with
  | none => rfl
  | some o' =>
    have h1 := (looseOk_slot hk ho hd).2 i' o' ho' (Ne.symm hne)
    simp only [leftBy]
    cases hd' : o'.dst with
    | none => rfl
    | some d' =>
      have : d' ≠ d := fun e => h1 (by rw [hd', e])
      simp [this]

theorem wpAny_weave {a₀ : Act} {I : World → Prop} {seq : List Nat} {so : List Oper} {F : Nat → Value → Prop} {S : Nat → List Value → World → Prop} (hw : weaveOk md ops seq = true) (hk : looseOk md ops a₀.tmps.size = true)
    (hso : seq.map (fun i => ops[i]?) = so.map some)
    (hL : calmSteps P md ops (fun x => fillAct x ops.toList a₀) I seq F 0 ops.toList) (hS : linkSteps P md ops (fun x => fillAct x ops.toList a₀) I seq F S 0 so)
    (fin : ∀ (x : Tmp → Value) (w : World), I w → (∀ (j : Nat) o', ops[j]? = some o' → seq.contains j = false → F j (leftBy x o')) → S seq.length (valsAt ops x seq seq.length) w → Q .normal (fillAct x ops.toList a₀) w) :
    ∀ (fuel : Nat) (listed : Array Bool) (x : Tmp → Value) (w : World) (k : Nat), unl listed ops.size ≤ fuel → listed.size = ops.size → I w →
      (∀ i o, ops[i]? = some o → seq.contains i = false → listed.getD i true = true → F i (leftBy x o)) → (∀ j i, seq[j]? = some i → (listed.getD i true = true ↔ j < k)) → k ≤ seq.length →
      S k (valsAt ops x seq k) w → wpAny P md ops Q fuel listed (fillAct x ops.toList a₀) w := by
  have done : ∀ (listed : Array Bool) (x : Tmp → Value) (w : World) (k : Nat), I w → (∀ i o, ops[i]? = some o → seq.contains i = false → listed.getD i true = true → F i (leftBy x o)) →
      (∀ j i, seq[j]? = some i → (listed.getD i true = true ↔ j < k)) → k ≤ seq.length → S k (valsAt ops x seq k) w → Region.ready md ops listed = [] → Q .normal (fillAct x ops.toList a₀) w := by
    intro listed x w k hI hf hq hkl hs hr
    have hall := all_listed hk hr
    have hkk : k = seq.length := by
      rcases Nat.lt_or_ge k seq.length with h' | h'
      · have h1 := (hq k seq[k] (List.getElem?_eq_getElem h')).1 (by
          rcases Nat.lt_or_ge seq[k] ops.size with h2 | h2
          · exact hall _ h2
          · unfold weaveOk at hw
            simp only [Bool.and_eq_true] at hw
            have h3 := List.all_eq_true.1 hw.1.1 seq[k] (List.getElem_mem h')
            simp at h3
            omega)
        omega
      · omega
    subst hkk
    exact fin x w hI (fun j o ho hn => hf j o ho hn (hall j (Array.getElem?_eq_some_iff.1 ho).1)) hs
  intro fuel
  induction fuel with
  | zero =>
    intro listed x w k hu hsz hI hf hq hkl hs
    have hr : Region.ready md ops listed = [] := by
      rw [List.eq_nil_iff_forall_not_mem]
      intro j hj
      obtain ⟨h0, o, ho, _⟩ := mem_ready.1 hj
      have := unl_zero listed ops.size (by omega) j (Array.getElem?_eq_some_iff.1 ho).1
      rw [this] at h0
      cases h0
    exact ⟨hr, done listed x w k hI hf hq hkl hs hr⟩
  | succ fuel ih =>
    intro listed x w k hu hsz hI hf hq hkl hs
    refine ⟨fun hr => done listed x w k hI hf hq hkl hs hr, fun i hi => ?_⟩
    obtain ⟨h0, o, ho, hall⟩ := mem_ready.1 hi
    have hilt : i < ops.size := (Array.getElem?_eq_some_iff.1 ho).1
    have hdepl : ∀ j ∈ bindsOn md o, listed.getD j true = true := fun j hj => by
      unfold bindsOn at hj
      obtain ⟨e, he, rfl⟩ := List.mem_map.1 hj
      obtain ⟨he1, he2⟩ := List.mem_filter.1 he
      have h1 := hall e (by simpa using he1) he2
      have hs' : e.on < listed.size := by
        rcases Nat.lt_or_ge e.on listed.size with h' | h'
        · exact h'
        · simp [Array.getElem?_eq_none h'] at h1
      simpa [hs'] using h1
    have hdeps : ∀ j ∈ bindsOn md o, seq.contains j = false → ∀ o', ops[j]? = some o' → F j (leftBy x o') := fun j hj hn o' ho' => hf j o' ho' hn (hdepl j hj)
    have hun := unl_set listed i h0 ops.size hilt
    have hself : (listed.setIfInBounds i true).getD i true = true := by
      have : i < listed.size := by omega
      simp [this]
    -- the new values: those of other places are as they were
    have keepF : ∀ (x' : Tmp → Value), (∀ i', i' ≠ i → valAt ops x' i' = valAt ops x i') → (seq.contains i = false → F i (valAt ops x' i)) →
        ∀ i' o', ops[i']? = some o' → seq.contains i' = false → (listed.setIfInBounds i true).getD i' true = true → F i' (leftBy x' o') := by
      intro x' hx hi' i' o' ho' hn hl
      have e1 : leftBy x' o' = valAt ops x' i' := by unfold valAt; rw [ho']
      by_cases hii : i' = i
      · subst hii
        rw [e1]
        exact hi' hn
      · rw [getD_set_ne true (Ne.symm hii)] at hl
        rw [e1, hx i' hii]
        have := hf i' o' ho' hn hl
        unfold valAt
        rw [ho']
        exact this
    have putEq : ∀ v, ∃ x', (fillAct x ops.toList a₀).put o.dst v = fillAct x' ops.toList a₀ ∧ (∀ i', i' ≠ i → valAt ops x' i' = valAt ops x i') ∧ valAt ops x' i = leftAs o v := by
      intro v
      cases hd : o.dst with
      | none => exact ⟨x, rfl, fun _ _ => rfl, by unfold valAt; rw [ho]; simp [leftBy, leftAs, hd]⟩
      | some d =>
        obtain ⟨hds, hdn⟩ := looseOk_slot hk ho hd
        exact ⟨_, fillAct_put x ops.toList a₀ d v ⟨o, by simpa using Array.mem_of_getElem? ho, hd⟩ hds, fun i' hne => valAt_put hk ho hd v x i' hne, by unfold valAt; rw [ho]; simp [leftBy, leftAs, hd]⟩
    have close : ∀ (K : Value → World → Prop) , (∀ v w', K v w' → wpAny P md ops Q fuel (listed.setIfInBounds i true) ((fillAct x ops.toList a₀).put o.dst v) w') →
        (if Region.wanted o (yielded ops (fillAct x ops.toList a₀).tmps) = true then looseUpon P K ((execOp (fillAct x ops.toList a₀).eval o).run P w) else K undef w) →
        wpOp P ops Q i (wpAny P md ops Q fuel (listed.setIfInBounds i true)) (fillAct x ops.toList a₀) w := by
      intro K hK h1
      unfold wpOp
      rw [ho]
      show if Region.wanted o (yielded ops (fillAct x ops.toList a₀).tmps) = true then _ else _
      split
      · rename_i hw'
        rw [if_pos hw'] at h1
        exact .inl (wp_of_loose hK h1)
      · rename_i hw'
        rw [if_neg hw'] at h1
        exact hK _ _ h1
    by_cases hc : seq.contains i = true
    · obtain ⟨j, hj⟩ := List.getElem?_of_mem (List.contains_iff_mem.1 hc)
      have hjk : ¬ j < k := fun h => by
        have := (hq j i hj).2 h
        rw [this] at h0
        cases h0
      have hjk2 : j = k := by
        rcases Nat.eq_zero_or_pos j with hz | hz
        · omega
        · have hj1 : j - 1 < seq.length := by have := (List.getElem?_eq_some_iff.1 hj).1; omega
          have hp := List.getElem?_eq_getElem hj1
          have hmem := weave_next hw hp (by rw [show j - 1 + 1 = j from by omega]; exact hj) ho
          have := (hq (j - 1) _ hp).1 (hdepl _ hmem)
          omega
      subst hjk2
      have hso' : so[j]? = some o := by
        have h1 := congrArg (fun q => q[j]?) hso
        simp only [List.getElem?_map, hj, Option.map_some, ho] at h1
        cases h2 : so[j]? with
        | none => rw [h2] at h1; simp at h1
        | some o2 => rw [h2] at h1; simp at h1; rw [h1]
      have hst := linkSteps_at so 0 hS j o hso'
      rw [Nat.zero_add] at hst
      have hjl := (List.getElem?_eq_some_iff.1 hj).1
      refine close (fun v w' => I w' ∧ S (j + 1) (valsAt ops x seq j ++ [leftAs o v]) w') (fun v w' hvw => ?_) (hst x w hI hdeps hs _ fun v w' h1 h2 => ⟨h1, h2⟩)
      obtain ⟨x', e', hx', hv'⟩ := putEq v
      rw [e']
      refine ih _ x' w' (j + 1) (by omega) (by simpa using hsz) hvw.1 (keepF x' hx' fun hn => by rw [hc] at hn; cases hn) (fun j' i' hj' => ?_) (by omega) ?_
      · by_cases e : i' = i
        · subst e
          have := weave_other hw hj' hj
          rw [hself]
          exact ⟨fun _ => by omega, fun _ => rfl⟩
        · rw [getD_set_ne true (Ne.symm e), hq j' i' hj']
          constructor
          · intro h; omega
          · intro h
            rcases Nat.lt_or_ge j' j with h' | h'
            · exact h'
            · have : j' = j := by omega
              subst this
              rw [hj] at hj'
              exact absurd (Option.some.inj hj').symm e
      · have e3 : valsAt ops x' seq (j + 1) = valsAt ops x seq j ++ [leftAs o v] := by
          unfold valsAt
          rw [List.take_succ_eq_append_getElem hjl, List.map_append]
          have e4 : seq[j] = i := (List.getElem?_eq_some_iff.1 hj).2
          congr 1
          · apply List.map_congr_left
            intro i' hi'
            refine hx' i' fun e => ?_
            subst e
            obtain ⟨j', hj'⟩ := List.getElem?_of_mem hi'
            have hlt' : j' < j := by
              have := (List.getElem?_eq_some_iff.1 hj').1
              simp at this
              omega
            rw [List.getElem?_take, if_pos hlt'] at hj'
            have := weave_other hw hj' hj
            omega
          · simp [e4, hv']
        rw [e3]
        exact hvw.2
    · have hc' : seq.contains i = false := by simpa using hc
      have hst := calmSteps_at ops.toList 0 hL i o (by simpa using ho)
      rw [Nat.zero_add] at hst
      refine close (fun v w' => w' = w ∧ F i (leftAs o v)) (fun v w' hvw => ?_) (hst hc' x w hI hdeps _ fun v h1 => ⟨rfl, h1⟩)
      obtain ⟨rfl, hv⟩ := hvw
      obtain ⟨x', e', hx', hv'⟩ := putEq v
      rw [e']
      have hnot : ∀ j' i', seq[j']? = some i' → i' ≠ i := fun j' i' hj' e => by
        subst e
        rw [List.contains_iff_mem.2 (List.mem_of_getElem? hj')] at hc'
        cases hc'
      refine ih _ x' _ k (by omega) (by simpa using hsz) hI (keepF x' hx' fun _ => by rw [hv']; exact hv) (fun j' i' hj' => by rw [getD_set_ne true (Ne.symm (hnot j' i' hj'))]; exact hq j' i' hj') hkl ?_
      have e3 : valsAt ops x' seq k = valsAt ops x seq k := by
        unfold valsAt
        apply List.map_congr_left
        intro i' hi'
        obtain ⟨j', hj'⟩ := List.getElem?_of_mem (List.mem_of_mem_take hi')
        exact hx' i' (hnot j' i' hj')
      rw [e3]
      exact hs

/-- **A region that draws its order: a chain, and what only reads.** -/
theorem wp_region_weave {id : Nat} {a : Act} {w : World} {A : (Tmp → Value) → Act} (seq : List Nat) (I : World → Prop) (F : Nat → Value → Prop) (S : Nat → List Value → World → Prop) (hm : P.follows .mixedOrders = true) (hw : weaveOk .any ops seq = true) (hk : looseOk .any ops a.tmps.size = true)
    (hso : seq.map (fun i => ops[i]?) = (seq.filterMap fun i => ops[i]?).map some) (hA : ∀ x, fillAct x ops.toList a = A x) (h0 : I w.drew) (h1 : S 0 [] w.drew)
    (hL : calmSteps P .any ops A I seq F 0 ops.toList) (hS : linkSteps P .any ops A I seq F S 0 (seq.filterMap fun i => ops[i]?))
    (fin : ∀ (x : Tmp → Value) (w : World), I w → (∀ (j : Nat) o', ops[j]? = some o' → seq.contains j = false → F j (leftBy x o')) → S seq.length (valsAt ops x seq seq.length) w → Q .normal (A x) w) :
    (Code.region id ops true).wp P Q a w := by
  obtain rfl : (fun x => fillAct x ops.toList a) = A := funext hA
  refine wp_region_any hm ?_
  have hrep : ∀ j, j < ops.size → (Array.replicate ops.size false).getD j true = false := fun j hj => by simp [hj]
  have h := wpAny_weave (Q := Q) hw hk hso hL hS fin ops.size (Array.replicate ops.size false) (fun t => a.tmps.getD t undef) w.drew 0 ?_ (by simp) h0 ?_ ?_ (Nat.zero_le _) (by simpa [valsAt] using h1)
  · rw [fillAct_own a ops.toList fun o ho d hd => ?_] at h
    · exact h
    · obtain ⟨i, hi⟩ := List.getElem?_of_mem ho
      exact (looseOk_slot hk (i := i) (by simpa using hi) hd).1
  · have : ∀ n, unl (Array.replicate ops.size false) n ≤ n := fun n => by
      induction n with
      | zero => exact Nat.le_refl _
      | succ n ih => simp only [unl]; split <;> omega
    exact this _
  · intro i o ho _ hl
    rw [hrep i (Array.getElem?_eq_some_iff.1 ho).1] at hl
    cases hl
  · intro j i hj
    constructor
    · intro hl
      unfold weaveOk at hw
      simp only [Bool.and_eq_true] at hw
      have h3 := List.all_eq_true.1 hw.1.1 i (List.mem_of_getElem? hj)
      rw [hrep i (by simpa using h3)] at hl
      cases hl
    · intro hl
      omega

/-- Facts in a list, one for each operation. -/
def inVals (Fs : List (Value → Prop)) (i : Nat) (v : Value) : Prop := ((Fs[i]?).getD fun _ => True) v
def isW (u : Value) (v : Value) : Prop := v = u
def isAll (_ : Value) : Prop := True
end
end Go.Proofs.Ytfjmcfkpbacicaa
/- One field of a packet in its block, written over. -/
namespace Go.Proofs.Ytfjmcfkpbacicaa
set_option linter.unusedVariables false
set_option linter.unusedSimpArgs false
open Go.ChangeShapes Go.WideShapes Go.ChangeAt Go.RowKit

/-- A packet's cells. -/
def cellsP (k : Pkt) (vo vd : Value) : Array Value := #[.int .u8 (k.tos : Int), .int .u16 (k.ident : Int), .bool k.whole, .bool k.more, .int .i64 k.off, .int .u8 (k.ttl : Int), .int .u8 (k.proto : Int), .int .u32 (k.src : Int), .int .u32 (k.dst : Int), vo, vd]
theorem Blk.cells {w : World} {g : Nat} {k : Pkt} {vo vd : Value} (h : Blk w g k vo vd) : w.heap[g]? = some (.cells (cellsP k vo vd) 38 (0, 0)) := h

theorem run_fld (w : World) (g i : Nat) (ty : TypeId) (u : Value) (k k' : Pkt) (vo vd vo' vd' : Value) (hb : Blk w g k vo vd) (hi : (Try.prog.info? ty).map (·.size) = some 1) (h1 : u.oneCell' = true) (hl : i < 11)
    (hset : (cellsP k vo vd).toList.set i u = (cellsP k' vo' vd').toList) : ∃ w', (storeVar ty ⟨g, i, none⟩ u).run Try.prog w = .ok () w' ∧ Blk w' g k' vo' vd' ∧ But g w w' ∧ ∀ w₀, Grow w₀ w → w₀.heap.size ≤ g → Grow w₀ w' := by
  have hr := run_storeCells_at (P := Try.prog) g i 38 [u] 0 (cellsP k vo vd) w hb.cells (by simp [cellsP]; omega) (fun x hx => by simp at hx; subst hx; exact h1)
  have hc : u.cells = #[u] := by cases u <;> first | rfl | cases h1
  have e1 : ((cellsP k vo vd).toList.take (i + 0) ++ [u] ++ (cellsP k vo vd).toList.drop (i + 0 + [u].length)) = (cellsP k' vo' vd').toList := by
    rw [← hset, List.set_eq_take_append_cons_drop]
    have : i < (cellsP k vo vd).toList.length := hl
    rw [if_pos this]
    simp
  rw [e1] at hr
  refine ⟨w.setRow g (cellsP k' vo' vd'), ?_, setRow_heap w g _ _ _ _ hb, ⟨by simp [World.setRow], fun b hne => setRow_other w g b _ hne⟩, fun w₀ hg hb' => below_setRow hg hb' _⟩
  cases hq : Try.prog.info? ty with
  | none => simp [hq] at hi
  | some j =>
    have hs : j.size = 1 := by simpa [hq] using hi
    simp only [Array.toArray_toList] at hr
    simp [storeVar, sizeOf, typeInfo, hq, hc, hs, hr]

/-- p.f = value, as one step of a walk. -/
theorem wpList_store_fld (w₀ w : World) {ops : Array Oper} {rest : List Oper} {o : Oper} {a : Act} {Q : Exit → Act → World → Prop} (hgd : o.guard = none) (ty : TypeId) (x y : Operand) (ho : o.op = .store ty x y) (hdst : o.dst = none)
    (g i : Nat) (u : Value) (hx : a.eval x = .pointer (some ⟨g, i, none⟩)) (hy : a.eval y = u) (k k' : Pkt) (vo vd vo' vd' : Value) (hb : Blk w g k vo vd) (hi : (Try.prog.info? ty).map (·.size) = some 1) (h1 : u.oneCell' = true) (hl : i < 11)
    (hset : (cellsP k vo vd).toList.set i u = (cellsP k' vo' vd').toList) (hgr : Grow w₀ w) (hg : w₀.heap.size ≤ g)
    (h : ∀ w', Blk w' g k' vo' vd' → But g w w' → Grow w₀ w' → wpList Try.prog ops Q rest a w') : wpList Try.prog ops Q (o :: rest) a w := by
  obtain ⟨w', hrun, h2, h3, h4⟩ := run_fld w g i ty u k k' vo vd vo' vd' hb hi h1 hl hset
  refine wpList_plain hgd fun _ hK => ?_
  unfold Oper.wp execOp
  simp only [ho, hx, hy, Instr.storeAt, Instr.sureAddr, Sem.run_bind, Sem.run_pure, Result.andThen_ok, hrun]
  refine hK _ _ ?_
  have e : a.put o.dst undef = a := by rw [hdst]; rfl
  rw [e]
  exact h w' h2 h3 (h4 w₀ hgr hg)
/-- The same in a region that draws its order. -/
theorem upon_fld (w₀ w : World) {ops : Array Oper} {o : Oper} {a : Act} {post : Value → World → Prop} (hgd : o.guard = none) (ty : TypeId) (x y : Operand) (ho : o.op = .store ty x y)
    (g i : Nat) (u : Value) (hx : a.eval x = .pointer (some ⟨g, i, none⟩)) (hy : a.eval y = u) (k k' : Pkt) (vo vd vo' vd' : Value) (hb : Blk w g k vo vd) (hi : (Try.prog.info? ty).map (·.size) = some 1) (h1 : u.oneCell' = true) (hl : i < 11)
    (hset : (cellsP k vo vd).toList.set i u = (cellsP k' vo' vd').toList) (hgr : Grow w₀ w) (hg : w₀.heap.size ≤ g)
    (h : ∀ w', Blk w' g k' vo' vd' → But g w w' → Grow w₀ w' → post undef w') :
    if Region.wanted o (yielded ops a.tmps) = true then looseUpon Try.prog post ((execOp a.eval o).run Try.prog w) else post undef w := by
  have hw : Region.wanted o (yielded ops a.tmps) = true := by simp [Region.wanted, hgd]
  rw [if_pos hw]
  obtain ⟨w', hrun, h2, h3, h4⟩ := run_fld w g i ty u k k' vo vd vo' vd' hb hi h1 hl hset
  unfold execOp
  simp only [ho, hx, hy, Instr.storeAt, Instr.sureAddr, Sem.run_bind, Sem.run_pure, Result.andThen_ok, hrun, looseUpon]
  exact h w' h2 h3 (h4 w₀ hgr hg)
end Go.Proofs.Ytfjmcfkpbacicaa
/- Rows of elements of k cells, of whatever type: read, appended, copied, cleared, cut. -/
namespace Go.Proofs.Ytfjmcfkpbacicaa
set_option linter.unusedVariables false
set_option linter.unusedSimpArgs false
open Go.ChangeShapes Go.WideShapes Go.ChangeAt Go.RowKit

/-- The slice v reads as n elements of k cells each: xs. -/
def RdK (w : World) (k : Nat) (v : Value) (n : Nat) (xs : List Value) : Prop :=
  ∃ A c, v = .slice A n c ∧ xs.length = n * k ∧ n ≤ c ∧ c ≤ maxLen ∧
    (0 < n → ∃ b off, A = some ⟨b, off, none⟩ ∧ b < w.heap.size ∧ ∀ j u, xs[j]? = some u → w.cell? ⟨b, off + j, none⟩ = some u)

section
variable {w w' : World} {k n : Nat} {v : Value} {xs : List Value}
theorem RdK.other (h : RdK w k v n xs) (hs : w.heap.size ≤ w'.heap.size) (hb : ∀ b, v.ownBlock = some b → b < w.heap.size → w'.heap[b]? = w.heap[b]?) : RdK w' k v n xs := by
  obtain ⟨A, c, rfl, h0, h1, h2, h3⟩ := h
  refine ⟨A, c, rfl, h0, h1, h2, fun hp => ?_⟩
  obtain ⟨b, off, rfl, hlt, hc⟩ := h3 hp
  exact ⟨b, off, rfl, Nat.lt_of_lt_of_le hlt hs, fun j u hj => (World.cell?_of_block (w := w) (a := ⟨b, off + j, none⟩) (hb b rfl hlt)).trans (hc j u hj)⟩
theorem RdK.grow (h : RdK w k v n xs) (g : Grow w w') : RdK w' k v n xs := h.other g.size fun b _ hlt => g.block b hlt
theorem RdK.form (h : RdK w k v n xs) : ∃ A c, v = .slice A n c ∧ n ≤ c ∧ c ≤ maxLen := by
  obtain ⟨A, c, rfl, h0, h1, h2, h3⟩ := h
  exact ⟨A, c, rfl, h1, h2⟩
theorem RdK.of_own {base : Nat} {e : TypeId} (h : w.ownsRow base e k v n xs) : RdK w k v n xs := by
  have h1 := h.1
  rcases id h.2 with ⟨rfl, rfl⟩ | ⟨g, cap, cur, rfl, hbg, hh, hnc, hcm, hcs, ht⟩
  · exact ⟨none, 0, rfl, h1, Nat.le_refl _, Nat.zero_le _, fun h => absurd h (by simp)⟩
  · refine ⟨_, cap, rfl, h1, hnc, hcm, fun hp => ⟨g, 0, rfl, (Array.getElem?_eq_some_iff.1 hh).1, fun j u hj => ?_⟩⟩
    have := World.ownsRow.cells h (g := g) rfl j u hj
    rwa [add_at] at this
/-- An own row stays where its block does. -/
theorem ownsRow_other {base : Nat} {e : TypeId} (h : w.ownsRow base e k v n xs) (hb : ∀ b cs, v.ownBlock = some b → w.heap[b]? = some (.cells cs e (0, 0)) → w'.heap[b]? = w.heap[b]?) : w'.ownsRow base e k v n xs := by
  refine ⟨h.1, ?_⟩
  rcases h.2 with h2 | ⟨g, cap, cur, rfl, e2, hh, r⟩
  · exact .inl h2
  · exact .inr ⟨g, cap, cur, rfl, e2, (hb g cur rfl hh).trans hh, r⟩
theorem ownsRow_base {base b' : Nat} {e : TypeId} (h : w.ownsRow base e k v n xs) (hb : b' ≤ base) : w.ownsRow b' e k v n xs := by
  obtain ⟨h1, h2⟩ := h
  refine ⟨h1, ?_⟩
  rcases h2 with h2 | ⟨g, cap, cur, e1, e2, r⟩
  · exact .inl h2
  · exact .inr ⟨g, cap, cur, e1, by omega, r⟩
theorem ownsRow_one {base : Nat} {e : TypeId} (h : w.ownsRow base e k v n xs) : v.oneCell' = true := by
  rcases h.2 with ⟨rfl, _⟩ | ⟨b, cap, cur, rfl, _⟩ <;> rfl
/-- The block of an own row, and its cells. -/
theorem ownsRow_blk {base : Nat} {e : TypeId} (h : w.ownsRow base e k v n xs) {b : Nat} (hb : v.ownBlock = some b) : ∃ cs, w.heap[b]? = some (.cells cs e (0, 0)) ∧ base ≤ b := by
  rcases h.2 with ⟨rfl, _⟩ | ⟨g, cap, cur, rfl, e2, hh, r⟩
  · cases hb
  · cases hb
    exact ⟨cur, hh, e2⟩
end

/-- append(s, x...) onto an own row. -/
theorem run_appK {P : Program} (w : World) (base : Nat) (t ty e : TypeId) (z : Value) (k bytes : Nat) (ht : P.underlying t = some (.slice e)) (hi : (P.info? e).map (fun i => (i.zero, i.size, i.bytes)) = some (some z, k, bytes)) (hz : z.cells.size = k) (hk : 0 < k)
    (v : Value) (n : Nat) (xs : List Value) (hown : w.ownsRow base e k v n xs) (u : Value) (m : Nat) (ys : List Value) (hr : RdK w k u m ys) (h1 : ∀ y ∈ ys, y.oneCell' = true)
    (hbytes : (n + m) * bytes ≤ 140737488355328) (hlen : n + m ≤ maxLen) (hbase : base ≤ w.heap.size) :
    ∃ v' w', (Builtin.append_ #[t, t] ty #[v, u]).run P w = .ok v' w' ∧ w'.ownsRow base e k v' (n + m) (xs ++ ys) ∧ w.grownBy w' v.ownBlock ∧ (v'.ownBlock = v.ownBlock ∨ v'.ownBlock = some w.heap.size) := by
  obtain ⟨i, hi0, hz0, hz1, hz2⟩ := info_parts hi
  obtain ⟨A, c, rfl, hl, hlc, hcm, hcell⟩ := hr
  cases A with
  | none =>
    have hm : m = 0 := by
      rcases Nat.eq_zero_or_pos m with h0 | h0
      · exact h0
      · obtain ⟨b, off, e', _⟩ := hcell h0
        cases e'
    subst hm
    have hy : ys = [] := List.eq_nil_of_length_eq_zero (by simpa using hl)
    subst hy
    refine ⟨v, w, ?_, by simpa using hown, World.grownBy.refl _ _, .inl rfl⟩
    rcases hown.2 with ⟨rfl, rfl⟩ | ⟨g, cap, cur, rfl, _, _, hnc, _⟩
    · simp [Builtin.append_, run_underlying ht, sizeOf, typeInfo, hi0, Builtin.lenOf, Builtin.firstCells]
    · simp [Builtin.append_, run_underlying ht, sizeOf, typeInfo, hi0, Builtin.lenOf, Builtin.firstCells, hnc, storeCells]
  | some ad =>
    have hnews : ∀ j y, ys[j]? = some y → w.cell? (ad.add j) = some y := by
      intro j y hy
      have hj : 0 < m := by
        rcases Nat.eq_zero_or_pos m with h0 | h0
        · subst h0
          have : ys = [] := List.eq_nil_of_length_eq_zero (by simpa using hl)
          subst this
          simp at hy
        · exact h0
      obtain ⟨b, off, e', _, hc⟩ := hcell hj
      injection e' with e'
      subst e'
      rw [add_at]
      exact hc j y hy
    obtain ⟨v', w', hrun, h2, h3, _, h5⟩ := run_append_own_at (P := P) w base t ty e i _ k bytes ht hi0 hz0 hz1 hz2 hz hk v n xs hown ad m c ys hl hnews h1 hlen hbytes hbase
    exact ⟨v', w', hrun, h2, h3, h5⟩

theorem wpList_appK {P : Program} (w : World) {ops : Array Oper} {rest : List Oper} {o : Oper} {a : Act} {Q : Exit → Act → World → Prop} (hgd : o.guard = none) (s x : Operand) (t : TypeId)
    (ho : o.op = .call { callee := .builtin .append, args := #[s, x], argTypes := #[t, t] })
    (e : TypeId) (z : Value) (k bytes : Nat) (ht : P.underlying t = some (.slice e)) (hi : (P.info? e).map (fun i => (i.zero, i.size, i.bytes)) = some (some z, k, bytes)) (hz : z.cells.size = k) (hk : 0 < k)
    (base : Nat) (v u : Value) (n m : Nat) (xs ys : List Value) (hs : a.eval s = v) (hx : a.eval x = u) (hown : w.ownsRow base e k v n xs) (hr : RdK w k u m ys) (h1 : ∀ y ∈ ys, y.oneCell' = true)
    (hbytes : (n + m) * bytes ≤ 140737488355328) (hlen : n + m ≤ maxLen) (hbase : base ≤ w.heap.size)
    (h : ∀ v' w', w'.ownsRow base e k v' (n + m) (xs ++ ys) → w.grownBy w' v.ownBlock → (v'.ownBlock = v.ownBlock ∨ v'.ownBlock = some w.heap.size) → wpList P ops Q rest (a.put o.dst v') w') : wpList P ops Q (o :: rest) a w := by
  obtain ⟨v', w', hrun, h2, h3, h4⟩ := run_appK (P := P) w base t o.type e z k bytes ht hi hz hk v n xs hown u m ys hr h1 hbytes hlen hbase
  refine wpList_plain hgd fun K hK => ?_
  unfold Oper.wp execOp
  simp only [ho, resolve, invoke, builtin, Sem.run_bind, Sem.run_pure, Result.andThen_ok, List.map_toArray, List.map_cons, List.map_nil, hs, hx, hrun]
  exact hK _ _ (h v' w' h2 h3 h4)

/-- The same, as one step of a region that draws its order. -/
theorem step_appK {P : Program} (w : World) {ops : Array Oper} {o : Oper} {a : Act} {K : Act → World → Prop} {Q : Exit → Act → World → Prop} {E : Prop} (hgd : o.guard = none) (s x : Operand) (t : TypeId)
    (ho : o.op = .call { callee := .builtin .append, args := #[s, x], argTypes := #[t, t] })
    (e : TypeId) (z : Value) (k bytes : Nat) (ht : P.underlying t = some (.slice e)) (hi : (P.info? e).map (fun i => (i.zero, i.size, i.bytes)) = some (some z, k, bytes)) (hz : z.cells.size = k) (hk : 0 < k)
    (base : Nat) (v u : Value) (n m : Nat) (xs ys : List Value) (hs : a.eval s = v) (hx : a.eval x = u) (hown : w.ownsRow base e k v n xs) (hr : RdK w k u m ys) (h1 : ∀ y ∈ ys, y.oneCell' = true)
    (hbytes : (n + m) * bytes ≤ 140737488355328) (hlen : n + m ≤ maxLen) (hbase : base ≤ w.heap.size)
    (h : ∀ v' w', w'.ownsRow base e k v' (n + m) (xs ++ ys) → w.grownBy w' v.ownBlock → (v'.ownBlock = v.ownBlock ∨ v'.ownBlock = some w.heap.size) → K (a.put o.dst v') w') :
    if Region.wanted o (yielded ops a.tmps) = true then Oper.wp P o a w K Q else E := by
  have hw : Region.wanted o (yielded ops a.tmps) = true := by simp [Region.wanted, hgd]
  rw [if_pos hw]
  obtain ⟨v', w', hrun, h2, h3, h4⟩ := run_appK (P := P) w base t o.type e z k bytes ht hi hz hk v n xs hown u m ys hr h1 hbytes hlen hbase
  unfold Oper.wp execOp
  simp only [ho, resolve, invoke, builtin, Sem.run_bind, Sem.run_pure, Result.andThen_ok, List.map_toArray, List.map_cons, List.map_nil, hs, hx, hrun]
  exact h v' w' h2 h3 h4

/-- copy(d, s): d within a row of plain memory; elements of k cells. -/
theorem run_copyK {P : Program} (w : World) (dT sT ty elem : TypeId) (k : Nat) (g o dLen dCap : Nat) (a : Addr) (sLen sCap : Nat) (cur : Array Value) (t : TypeId) (m : Nat) (cs : List Value)
    (hu : P.underlying dT = some (.slice elem)) (hs : (P.info? elem).map (·.size) = some k)
    (hg : w.heap[g]? = some (.cells cur t (0, 0))) (hm : Nat.min sLen dLen = m) (hn : cs.length = m * k)
    (hsrc : ∀ j v, cs[j]? = some v → w.cell? (a.add j) = some v) (hfit : o + cs.length ≤ cur.size) (h1 : ∀ v ∈ cs, v.oneCell' = true) :
    (Builtin.copy_ #[dT, sT] ty #[.slice (some ⟨g, o, none⟩) dLen dCap, .slice (some a) sLen sCap]).run P w =
      .ok (goInt m) (w.setRow g (cur.toList.take o ++ cs ++ cur.toList.drop (o + cs.length)).toArray) := by
  have hl := run_loadCells_list (P := P) w a cs hsrc
  have hst := run_storeCells_at P g o t cs 0 cur w hg (by simpa using hfit) h1
  cases hq : P.info? elem with
  | none => simp [hq] at hs
  | some i =>
    have hi : i.size = k := by simpa [hq] using hs
    rw [hn] at hl
    simp [Builtin.copy_, run_underlying hu, Builtin.lenOf, Builtin.firstCells, sizeOf, typeInfo, hq, hi, hm, hl, hst]

theorem wpList_copyK {P : Program} (w : World) {ops : Array Oper} {rest : List Oper} {o : Oper} {a : Act} {Q : Exit → Act → World → Prop} (hgd : o.guard = none) (d s : Operand) (t t' : TypeId)
    (ho : o.op = .call { callee := .builtin .copy, args := #[d, s], argTypes := #[t, t'] }) (v u : Value) (hd : a.eval d = v) (hs : a.eval s = u) {v' : Value} {w' : World}
    (hr : (Builtin.copy_ #[t, t'] o.type #[v, u]).run P w = .ok v' w') (h : wpList P ops Q rest (a.put o.dst v') w') : wpList P ops Q (o :: rest) a w := by
  refine wpList_plain hgd fun _ hK => ?_
  unfold Oper.wp execOp
  simp only [ho, resolve, invoke, builtin, Sem.run_bind, Sem.run_pure, Result.andThen_ok, List.map_toArray, List.map_cons, List.map_nil, hd, hs, hr]
  exact hK _ _ h
theorem step_copyK {P : Program} {ops : Array Oper} {o : Oper} {a : Act} {w : World} {K : Act → World → Prop} {Q : Exit → Act → World → Prop} {E : Prop}
    (hg : o.guard = none) (d x : Operand) (dT sT : TypeId) (hop : o.op = Op.call { callee := Callee.builtin Builtin.copy, args := #[d, x], argTypes := #[dT, sT] })
    (v u : Value) (hd : a.eval d = v) (hx : a.eval x = u) {v' : Value} {w' : World} (hr : (Builtin.copy_ #[dT, sT] o.type #[v, u]).run P w = .ok v' w') (hK : K (a.put o.dst v') w') :
    if Region.wanted o (yielded ops a.tmps) = true then Oper.wp P o a w K Q else E := by
  have hw : Region.wanted o (yielded ops a.tmps) = true := by simp [Region.wanted, hg]
  rw [if_pos hw]
  unfold Oper.wp execOp
  simp only [hop, resolve, invoke, builtin, Sem.run_bind, Sem.run_pure, Result.andThen_ok, List.map_toArray, List.map_cons, List.map_nil, hd, hx, hr]
  exact hK

/-- clear(s): s within a row of plain memory. -/
theorem run_clearK {P : Program} (w : World) (t ty elem : TypeId) (z : Value) (g o n c : Nat) (cur : Array Value) (e : TypeId) (ht : P.underlying t = some (.slice elem)) (hz : ∀ w, (zeroValue elem).run P w = .ok z w) (h1 : ∀ u ∈ (Builtin.zeroCells z.cells n).toList, u.oneCell' = true)
    (hn : 0 < n) (hg : w.heap[g]? = some (.cells cur e (0, 0))) (hfit : o + n * z.cells.size ≤ cur.size) :
    (Builtin.clear_ #[t] ty #[.slice (some ⟨g, o, none⟩) n c]).run P w = .ok (.tuple #[]) (w.setRow g (cur.toList.take o ++ (Builtin.zeroCells z.cells n).toList ++ cur.toList.drop (o + n * z.cells.size)).toArray) := by
  have hl : (Builtin.zeroCells z.cells n).toList.length = n * z.cells.size := by simp [Builtin.zeroCells]
  have hst := run_storeCells_at P g o e (Builtin.zeroCells z.cells n).toList 0 cur w hg (by rw [hl]; simpa using hfit) h1
  obtain ⟨m, rfl⟩ : ∃ m, n = m + 1 := ⟨n - 1, by omega⟩
  rw [Nat.add_zero, hl] at hst
  simp [Builtin.clear_, run_underlying ht, hz, hst]
theorem wpList_clearK {P : Program} (w : World) {ops : Array Oper} {rest : List Oper} {o : Oper} {a : Act} {Q : Exit → Act → World → Prop} (hgd : o.guard = none) (s : Operand) (t : TypeId)
    (ho : o.op = .call { callee := .builtin .clear, args := #[s], argTypes := #[t] }) (v : Value) (hs : a.eval s = v) {v' : Value} {w' : World}
    (hr : (Builtin.clear_ #[t] o.type #[v]).run P w = .ok v' w') (h : wpList P ops Q rest (a.put o.dst v') w') : wpList P ops Q (o :: rest) a w := by
  refine wpList_plain hgd fun _ hK => ?_
  unfold Oper.wp execOp
  simp only [ho, resolve, invoke, builtin, Sem.run_bind, Sem.run_pure, Result.andThen_ok, List.map_toArray, List.map_cons, List.map_nil, hs, hr]
  exact hK _ _ h
theorem grownBy_setRow (w : World) (g : Nat) (cs : Array Value) : w.grownBy (w.setRow g cs) (some g) := ⟨rfl, rfl, rfl, by simp, fun k _ hk => setRow_other w g k _ (fun e => hk (by rw [e]))⟩
end Go.Proofs.Ytfjmcfkpbacicaa
/- A REGION THAT DRAWS ITS ORDER, whose own operations only read, and whose callees hand back one value and leave all old memory as it was: walked once. The class of worlds: those in which all of w reads as it did. Nothing here is trusted. -/
namespace Go.Proofs.Ytfjmcfkpbacicaa
set_option linter.unusedVariables false
open Go.RowKit

/-- A world in which all that w holds reads as it did. -/
structure Gw (w : World) where
  v : World
  h : Grow w v
instance (w : World) : Inhabited (Gw w) := ⟨⟨w, Grow.refl w⟩⟩

theorem wp_region_gw {P : Program} {id : Nat} {Q : Exit → Act → World → Prop} {a : Act} {w : World} {l : List Oper} (hm : P.follows .mixedOrders = true) (hB : Region.lexB .any l.toArray = true)
    (h : wpQuiet P l.toArray (fun w' => ∃ p : Gw w, w' = p.v) (fun a' => ∀ w', (∃ p : Gw w, w' = p.v) → Q .normal a' w') l a) : (Code.region id l.toArray true).wp P Q a w :=
  wp_region_quiet (C := fun w' => ∃ p : Gw w, w' = p.v) hm hB ⟨⟨w.drew, Grow.drew w⟩, rfl⟩ (by simpa using h)

theorem Calls.gw {P : Program} {f : FuncId} {args : Array Value} {w : World} {p : Gw w} {v : Value} (h : Calls P f args p.v fun e w' => e = .returned v ∧ Grow p.v w') :
    Calls P f args p.v fun e w'' => e = .returned v ∧ ∃ q : Gw w, w'' = q.v :=
  h.mono fun _ w' ⟨he, hg⟩ => ⟨he, ⟨w', p.h.trans hg⟩, rfl⟩
theorem Calls.gw_same {P : Program} {f : FuncId} {args : Array Value} {w : World} {p : Gw w} {v : Value} (h : Calls P f args p.v fun e w' => e = .returned v ∧ p.v = w') :
    Calls P f args p.v fun e w'' => e = .returned v ∧ ∃ q : Gw w, w'' = q.v :=
  h.mono fun _ w' ⟨he, hg⟩ => ⟨he, p, hg.symm⟩
theorem Gw.cell {w : World} {a : Addr} {v : Value} (hb : a.block < w.heap.size) (h : w.cell? a = some v) (p : Gw w) : p.v.cell? a = some v := (p.h.cell hb).trans h
end Go.Proofs.Ytfjmcfkpbacicaa
/- Names and rows of bytes in memory; contracts: bytes.Clone, slices.Clone and slices.Delete on names. -/
namespace Go.Proofs.Ytfjmcfkpbacicaa
set_option linter.unusedVariables false
set_option linter.unusedSimpArgs false
open Go.ChangeShapes Go.WideShapes Go.ChangeAt Go.RowKit

section
variable {α : Type} (c : α → List Value) (k : Nat) (hc : ∀ x, (c x).length = k)
include hc
theorem flat_length (l : List α) : (l.flatMap c).length = l.length * k := by
  induction l with
  | nil => simp
  | cons p r ih => rw [List.flatMap_cons, List.length_append, ih, hc, List.length_cons, Nat.add_mul]; omega
theorem flat_take : ∀ (l : List α) (i : Nat), (l.flatMap c).take (i * k) = (l.take i).flatMap c
  | [], i => by simp
  | p :: r, 0 => by simp
  | p :: r, i + 1 => by
    rw [List.take_succ_cons, List.flatMap_cons, List.flatMap_cons, ← flat_take r i, show (i + 1) * k = (c p).length + i * k from by rw [hc, Nat.add_mul]; omega, List.take_length_add_append]
theorem flat_drop : ∀ (l : List α) (i : Nat), (l.flatMap c).drop (i * k) = (l.drop i).flatMap c
  | [], i => by simp
  | p :: r, 0 => by simp
  | p :: r, i + 1 => by
    rw [List.drop_succ_cons, List.flatMap_cons, ← flat_drop r i, show (i + 1) * k = (c p).length + i * k from by rw [hc, Nat.add_mul]; omega, List.drop_length_add_append]
theorem flat_at : ∀ (l : List α) (j i : Nat) (h : j < l.length) (hi : i < k), (l.flatMap c)[j * k + i]? = (c l[j])[i]?
  | [], _, _, h, _ => absurd h (by simp)
  | p :: r, 0, i, _, hi => by
    rw [List.flatMap_cons, List.getElem?_append_left (by rw [hc]; omega), Nat.zero_mul, Nat.zero_add]
    rfl
  | p :: r, j + 1, i, h, hi => by
    have ih := flat_at r j i (by simpa using h) hi
    rw [List.flatMap_cons, List.getElem?_append_right (by rw [hc, Nat.add_mul]; omega), hc, show (j + 1) * k + i - k = j * k + i by rw [Nat.add_mul]; omega]
    simpa using ih
end

/-- What the fragments of one packet have in common. -/
structure Nm where
  src : Nat
  dst : Nat
  proto : Nat
  ident : Nat
deriving DecidableEq
def nmC (m : Nm) : List Value := [.int .u32 (m.src : Int), .int .u32 (m.dst : Int), .int .u8 (m.proto : Int), .int .u16 (m.ident : Int)]
@[reducible] def nmV (m : Nm) : Value := .agg #[.int .u32 (m.src : Int), .int .u32 (m.dst : Int), .int .u8 (m.proto : Int), .int .u16 (m.ident : Int)]
def cellsN (l : List Nm) : List Value := l.flatMap nmC
theorem nmC_length (m : Nm) : (nmC m).length = 4 := rfl
theorem cellsN_length (l : List Nm) : (cellsN l).length = l.length * 4 := flat_length nmC 4 nmC_length l
theorem cellsN_one (l : List Nm) : ∀ y ∈ cellsN l, y.oneCell' = true := by
  intro y hy
  obtain ⟨p, _, hp⟩ := List.mem_flatMap.1 hy
  simp [nmC] at hp
  rcases hp with rfl | rfl | rfl | rfl <;> rfl
/-- A row of bytes that are present. -/
structure Rw where
  at_ : Nat
  v : Value
  data : List UInt8
def rwC (r : Rw) : List Value := [.int .i64 (r.at_ : Int), r.v]
def cellsW (l : List Rw) : List Value := l.flatMap rwC
theorem rwC_length (r : Rw) : (rwC r).length = 2 := rfl
theorem cellsW_length (l : List Rw) : (cellsW l).length = l.length * 2 := flat_length rwC 2 rwC_length l

theorem infoName : (Try.prog.info? 70).map (fun i => (i.zero, i.size, i.bytes)) = some (some (.agg #[.int .u32 0, .int .u32 0, .int .u8 0, .int .u16 0]), 4, 12) := by kernel_rfl
theorem infoRow : (Try.prog.info? 99).map (fun i => (i.zero, i.size, i.bytes)) = some (some (.agg #[.int .i64 0, .slice none 0 0]), 2, 32) := by kernel_rfl

/-- A name's four cells. -/
def NmAt (w : World) (b o : Nat) (m : Nm) : Prop :=
  w.cell? ⟨b, o, none⟩ = some (.int .u32 (m.src : Int)) ∧ w.cell? ⟨b, o + 1, none⟩ = some (.int .u32 (m.dst : Int)) ∧ w.cell? ⟨b, o + 2, none⟩ = some (.int .u8 (m.proto : Int)) ∧ w.cell? ⟨b, o + 3, none⟩ = some (.int .u16 (m.ident : Int))
theorem nmAt_of {w : World} {l : List Nm} {b off : Nat} (h : ∀ j u, (cellsN l)[j]? = some u → w.cell? ⟨b, off + j, none⟩ = some u) (j : Nat) (hj : j < l.length) : NmAt w b (off + j * 4) l[j] := by
  have e : ∀ i (hi : i < 4) u, (nmC l[j])[i]? = some u → w.cell? ⟨b, off + j * 4 + i, none⟩ = some u := fun i hi u hu => by
    rw [Nat.add_assoc]
    exact h _ _ (by rw [show cellsN l = l.flatMap nmC from rfl, flat_at nmC 4 nmC_length l j i hj hi]; exact hu)
  exact ⟨e 0 (by decide) _ rfl, e 1 (by decide) _ rfl, e 2 (by decide) _ rfl, e 3 (by decide) _ rfl⟩
theorem NmAt.grow {w w' : World} {b o : Nat} {m : Nm} (h : NmAt w b o m) (g : Grow w w') (hb : b < w.heap.size) : NmAt w' b o m := by
  obtain ⟨h0, h1, h2, h3⟩ := h
  have e : ∀ i u, w.cell? ⟨b, i, none⟩ = some u → w'.cell? ⟨b, i, none⟩ = some u := fun i u hu => (g.cell (p := ⟨b, i, none⟩) hb).trans hu
  exact ⟨e _ _ h0, e _ _ h1, e _ _ h2, e _ _ h3⟩

/-! ### cuts of own rows -/
section
variable {w : World} {base : Nat} {e : TypeId} {k g n cap : Nat} {xs : List Value}
theorem ownsRow_len (h : w.ownsRow base e k (.slice (some ⟨g, 0, none⟩) n cap) n xs) : n ≤ cap ∧ cap ≤ maxLen := by
  rcases h.2 with ⟨h', _⟩ | ⟨g', cap', cur, h', _, _, hnc, hcm, _⟩
  · cases h'
  · cases h'; exact ⟨hnc, hcm⟩
theorem ownsRow_front (h : w.ownsRow base e k (.slice (some ⟨g, 0, none⟩) n cap) n xs) {i : Nat} (hi : i ≤ n) : w.ownsRow base e k (.slice (some ⟨g, 0, none⟩) i cap) i (xs.take (i * k)) := by
  obtain ⟨h1, h2⟩ := h
  have hik : i * k ≤ n * k := Nat.mul_le_mul_right _ hi
  refine ⟨by rw [List.length_take, h1]; omega, ?_⟩
  rcases h2 with ⟨h', _⟩ | ⟨g', cap', cur, h', hb, hg, hnc, hcm, hcs, htake⟩
  · cases h'
  · cases h'
    refine .inr ⟨g, cap, cur, rfl, hb, hg, by omega, hcm, hcs, ?_⟩
    rw [← htake, List.take_take, Nat.min_eq_left hik]
theorem RdK_back (h : w.ownsRow base e k (.slice (some ⟨g, 0, none⟩) n cap) n xs) {i : Nat} (hi : i ≤ n) : RdK w k (.slice (if cap = i then some ⟨g, 0, none⟩ else some ⟨g, i * k, none⟩) (n - i) (cap - i)) (n - i) (xs.drop (i * k)) := by
  have hc := h.cells (g := g) rfl
  have hlt := (h.lt g rfl).2
  obtain ⟨q1, q2⟩ := ownsRow_len h
  refine ⟨_, _, rfl, by rw [List.length_drop, h.1, Nat.sub_mul], by omega, by omega, fun hp => ?_⟩
  rw [if_neg (by omega)]
  refine ⟨g, i * k, rfl, hlt, fun j u hj => ?_⟩
  rw [List.getElem?_drop] at hj
  have := hc _ u hj
  rwa [add_at, Nat.zero_add] at this

/-- clear of the one element behind a row's last. -/
theorem run_clear1K {P : Program} (t ty : TypeId) (z : Value) (ht : P.underlying t = some (.slice e)) (hv : ∀ w, (zeroValue e).run P w = .ok z w) (hz : z.cells.size = k) (h1 : ∀ u ∈ (Builtin.zeroCells z.cells 1).toList, u.oneCell' = true)
    (h : w.ownsRow base e k (.slice (some ⟨g, 0, none⟩) n cap) n xs) (hroom : n + 1 ≤ cap) (c : Nat) :
    ∃ w', (Builtin.clear_ #[t] ty #[.slice (some ⟨g, n * k, none⟩) 1 c]).run P w = .ok (.tuple #[]) w' ∧ w'.ownsRow base e k (.slice (some ⟨g, 0, none⟩) n cap) n xs ∧ w.grownBy w' (some g) := by
  rcases h.2 with ⟨h', _⟩ | ⟨g', cap', cur, h', hb, hg, hnc, hcm, hcs, htake⟩
  · cases h'
  · cases h'
    have hk1 : (n + 1) * k ≤ cap * k := Nat.mul_le_mul_right _ hroom
    have hk2 : (n + 1) * k = n * k + k := by rw [Nat.add_mul]; omega
    refine ⟨_, run_clearK w t ty e z g (n * k) 1 c cur e ht hv h1 (by omega) hg (by rw [hz, hcs]; omega), ⟨h.1, .inr ⟨g, cap, _, rfl, hb, setRow_heap w g cur _ e _ hg, hnc, hcm, ?_, ?_⟩⟩, grownBy_setRow _ _ _⟩
    · have e1 : cur.toList.length = cap * k := by rw [← hcs]; rfl
      have e2 : (Builtin.zeroCells z.cells 1).toList.length = k := by simp [Builtin.zeroCells, hz]
      simp only [List.size_toArray, List.length_append, List.length_take, List.length_drop, e1, e2, hz]
      omega
    · have e1 : (cur.toList.take (n * k)).length = n * k := by
        have e1 : cur.toList.length = cap * k := by rw [← hcs]; rfl
        rw [List.length_take, e1]
        omega
      show ((cur.toList.take (n * k) ++ (Builtin.zeroCells z.cells 1).toList ++ cur.toList.drop (n * k + 1 * z.cells.size))).take (n * k) = xs
      rw [List.append_assoc, List.take_append_of_le_length (by rw [e1]; exact Nat.le_refl _), List.take_take, Nat.min_self]
      exact htake
end

theorem step_fitsK {P : Program} (w : World) {ops : Array Oper} {o : Oper} {a : Act} {K : Act → World → Prop} {Q : Exit → Act → World → Prop} {E : Prop} (hgd : o.guard = none) (s x : Operand) (t e : TypeId)
    (ho : o.op = .call { callee := .builtin .append, args := #[s, x], argTypes := #[t, t] })
    (z : Value) (k bytes : Nat) (ht : P.underlying t = some (.slice e)) (hi : (P.info? e).map (fun i => (i.zero, i.size, i.bytes)) = some (some z, k, bytes))
    (base g i cap : Nat) (A : Addr) (n c : Nat) (xs ys : List Value) (hs : a.eval s = .slice (some ⟨g, 0, none⟩) i cap) (hx : a.eval x = .slice (some A) n c) (hown : w.ownsRow base e k (.slice (some ⟨g, 0, none⟩) i cap) i xs) (hr : RdK w k (.slice (some A) n c) n ys) (h1 : ∀ y ∈ ys, y.oneCell' = true) (hroom : i + n ≤ cap)
    (h : ∀ w', w'.ownsRow base e k (.slice (some ⟨g, 0, none⟩) (i + n) cap) (i + n) (xs ++ ys) → w.grownBy w' (some g) → K (a.put o.dst (.slice (some ⟨g, 0, none⟩) (i + n) cap)) w') :
    if Region.wanted o (yielded ops a.tmps) = true then Oper.wp P o a w K Q else E := by
  have hw : Region.wanted o (yielded ops a.tmps) = true := by simp [Region.wanted, hgd]
  rw [if_pos hw]
  obtain ⟨j, hi0, hz0, hz1, hz2⟩ := info_parts hi
  obtain ⟨A', c', e', hl, _, _, hcell⟩ := hr
  cases e'
  have hnews : ∀ j y, ys[j]? = some y → w.cell? (A.add j) = some y := by
    intro j y hy
    have hj : 0 < n := by
      rcases Nat.eq_zero_or_pos n with h0 | h0
      · subst h0
        have : ys = [] := List.eq_nil_of_length_eq_zero (by simpa using hl)
        subst this
        simp at hy
      · exact h0
    obtain ⟨b, off, e', _, hc⟩ := hcell hj
    injection e' with e'
    subst e'
    rw [add_at]
    exact hc j y hy
  obtain ⟨w', hrun, h2, h3⟩ := run_append_fits (P := P) w base t o.type e j k ht hi0 hz1 g i cap xs hown A n c ys hl hnews h1 hroom
  unfold Oper.wp execOp
  simp only [ho, resolve, invoke, builtin, Sem.run_bind, Sem.run_pure, Result.andThen_ok, List.map_toArray, List.map_cons, List.map_nil, hs, hx, hrun]
  exact h w' h2 h3
theorem Grown.trans {a b c : World} {row : Option Nat} (h : a.grownBy b row) (k : b.grownBy c row) : a.grownBy c row :=
  ⟨k.os.trans h.os, k.tape.trans h.tape, k.output.trans h.output, Nat.le_trans h.size k.size, fun i hi hne => (k.block i (Nat.lt_of_lt_of_le hi h.size) hne).trans (h.block i hi hne)⟩

/-! ### contracts -/
theorem Byt.none_nil {w : World} {n c : Nat} {l : List UInt8} (h : Byt w (.slice none n c) l) : l = [] := by
  rcases Nat.eq_zero_or_pos l.length with h0 | h0
  · exact List.eq_nil_of_length_eq_zero h0
  · have e := h.len.1
    obtain ⟨b, off, e', _⟩ := h.at_ (by omega)
    cases e'

set_option maxHeartbeats 1000000 in
theorem Clone_any (v : Value) (l : List UInt8) (w : World) (h : Byt w v l) (hl : l.length ≤ 100000000) :
    Calls Try.prog 43 #[v] w fun e w' => ∃ v', e = .returned v' ∧ Own w' w.heap.size v' l ∧ Grow w w' := by
  obtain ⟨A, c, rfl, hc, hcm⟩ := h.form
  have q22 : ∀ (w : World) (a : Option Addr) (n c n' c' : Nat), (binOp .eql 36 (.slice a n c) (.slice none n' c')).run Try.prog w = .ok (.bool a.isNone) w := fun w a n c n' c' => Lib.run_eql_slice_nil w _ _ a n c n' c' Try.underlying36
  cases A with
  | none =>
    obtain rfl := h.none_nil
    go_enter Try.func43, Try.ntmps43
    go_wp2_with fail
    go_ret
    exact ⟨_, rfl, World.ownsRow_nil _ _ _ _, Grow.refl _⟩
  | some a =>
    have HB := Lib.hid h
    clear h
    go_enter Try.func43, Try.ntmps43
    go_wp2_with (at_builtin; refine wpList_app w _ rfl (.tmp 5) (.tmp 6) rfl _ _ [] l rfl rfl (Own.empty w) (Grow.alloc w _) (HB.out.grow (Grow.alloc w _)) (by simp; omega) ?_; intro v2 w2 ho2 hg2; rw [List.nil_append] at ho2; have H2 := Lib.hid (And.intro ho2 hg2); clear ho2 hg2)
    go_ret
    exact ⟨_, rfl, H2.out.1, H2.out.2⟩

/-- The slice reads as these names. -/
def Nms (w : World) (v : Value) (l : List Nm) : Prop := RdK w 4 v l.length (cellsN l)
def Nrow (w : World) (base : Nat) (v : Value) (l : List Nm) : Prop := w.ownsRow base 70 4 v l.length (cellsN l)
theorem Nrow.nms {w : World} {base : Nat} {v : Value} {l : List Nm} (h : Nrow w base v l) : Nms w v l := RdK.of_own h
theorem Nms.at_ {w : World} {A : Option Addr} {n c : Nat} {l : List Nm} (h : Nms w (.slice A n c) l) (hp : 0 < l.length) : ∃ b off, A = some ⟨b, off, none⟩ ∧ b < w.heap.size ∧ ∀ j (hj : j < l.length), NmAt w b (off + j * 4) l[j] := by
  obtain ⟨A', c', e, _, _, _, h3⟩ := h
  cases e
  obtain ⟨b, off, e, hb, hc⟩ := h3 hp
  exact ⟨b, off, e, hb, nmAt_of hc⟩
theorem Nms.len {w : World} {A : Option Addr} {n c : Nat} {l : List Nm} (h : Nms w (.slice A n c) l) : n = l.length ∧ n ≤ c ∧ c ≤ maxLen := by
  obtain ⟨A', c', e, _, h1, h2, h3⟩ := h
  cases e
  exact ⟨rfl, h1, h2⟩

set_option maxHeartbeats 1000000 in
theorem CloneN_any (v : Value) (l : List Nm) (w : World) (h : Nms w v l) (hl : l.length ≤ 1000) :
    Calls Try.prog 24 #[v] w fun e w' => ∃ v', e = .returned v' ∧ Nrow w' w.heap.size v' l ∧ Grow w w' := by
  obtain ⟨A, c, rfl, hc, hcm⟩ := h.form
  have q22 : ∀ (w : World) (a : Option Addr) (n c n' c' : Nat), (binOp .eql 65 (.slice a n c) (.slice none n' c')).run Try.prog w = .ok (.bool a.isNone) w := fun w a n c n' c' => Lib.run_eql_slice_nil w _ _ a n c n' c' Try.underlying65
  cases A with
  | none =>
    have h0 : l = [] := by
      rcases Nat.eq_zero_or_pos l.length with h0 | h0
      · exact List.eq_nil_of_length_eq_zero h0
      · obtain ⟨b, off, e', _⟩ := h.at_ h0
        cases e'
    subst h0
    go_enter Try.func24, Try.ntmps24
    go_wp2_with fail
    go_ret
    exact ⟨_, rfl, World.ownsRow_nil _ _ _ _, Grow.refl _⟩
  | some a =>
    have HB := Lib.hid h
    have hl2 := cellsN_length l
    clear h
    go_enter Try.func24, Try.ntmps24
    go_wp2_with (at_builtin; refine wpList_appK _ rfl (.tmp 5) (.tmp 6) 65 rfl 70 _ 4 12 Try.underlying65 infoName rfl (by decide) w.heap.size _ _ 0 l.length [] (cellsN l) rfl rfl (World.ownsRow_lit w #[] 0 (Nat.le_refl _) (Nat.zero_le _) rfl) (HB.out.grow (Grow.alloc w _)) (cellsN_one l) (by omega) (by unfold maxLen; omega) (by simp) ?_; intro v2 w2 ho2 hg2 hat2; have H2 := Lib.hid (And.intro ho2 hg2); clear ho2 hg2 hat2)
    go_ret
    refine ⟨_, rfl, ?_, ?_⟩
    · have := H2.out.1
      simpa [Nrow] using this
    · exact (Grow.alloc w _).grown H2.out.2 (by simp) (fun k hk => by cases hk; exact Nat.le_refl _)
end Go.Proofs.Ytfjmcfkpbacicaa
