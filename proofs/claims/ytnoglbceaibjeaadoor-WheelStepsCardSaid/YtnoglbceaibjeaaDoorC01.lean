/- A REGION THAT DRAWS ITS ORDER, BY FACTS THAT STAY: each operation leaves a value of which one fact is known; a fact, once true, stays true while memory only grows. Then the order does not matter: one obligation for each operation, one for what stands behind the region. Nothing here is trusted. -/
import Derived.Orders
import Derived.Below
import Derived.RegionTactic
import Derived.Laws.OwnMore
import Derived.Laws.MakeOwn
import Derived.Laws.BytesArg
import Derived.Maps.AppendAt
import Derived.OwnWalk
import Derived.WalkKit
import Derived.ChangeAt
import Derived.ChangeOld
import Derived.Lib.AppendZerosOnto
import Derived.Lib.SliceRun
import Derived.Laws.CopyRow
import Derived.Deep.RegionLaw
import Derived.Deep.QuietTactic
import Derived.BigQuiet
import Derived.Shelf.Small.Wraps
import Derived.Shelf.Strconv.Itoa0
import Derived.Ground.Names2Prog
import Derived.Shelf.Slices.SearchI
import Derived.Shelf.Spec.TrailingZeros
import Derived.Ground.Names7Prog
import Derived.Test.YtnoglbceaibjeaaDoorProg
namespace Go.Proofs.YtnoglbceaibjeaaDoor
set_option linter.unusedVariables false
open Go.RowKit

/-- All that was there reads as it did. -/
def Grow (w w' : World) : Prop := Below w.heap.size w w'
theorem Grow.refl (w : World) : Grow w w := Below.refl _ _
theorem Grow.trans {a b c : World} (h : Grow a b) (k : Grow b c) : Grow a c := Below.trans h (Below.mono k h.size)
theorem Grow.drew (w : World) : Grow w w.drew := (Below.refl _ _).drew
theorem Grow.alloc (w : World) (o : Obj) : Grow w (w.alloc o) := (Below.refl _ _).alloc (Nat.le_refl _) o
theorem Grow.size {w w' : World} (h : Grow w w') : w.heap.size ≤ w'.heap.size := Below.size h
theorem Grow.cell {w w' : World} (h : Grow w w') {p : Addr} (hp : p.block < w.heap.size) : w'.cell? p = w.cell? p := Below.cell h hp
theorem Grow.frozen {w w' : World} (h : Grow w w') {p : Addr} (hp : p.block < w.heap.size) : w'.frozen? p = w.frozen? p := Below.frozen h hp

section
variable {P : Program}

/-- What an operation that came to this leaves: a value and a world, of which 'post' holds. -/
def looseUpon (P : Program) (post : Value → World → Prop) : Result Next → Prop
  | .ok (.value v) w' => post v w'
  | .ok .skip w' => post undef w'
  | .ok (.enter f args) w' => Calls P f args w' fun e w'' => ∃ v, e = .returned v ∧ post v w''
  | _ => False

@[go_sem] theorem looseUpon_value (post : Value → World → Prop) (v : Value) (w : World) : looseUpon P post (.ok (.value v) w) = post v w := rfl
@[go_sem] theorem looseUpon_skip (post : Value → World → Prop) (w : World) : looseUpon P post (.ok .skip w) = post undef w := rfl
@[go_sem] theorem looseUpon_enter (post : Value → World → Prop) (f : FuncId) (args : Array Value) (w : World) :
    looseUpon P post (.ok (.enter f args) w) = Calls P f args w fun e w'' => ∃ v, e = .returned v ∧ post v w'' := rfl

theorem wp_of_loose {o : Oper} {a : Act} {w : World} {K : Act → World → Prop} {Q : Exit → Act → World → Prop} {post : Value → World → Prop}
    (hK : ∀ v w', post v w' → K (a.put o.dst v) w') (h : looseUpon P post ((execOp a.eval o).run P w)) : o.wp P a w K Q := by
  unfold Oper.wp
  generalize (execOp a.eval o).run P w = r at *
  cases r with
  | ok n w' =>
    cases n <;> simp only [looseUpon] at h <;> simp only [Oper.upon]
    case value v => exact hK _ _ h
    case skip => exact hK _ _ h
    case enter f args => exact h.mono fun e w'' ⟨v, he, hp⟩ => by subst he; exact hK _ _ hp
  | halt x w' => simp only [looseUpon] at h

/-- The frame with the region's own slots filled by x. -/
def fillAct (x : Tmp → Value) : List Oper → Act → Act
  | [], a => a
  | o :: r, a => fillAct x r (a.put o.dst (x (o.dst.getD 0)))

@[go_sem] theorem fillAct_nil (x : Tmp → Value) (a : Act) : fillAct x [] a = a := rfl
@[go_sem] theorem fillAct_cons (x : Tmp → Value) (o : Oper) (r : List Oper) (a : Act) : fillAct x (o :: r) a = fillAct x r (a.put o.dst (x (o.dst.getD 0))) := rfl

/-- What an operation left: its slot's value. -/
def leftBy (x : Tmp → Value) (o : Oper) : Value := match o.dst with | some d => x d | none => undef

/-- What counts of its value: nothing where it writes no slot. -/
def leftAs (o : Oper) (v : Value) : Value := match o.dst with | some _ => v | none => undef

def bindsOn (md : Region.Mode) (o : Oper) : List Nat := (o.after.toList.filter (Region.binds md)).map (·.on)

/-- Each operation waits for earlier ones alone; no two write one slot; no slot lies outside the frame. -/
def looseOk (md : Region.Mode) (ops : Array Oper) (size : Nat) : Bool :=
  (ops.toList.zipIdx.all fun (o, i) => (bindsOn md o).all fun j => j < i) &&
  (ops.toList.zipIdx.all fun (o, i) => match o.dst with
    | none => true
    | some d => d < size && ops.toList.zipIdx.all fun (o', j) => i == j || o'.dst != some d)

theorem fillAct_defers (x : Tmp → Value) : ∀ (l : List Oper) (a : Act), (fillAct x l a).defers = a.defers
  | [], _ => rfl
  | o :: r, a => by rw [fillAct, fillAct_defers x r]; cases o.dst <;> rfl
theorem put_size (a : Act) (d : Option Tmp) (v : Value) : (a.put d v).tmps.size = a.tmps.size := by cases d <;> simp [Act.put]
theorem fillAct_size (x : Tmp → Value) : ∀ (l : List Oper) (a : Act), (fillAct x l a).tmps.size = a.tmps.size
  | [], _ => rfl
  | o :: r, a => by rw [fillAct, fillAct_size x r, put_size]
theorem fillAct_off (x : Tmp → Value) : ∀ (l : List Oper) (a : Act) (t : Nat), (∀ o ∈ l, o.dst ≠ some t) → (fillAct x l a).tmps[t]? = a.tmps[t]?
  | [], _, _, _ => rfl
  | o :: r, a, t, h => by
    rw [fillAct, fillAct_off x r _ t fun o' ho => h o' (List.mem_cons_of_mem _ ho)]
    have h0 := h o List.mem_cons_self
    cases hd : o.dst with
    | none => rfl
    | some d =>
      have : d ≠ t := fun e => h0 (by rw [hd, e])
      simp [Act.put, Array.getElem?_setIfInBounds_ne this]
theorem fillAct_on (x : Tmp → Value) : ∀ (l : List Oper) (a : Act) (t : Nat), t < a.tmps.size → (∃ o ∈ l, o.dst = some t) → (fillAct x l a).tmps[t]? = some (x t)
  | [], _, _, _, h => by obtain ⟨_, h, _⟩ := h; cases h
  | o :: r, a, t, hs, h => by
    rw [fillAct]
    by_cases hr : ∃ o' ∈ r, o'.dst = some t
    · exact fillAct_on x r _ t (by rw [put_size]; exact hs) hr
    · obtain ⟨o', ho', hd⟩ := h
      have ho : o.dst = some t := by
        rcases List.mem_cons.1 ho' with rfl | h'
        · exact hd
        · exact absurd ⟨o', h', hd⟩ hr
      rw [fillAct_off x r _ t fun o'' h'' e => hr ⟨o'', h'', e⟩, ho]
      simp [Act.put, hs]
theorem act_ext {a b : Act} (h1 : a.tmps.size = b.tmps.size) (h2 : ∀ t, t < a.tmps.size → a.tmps[t]? = b.tmps[t]?) (h3 : a.defers = b.defers) : a = b := by
  obtain ⟨ta, da⟩ := a
  obtain ⟨tb, db⟩ := b
  simp only at h1 h2 h3
  subst h3
  congr 1
  apply Array.ext h1
  intro i hi hi'
  have := h2 i hi
  rw [Array.getElem?_eq_getElem hi, Array.getElem?_eq_getElem hi'] at this
  exact Option.some.inj this

theorem fillAct_put (x : Tmp → Value) (l : List Oper) (a : Act) (d : Nat) (v : Value) (hd : ∃ o ∈ l, o.dst = some d) (hs : d < a.tmps.size) :
    (fillAct x l a).put (some d) v = fillAct (fun t => if t = d then v else x t) l a := by
  apply act_ext
  · rw [put_size, fillAct_size, fillAct_size]
  · intro t ht
    rw [put_size, fillAct_size] at ht
    by_cases htd : t = d
    · subst htd
      rw [fillAct_on _ l a t hs hd]
      simp [Act.put, fillAct_size, hs]
    · have h1 : ((fillAct x l a).put (some d) v).tmps[t]? = (fillAct x l a).tmps[t]? := by
        simp [Act.put, Array.getElem?_setIfInBounds_ne (Ne.symm htd)]
      rw [h1]
      by_cases hl : ∃ o ∈ l, o.dst = some t
      · rw [fillAct_on x l a t ht hl, fillAct_on _ l a t ht hl, if_neg htd]
      · have hno : ∀ o ∈ l, o.dst ≠ some t := fun o ho e => hl ⟨o, ho, e⟩
        rw [fillAct_off x l a t hno, fillAct_off _ l a t hno]
  · cases hl : fillAct x l a
    simp only [Act.put]
    have e1 := fillAct_defers x l a
    rw [hl] at e1
    rw [fillAct_defers]
    exact e1

/-- How many have not come up. -/
def unl (listed : Array Bool) : Nat → Nat
  | 0 => 0
  | n + 1 => unl listed n + (if listed.getD n true = true then 0 else 1)
theorem unl_set_le (listed : Array Bool) (i : Nat) : ∀ n, unl (listed.setIfInBounds i true) n ≤ unl listed n
  | 0 => Nat.le_refl _
  | n + 1 => by
    have := unl_set_le listed i n
    simp only [unl]
    by_cases hi : i = n
    · subst hi
      by_cases hs : i < listed.size
      · have : (listed.setIfInBounds i true).getD i true = true := by simp [hs]
        rw [if_pos this]; omega
      · have : (listed.setIfInBounds i true).getD i true = true := by simp [hs]
        rw [if_pos this]; omega
    · rw [getD_set_ne true hi]; omega
theorem unl_set (listed : Array Bool) (i : Nat) (h : listed.getD i true = false) : ∀ n, i < n → unl (listed.setIfInBounds i true) n + 1 ≤ unl listed n
  | 0, hn => absurd hn (Nat.not_lt_zero _)
  | n + 1, hn => by
    simp only [unl]
    by_cases hi : i = n
    · subst hi
      have h1 := unl_set_le listed i i
      have hs : i < listed.size := by
        rcases Nat.lt_or_ge i listed.size with h' | h'
        · exact h'
        · simp [Array.getElem?_eq_none h'] at h
      have e : (listed.setIfInBounds i true).getD i true = true := by simp [hs]
      rw [if_pos e, if_neg (by rw [h]; simp)]; omega
    · have h1 := unl_set listed i h n (by omega)
      rw [getD_set_ne true hi]; omega
theorem unl_zero (listed : Array Bool) : ∀ n, unl listed n = 0 → ∀ i, i < n → listed.getD i true = true
  | 0, _, _, hi => absurd hi (Nat.not_lt_zero _)
  | n + 1, h, i, hi => by
    simp only [unl] at h
    by_cases e : i = n
    · subst e
      by_cases hb : listed.getD i true = true
      · exact hb
      · rw [if_neg hb] at h; omega
    · exact unl_zero listed n (by omega) i (by omega)

variable {ops : Array Oper} {Q : Exit → Act → World → Prop} {md : Region.Mode}

theorem looseOk_before {size : Nat} (hk : looseOk md ops size = true) {i : Nat} {o : Oper} (ho : ops[i]? = some o) : ∀ e ∈ o.after, Region.binds md e = true → e.on < i := by
  intro e he hb
  simp only [looseOk, Bool.and_eq_true, List.all_eq_true] at hk
  have h1 := hk.1 (o, i) (by
    rw [List.mem_zipIdx_iff_getElem?]
    simpa using ho)
  have h2 := h1 e.on (by
    unfold bindsOn
    exact List.mem_map.2 ⟨e, List.mem_filter.2 ⟨by simpa using he, hb⟩, rfl⟩)
  simpa using h2
theorem looseOk_slot {size : Nat} (hk : looseOk md ops size = true) {i : Nat} {o : Oper} {d : Nat} (ho : ops[i]? = some o) (hd : o.dst = some d) :
    d < size ∧ ∀ (j : Nat) (o' : Oper), ops[j]? = some o' → i ≠ j → o'.dst ≠ some d := by
  simp only [looseOk, Bool.and_eq_true, List.all_eq_true] at hk
  have h1 := hk.2 (o, i) (by
    rw [List.mem_zipIdx_iff_getElem?]
    simpa using ho)
  simp only [hd, Bool.and_eq_true, decide_eq_true_eq, List.all_eq_true] at h1
  refine ⟨h1.1, fun j o' ho' hij e => ?_⟩
  have h2 := h1.2 (o', j) (by
    rw [List.mem_zipIdx_iff_getElem?]
    simpa using ho')
  simp [hij, e] at h2

theorem all_listed {size : Nat} (hk : looseOk md ops size = true) {listed : Array Bool} (hr : Region.ready md ops listed = []) :
    ∀ (i : Nat), i < ops.size → listed.getD i true = true := by
  intro i
  induction i using Nat.strongRecOn with
  | _ i ih =>
    intro hi
    by_cases hb : listed.getD i true = true
    · exact hb
    · exfalso
      have ho : ops[i]? = some ops[i] := Array.getElem?_eq_getElem hi
      have hm : i ∈ Region.ready md ops listed := by
        rw [mem_ready]
        refine ⟨by simpa using hb, ops[i], ho, fun e he hbe => ?_⟩
        have hlt := looseOk_before hk ho e he hbe
        have h1 := ih e.on hlt (by omega)
        have hs : i < listed.size := by
          rcases Nat.lt_or_ge i listed.size with h' | h'
          · exact h'
          · simp [Array.getElem?_eq_none h'] at hb
        have hs' : e.on < listed.size := by omega
        simpa [hs'] using h1
      rw [hr] at hm
      cases hm

/-- What is asked of each operation: 'A x': the frame with the region's own slots filled by x. -/
def looseStep (P : Program) (md : Region.Mode) (ops : Array Oper) (A : (Tmp → Value) → Act) (w₀ : World) (F : Nat → Value → World → Prop) (i : Nat) (o : Oper) : Prop :=
  ∀ (x : Tmp → Value) (w : World), Grow w₀ w → (∀ j ∈ bindsOn md o, ∀ o', ops[j]? = some o' → F j (leftBy x o') w) → ∀ post : Value → World → Prop, (∀ v w', Grow w w' → F i (leftAs o v) w' → post v w') →
    if Region.wanted o (yielded ops (A x).tmps) = true then looseUpon P post ((execOp (A x).eval o).run P w) else post undef w

def looseSteps (P : Program) (md : Region.Mode) (ops : Array Oper) (A : (Tmp → Value) → Act) (w₀ : World) (F : Nat → Value → World → Prop) : Nat → List Oper → Prop
  | _, [] => True
  | i, o :: r => looseStep P md ops A w₀ F i o ∧ looseSteps P md ops A w₀ F (i + 1) r

theorem looseSteps_at {A : (Tmp → Value) → Act} {w₀ : World} {F : Nat → Value → World → Prop} : ∀ (l : List Oper) (k : Nat), looseSteps P md ops A w₀ F k l → ∀ (i : Nat) (o : Oper), l[i]? = some o → looseStep P md ops A w₀ F (k + i) o
  | [], _, _, _, _, h => by simp at h
  | o' :: r, k, hs, 0, o, h => by
    simp at h
    subst h
    exact hs.1
  | o' :: r, k, hs, i + 1, o, h => by
    have := looseSteps_at r (k + 1) hs.2 i o (by simpa using h)
    rwa [show k + 1 + i = k + (i + 1) from by omega] at this

theorem wpAny_loose {a₀ : Act} {w₀ : World} {F : Nat → Value → World → Prop} (hk : looseOk md ops a₀.tmps.size = true)
    (hF : ∀ i v w w', Grow w w' → F i v w → F i v w') (hs : looseSteps P md ops (fun x => fillAct x ops.toList a₀) w₀ F 0 ops.toList)
    (fin : ∀ (x : Tmp → Value) (w : World), Grow w₀ w → (∀ (j : Nat) o', ops[j]? = some o' → F j (leftBy x o') w) → Q .normal (fillAct x ops.toList a₀) w) :
    ∀ (fuel : Nat) (listed : Array Bool) (x : Tmp → Value) (w : World), unl listed ops.size ≤ fuel → Grow w₀ w →
      (∀ i o, ops[i]? = some o → listed.getD i true = true → F i (leftBy x o) w) → wpAny P md ops Q fuel listed (fillAct x ops.toList a₀) w := by
  have done : ∀ (listed : Array Bool) (x : Tmp → Value) (w : World), Grow w₀ w → (∀ i o, ops[i]? = some o → listed.getD i true = true → F i (leftBy x o) w) →
      Region.ready md ops listed = [] → Q .normal (fillAct x ops.toList a₀) w := fun listed x w hg hf hr =>
    fin x w hg (fun j o ho => hf j o ho (all_listed hk hr j (Array.getElem?_eq_some_iff.1 ho).1))
  intro fuel
  induction fuel with
  | zero =>
    intro listed x w hu hg hf
    have hr : Region.ready md ops listed = [] := by
      rw [List.eq_nil_iff_forall_not_mem]
      intro j hj
      obtain ⟨h0, o, ho, _⟩ := mem_ready.1 hj
      have := unl_zero listed ops.size (by omega) j (Array.getElem?_eq_some_iff.1 ho).1
      rw [this] at h0
      cases h0
    exact ⟨hr, done listed x w hg hf hr⟩
  | succ fuel ih =>
    intro listed x w hu hg hf
    refine ⟨fun hr => done listed x w hg hf hr, fun i hi => ?_⟩
    obtain ⟨h0, o, ho, hall⟩ := mem_ready.1 hi
    have hilt : i < ops.size := (Array.getElem?_eq_some_iff.1 ho).1
    have hst := looseSteps_at ops.toList 0 hs i o (by simpa using ho)
    rw [Nat.zero_add] at hst
    have hdeps : ∀ j ∈ bindsOn md o, ∀ o', ops[j]? = some o' → F j (leftBy x o') w := fun j hj o' ho' => by
      unfold bindsOn at hj
      obtain ⟨e, he, rfl⟩ := List.mem_map.1 hj
      obtain ⟨he1, he2⟩ := List.mem_filter.1 he
      have h1 := hall e (by simpa using he1) he2
      have hs' : e.on < listed.size := by
        rcases Nat.lt_or_ge e.on listed.size with h' | h'
        · exact h'
        · simp [Array.getElem?_eq_none h'] at h1
      exact hf e.on o' ho' (by simpa [hs'] using h1)
    have next : ∀ v w', Grow w w' → F i (leftAs o v) w' → wpAny P md ops Q fuel (listed.setIfInBounds i true) ((fillAct x ops.toList a₀).put o.dst v) w' := by
      intro v w' hg' hv
      have hun := unl_set listed i h0 ops.size hilt
      cases hd : o.dst with
      | none =>
        refine ih _ x w' (by omega) (hg.trans hg') fun j o' ho' hl => ?_
        by_cases hij : i = j
        · subst hij
          rw [ho] at ho'
          cases ho'
          simpa [leftBy, leftAs, hd] using hv
        · rw [getD_set_ne true hij] at hl
          exact hF _ _ _ _ hg' (hf j o' ho' hl)
      | some d =>
        obtain ⟨hds, hdn⟩ := looseOk_slot hk ho hd
        rw [fillAct_put x ops.toList a₀ d v ⟨o, by simpa using Array.mem_of_getElem? ho, hd⟩ hds]
        refine ih _ _ w' (by omega) (hg.trans hg') fun j o' ho' hl => ?_
        by_cases hij : i = j
        · subst hij
          rw [ho] at ho'
          cases ho'
          simpa [leftBy, leftAs, hd] using hv
        · rw [getD_set_ne true hij] at hl
          have hne := hdn j o' ho' hij
          have : leftBy (fun t => if t = d then v else x t) o' = leftBy x o' := by
            unfold leftBy
            cases hd' : o'.dst with
            | none => rfl
            | some d' =>
              have : d' ≠ d := fun e => hne (by rw [hd', e])
              simp [this]
          rw [this]
          exact hF _ _ _ _ hg' (hf j o' ho' hl)
    have h1 := hst x w hg hdeps (fun v w' => wpAny P md ops Q fuel (listed.setIfInBounds i true) ((fillAct x ops.toList a₀).put o.dst v) w') next
    unfold wpOp
    rw [ho]
    show if Region.wanted o (yielded ops (fillAct x ops.toList a₀).tmps) = true then _ else _
    split
    · rename_i hw
      rw [if_pos hw] at h1
      exact .inl (wp_of_loose (fun _ _ h => h) h1)
    · rename_i hw
      rw [if_neg hw] at h1
      exact h1

theorem fillAct_own (a : Act) (l : List Oper) (h : ∀ o ∈ l, ∀ d, o.dst = some d → d < a.tmps.size) : fillAct (fun t => a.tmps.getD t undef) l a = a := by
  apply act_ext
  · exact fillAct_size _ _ _
  · intro t ht
    rw [fillAct_size] at ht
    by_cases hl : ∃ o ∈ l, o.dst = some t
    · rw [fillAct_on _ l a t ht hl]
      simp [ht]
    · exact fillAct_off _ l a t fun o ho e => hl ⟨o, ho, e⟩
  · exact fillAct_defers _ _ _

/-- Facts in a list, one for each operation. -/
def inList (Fs : List (Value → World → Prop)) (i : Nat) (v : Value) (w : World) : Prop := ((Fs[i]?).getD fun _ _ => True) v w
def stays (f : Value → World → Prop) : Prop := ∀ v w w', Grow w w' → f v w → f v w'
theorem inList_stays {Fs : List (Value → World → Prop)} (h : ∀ f ∈ Fs, stays f) : ∀ i v w w', Grow w w' → inList Fs i v w → inList Fs i v w' := by
  intro i v w w' hg hi
  unfold inList at *
  cases hf : Fs[i]? with
  | none => trivial
  | some f =>
    rw [hf] at hi
    exact h f (List.mem_of_getElem? hf) v w w' hg hi
def isV (u : Value) (v : Value) (_ : World) : Prop := v = u
theorem isV_stays (u : Value) : stays (isV u) := fun _ _ _ _ h => h

/-- **A region that draws its order, by facts that stay.** -/
theorem wp_region_loose {id : Nat} {a : Act} {w : World} {A : (Tmp → Value) → Act} (F : Nat → Value → World → Prop) (hm : P.follows .mixedOrders = true) (hk : looseOk .any ops a.tmps.size = true)
    (hF : ∀ i v w w', Grow w w' → F i v w → F i v w') (hA : ∀ x, fillAct x ops.toList a = A x) (hs : looseSteps P .any ops A w F 0 ops.toList)
    (fin : ∀ (x : Tmp → Value) (w' : World), Grow w w' → (∀ (j : Nat) o', ops[j]? = some o' → F j (leftBy x o') w') → Q .normal (A x) w') :
    (Code.region id ops true).wp P Q a w := by
  obtain rfl : (fun x => fillAct x ops.toList a) = A := funext hA
  refine wp_region_any hm ?_
  have h := wpAny_loose (Q := Q) hk hF hs fin ops.size (Array.replicate ops.size false) (fun t => a.tmps.getD t undef) w.drew ?_ (Grow.drew w) ?_
  · rw [fillAct_own a ops.toList fun o ho d hd => ?_] at h
    · exact h
    · obtain ⟨i, hi⟩ := List.getElem?_of_mem ho
      exact (looseOk_slot hk (i := i) (by simpa using hi) hd).1
  · have : ∀ n, unl (Array.replicate ops.size false) n ≤ n := fun n => by
      induction n with
      | zero => exact Nat.le_refl _
      | succ n ih => simp only [unl]; split <;> omega
    exact this _
  · intro i o ho hl
    have hi : i < ops.size := (Array.getElem?_eq_some_iff.1 ho).1
    simp [hi] at hl
end
end Go.Proofs.YtnoglbceaibjeaaDoor
/- SLICES THAT READ AS LISTS: nil, empty and other slices by one word ('Rd'; of bytes: 'Byt'); kept while memory only grows; a cut; an append onto a row of the call's own; the conversion of bytes to a string. Nothing here is trusted. -/
namespace Go.Proofs.YtnoglbceaibjeaaDoor
set_option linter.unusedVariables false
open Go.RowKit

/-- The slice v reads as xs (elements of one cell each). -/
def Rd (w : World) (v : Value) (xs : List Value) : Prop :=
  ∃ A c, v = .slice A xs.length c ∧ xs.length ≤ c ∧ c ≤ maxLen ∧
    (0 < xs.length → ∃ b off, A = some ⟨b, off, none⟩ ∧ b < w.heap.size ∧ ∀ j (h : j < xs.length), w.cell? ⟨b, off + j, none⟩ = some xs[j])

def bv (u : UInt8) : Value := .int .u8 (u.toNat : Int)
/-- The slice of bytes v reads as l. -/
def Byt (w : World) (v : Value) (l : List UInt8) : Prop := Rd w v (l.map bv)

section
variable {w w' : World} {v : Value} {xs : List Value}
theorem Rd.mk_ {A : Option Addr} {n c : Nat} (hn : n = xs.length) (h1 : n ≤ c) (h2 : c ≤ maxLen)
    (h3 : 0 < n → ∃ b off, A = some ⟨b, off, none⟩ ∧ b < w.heap.size ∧ ∀ j (h : j < xs.length), w.cell? ⟨b, off + j, none⟩ = some xs[j]) : Rd w (.slice A n c) xs := by
  subst hn
  exact ⟨A, c, rfl, h1, h2, h3⟩
theorem Rd.nil (w : World) : Rd w (.slice none 0 0) [] := ⟨none, 0, rfl, Nat.le_refl _, Nat.zero_le _, fun h => absurd h (by simp)⟩
theorem Rd.grow (h : Rd w v xs) (g : Grow w w') : Rd w' v xs := by
  obtain ⟨A, c, rfl, h1, h2, h3⟩ := h
  refine ⟨A, c, rfl, h1, h2, fun hp => ?_⟩
  obtain ⟨b, off, rfl, hb, hc⟩ := h3 hp
  exact ⟨b, off, rfl, Nat.lt_of_lt_of_le hb g.size, fun j hj => (g.cell (p := ⟨b, off + j, none⟩) hb).trans (hc j hj)⟩
theorem Rd.below {B : Nat} {A : Option Addr} {n c : Nat} (h : Rd w (.slice A n c) xs) (hb : Below B w w') (hA : ∀ a, A = some a → a.block < B) : Rd w' (.slice A n c) xs := by
  obtain ⟨A', c', e, h1, h2, h3⟩ := h
  cases e
  refine ⟨A, c, rfl, h1, h2, fun hp => ?_⟩
  obtain ⟨b, off, rfl, hlt, hc⟩ := h3 hp
  exact ⟨b, off, rfl, Nat.lt_of_lt_of_le hlt hb.size, fun j hj => (hb.cell (p := ⟨b, off + j, none⟩) (show b < B from hA ⟨b, off, none⟩ rfl)).trans (hc j hj)⟩
/-- What lies below B and reads there, reads on. -/
theorem Rd.since {w0 : World} (h : Rd w0 v xs) (hb : Below w0.heap.size w0 w') : Rd w' v xs := h.grow hb
theorem Rd.len {A : Option Addr} {n c : Nat} (h : Rd w (.slice A n c) xs) : n = xs.length ∧ n ≤ c ∧ c ≤ maxLen := by
  obtain ⟨A', c', e, h1, h2, _⟩ := h
  cases e
  exact ⟨rfl, h1, h2⟩
theorem Rd.at_ {A : Option Addr} {n c : Nat} (h : Rd w (.slice A n c) xs) (hp : 0 < n) : ∃ b off, A = some ⟨b, off, none⟩ ∧ b < w.heap.size ∧ ∀ j (h : j < xs.length), w.cell? ⟨b, off + j, none⟩ = some xs[j] := by
  obtain ⟨A', c', e, h1, h2, h3⟩ := h
  cases e
  exact h3 hp
theorem Rd.cut {A : Option Addr} {n c lo hi : Nat} (h : Rd w (.slice A n c) xs) (h1 : lo ≤ hi) (h2 : hi ≤ n) :
    Rd w (.slice (if c = lo then A else A.map (·.add lo)) (hi - lo) (c - lo)) ((xs.take hi).drop lo) := by
  obtain ⟨rfl, hc, hm⟩ := h.len
  have hl : ((xs.take hi).drop lo).length = hi - lo := by rw [List.length_drop, List.length_take]; omega
  refine Rd.mk_ hl.symm (by omega) (by omega) fun hp => ?_
  obtain ⟨b, off, rfl, hb, hcell⟩ := h.at_ (by omega)
  rw [if_neg (by omega)]
  refine ⟨b, off + lo, ?_, hb, fun j hj => ?_⟩
  · by_cases h0 : lo = 0
    · subst h0; simp [Addr.add]
    · simp [Addr.add, h0]
  · rw [hl] at hj
    rw [show off + lo + j = off + (lo + j) from by omega, hcell (lo + j) (by omega)]
    simp
theorem Rd.of_own {base : Nat} {e : TypeId} {n : Nat} (h : w.ownsRow base e 1 v n xs) : Rd w v xs := by
  have hl : xs.length = n := by simpa using h.1
  rcases h.2 with ⟨rfl, rfl⟩ | ⟨g, cap, cur, rfl, hbg, hh, hnc, hcm, hcs, ht⟩
  · obtain rfl : xs = [] := List.eq_nil_of_length_eq_zero hl
    exact Rd.nil w
  · refine Rd.mk_ hl.symm hnc hcm fun hp => ⟨g, 0, rfl, ?_, fun j hj => ?_⟩
    · rcases Nat.lt_or_ge g w.heap.size with h' | h'
      · exact h'
      · rw [Array.getElem?_eq_none h'] at hh; cases hh
    · have := h.cells (g := g) rfl j xs[j] (List.getElem?_eq_getElem hj)
      rw [Nat.zero_add]
      by_cases h0 : j = 0
      · subst h0; simpa [Addr.add] using this
      · simpa [Addr.add, h0] using this
/-- A block of the call's own, just made. -/
theorem Rd.block {g n c : Nat} {cs : Array Value} {e : TypeId} (hh : w.heap[g]? = some (.cells cs e (0, 0))) (hn : n ≤ cs.size) (hc : n ≤ c) (hm : c ≤ maxLen) : Rd w (.slice (some ⟨g, 0, none⟩) n c) (cs.toList.take n) := by
  have hl : (cs.toList.take n).length = n := by simp; omega
  refine Rd.mk_ hl.symm hc hm fun hp => ⟨g, 0, rfl, ?_, fun j hj => ?_⟩
  · rcases Nat.lt_or_ge g w.heap.size with h' | h'
    · exact h'
    · rw [Array.getElem?_eq_none h'] at hh; cases hh
  · rw [hl] at hj
    rw [Nat.zero_add, cell_of_row w g j cs e (0, 0) hh]
    simp [Array.getElem?_eq_getElem (show j < cs.size by omega)]
end

section
variable {w w' : World} {v : Value} {l : List UInt8}
theorem Byt.grow (h : Byt w v l) (g : Grow w w') : Byt w' v l := Rd.grow h g
theorem Byt.nil (w : World) : Byt w (.slice none 0 0) [] := Rd.nil w
theorem Byt.form (h : Byt w v l) : ∃ A c, v = .slice A l.length c ∧ l.length ≤ c ∧ c ≤ maxLen := by
  obtain ⟨A, c, rfl, h1, h2, _⟩ := h
  exact ⟨A, c, by simp, by simpa using h1, h2⟩
theorem Byt.len {A : Option Addr} {n c : Nat} (h : Byt w (.slice A n c) l) : n = l.length ∧ n ≤ c ∧ c ≤ maxLen := by simpa using Rd.len h
theorem Byt.at_ {A : Option Addr} {n c : Nat} (h : Byt w (.slice A n c) l) (hp : 0 < n) : ∃ b off, A = some ⟨b, off, none⟩ ∧ b < w.heap.size ∧ ∀ j (h : j < l.length), w.cell? ⟨b, off + j, none⟩ = some (.int .u8 ((l[j]).toNat : Int)) := by
  obtain ⟨b, off, e, hb, hc⟩ := Rd.at_ h hp
  exact ⟨b, off, e, hb, fun j hj => by rw [hc j (by simpa using hj), List.getElem_map]; rfl⟩
theorem Byt.cut {A : Option Addr} {n c lo hi : Nat} (h : Byt w (.slice A n c) l) (h1 : lo ≤ hi) (h2 : hi ≤ n) :
    Byt w (.slice (if c = lo then A else A.map (·.add lo)) (hi - lo) (c - lo)) ((l.take hi).drop lo) := by
  have := Rd.cut h h1 h2
  simpa [Byt, List.map_drop, List.map_take] using this
/-- The cut as the walk parts on it. -/
theorem Byt.cut2 {A : Option Addr} {n c k m : Nat} (h : Byt w (.slice A n c) l) (h1 : k + m ≤ n) :
    (c = k → Byt w (.slice A m 0) ((l.take (k + m)).drop k)) ∧ (¬ c = k → Byt w (.slice (A.map (·.add k)) m (c - k)) ((l.take (k + m)).drop k)) := by
  have h2 := h.cut (lo := k) (hi := k + m) (by omega) h1
  rw [Nat.add_sub_cancel_left] at h2
  refine ⟨fun e => ?_, fun e => ?_⟩
  · rw [if_pos e, e, Nat.sub_self] at h2
    exact h2
  · rw [if_neg e] at h2
    exact h2
theorem Byt.front {A : Option Addr} {n c k : Nat} (h : Byt w (.slice A n c) l) (hk : k ≤ n) : Byt w (.slice A k c) (l.take k) := by
  have h2 : Rd w (.slice A n c) (l.map bv) := h
  obtain ⟨e, hc, hm⟩ := h2.len
  have e1 : ((l.take k).map bv).length = k := by rw [List.length_map, List.length_take]; rw [List.length_map] at e; omega
  refine Rd.mk_ e1.symm (by omega) hm fun hp => ?_
  obtain ⟨b, off, rfl, hb, hcell⟩ := h2.at_ (by omega)
  refine ⟨b, off, rfl, hb, fun j hj => ?_⟩
  rw [hcell j (by rw [e1] at hj; omega)]
  simp
theorem Byt.back {A : Option Addr} {n c k : Nat} (h : Byt w (.slice A n c) l) (hk : k ≤ n) (hc : ¬ c = k) : Byt w (.slice (A.map (·.add k)) (n - k) (c - k)) (l.drop k) := by
  have h2 := h.cut hk (Nat.le_refl n)
  rw [if_neg hc] at h2
  have e := h.len.1
  subst e
  rw [List.take_length] at h2
  exact h2
theorem Byt.back0 {A : Option Addr} {n c k : Nat} (h : Byt w (.slice A n c) l) (hk : k ≤ n) (hc : c = k) : Byt w (.slice A (n - k) (c - k)) (l.drop k) := by
  have h2 := h.cut hk (Nat.le_refl n)
  rw [if_pos hc] at h2
  have e := h.len.1
  subst e
  rw [List.take_length] at h2
  exact h2
theorem Byt.of_own {base : Nat} {e : TypeId} {n : Nat} (h : w.ownsRow base e 1 v n (l.map bv)) : Byt w v l := Rd.of_own h

/-- string(b). -/
theorem Byt.str {P : Program} (h : Byt w v l) (src dst e : TypeId) (hs : P.underlying src = some (.slice e)) (he : P.underlying e = some (.int .u8)) (hd : P.underlying dst = some .string) :
    (convert src dst v).run P w = .ok (.string ⟨l.toArray⟩) w := by
  obtain ⟨A, c, rfl, h1, h2⟩ := h.form
  rcases Nat.eq_zero_or_pos l.length with h0 | h0
  · obtain rfl : l = [] := List.eq_nil_of_length_eq_zero h0
    rw [run_convert_bytes_string w src dst e A _ c hs he hd]
    cases A with
    | none => simp [Conv.bytesToString]; rfl
    | some a => exact run_bytesToString (P := P) w a 0 c [] (by simp [loadCells, loadCellsFrom])
  · obtain ⟨b, off, rfl, hb, hc⟩ := h.at_ h0
    rw [run_convert_bytes_arg (P := P) w src e hs he b off l.length c (l.map fun u => (u.toNat : Int)) (by simp) (fun i hi => by
      rw [hc i hi]; simp [hi]) dst hd]
    have e1 : (l.map fun u => (u.toNat : Int)).map (fun n => UInt8.ofNat n.toNat) = l := by
      rw [List.map_map]
      conv => rhs; rw [← List.map_id l]
      apply List.map_congr_left
      intro u _
      simp
    unfold strOfNums
    rw [e1]
end

/-- append(s, x...) onto a row of the call's own, whatever the source. -/
theorem run_append_rd {P : Program} (w : World) (base : Nat) (t ty e : TypeId) (z : Value) (bytes : Nat) (ht : P.underlying t = some (.slice e))
    (hi : (P.info? e).map (fun i => (i.zero, i.size, i.bytes)) = some (some z, 1, bytes)) (hz : z.cells.size = 1)
    (v : Value) (xs : List Value) (hown : w.ownsRow base e 1 v xs.length xs) (u : Value) (ys : List Value) (hr : Rd w u ys) (h1 : ∀ y ∈ ys, y.oneCell' = true)
    (hbytes : (xs.length + ys.length) * bytes ≤ 140737488355328) (hlen : xs.length + ys.length ≤ maxLen) (hbase : base ≤ w.heap.size) :
    ∃ v' w', (Builtin.append_ #[t, t] ty #[v, u]).run P w = .ok v' w' ∧ w'.ownsRow base e 1 v' (xs ++ ys).length (xs ++ ys) ∧ w.grownBy w' v.ownBlock ∧
      (v'.ownBlock = v.ownBlock ∨ v'.ownBlock = some w.heap.size) := by
  obtain ⟨i, hi0, hz0, hz1, hz2⟩ := info_parts hi
  obtain ⟨A, c, rfl, hlc, hcm, hcell⟩ := hr
  cases A with
  | none =>
    have hy : ys = [] := by
      rcases Nat.eq_zero_or_pos ys.length with h0 | h0
      · exact List.eq_nil_of_length_eq_zero h0
      · obtain ⟨b, off, e', _⟩ := hcell h0
        cases e'
    subst hy
    refine ⟨v, w, ?_, by simpa using hown, World.grownBy.refl w _, .inl rfl⟩
    rcases hown.2 with ⟨rfl, hx⟩ | ⟨g, cap, cur, rfl, _, _, hnc, _⟩
    · simp [Builtin.append_, run_underlying ht, sizeOf, typeInfo, hi0, Builtin.lenOf, Builtin.firstCells]
    · simp [Builtin.append_, run_underlying ht, sizeOf, typeInfo, hi0, Builtin.lenOf, Builtin.firstCells, hnc, storeCells]
  | some ad =>
    have hnews : ∀ j y, ys[j]? = some y → w.cell? (ad.add j) = some y := by
      intro j y hy
      have hj : j < ys.length := by
        rcases Nat.lt_or_ge j ys.length with h | h
        · exact h
        · rw [List.getElem?_eq_none h] at hy; cases hy
      obtain ⟨b, off, e', _, hc⟩ := hcell (by omega)
      injection e' with e'
      subst e'
      have hp : (⟨b, off, none⟩ : Addr).add j = ⟨b, off + j, none⟩ := by unfold Addr.add; split <;> simp_all
      rw [hp, hc j hj, ← hy, List.getElem?_eq_getElem hj]
    obtain ⟨v', w', hrun, h2, h3, _, h5⟩ := run_append_own_at (P := P) w base t ty e i z 1 bytes ht hi0 hz0 hz1 hz2 hz (by omega) v xs.length xs hown ad ys.length c ys (by simp) hnews h1 hlen hbytes hbase
    exact ⟨v', w', hrun, by simpa using h2, h3, h5⟩

theorem wpList_append_rd {P : Program} (w : World) {ops : Array Oper} {rest : List Oper} {o : Oper} {a : Act} {Q : Exit → Act → World → Prop} (hgd : o.guard = none) (s x : Operand) (t : TypeId)
    (ho : o.op = .call { callee := .builtin .append, args := #[s, x], argTypes := #[t, t] })
    (base : Nat) (e : TypeId) (z : Value) (bytes : Nat) (ht : P.underlying t = some (.slice e)) (hi : (P.info? e).map (fun i => (i.zero, i.size, i.bytes)) = some (some z, 1, bytes)) (hz : z.cells.size = 1)
    (v : Value) (n m : Nat) (xs : List Value) (hs : a.eval s = v) (hown : w.ownsRow base e 1 v n xs) (u : Value) (ys : List Value) (hx : a.eval x = u) (hr : Rd w u ys) (hm : Hid (ys.length = m)) (h1 : ∀ y ∈ ys, y.oneCell' = true)
    (hbytes : (n + m) * bytes ≤ 140737488355328) (hlen : n + m ≤ maxLen) (hbase : base ≤ w.heap.size)
    (h : ∀ v' w', w'.ownsRow base e 1 v' (n + m) (xs ++ ys) → w.grownBy w' v.ownBlock → (v'.ownBlock = v.ownBlock ∨ v'.ownBlock = some w.heap.size) → wpList P ops Q rest (a.put o.dst v') w') : wpList P ops Q (o :: rest) a w := by
  obtain rfl : xs.length = n := by simpa using hown.1
  obtain rfl : ys.length = m := hm.out
  obtain ⟨v', w', hrun, h2, h3, h4⟩ := run_append_rd (P := P) w base t o.type e z bytes ht hi hz v xs hown u ys hr h1 hbytes hlen hbase
  rw [List.length_append] at h2
  refine wpList_plain hgd fun K hK => ?_
  unfold Oper.wp execOp
  simp only [ho, resolve, invoke, builtin, Sem.run_bind, Sem.run_pure, Result.andThen_ok, List.map_toArray, List.map_cons, List.map_nil, hs, hx, hrun]
  exact hK _ _ (h v' w' h2 h3 h4)

/-- append(s, x...) within the capacity, whatever the source. -/
theorem wpList_append_fits_rd {P : Program} (w : World) {ops : Array Oper} {rest : List Oper} {o : Oper} {a : Act} {Q : Exit → Act → World → Prop} (hgd : o.guard = none) (s x : Operand) (t : TypeId)
    (ho : o.op = .call { callee := .builtin .append, args := #[s, x], argTypes := #[t, t] })
    (base : Nat) (e : TypeId) (z : Value) (bytes : Nat) (ht : P.underlying t = some (.slice e)) (hi : (P.info? e).map (fun i => (i.zero, i.size, i.bytes)) = some (some z, 1, bytes))
    (g cap n m : Nat) (xs : List Value) (hs : a.eval s = .slice (some ⟨g, 0, none⟩) n cap) (hown : w.ownsRow base e 1 (.slice (some ⟨g, 0, none⟩) n cap) n xs)
    (u : Value) (ys : List Value) (hx : a.eval x = u) (hr : Rd w u ys) (hm : Hid (ys.length = m)) (h1 : ∀ y ∈ ys, y.oneCell' = true) (hroom : n + m ≤ cap)
    (h : ∀ w', w'.ownsRow base e 1 (.slice (some ⟨g, 0, none⟩) (n + m) cap) (n + m) (xs ++ ys) → w.grownBy w' (some g) → wpList P ops Q rest (a.put o.dst (.slice (some ⟨g, 0, none⟩) (n + m) cap)) w') : wpList P ops Q (o :: rest) a w := by
  obtain ⟨i, hi0, hz0, hz1, hz2⟩ := info_parts hi
  obtain rfl : xs.length = n := by simpa using hown.1
  obtain rfl : ys.length = m := hm.out
  obtain ⟨A, c, rfl, hlc, hcm, hcell⟩ := hr
  have done : ∃ w', (Builtin.append_ #[t, t] o.type #[.slice (some ⟨g, 0, none⟩) xs.length cap, .slice A ys.length c]).run P w = .ok (.slice (some ⟨g, 0, none⟩) (xs.length + ys.length) cap) w' ∧
      w'.ownsRow base e 1 (.slice (some ⟨g, 0, none⟩) (xs.length + ys.length) cap) (xs.length + ys.length) (xs ++ ys) ∧ w.grownBy w' (some g) := by
    rcases Nat.eq_zero_or_pos ys.length with h0 | h0
    · have hy := List.eq_nil_of_length_eq_zero h0
      subst hy
      refine ⟨w, ?_, by simpa using hown, World.grownBy.refl _ _⟩
      rcases hown.2 with ⟨h', _⟩ | ⟨g', cap', cur, h', _, hg, hnc, _, hcs, htake⟩
      · cases h'
      · cases A <;> simp [Builtin.append_, run_underlying ht, sizeOf, typeInfo, hi0, Builtin.lenOf, Builtin.firstCells, storeCells, loadCells, loadCellsFrom] <;> omega
    · obtain ⟨b, off, rfl, _, hc⟩ := hcell h0
      have hnews : ∀ j y, ys[j]? = some y → w.cell? ((⟨b, off, none⟩ : Addr).add j) = some y := by
        intro j y hy
        have hj : j < ys.length := by
          rcases Nat.lt_or_ge j ys.length with h | h
          · exact h
          · rw [List.getElem?_eq_none h] at hy; cases hy
        have hp : (⟨b, off, none⟩ : Addr).add j = ⟨b, off + j, none⟩ := by unfold Addr.add; split <;> simp_all
        rw [hp, hc j hj, ← hy, List.getElem?_eq_getElem hj]
      obtain ⟨w', hrun, h2, h3⟩ := run_append_fits (P := P) w base t o.type e i 1 ht hi0 hz1 g xs.length cap xs hown ⟨b, off, none⟩ ys.length c ys (by simp) hnews h1 hroom
      exact ⟨w', by simpa using hrun, by simpa using h2, h3⟩
  obtain ⟨w', hrun, h2, h3⟩ := done
  refine wpList_plain hgd fun K hK => ?_
  unfold Oper.wp execOp
  simp only [ho, resolve, invoke, builtin, Sem.run_bind, Sem.run_pure, Result.andThen_ok, List.map_toArray, List.map_cons, List.map_nil, hs, hx, hrun]
  exact hK _ _ (h w' h2 h3)

/-- Slices of slices of bytes. -/
def Byts (w : World) (v : Value) (ls : List (List UInt8)) : Prop := ∃ us, us.length = ls.length ∧ Rd w v us ∧ ∀ (i : Nat) (u : Value) (l : List UInt8), us[i]? = some u → ls[i]? = some l → Byt w u l
theorem Byts.grow {w w' : World} {v : Value} {ls : List (List UInt8)} (h : Byts w v ls) (g : Grow w w') : Byts w' v ls := by
  obtain ⟨us, h1, h2, h3⟩ := h
  exact ⟨us, h1, h2.grow g, fun i u l hu hl => (h3 i u l hu hl).grow g⟩
theorem Byts.len {w : World} {A : Option Addr} {n c : Nat} {ls : List (List UInt8)} (h : Byts w (.slice A n c) ls) : n = ls.length ∧ n ≤ c ∧ c ≤ maxLen := by
  obtain ⟨us, h1, h2, _⟩ := h
  rw [← h1]
  exact h2.len
theorem Byts.form {w : World} {v : Value} {ls : List (List UInt8)} (h : Byts w v ls) : ∃ A c, v = .slice A ls.length c ∧ ls.length ≤ c ∧ c ≤ maxLen := by
  obtain ⟨us, h1, ⟨A, c, rfl, h2, h3, _⟩, _⟩ := h
  exact ⟨A, c, by rw [h1], by omega, h3⟩
theorem Byts.at_ {w : World} {A : Option Addr} {n c : Nat} {ls : List (List UInt8)} (h : Byts w (.slice A n c) ls) (hp : 0 < n) :
    ∃ b off, A = some ⟨b, off, none⟩ ∧ b < w.heap.size ∧ ∀ j (h : j < ls.length), ∃ u, w.cell? ⟨b, off + j, none⟩ = some u ∧ Byt w u ls[j] := by
  obtain ⟨us, h1, h2, h3⟩ := h
  obtain ⟨b, off, e, hb, hc⟩ := h2.at_ hp
  exact ⟨b, off, e, hb, fun j hj => ⟨us[j]'(by omega), hc j (by omega), h3 j _ _ (List.getElem?_eq_getElem (by omega)) (List.getElem?_eq_getElem hj)⟩⟩

/-- A literal of slices, just built. -/
theorem Byts.lit (w : World) (cs : Array Value) (e : TypeId) (ls : List (List UInt8)) (k : Nat) (hk : k = ls.length) (h : cs.size = ls.length) (hm : ls.length ≤ maxLen) (hs : ∀ (i : Nat) (u : Value) (l : List UInt8), cs[i]? = some u → ls[i]? = some l → Byt w u l) :
    Byts (w.alloc (.cells cs e)) (.slice (some ⟨w.heap.size, 0, none⟩) k k) ls := by
  subst hk
  refine ⟨cs.toList, by simpa using h, ?_, fun i u l hu hl => (hs i u l (by simpa using hu) hl).grow (Grow.alloc _ _)⟩
  have hr := Rd.block (w := w.alloc (.cells cs e)) (g := w.heap.size) (n := ls.length) (c := ls.length) (heap_alloc_new w _) (by omega) (Nat.le_refl _) hm
  rwa [List.take_of_length_le (by simp; omega)] at hr
theorem byt_one {w : World} {a : Value} {l : List UInt8} (ha : Byt w a l) : ∀ (i : Nat) (u : Value) (k : List UInt8), (#[a] : Array Value)[i]? = some u → [l][i]? = some k → Byt w u k := by
  intro i u k hu hk
  match i with
  | 0 => simp at hu hk; subst hu; subst hk; exact ha
  | i + 1 => simp at hk
theorem byt_two {w : World} {a b : Value} {l m : List UInt8} (ha : Byt w a l) (hb : Byt w b m) : ∀ (i : Nat) (u : Value) (k : List UInt8), (#[a, b] : Array Value)[i]? = some u → [l, m][i]? = some k → Byt w u k := by
  intro i u k hu hk
  match i with
  | 0 => simp at hu hk; subst hu; subst hk; exact ha
  | 1 => simp at hu hk; subst hu; subst hk; exact hb
  | i + 2 => simp at hk
theorem byt_three {w : World} {a b c : Value} {l m n : List UInt8} (ha : Byt w a l) (hb : Byt w b m) (hc : Byt w c n) : ∀ (i : Nat) (u : Value) (k : List UInt8), (#[a, b, c] : Array Value)[i]? = some u → [l, m, n][i]? = some k → Byt w u k := by
  intro i u k hu hk
  match i with
  | 0 => simp at hu hk; subst hu; subst hk; exact ha
  | 1 => simp at hu hk; subst hu; subst hk; exact hb
  | 2 => simp at hu hk; subst hu; subst hk; exact hc
  | i + 3 => simp at hk

theorem bv_one (l : List UInt8) : ∀ y ∈ l.map bv, y.oneCell' = true := by
  intro y hy
  obtain ⟨u, _, rfl⟩ := List.mem_map.1 hy
  rfl
theorem Byt.form2 {w : World} {v : Value} {l : List UInt8} (h : Byt w v l) : ∃ A m c, v = .slice A m c ∧ Hid (m = l.length) := by
  obtain ⟨A, c, rfl, _, _⟩ := h.form
  exact ⟨A, _, c, rfl, rfl⟩
theorem ret_int {k : IntKind} {a b : Int} (h : a = b) : Ending.returned (.int k a) = .returned (.int k b) := by rw [h]
theorem ret_bool {a b : Bool} (h : a = b) : Ending.returned (.bool a) = .returned (.bool b) := by rw [h]
theorem Byt.anywhere {w w' : World} {v : Value} (h : Byt w v []) : Byt w' v [] := by
  obtain ⟨A, c, e, h1, h2, _⟩ := h
  exact ⟨A, c, e, h1, h2, fun h => absurd h (by simp)⟩
end Go.Proofs.YtnoglbceaibjeaaDoor
/- What a law's frame hands to its walk. -/
namespace Go.Proofs.YtnoglbceaibjeaaDoor
set_option linter.unusedVariables false
open Go.RowKit

theorem block_of_cell {w : World} {p : Addr} {v : Value} (h : w.cell? p = some v) : p.block < w.heap.size := by
  rcases Nat.lt_or_ge p.block w.heap.size with h' | h'
  · exact h'
  · unfold World.cell? at h
    rw [Array.getElem?_eq_none h'] at h
    simp at h
theorem add_at {b off : Nat} (j : Nat) : (⟨b, off, none⟩ : Addr).add j = ⟨b, off + j, none⟩ := by unfold Addr.add; split <;> simp_all

/-- A slice of bytes that came in. -/
theorem Byt.of_ints {w : World} {x : Addr} {l c : Nat} {zs : List Int} (hl : l ≤ c) (hm : c ≤ maxLen) (hz : zs.length = c) (hcell : ∀ i, i < zs.length → w.cell? (x.add i) = some (.int .u8 (zs.getD i 0)))
    (hwz : ∀ n ∈ zs, (Lit.int .u8 n).wf = true) : ∃ bs, Byt w (.slice (some x) l c) bs ∧ bs.length = l := by
  have e1 : ∀ n ∈ zs, (((UInt8.ofNat n.toNat).toNat : Nat) : Int) = n := by
    intro n hn
    have h := hwz n hn
    simp [Lit.wf, IntKind.min, IntKind.max, IntKind.signed, IntKind.bits] at h
    rw [UInt8.toNat_ofNat']
    omega
  refine ⟨(zs.take l).map fun n => UInt8.ofNat n.toNat, ?_, by simp; omega⟩
  refine Rd.mk_ (by simp; omega) hl hm fun hp => ?_
  obtain ⟨b, off, spot⟩ := x
  have h0 := hcell 0 (by omega)
  have hs : spot = none := by simpa [Addr.add] using World.cell?_spot h0
  subst hs
  refine ⟨b, off, rfl, block_of_cell (p := ⟨b, off, none⟩) (by simpa [Addr.add] using h0), fun j hj => ?_⟩
  have hj' : j < zs.length := by simp at hj; omega
  rw [← add_at, hcell j hj']
  simp only [List.getElem_map, List.getElem_take, bv]
  rw [e1 _ (List.getElem_mem hj')]
  simp [List.getD, List.getElem?_eq_getElem hj']
end Go.Proofs.YtnoglbceaibjeaaDoor
/- Rows of elements of k cells, and what a change of memory may touch: of no program. -/
namespace Go.Proofs.YtnoglbceaibjeaaDoor
set_option linter.unusedVariables false
set_option linter.unusedSimpArgs false
open Go.ChangeShapes Go.WideShapes Go.ChangeAt Go.RowKit

/-- The slice v reads as n elements of k cells each: xs. -/
def RdK (w : World) (k : Nat) (v : Value) (n : Nat) (xs : List Value) : Prop :=
  ∃ A c, v = .slice A n c ∧ xs.length = n * k ∧ n ≤ c ∧ c ≤ maxLen ∧
    (0 < n → ∃ b off, A = some ⟨b, off, none⟩ ∧ b < w.heap.size ∧ ∀ j u, xs[j]? = some u → w.cell? ⟨b, off + j, none⟩ = some u)

section
variable {w w' : World} {k n : Nat} {v : Value} {xs : List Value}
theorem RdK.other (h : RdK w k v n xs) (hs : w.heap.size ≤ w'.heap.size) (hb : ∀ b, v.ownBlock = some b → b < w.heap.size → w'.heap[b]? = w.heap[b]?) : RdK w' k v n xs := by
  obtain ⟨A, c, rfl, h0, h1, h2, h3⟩ := h
  refine ⟨A, c, rfl, h0, h1, h2, fun hp => ?_⟩
  obtain ⟨b, off, rfl, hlt, hc⟩ := h3 hp
  exact ⟨b, off, rfl, Nat.lt_of_lt_of_le hlt hs, fun j u hj => (World.cell?_of_block (w := w) (a := ⟨b, off + j, none⟩) (hb b rfl hlt)).trans (hc j u hj)⟩
theorem RdK.grow (h : RdK w k v n xs) (g : Grow w w') : RdK w' k v n xs := h.other g.size fun b _ hlt => g.block b hlt
theorem RdK.form (h : RdK w k v n xs) : ∃ A c, v = .slice A n c ∧ n ≤ c ∧ c ≤ maxLen := by
  obtain ⟨A, c, rfl, h0, h1, h2, h3⟩ := h
  exact ⟨A, c, rfl, h1, h2⟩
theorem RdK.of_own {base : Nat} {e : TypeId} (h : w.ownsRow base e k v n xs) : RdK w k v n xs := by
  have h1 := h.1
  rcases id h.2 with ⟨rfl, rfl⟩ | ⟨g, cap, cur, rfl, hbg, hh, hnc, hcm, hcs, ht⟩
  · exact ⟨none, 0, rfl, h1, Nat.le_refl _, Nat.zero_le _, fun h => absurd h (by simp)⟩
  · refine ⟨_, cap, rfl, h1, hnc, hcm, fun hp => ⟨g, 0, rfl, (Array.getElem?_eq_some_iff.1 hh).1, fun j u hj => ?_⟩⟩
    have := World.ownsRow.cells h (g := g) rfl j u hj
    rwa [add_at] at this
/-- An own row stays where its block does. -/
theorem ownsRow_other {base : Nat} {e : TypeId} (h : w.ownsRow base e k v n xs) (hb : ∀ b cs, v.ownBlock = some b → w.heap[b]? = some (.cells cs e (0, 0)) → w'.heap[b]? = w.heap[b]?) : w'.ownsRow base e k v n xs := by
  refine ⟨h.1, ?_⟩
  rcases h.2 with h2 | ⟨g, cap, cur, rfl, e2, hh, r⟩
  · exact .inl h2
  · exact .inr ⟨g, cap, cur, rfl, e2, (hb g cur rfl hh).trans hh, r⟩
theorem ownsRow_base {base b' : Nat} {e : TypeId} (h : w.ownsRow base e k v n xs) (hb : b' ≤ base) : w.ownsRow b' e k v n xs := by
  obtain ⟨h1, h2⟩ := h
  refine ⟨h1, ?_⟩
  rcases h2 with h2 | ⟨g, cap, cur, e1, e2, r⟩
  · exact .inl h2
  · exact .inr ⟨g, cap, cur, e1, by omega, r⟩
theorem ownsRow_one {base : Nat} {e : TypeId} (h : w.ownsRow base e k v n xs) : v.oneCell' = true := by
  rcases h.2 with ⟨rfl, _⟩ | ⟨b, cap, cur, rfl, _⟩ <;> rfl
/-- The block of an own row, and its cells. -/
theorem ownsRow_blk {base : Nat} {e : TypeId} (h : w.ownsRow base e k v n xs) {b : Nat} (hb : v.ownBlock = some b) : ∃ cs, w.heap[b]? = some (.cells cs e (0, 0)) ∧ base ≤ b := by
  rcases h.2 with ⟨rfl, _⟩ | ⟨g, cap, cur, rfl, e2, hh, r⟩
  · cases hb
  · cases hb
    exact ⟨cur, hh, e2⟩
end

/-- append(s, x...) onto an own row. -/
theorem run_appK {P : Program} (w : World) (base : Nat) (t ty e : TypeId) (z : Value) (k bytes : Nat) (ht : P.underlying t = some (.slice e)) (hi : (P.info? e).map (fun i => (i.zero, i.size, i.bytes)) = some (some z, k, bytes)) (hz : z.cells.size = k) (hk : 0 < k)
    (v : Value) (n : Nat) (xs : List Value) (hown : w.ownsRow base e k v n xs) (u : Value) (m : Nat) (ys : List Value) (hr : RdK w k u m ys) (h1 : ∀ y ∈ ys, y.oneCell' = true)
    (hbytes : (n + m) * bytes ≤ 140737488355328) (hlen : n + m ≤ maxLen) (hbase : base ≤ w.heap.size) :
    ∃ v' w', (Builtin.append_ #[t, t] ty #[v, u]).run P w = .ok v' w' ∧ w'.ownsRow base e k v' (n + m) (xs ++ ys) ∧ w.grownBy w' v.ownBlock ∧ (v'.ownBlock = v.ownBlock ∨ v'.ownBlock = some w.heap.size) := by
  obtain ⟨i, hi0, hz0, hz1, hz2⟩ := info_parts hi
  obtain ⟨A, c, rfl, hl, hlc, hcm, hcell⟩ := hr
  cases A with
  | none =>
    have hm : m = 0 := by
      rcases Nat.eq_zero_or_pos m with h0 | h0
      · exact h0
      · obtain ⟨b, off, e', _⟩ := hcell h0
        cases e'
    subst hm
    have hy : ys = [] := List.eq_nil_of_length_eq_zero (by simpa using hl)
    subst hy
    refine ⟨v, w, ?_, by simpa using hown, World.grownBy.refl _ _, .inl rfl⟩
    rcases hown.2 with ⟨rfl, rfl⟩ | ⟨g, cap, cur, rfl, _, _, hnc, _⟩
    · simp [Builtin.append_, run_underlying ht, sizeOf, typeInfo, hi0, Builtin.lenOf, Builtin.firstCells]
    · simp [Builtin.append_, run_underlying ht, sizeOf, typeInfo, hi0, Builtin.lenOf, Builtin.firstCells, hnc, storeCells]
  | some ad =>
    have hnews : ∀ j y, ys[j]? = some y → w.cell? (ad.add j) = some y := by
      intro j y hy
      have hj : 0 < m := by
        rcases Nat.eq_zero_or_pos m with h0 | h0
        · subst h0
          have : ys = [] := List.eq_nil_of_length_eq_zero (by simpa using hl)
          subst this
          simp at hy
        · exact h0
      obtain ⟨b, off, e', _, hc⟩ := hcell hj
      injection e' with e'
      subst e'
      rw [add_at]
      exact hc j y hy
    obtain ⟨v', w', hrun, h2, h3, _, h5⟩ := run_append_own_at (P := P) w base t ty e i _ k bytes ht hi0 hz0 hz1 hz2 hz hk v n xs hown ad m c ys hl hnews h1 hlen hbytes hbase
    exact ⟨v', w', hrun, h2, h3, h5⟩

theorem wpList_appK {P : Program} (w : World) {ops : Array Oper} {rest : List Oper} {o : Oper} {a : Act} {Q : Exit → Act → World → Prop} (hgd : o.guard = none) (s x : Operand) (t : TypeId)
    (ho : o.op = .call { callee := .builtin .append, args := #[s, x], argTypes := #[t, t] })
    (e : TypeId) (z : Value) (k bytes : Nat) (ht : P.underlying t = some (.slice e)) (hi : (P.info? e).map (fun i => (i.zero, i.size, i.bytes)) = some (some z, k, bytes)) (hz : z.cells.size = k) (hk : 0 < k)
    (base : Nat) (v u : Value) (n m : Nat) (xs ys : List Value) (hs : a.eval s = v) (hx : a.eval x = u) (hown : w.ownsRow base e k v n xs) (hr : RdK w k u m ys) (h1 : ∀ y ∈ ys, y.oneCell' = true)
    (hbytes : (n + m) * bytes ≤ 140737488355328) (hlen : n + m ≤ maxLen) (hbase : base ≤ w.heap.size)
    (h : ∀ v' w', w'.ownsRow base e k v' (n + m) (xs ++ ys) → w.grownBy w' v.ownBlock → (v'.ownBlock = v.ownBlock ∨ v'.ownBlock = some w.heap.size) → wpList P ops Q rest (a.put o.dst v') w') : wpList P ops Q (o :: rest) a w := by
  obtain ⟨v', w', hrun, h2, h3, h4⟩ := run_appK (P := P) w base t o.type e z k bytes ht hi hz hk v n xs hown u m ys hr h1 hbytes hlen hbase
  refine wpList_plain hgd fun K hK => ?_
  unfold Oper.wp execOp
  simp only [ho, resolve, invoke, builtin, Sem.run_bind, Sem.run_pure, Result.andThen_ok, List.map_toArray, List.map_cons, List.map_nil, hs, hx, hrun]
  exact hK _ _ (h v' w' h2 h3 h4)

/-- The same, as one step of a region that draws its order. -/
theorem step_appK {P : Program} (w : World) {ops : Array Oper} {o : Oper} {a : Act} {K : Act → World → Prop} {Q : Exit → Act → World → Prop} {E : Prop} (hgd : o.guard = none) (s x : Operand) (t : TypeId)
    (ho : o.op = .call { callee := .builtin .append, args := #[s, x], argTypes := #[t, t] })
    (e : TypeId) (z : Value) (k bytes : Nat) (ht : P.underlying t = some (.slice e)) (hi : (P.info? e).map (fun i => (i.zero, i.size, i.bytes)) = some (some z, k, bytes)) (hz : z.cells.size = k) (hk : 0 < k)
    (base : Nat) (v u : Value) (n m : Nat) (xs ys : List Value) (hs : a.eval s = v) (hx : a.eval x = u) (hown : w.ownsRow base e k v n xs) (hr : RdK w k u m ys) (h1 : ∀ y ∈ ys, y.oneCell' = true)
    (hbytes : (n + m) * bytes ≤ 140737488355328) (hlen : n + m ≤ maxLen) (hbase : base ≤ w.heap.size)
    (h : ∀ v' w', w'.ownsRow base e k v' (n + m) (xs ++ ys) → w.grownBy w' v.ownBlock → (v'.ownBlock = v.ownBlock ∨ v'.ownBlock = some w.heap.size) → K (a.put o.dst v') w') :
    if Region.wanted o (yielded ops a.tmps) = true then Oper.wp P o a w K Q else E := by
  have hw : Region.wanted o (yielded ops a.tmps) = true := by simp [Region.wanted, hgd]
  rw [if_pos hw]
  obtain ⟨v', w', hrun, h2, h3, h4⟩ := run_appK (P := P) w base t o.type e z k bytes ht hi hz hk v n xs hown u m ys hr h1 hbytes hlen hbase
  unfold Oper.wp execOp
  simp only [ho, resolve, invoke, builtin, Sem.run_bind, Sem.run_pure, Result.andThen_ok, List.map_toArray, List.map_cons, List.map_nil, hs, hx, hrun]
  exact h v' w' h2 h3 h4


/-- All blocks but g are as they were. -/
def But (g : Nat) (w w' : World) : Prop := w'.heap.size = w.heap.size ∧ ∀ b, b ≠ g → w'.heap[b]? = w.heap[b]?
theorem heap_setCell_own {w : World} {g k : Nat} {cs : Array Value} {t : TypeId} (h : w.heap[g]? = some (.cells cs t (0, 0))) (u : Value) : (w.setCell ⟨g, k, none⟩ u).heap[g]? = some (.cells (cs.setIfInBounds k u) t (0, 0)) := by
  simp [World.setCell, Array.getElem?_modify, h]
theorem frozen_of {w : World} {g o : Nat} {cs : Array Value} {t : TypeId} (h : w.heap[g]? = some (.cells cs t (0, 0))) : w.frozen? ⟨g, o, none⟩ = false := by
  unfold World.frozen?
  simp only [h]
  simp
/-- The type of what a block holds; maps have one number of their own. -/
def mapT : TypeId := 999999
def objT : Obj → Option TypeId
  | .cells _ T (0, 0) => some T
  | .map _ _ => some mapT
  | _ => none
/-- From base on, blocks of the types Z may have changed; all others are as they were. -/
structure Only (base : Nat) (Z : Nat → TypeId → Prop) (w w' : World) : Prop where
  low : Below base w w'
  keep : ∀ b o T, w.heap[b]? = some o → objT o = some T → ¬ Z b T → w'.heap[b]? = some o
section
variable {base : Nat} {Z Y : Nat → TypeId → Prop} {a b c : World}
theorem Only.refl (base : Nat) (Z : Nat → TypeId → Prop) (w : World) : Only base Z w w := ⟨Below.refl _ _, fun _ _ _ h _ _ => h⟩
theorem Only.trans (h : Only base Z a b) (k : Only base Z b c) : Only base Z a c :=
  ⟨h.low.trans k.low, fun i o T hi ht hz => k.keep i o T (h.keep i o T hi ht hz) ht hz⟩
theorem Only.mono (h : Only base Z a b) (hZ : ∀ i o T, a.heap[i]? = some o → objT o = some T → Z i T → Y i T) : Only base Y a b := ⟨h.low, fun i o T hi ht hy => h.keep i o T hi ht fun hz => hy (hZ i o T hi ht hz)⟩
theorem Only.grow (g : Grow a b) (hb : base ≤ a.heap.size) (Z : Nat → TypeId → Prop) : Only base Z a b :=
  ⟨g.mono hb, fun i o T hi _ _ => (g.block i (Array.getElem?_eq_some_iff.1 hi).1).trans hi⟩
theorem Only.size (h : Only base Z a b) : a.heap.size ≤ b.heap.size := h.low.size
theorem Only.grown {row : Option Nat} (h : a.grownBy b row) (hr : ∀ g, row = some g → base ≤ g ∧ ∀ o T, a.heap[g]? = some o → objT o = some T → Z g T) (hb : base ≤ a.heap.size) : Only base Z a b := by
  refine ⟨⟨h.os, h.tape, h.output, h.size, fun i hi => h.block i (by omega) fun e => ?_⟩, fun i o T hi ht hz => ?_⟩
  · have := (hr i e.symm).1
    omega
  · refine (h.block i (Array.getElem?_eq_some_iff.1 hi).1 fun e => ?_).trans hi
    exact hz ((hr i e.symm).2 o T hi ht)
theorem Only.set {g i : Nat} {cs : Array Value} {T : TypeId} (hg : a.heap[g]? = some (.cells cs T (0, 0))) (hb : base ≤ g) (hz : Z g T) (u : Value) : Only base Z a (a.setCell ⟨g, i, none⟩ u) := by
  refine ⟨(Below.refl base a).setCell hb u, fun j o T' hj ht hy => ?_⟩
  rw [Below.heap_setCell _ _ _ _ (fun e => ?_)]
  · exact hj
  · subst e
    rw [hg] at hj
    cases hj
    cases ht
    exact hy hz
theorem Only.cells {g : Nat} {cs : Array Value} {T : TypeId} (h : Only base Z a b) (hg : a.heap[g]? = some (.cells cs T (0, 0))) (hz : ¬ Z g T) : b.heap[g]? = some (.cells cs T (0, 0)) := h.keep g _ T hg rfl hz
theorem Only.row {e : TypeId} {k n bs : Nat} {v : Value} {xs : List Value} (h : Only base Z a b) (hr : a.ownsRow bs e k v n xs) (hz : ∀ g, v.ownBlock = some g → ¬ Z g e) : b.ownsRow bs e k v n xs :=
  ownsRow_other hr fun g cs hg hh => (h.cells hh (hz g hg)).trans hh.symm
end
end Go.Proofs.YtnoglbceaibjeaaDoor
/- A REGION THAT DRAWS ITS ORDER, whose own operations only read, and whose callees hand back one value and leave all old memory as it was: walked once. The class of worlds: those in which all of w reads as it did. Nothing here is trusted. -/
namespace Go.Proofs.YtnoglbceaibjeaaDoor
set_option linter.unusedVariables false
open Go.RowKit

/-- A world in which all that w holds reads as it did. -/
structure Gw (w : World) where
  v : World
  h : Grow w v
instance (w : World) : Inhabited (Gw w) := ⟨⟨w, Grow.refl w⟩⟩

theorem wp_region_gw {P : Program} {id : Nat} {Q : Exit → Act → World → Prop} {a : Act} {w : World} {l : List Oper} (hm : P.follows .mixedOrders = true) (hB : Region.lexB .any l.toArray = true)
    (h : wpQuiet P l.toArray (fun w' => ∃ p : Gw w, w' = p.v) (fun a' => ∀ w', (∃ p : Gw w, w' = p.v) → Q .normal a' w') l a) : (Code.region id l.toArray true).wp P Q a w :=
  wp_region_quiet (C := fun w' => ∃ p : Gw w, w' = p.v) hm hB ⟨⟨w.drew, Grow.drew w⟩, rfl⟩ (by simpa using h)

theorem Calls.gw {P : Program} {f : FuncId} {args : Array Value} {w : World} {p : Gw w} {v : Value} (h : Calls P f args p.v fun e w' => e = .returned v ∧ Grow p.v w') :
    Calls P f args p.v fun e w'' => e = .returned v ∧ ∃ q : Gw w, w'' = q.v :=
  h.mono fun _ w' ⟨he, hg⟩ => ⟨he, ⟨w', p.h.trans hg⟩, rfl⟩
theorem Calls.gw_same {P : Program} {f : FuncId} {args : Array Value} {w : World} {p : Gw w} {v : Value} (h : Calls P f args p.v fun e w' => e = .returned v ∧ p.v = w') :
    Calls P f args p.v fun e w'' => e = .returned v ∧ ∃ q : Gw w, w'' = q.v :=
  h.mono fun _ w' ⟨he, hg⟩ => ⟨he, p, hg.symm⟩
theorem Gw.cell {w : World} {a : Addr} {v : Value} (hb : a.block < w.heap.size) (h : w.cell? a = some v) (p : Gw w) : p.v.cell? a = some v := (p.h.cell hb).trans h
end Go.Proofs.YtnoglbceaibjeaaDoor
/- Contracts of the library at this translation, in plain words. -/
namespace Go.Proofs
open Go.Shelf
def Tryd.lays215_ren : Go.Shelf.Ren := ⟨fun | 215 => 44 | n => n, fun | 3 => 3 | 4 => 4 | n => n, fun | n => n⟩
theorem Tryd.lays215 : Go.Proofs.Lays.n215 Tryd.prog Tryd.lays215_ren := {
  mixed := by kernel_rfl
  f215 := Tryd.func44.trans (congrArg some (by kernel_rfl))
  t3 := Tryd.underlying3
  a3 := Tryd.isAgg3
  z3 := Tryd.sizeOf3
  v3 := Tryd.zeroValue3
  t4 := Tryd.underlying4
  a4 := Tryd.isAgg4
  z4 := Tryd.sizeOf4
  v4 := Tryd.zeroValue4 }
open Go.RowKit in
theorem Tryd.cmp_isNaN_int (x : Int) (w : World) :
    Calls Tryd.prog 44 #[.int .i64 x] w fun e w' => e = .returned (.bool false) ∧ w' = w := Any.cmp_isNaN_int Tryd.lays215 x w
def Tryd.lays122_ren : Go.Shelf.Ren := ⟨fun | 122 => 40 | 215 => 44 | n => n, fun | 3 => 3 | 4 => 4 | n => n, fun | n => n⟩
theorem Tryd.lays122 : Go.Proofs.Lays.n122 Tryd.prog Tryd.lays122_ren := {
  mixed := by kernel_rfl
  f122 := Tryd.func40.trans (congrArg some (by kernel_rfl))
  f215 := Tryd.func44.trans (congrArg some (by kernel_rfl))
  t3 := Tryd.underlying3
  a3 := Tryd.isAgg3
  z3 := Tryd.sizeOf3
  v3 := Tryd.zeroValue3
  t4 := Tryd.underlying4
  a4 := Tryd.isAgg4
  z4 := Tryd.sizeOf4
  v4 := Tryd.zeroValue4 }
open Go.RowKit in
theorem Tryd.cmp_Compare_int (x y : Int) (w : World) :
    Calls Tryd.prog 40 #[.int .i64 x, .int .i64 y] w fun e w' => e = .returned (.int .i64 (Lib.compareInt x y)) ∧ w' = w := Any.cmp_Compare_int Tryd.lays122 x y w
def Tryd.lays129_ren : Go.Shelf.Ren := ⟨fun | 129 => 41 | n => n, fun | 53 => 65 | 3 => 3 | 4 => 4 | 46 => 89 | 5 => 5 | 9 => 9 | n => n, fun | n => n⟩
theorem Tryd.lays129 : Go.Proofs.Lays.n129 Tryd.prog Tryd.lays129_ren := {
  mixed := by kernel_rfl
  f129 := Tryd.func41.trans (congrArg some (by kernel_rfl))
  t3 := Tryd.underlying3
  a3 := Tryd.isAgg3
  z3 := Tryd.sizeOf3
  v3 := Tryd.zeroValue3
  t4 := Tryd.underlying4
  a4 := Tryd.isAgg4
  z4 := Tryd.sizeOf4
  v4 := Tryd.zeroValue4
  t5 := Tryd.underlying5
  a5 := Tryd.isAgg5
  z5 := Tryd.sizeOf5
  v5 := Tryd.zeroValue5
  t9 := Tryd.underlying9
  a9 := Tryd.isAgg9
  z9 := Tryd.sizeOf9
  v9 := Tryd.zeroValue9
  t46 := Tryd.underlying89
  a46 := Tryd.isAgg89
  z46 := Tryd.sizeOf89
  v46 := Tryd.zeroValue89
  t53 := Tryd.underlying65
  a53 := Tryd.isAgg65
  z53 := Tryd.sizeOf65
  v53 := Tryd.zeroValue65 }
theorem Tryd.bits_Len64 (x : Int) (w : World) (h0 : 0 ≤ x) (h1 : x ≤ 18446744073709551615) :
    Calls Tryd.prog 41 #[.int .u64 x] w fun e w' => e = .returned (.int .i64 (Lib.bitLen x.toNat)) ∧ w' = w := Any.bits_Len64 Tryd.lays129 x w h0 h1
def Tryd.laysTz_ren : Go.Shelf.Ren := ⟨fun | 29 => 31 | n => n, fun | 22 => 65 | 3 => 3 | 4 => 4 | 25 => 89 | 54 => 88 | 0 => 0 | 5 => 5 | n => n, fun | 1 => 0 | n => n⟩
theorem Tryd.laysTz : Go.Proofs.Lays7.n29 Tryd.prog Tryd.laysTz_ren := {
  mixed := by kernel_rfl
  f29 := Tryd.func31.trans (congrArg some (by kernel_rfl))
  t0 := Tryd.underlying0
  a0 := Tryd.isAgg0
  z0 := Tryd.sizeOf0
  v0 := Tryd.zeroValue0
  i0 := by kernel_rfl
  t3 := Tryd.underlying3
  a3 := Tryd.isAgg3
  z3 := Tryd.sizeOf3
  v3 := Tryd.zeroValue3
  i3 := by kernel_rfl
  t4 := Tryd.underlying4
  a4 := Tryd.isAgg4
  z4 := Tryd.sizeOf4
  v4 := Tryd.zeroValue4
  i4 := by kernel_rfl
  t5 := Tryd.underlying5
  a5 := Tryd.isAgg5
  z5 := Tryd.sizeOf5
  v5 := Tryd.zeroValue5
  i5 := by kernel_rfl
  t22 := Tryd.underlying65
  a22 := Tryd.isAgg65
  z22 := Tryd.sizeOf65
  v22 := Tryd.zeroValue65
  i22 := by kernel_rfl
  t25 := Tryd.underlying89
  a25 := Tryd.isAgg89
  z25 := Tryd.sizeOf89
  v25 := Tryd.zeroValue89
  i25 := by kernel_rfl
  t54 := Tryd.underlying88
  a54 := Tryd.isAgg88
  z54 := Tryd.sizeOf88
  g1 := by kernel_rfl }
end Go.Proofs
