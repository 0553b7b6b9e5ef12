/- A REGION THAT DRAWS ITS ORDER, BY FACTS THAT STAY: each operation leaves a value of which one fact is known; a fact, once true, stays true while memory only grows. Then the order does not matter: one obligation for each operation, one for what stands behind the region. Nothing here is trusted. -/
import Derived.Orders
import Derived.Below
import Derived.RegionTactic
import Derived.Laws.OwnMore
import Derived.Laws.MakeOwn
import Derived.Laws.BytesArg
import Derived.Maps.AppendAt
import Derived.OwnWalk
import Derived.WalkKit
import Derived.Laws.BitsAllLaws
import Derived.Test.YtfjmcfkpbacicaaRows
import Derived.ProofKit
import Derived.OpenShut
import Derived.ShutString
import Derived.ChangeOld
import Derived.BigQuiet
import Derived.Deep.QuietTactic
import Derived.WalkSpells
import Derived.WalkLawsBesides
import Derived.Outline
import Derived.Lib.Hide
import Derived.Deep.DeepFit
namespace Go.Proofs.Ytfjmcfkpbacicaa
set_option linter.unusedVariables false
open Go.RowKit

/-- All that was there reads as it did. -/
def Grow (w w' : World) : Prop := Below w.heap.size w w'
theorem Grow.refl (w : World) : Grow w w := Below.refl _ _
theorem Grow.trans {a b c : World} (h : Grow a b) (k : Grow b c) : Grow a c := Below.trans h (Below.mono k h.size)
theorem Grow.drew (w : World) : Grow w w.drew := (Below.refl _ _).drew
theorem Grow.alloc (w : World) (o : Obj) : Grow w (w.alloc o) := (Below.refl _ _).alloc (Nat.le_refl _) o
theorem Grow.size {w w' : World} (h : Grow w w') : w.heap.size ≤ w'.heap.size := Below.size h
theorem Grow.cell {w w' : World} (h : Grow w w') {p : Addr} (hp : p.block < w.heap.size) : w'.cell? p = w.cell? p := Below.cell h hp
theorem Grow.frozen {w w' : World} (h : Grow w w') {p : Addr} (hp : p.block < w.heap.size) : w'.frozen? p = w.frozen? p := Below.frozen h hp

section
variable {P : Program}

/-- What an operation that came to this leaves: a value and a world, of which 'post' holds. -/
def looseUpon (P : Program) (post : Value → World → Prop) : Result Next → Prop
  | .ok (.value v) w' => post v w'
  | .ok .skip w' => post undef w'
  | .ok (.enter f args) w' => Calls P f args w' fun e w'' => ∃ v, e = .returned v ∧ post v w''
  | _ => False

@[go_sem] theorem looseUpon_value (post : Value → World → Prop) (v : Value) (w : World) : looseUpon P post (.ok (.value v) w) = post v w := rfl
@[go_sem] theorem looseUpon_skip (post : Value → World → Prop) (w : World) : looseUpon P post (.ok .skip w) = post undef w := rfl
@[go_sem] theorem looseUpon_enter (post : Value → World → Prop) (f : FuncId) (args : Array Value) (w : World) :
    looseUpon P post (.ok (.enter f args) w) = Calls P f args w fun e w'' => ∃ v, e = .returned v ∧ post v w'' := rfl

theorem wp_of_loose {o : Oper} {a : Act} {w : World} {K : Act → World → Prop} {Q : Exit → Act → World → Prop} {post : Value → World → Prop}
    (hK : ∀ v w', post v w' → K (a.put o.dst v) w') (h : looseUpon P post ((execOp a.eval o).run P w)) : o.wp P a w K Q := by
  unfold Oper.wp
  generalize (execOp a.eval o).run P w = r at *
  cases r with
  | ok n w' =>
    cases n <;> simp only [looseUpon] at h <;> simp only [Oper.upon]
    case value v => exact hK _ _ h
    case skip => exact hK _ _ h
    case enter f args => exact h.mono fun e w'' ⟨v, he, hp⟩ => by subst he; exact hK _ _ hp
  | halt x w' => simp only [looseUpon] at h

/-- The frame with the region's own slots filled by x. -/
def fillAct (x : Tmp → Value) : List Oper → Act → Act
  | [], a => a
  | o :: r, a => fillAct x r (a.put o.dst (x (o.dst.getD 0)))

@[go_sem] theorem fillAct_nil (x : Tmp → Value) (a : Act) : fillAct x [] a = a := rfl
@[go_sem] theorem fillAct_cons (x : Tmp → Value) (o : Oper) (r : List Oper) (a : Act) : fillAct x (o :: r) a = fillAct x r (a.put o.dst (x (o.dst.getD 0))) := rfl

/-- What an operation left: its slot's value. -/
def leftBy (x : Tmp → Value) (o : Oper) : Value := match o.dst with | some d => x d | none => undef

/-- What counts of its value: nothing where it writes no slot. -/
def leftAs (o : Oper) (v : Value) : Value := match o.dst with | some _ => v | none => undef

def bindsOn (md : Region.Mode) (o : Oper) : List Nat := (o.after.toList.filter (Region.binds md)).map (·.on)

/-- Each operation waits for earlier ones alone; no two write one slot; no slot lies outside the frame. -/
def looseOk (md : Region.Mode) (ops : Array Oper) (size : Nat) : Bool :=
  (ops.toList.zipIdx.all fun (o, i) => (bindsOn md o).all fun j => j < i) &&
  (ops.toList.zipIdx.all fun (o, i) => match o.dst with
    | none => true
    | some d => d < size && ops.toList.zipIdx.all fun (o', j) => i == j || o'.dst != some d)

theorem fillAct_defers (x : Tmp → Value) : ∀ (l : List Oper) (a : Act), (fillAct x l a).defers = a.defers
  | [], _ => rfl
  | o :: r, a => by rw [fillAct, fillAct_defers x r]; cases o.dst <;> rfl
theorem put_size (a : Act) (d : Option Tmp) (v : Value) : (a.put d v).tmps.size = a.tmps.size := by cases d <;> simp [Act.put]
theorem fillAct_size (x : Tmp → Value) : ∀ (l : List Oper) (a : Act), (fillAct x l a).tmps.size = a.tmps.size
  | [], _ => rfl
  | o :: r, a => by rw [fillAct, fillAct_size x r, put_size]
theorem fillAct_off (x : Tmp → Value) : ∀ (l : List Oper) (a : Act) (t : Nat), (∀ o ∈ l, o.dst ≠ some t) → (fillAct x l a).tmps[t]? = a.tmps[t]?
  | [], _, _, _ => rfl
  | o :: r, a, t, h => by
    rw [fillAct, fillAct_off x r _ t fun o' ho => h o' (List.mem_cons_of_mem _ ho)]
    have h0 := h o List.mem_cons_self
    cases hd : o.dst with
    | none => rfl
    | some d =>
      have : d ≠ t := fun e => h0 (by rw [hd, e])
      simp [Act.put, Array.getElem?_setIfInBounds_ne this]
theorem fillAct_on (x : Tmp → Value) : ∀ (l : List Oper) (a : Act) (t : Nat), t < a.tmps.size → (∃ o ∈ l, o.dst = some t) → (fillAct x l a).tmps[t]? = some (x t)
  | [], _, _, _, h => by obtain ⟨_, h, _⟩ := h; cases h
  | o :: r, a, t, hs, h => by
    rw [fillAct]
    by_cases hr : ∃ o' ∈ r, o'.dst = some t
    · exact fillAct_on x r _ t (by rw [put_size]; exact hs) hr
    · obtain ⟨o', ho', hd⟩ := h
      have ho : o.dst = some t := by
        rcases List.mem_cons.1 ho' with rfl | h'
        · exact hd
        · exact absurd ⟨o', h', hd⟩ hr
      rw [fillAct_off x r _ t fun o'' h'' e => hr ⟨o'', h'', e⟩, ho]
      simp [Act.put, hs]
theorem act_ext {a b : Act} (h1 : a.tmps.size = b.tmps.size) (h2 : ∀ t, t < a.tmps.size → a.tmps[t]? = b.tmps[t]?) (h3 : a.defers = b.defers) : a = b := by
  obtain ⟨ta, da⟩ := a
  obtain ⟨tb, db⟩ := b
  simp only at h1 h2 h3
  subst h3
  congr 1
  apply Array.ext h1
  intro i hi hi'
  have := h2 i hi
  rw [Array.getElem?_eq_getElem hi, Array.getElem?_eq_getElem hi'] at this
  exact Option.some.inj this

theorem fillAct_put (x : Tmp → Value) (l : List Oper) (a : Act) (d : Nat) (v : Value) (hd : ∃ o ∈ l, o.dst = some d) (hs : d < a.tmps.size) :
    (fillAct x l a).put (some d) v = fillAct (fun t => if t = d then v else x t) l a := by
  apply act_ext
  · rw [put_size, fillAct_size, fillAct_size]
  · intro t ht
    rw [put_size, fillAct_size] at ht
    by_cases htd : t = d
    · subst htd
      rw [fillAct_on _ l a t hs hd]
      simp [Act.put, fillAct_size, hs]
    · have h1 : ((fillAct x l a).put (some d) v).tmps[t]? = (fillAct x l a).tmps[t]? := by
        simp [Act.put, Array.getElem?_setIfInBounds_ne (Ne.symm htd)]
      rw [h1]
      by_cases hl : ∃ o ∈ l, o.dst = some t
      · rw [fillAct_on x l a t ht hl, fillAct_on _ l a t ht hl, if_neg htd]
      · have hno : ∀ o ∈ l, o.dst ≠ some t := fun o ho e => hl ⟨o, ho, e⟩
        rw [fillAct_off x l a t hno, fillAct_off _ l a t hno]
  · cases hl : fillAct x l a
    simp only [Act.put]
    have e1 := fillAct_defers x l a
    rw [hl] at e1
    rw [fillAct_defers]
    exact e1

/-- How many have not come up. -/
def unl (listed : Array Bool) : Nat → Nat
  | 0 => 0
  | n + 1 => unl listed n + (if listed.getD n true = true then 0 else 1)
theorem unl_set_le (listed : Array Bool) (i : Nat) : ∀ n, unl (listed.setIfInBounds i true) n ≤ unl listed n
  | 0 => Nat.le_refl _
  | n + 1 => by
    have := unl_set_le listed i n
    simp only [unl]
    by_cases hi : i = n
    · subst hi
      by_cases hs : i < listed.size
      · have : (listed.setIfInBounds i true).getD i true = true := by simp [hs]
        rw [if_pos this]; omega
      · have : (listed.setIfInBounds i true).getD i true = true := by simp [hs]
        rw [if_pos this]; omega
    · rw [getD_set_ne true hi]; omega
theorem unl_set (listed : Array Bool) (i : Nat) (h : listed.getD i true = false) : ∀ n, i < n → unl (listed.setIfInBounds i true) n + 1 ≤ unl listed n
  | 0, hn => absurd hn (Nat.not_lt_zero _)
  | n + 1, hn => by
    simp only [unl]
    by_cases hi : i = n
    · subst hi
      have h1 := unl_set_le listed i i
      have hs : i < listed.size := by
        rcases Nat.lt_or_ge i listed.size with h' | h'
        · exact h'
        · simp [Array.getElem?_eq_none h'] at h
      have e : (listed.setIfInBounds i true).getD i true = true := by simp [hs]
      rw [if_pos e, if_neg (by rw [h]; simp)]; omega
    · have h1 := unl_set listed i h n (by omega)
      rw [getD_set_ne true hi]; omega
theorem unl_zero (listed : Array Bool) : ∀ n, unl listed n = 0 → ∀ i, i < n → listed.getD i true = true
  | 0, _, _, hi => absurd hi (Nat.not_lt_zero _)
  | n + 1, h, i, hi => by
    simp only [unl] at h
    by_cases e : i = n
    · subst e
      by_cases hb : listed.getD i true = true
      · exact hb
      · rw [if_neg hb] at h; omega
    · exact unl_zero listed n (by omega) i (by omega)

variable {ops : Array Oper} {Q : Exit → Act → World → Prop} {md : Region.Mode}

theorem looseOk_before {size : Nat} (hk : looseOk md ops size = true) {i : Nat} {o : Oper} (ho : ops[i]? = some o) : ∀ e ∈ o.after, Region.binds md e = true → e.on < i := by
  intro e he hb
  simp only [looseOk, Bool.and_eq_true, List.all_eq_true] at hk
  have h1 := hk.1 (o, i) (by
    rw [List.mem_zipIdx_iff_getElem?]
    simpa using ho)
  have h2 := h1 e.on (by
    unfold bindsOn
    exact List.mem_map.2 ⟨e, List.mem_filter.2 ⟨by simpa using he, hb⟩, rfl⟩)
  simpa using h2
theorem looseOk_slot {size : Nat} (hk : looseOk md ops size = true) {i : Nat} {o : Oper} {d : Nat} (ho : ops[i]? = some o) (hd : o.dst = some d) :
    d < size ∧ ∀ (j : Nat) (o' : Oper), ops[j]? = some o' → i ≠ j → o'.dst ≠ some d := by
  simp only [looseOk, Bool.and_eq_true, List.all_eq_true] at hk
  have h1 := hk.2 (o, i) (by
    rw [List.mem_zipIdx_iff_getElem?]
    simpa using ho)
  simp only [hd, Bool.and_eq_true, decide_eq_true_eq, List.all_eq_true] at h1
  refine ⟨h1.1, fun j o' ho' hij e => ?_⟩
  have h2 := h1.2 (o', j) (by
    rw [List.mem_zipIdx_iff_getElem?]
    simpa using ho')
  simp [hij, e] at h2

theorem all_listed {size : Nat} (hk : looseOk md ops size = true) {listed : Array Bool} (hr : Region.ready md ops listed = []) :
    ∀ (i : Nat), i < ops.size → listed.getD i true = true := by
  intro i
  induction i using Nat.strongRecOn with
  | _ i ih =>
    intro hi
    by_cases hb : listed.getD i true = true
    · exact hb
    · exfalso
      have ho : ops[i]? = some ops[i] := Array.getElem?_eq_getElem hi
      have hm : i ∈ Region.ready md ops listed := by
        rw [mem_ready]
        refine ⟨by simpa using hb, ops[i], ho, fun e he hbe => ?_⟩
        have hlt := looseOk_before hk ho e he hbe
        have h1 := ih e.on hlt (by omega)
        have hs : i < listed.size := by
          rcases Nat.lt_or_ge i listed.size with h' | h'
          · exact h'
          · simp [Array.getElem?_eq_none h'] at hb
        have hs' : e.on < listed.size := by omega
        simpa [hs'] using h1
      rw [hr] at hm
      cases hm

/-- What is asked of each operation: 'A x': the frame with the region's own slots filled by x. -/
def looseStep (P : Program) (md : Region.Mode) (ops : Array Oper) (A : (Tmp → Value) → Act) (w₀ : World) (F : Nat → Value → World → Prop) (i : Nat) (o : Oper) : Prop :=
  ∀ (x : Tmp → Value) (w : World), Grow w₀ w → (∀ j ∈ bindsOn md o, ∀ o', ops[j]? = some o' → F j (leftBy x o') w) → ∀ post : Value → World → Prop, (∀ v w', Grow w w' → F i (leftAs o v) w' → post v w') →
    if Region.wanted o (yielded ops (A x).tmps) = true then looseUpon P post ((execOp (A x).eval o).run P w) else post undef w

def looseSteps (P : Program) (md : Region.Mode) (ops : Array Oper) (A : (Tmp → Value) → Act) (w₀ : World) (F : Nat → Value → World → Prop) : Nat → List Oper → Prop
  | _, [] => True
  | i, o :: r => looseStep P md ops A w₀ F i o ∧ looseSteps P md ops A w₀ F (i + 1) r

theorem looseSteps_at {A : (Tmp → Value) → Act} {w₀ : World} {F : Nat → Value → World → Prop} : ∀ (l : List Oper) (k : Nat), looseSteps P md ops A w₀ F k l → ∀ (i : Nat) (o : Oper), l[i]? = some o → looseStep P md ops A w₀ F (k + i) o
  | [], _, _, _, _, h => by simp at h
  | o' :: r, k, hs, 0, o, h => by
    simp at h
    subst h
    exact hs.1
  | o' :: r, k, hs, i + 1, o, h => by
    have := looseSteps_at r (k + 1) hs.2 i o (by simpa using h)
    rwa [show k + 1 + i = k + (i + 1) from by omega] at this

theorem wpAny_loose {a₀ : Act} {w₀ : World} {F : Nat → Value → World → Prop} (hk : looseOk md ops a₀.tmps.size = true)
    (hF : ∀ i v w w', Grow w w' → F i v w → F i v w') (hs : looseSteps P md ops (fun x => fillAct x ops.toList a₀) w₀ F 0 ops.toList)
    (fin : ∀ (x : Tmp → Value) (w : World), Grow w₀ w → (∀ (j : Nat) o', ops[j]? = some o' → F j (leftBy x o') w) → Q .normal (fillAct x ops.toList a₀) w) :
    ∀ (fuel : Nat) (listed : Array Bool) (x : Tmp → Value) (w : World), unl listed ops.size ≤ fuel → Grow w₀ w →
      (∀ i o, ops[i]? = some o → listed.getD i true = true → F i (leftBy x o) w) → wpAny P md ops Q fuel listed (fillAct x ops.toList a₀) w := by
  have done : ∀ (listed : Array Bool) (x : Tmp → Value) (w : World), Grow w₀ w → (∀ i o, ops[i]? = some o → listed.getD i true = true → F i (leftBy x o) w) →
      Region.ready md ops listed = [] → Q .normal (fillAct x ops.toList a₀) w := fun listed x w hg hf hr =>
    fin x w hg (fun j o ho => hf j o ho (all_listed hk hr j (Array.getElem?_eq_some_iff.1 ho).1))
  intro fuel
  induction fuel with
  | zero =>
    intro listed x w hu hg hf
    have hr : Region.ready md ops listed = [] := by
      rw [List.eq_nil_iff_forall_not_mem]
      intro j hj
      obtain ⟨h0, o, ho, _⟩ := mem_ready.1 hj
      have := unl_zero listed ops.size (by omega) j (Array.getElem?_eq_some_iff.1 ho).1
      rw [this] at h0
      cases h0
    exact ⟨hr, done listed x w hg hf hr⟩
  | succ fuel ih =>
    intro listed x w hu hg hf
    refine ⟨fun hr => done listed x w hg hf hr, fun i hi => ?_⟩
    obtain ⟨h0, o, ho, hall⟩ := mem_ready.1 hi
    have hilt : i < ops.size := (Array.getElem?_eq_some_iff.1 ho).1
    have hst := looseSteps_at ops.toList 0 hs i o (by simpa using ho)
    rw [Nat.zero_add] at hst
    have hdeps : ∀ j ∈ bindsOn md o, ∀ o', ops[j]? = some o' → F j (leftBy x o') w := fun j hj o' ho' => by
      unfold bindsOn at hj
      obtain ⟨e, he, rfl⟩ := List.mem_map.1 hj
      obtain ⟨he1, he2⟩ := List.mem_filter.1 he
      have h1 := hall e (by simpa using he1) he2
      have hs' : e.on < listed.size := by
        rcases Nat.lt_or_ge e.on listed.size with h' | h'
        · exact h'
        · simp [Array.getElem?_eq_none h'] at h1
      exact hf e.on o' ho' (by simpa [hs'] using h1)
    have next : ∀ v w', Grow w w' → F i (leftAs o v) w' → wpAny P md ops Q fuel (listed.setIfInBounds i true) ((fillAct x ops.toList a₀).put o.dst v) w' := by
      intro v w' hg' hv
      have hun := unl_set listed i h0 ops.size hilt
      cases hd : o.dst with
      | none =>
        refine ih _ x w' (by omega) (hg.trans hg') fun j o' ho' hl => ?_
        by_cases hij : i = j
        · subst hij
          rw [ho] at ho'
          cases ho'
          simpa [leftBy, leftAs, hd] using hv
        · rw [getD_set_ne true hij] at hl
          exact hF _ _ _ _ hg' (hf j o' ho' hl)
      | some d =>
        obtain ⟨hds, hdn⟩ := looseOk_slot hk ho hd
        rw [fillAct_put x ops.toList a₀ d v ⟨o, by simpa using Array.mem_of_getElem? ho, hd⟩ hds]
        refine ih _ _ w' (by omega) (hg.trans hg') fun j o' ho' hl => ?_
        by_cases hij : i = j
        · subst hij
          rw [ho] at ho'
          cases ho'
          simpa [leftBy, leftAs, hd] using hv
        · rw [getD_set_ne true hij] at hl
          have hne := hdn j o' ho' hij
          have : leftBy (fun t => if t = d then v else x t) o' = leftBy x o' := by
            unfold leftBy
            cases hd' : o'.dst with
            | none => rfl
            | some d' =>
              have : d' ≠ d := fun e => hne (by rw [hd', e])
              simp [this]
          rw [this]
          exact hF _ _ _ _ hg' (hf j o' ho' hl)
    have h1 := hst x w hg hdeps (fun v w' => wpAny P md ops Q fuel (listed.setIfInBounds i true) ((fillAct x ops.toList a₀).put o.dst v) w') next
    unfold wpOp
    rw [ho]
    show if Region.wanted o (yielded ops (fillAct x ops.toList a₀).tmps) = true then _ else _
    split
    · rename_i hw
      rw [if_pos hw] at h1
      exact .inl (wp_of_loose (fun _ _ h => h) h1)
    · rename_i hw
      rw [if_neg hw] at h1
      exact h1

theorem fillAct_own (a : Act) (l : List Oper) (h : ∀ o ∈ l, ∀ d, o.dst = some d → d < a.tmps.size) : fillAct (fun t => a.tmps.getD t undef) l a = a := by
  apply act_ext
  · exact fillAct_size _ _ _
  · intro t ht
    rw [fillAct_size] at ht
    by_cases hl : ∃ o ∈ l, o.dst = some t
    · rw [fillAct_on _ l a t ht hl]
      simp [ht]
    · exact fillAct_off _ l a t fun o ho e => hl ⟨o, ho, e⟩
  · exact fillAct_defers _ _ _

/-- Facts in a list, one for each operation. -/
def inList (Fs : List (Value → World → Prop)) (i : Nat) (v : Value) (w : World) : Prop := ((Fs[i]?).getD fun _ _ => True) v w
def stays (f : Value → World → Prop) : Prop := ∀ v w w', Grow w w' → f v w → f v w'
theorem inList_stays {Fs : List (Value → World → Prop)} (h : ∀ f ∈ Fs, stays f) : ∀ i v w w', Grow w w' → inList Fs i v w → inList Fs i v w' := by
  intro i v w w' hg hi
  unfold inList at *
  cases hf : Fs[i]? with
  | none => trivial
  | some f =>
    rw [hf] at hi
    exact h f (List.mem_of_getElem? hf) v w w' hg hi
def isV (u : Value) (v : Value) (_ : World) : Prop := v = u
theorem isV_stays (u : Value) : stays (isV u) := fun _ _ _ _ h => h

/-- **A region that draws its order, by facts that stay.** -/
theorem wp_region_loose {id : Nat} {a : Act} {w : World} {A : (Tmp → Value) → Act} (F : Nat → Value → World → Prop) (hm : P.follows .mixedOrders = true) (hk : looseOk .any ops a.tmps.size = true)
    (hF : ∀ i v w w', Grow w w' → F i v w → F i v w') (hA : ∀ x, fillAct x ops.toList a = A x) (hs : looseSteps P .any ops A w F 0 ops.toList)
    (fin : ∀ (x : Tmp → Value) (w' : World), Grow w w' → (∀ (j : Nat) o', ops[j]? = some o' → F j (leftBy x o') w') → Q .normal (A x) w') :
    (Code.region id ops true).wp P Q a w := by
  obtain rfl : (fun x => fillAct x ops.toList a) = A := funext hA
  refine wp_region_any hm ?_
  have h := wpAny_loose (Q := Q) hk hF hs fin ops.size (Array.replicate ops.size false) (fun t => a.tmps.getD t undef) w.drew ?_ (Grow.drew w) ?_
  · rw [fillAct_own a ops.toList fun o ho d hd => ?_] at h
    · exact h
    · obtain ⟨i, hi⟩ := List.getElem?_of_mem ho
      exact (looseOk_slot hk (i := i) (by simpa using hi) hd).1
  · have : ∀ n, unl (Array.replicate ops.size false) n ≤ n := fun n => by
      induction n with
      | zero => exact Nat.le_refl _
      | succ n ih => simp only [unl]; split <;> omega
    exact this _
  · intro i o ho hl
    have hi : i < ops.size := (Array.getElem?_eq_some_iff.1 ho).1
    simp [hi] at hl
end
end Go.Proofs.Ytfjmcfkpbacicaa
/- SLICES THAT READ AS LISTS: nil, empty and other slices by one word ('Rd'; of bytes: 'Byt'); kept while memory only grows; a cut; an append onto a row of the call's own; the conversion of bytes to a string. Nothing here is trusted. -/
namespace Go.Proofs.Ytfjmcfkpbacicaa
set_option linter.unusedVariables false
open Go.RowKit

/-- The slice v reads as xs (elements of one cell each). -/
def Rd (w : World) (v : Value) (xs : List Value) : Prop :=
  ∃ A c, v = .slice A xs.length c ∧ xs.length ≤ c ∧ c ≤ maxLen ∧
    (0 < xs.length → ∃ b off, A = some ⟨b, off, none⟩ ∧ b < w.heap.size ∧ ∀ j (h : j < xs.length), w.cell? ⟨b, off + j, none⟩ = some xs[j])

def bv (u : UInt8) : Value := .int .u8 (u.toNat : Int)
/-- The slice of bytes v reads as l. -/
def Byt (w : World) (v : Value) (l : List UInt8) : Prop := Rd w v (l.map bv)

section
variable {w w' : World} {v : Value} {xs : List Value}
theorem Rd.mk_ {A : Option Addr} {n c : Nat} (hn : n = xs.length) (h1 : n ≤ c) (h2 : c ≤ maxLen)
    (h3 : 0 < n → ∃ b off, A = some ⟨b, off, none⟩ ∧ b < w.heap.size ∧ ∀ j (h : j < xs.length), w.cell? ⟨b, off + j, none⟩ = some xs[j]) : Rd w (.slice A n c) xs := by
  subst hn
  exact ⟨A, c, rfl, h1, h2, h3⟩
theorem Rd.nil (w : World) : Rd w (.slice none 0 0) [] := ⟨none, 0, rfl, Nat.le_refl _, Nat.zero_le _, fun h => absurd h (by simp)⟩
theorem Rd.grow (h : Rd w v xs) (g : Grow w w') : Rd w' v xs := by
  obtain ⟨A, c, rfl, h1, h2, h3⟩ := h
  refine ⟨A, c, rfl, h1, h2, fun hp => ?_⟩
  obtain ⟨b, off, rfl, hb, hc⟩ := h3 hp
  exact ⟨b, off, rfl, Nat.lt_of_lt_of_le hb g.size, fun j hj => (g.cell (p := ⟨b, off + j, none⟩) hb).trans (hc j hj)⟩
theorem Rd.below {B : Nat} {A : Option Addr} {n c : Nat} (h : Rd w (.slice A n c) xs) (hb : Below B w w') (hA : ∀ a, A = some a → a.block < B) : Rd w' (.slice A n c) xs := by
  obtain ⟨A', c', e, h1, h2, h3⟩ := h
  cases e
  refine ⟨A, c, rfl, h1, h2, fun hp => ?_⟩
  obtain ⟨b, off, rfl, hlt, hc⟩ := h3 hp
  exact ⟨b, off, rfl, Nat.lt_of_lt_of_le hlt hb.size, fun j hj => (hb.cell (p := ⟨b, off + j, none⟩) (show b < B from hA ⟨b, off, none⟩ rfl)).trans (hc j hj)⟩
/-- What lies below B and reads there, reads on. -/
theorem Rd.since {w0 : World} (h : Rd w0 v xs) (hb : Below w0.heap.size w0 w') : Rd w' v xs := h.grow hb
theorem Rd.len {A : Option Addr} {n c : Nat} (h : Rd w (.slice A n c) xs) : n = xs.length ∧ n ≤ c ∧ c ≤ maxLen := by
  obtain ⟨A', c', e, h1, h2, _⟩ := h
  cases e
  exact ⟨rfl, h1, h2⟩
theorem Rd.at_ {A : Option Addr} {n c : Nat} (h : Rd w (.slice A n c) xs) (hp : 0 < n) : ∃ b off, A = some ⟨b, off, none⟩ ∧ b < w.heap.size ∧ ∀ j (h : j < xs.length), w.cell? ⟨b, off + j, none⟩ = some xs[j] := by
  obtain ⟨A', c', e, h1, h2, h3⟩ := h
  cases e
  exact h3 hp
theorem Rd.cut {A : Option Addr} {n c lo hi : Nat} (h : Rd w (.slice A n c) xs) (h1 : lo ≤ hi) (h2 : hi ≤ n) :
    Rd w (.slice (if c = lo then A else A.map (·.add lo)) (hi - lo) (c - lo)) ((xs.take hi).drop lo) := by
  obtain ⟨rfl, hc, hm⟩ := h.len
  have hl : ((xs.take hi).drop lo).length = hi - lo := by rw [List.length_drop, List.length_take]; omega
  refine Rd.mk_ hl.symm (by omega) (by omega) fun hp => ?_
  obtain ⟨b, off, rfl, hb, hcell⟩ := h.at_ (by omega)
  rw [if_neg (by omega)]
  refine ⟨b, off + lo, ?_, hb, fun j hj => ?_⟩
  · by_cases h0 : lo = 0
    · subst h0; simp [Addr.add]
    · simp [Addr.add, h0]
  · rw [hl] at hj
    rw [show off + lo + j = off + (lo + j) from by omega, hcell (lo + j) (by omega)]
    simp
theorem Rd.of_own {base : Nat} {e : TypeId} {n : Nat} (h : w.ownsRow base e 1 v n xs) : Rd w v xs := by
  have hl : xs.length = n := by simpa using h.1
  rcases h.2 with ⟨rfl, rfl⟩ | ⟨g, cap, cur, rfl, hbg, hh, hnc, hcm, hcs, ht⟩
  · obtain rfl : xs = [] := List.eq_nil_of_length_eq_zero hl
    exact Rd.nil w
  · refine Rd.mk_ hl.symm hnc hcm fun hp => ⟨g, 0, rfl, ?_, fun j hj => ?_⟩
    · rcases Nat.lt_or_ge g w.heap.size with h' | h'
      · exact h'
      · rw [Array.getElem?_eq_none h'] at hh; cases hh
    · have := h.cells (g := g) rfl j xs[j] (List.getElem?_eq_getElem hj)
      rw [Nat.zero_add]
      by_cases h0 : j = 0
      · subst h0; simpa [Addr.add] using this
      · simpa [Addr.add, h0] using this
/-- A block of the call's own, just made. -/
theorem Rd.block {g n c : Nat} {cs : Array Value} {e : TypeId} (hh : w.heap[g]? = some (.cells cs e (0, 0))) (hn : n ≤ cs.size) (hc : n ≤ c) (hm : c ≤ maxLen) : Rd w (.slice (some ⟨g, 0, none⟩) n c) (cs.toList.take n) := by
  have hl : (cs.toList.take n).length = n := by simp; omega
  refine Rd.mk_ hl.symm hc hm fun hp => ⟨g, 0, rfl, ?_, fun j hj => ?_⟩
  · rcases Nat.lt_or_ge g w.heap.size with h' | h'
    · exact h'
    · rw [Array.getElem?_eq_none h'] at hh; cases hh
  · rw [hl] at hj
    rw [Nat.zero_add, cell_of_row w g j cs e (0, 0) hh]
    simp [Array.getElem?_eq_getElem (show j < cs.size by omega)]
end

section
variable {w w' : World} {v : Value} {l : List UInt8}
theorem Byt.grow (h : Byt w v l) (g : Grow w w') : Byt w' v l := Rd.grow h g
theorem Byt.nil (w : World) : Byt w (.slice none 0 0) [] := Rd.nil w
theorem Byt.form (h : Byt w v l) : ∃ A c, v = .slice A l.length c ∧ l.length ≤ c ∧ c ≤ maxLen := by
  obtain ⟨A, c, rfl, h1, h2, _⟩ := h
  exact ⟨A, c, by simp, by simpa using h1, h2⟩
theorem Byt.len {A : Option Addr} {n c : Nat} (h : Byt w (.slice A n c) l) : n = l.length ∧ n ≤ c ∧ c ≤ maxLen := by simpa using Rd.len h
theorem Byt.at_ {A : Option Addr} {n c : Nat} (h : Byt w (.slice A n c) l) (hp : 0 < n) : ∃ b off, A = some ⟨b, off, none⟩ ∧ b < w.heap.size ∧ ∀ j (h : j < l.length), w.cell? ⟨b, off + j, none⟩ = some (.int .u8 ((l[j]).toNat : Int)) := by
  obtain ⟨b, off, e, hb, hc⟩ := Rd.at_ h hp
  exact ⟨b, off, e, hb, fun j hj => by rw [hc j (by simpa using hj), List.getElem_map]; rfl⟩
theorem Byt.cut {A : Option Addr} {n c lo hi : Nat} (h : Byt w (.slice A n c) l) (h1 : lo ≤ hi) (h2 : hi ≤ n) :
    Byt w (.slice (if c = lo then A else A.map (·.add lo)) (hi - lo) (c - lo)) ((l.take hi).drop lo) := by
  have := Rd.cut h h1 h2
  simpa [Byt, List.map_drop, List.map_take] using this
/-- The cut as the walk parts on it. -/
theorem Byt.cut2 {A : Option Addr} {n c k m : Nat} (h : Byt w (.slice A n c) l) (h1 : k + m ≤ n) :
    (c = k → Byt w (.slice A m 0) ((l.take (k + m)).drop k)) ∧ (¬ c = k → Byt w (.slice (A.map (·.add k)) m (c - k)) ((l.take (k + m)).drop k)) := by
  have h2 := h.cut (lo := k) (hi := k + m) (by omega) h1
  rw [Nat.add_sub_cancel_left] at h2
  refine ⟨fun e => ?_, fun e => ?_⟩
  · rw [if_pos e, e, Nat.sub_self] at h2
    exact h2
  · rw [if_neg e] at h2
    exact h2
theorem Byt.front {A : Option Addr} {n c k : Nat} (h : Byt w (.slice A n c) l) (hk : k ≤ n) : Byt w (.slice A k c) (l.take k) := by
  have h2 : Rd w (.slice A n c) (l.map bv) := h
  obtain ⟨e, hc, hm⟩ := h2.len
  have e1 : ((l.take k).map bv).length = k := by rw [List.length_map, List.length_take]; rw [List.length_map] at e; omega
  refine Rd.mk_ e1.symm (by omega) hm fun hp => ?_
  obtain ⟨b, off, rfl, hb, hcell⟩ := h2.at_ (by omega)
  refine ⟨b, off, rfl, hb, fun j hj => ?_⟩
  rw [hcell j (by rw [e1] at hj; omega)]
  simp
theorem Byt.back {A : Option Addr} {n c k : Nat} (h : Byt w (.slice A n c) l) (hk : k ≤ n) (hc : ¬ c = k) : Byt w (.slice (A.map (·.add k)) (n - k) (c - k)) (l.drop k) := by
  have h2 := h.cut hk (Nat.le_refl n)
  rw [if_neg hc] at h2
  have e := h.len.1
  subst e
  rw [List.take_length] at h2
  exact h2
theorem Byt.back0 {A : Option Addr} {n c k : Nat} (h : Byt w (.slice A n c) l) (hk : k ≤ n) (hc : c = k) : Byt w (.slice A (n - k) (c - k)) (l.drop k) := by
  have h2 := h.cut hk (Nat.le_refl n)
  rw [if_pos hc] at h2
  have e := h.len.1
  subst e
  rw [List.take_length] at h2
  exact h2
theorem Byt.of_own {base : Nat} {e : TypeId} {n : Nat} (h : w.ownsRow base e 1 v n (l.map bv)) : Byt w v l := Rd.of_own h

/-- string(b). -/
theorem Byt.str {P : Program} (h : Byt w v l) (src dst e : TypeId) (hs : P.underlying src = some (.slice e)) (he : P.underlying e = some (.int .u8)) (hd : P.underlying dst = some .string) :
    (convert src dst v).run P w = .ok (.string ⟨l.toArray⟩) w := by
  obtain ⟨A, c, rfl, h1, h2⟩ := h.form
  rcases Nat.eq_zero_or_pos l.length with h0 | h0
  · obtain rfl : l = [] := List.eq_nil_of_length_eq_zero h0
    rw [run_convert_bytes_string w src dst e A _ c hs he hd]
    cases A with
    | none => simp [Conv.bytesToString]; rfl
    | some a => exact run_bytesToString (P := P) w a 0 c [] (by simp [loadCells, loadCellsFrom])
  · obtain ⟨b, off, rfl, hb, hc⟩ := h.at_ h0
    rw [run_convert_bytes_arg (P := P) w src e hs he b off l.length c (l.map fun u => (u.toNat : Int)) (by simp) (fun i hi => by
      rw [hc i hi]; simp [hi]) dst hd]
    have e1 : (l.map fun u => (u.toNat : Int)).map (fun n => UInt8.ofNat n.toNat) = l := by
      rw [List.map_map]
      conv => rhs; rw [← List.map_id l]
      apply List.map_congr_left
      intro u _
      simp
    unfold strOfNums
    rw [e1]
end

/-- append(s, x...) onto a row of the call's own, whatever the source. -/
theorem run_append_rd {P : Program} (w : World) (base : Nat) (t ty e : TypeId) (z : Value) (bytes : Nat) (ht : P.underlying t = some (.slice e))
    (hi : (P.info? e).map (fun i => (i.zero, i.size, i.bytes)) = some (some z, 1, bytes)) (hz : z.cells.size = 1)
    (v : Value) (xs : List Value) (hown : w.ownsRow base e 1 v xs.length xs) (u : Value) (ys : List Value) (hr : Rd w u ys) (h1 : ∀ y ∈ ys, y.oneCell' = true)
    (hbytes : (xs.length + ys.length) * bytes ≤ 140737488355328) (hlen : xs.length + ys.length ≤ maxLen) (hbase : base ≤ w.heap.size) :
    ∃ v' w', (Builtin.append_ #[t, t] ty #[v, u]).run P w = .ok v' w' ∧ w'.ownsRow base e 1 v' (xs ++ ys).length (xs ++ ys) ∧ w.grownBy w' v.ownBlock ∧
      (v'.ownBlock = v.ownBlock ∨ v'.ownBlock = some w.heap.size) := by
  obtain ⟨i, hi0, hz0, hz1, hz2⟩ := info_parts hi
  obtain ⟨A, c, rfl, hlc, hcm, hcell⟩ := hr
  cases A with
  | none =>
    have hy : ys = [] := by
      rcases Nat.eq_zero_or_pos ys.length with h0 | h0
      · exact List.eq_nil_of_length_eq_zero h0
      · obtain ⟨b, off, e', _⟩ := hcell h0
        cases e'
    subst hy
    refine ⟨v, w, ?_, by simpa using hown, World.grownBy.refl w _, .inl rfl⟩
    rcases hown.2 with ⟨rfl, hx⟩ | ⟨g, cap, cur, rfl, _, _, hnc, _⟩
    · simp [Builtin.append_, run_underlying ht, sizeOf, typeInfo, hi0, Builtin.lenOf, Builtin.firstCells]
    · simp [Builtin.append_, run_underlying ht, sizeOf, typeInfo, hi0, Builtin.lenOf, Builtin.firstCells, hnc, storeCells]
  | some ad =>
    have hnews : ∀ j y, ys[j]? = some y → w.cell? (ad.add j) = some y := by
      intro j y hy
      have hj : j < ys.length := by
        rcases Nat.lt_or_ge j ys.length with h | h
        · exact h
        · rw [List.getElem?_eq_none h] at hy; cases hy
      obtain ⟨b, off, e', _, hc⟩ := hcell (by omega)
      injection e' with e'
      subst e'
      have hp : (⟨b, off, none⟩ : Addr).add j = ⟨b, off + j, none⟩ := by unfold Addr.add; split <;> simp_all
      rw [hp, hc j hj, ← hy, List.getElem?_eq_getElem hj]
    obtain ⟨v', w', hrun, h2, h3, _, h5⟩ := run_append_own_at (P := P) w base t ty e i z 1 bytes ht hi0 hz0 hz1 hz2 hz (by omega) v xs.length xs hown ad ys.length c ys (by simp) hnews h1 hlen hbytes hbase
    exact ⟨v', w', hrun, by simpa using h2, h3, h5⟩

theorem wpList_append_rd {P : Program} (w : World) {ops : Array Oper} {rest : List Oper} {o : Oper} {a : Act} {Q : Exit → Act → World → Prop} (hgd : o.guard = none) (s x : Operand) (t : TypeId)
    (ho : o.op = .call { callee := .builtin .append, args := #[s, x], argTypes := #[t, t] })
    (base : Nat) (e : TypeId) (z : Value) (bytes : Nat) (ht : P.underlying t = some (.slice e)) (hi : (P.info? e).map (fun i => (i.zero, i.size, i.bytes)) = some (some z, 1, bytes)) (hz : z.cells.size = 1)
    (v : Value) (n m : Nat) (xs : List Value) (hs : a.eval s = v) (hown : w.ownsRow base e 1 v n xs) (u : Value) (ys : List Value) (hx : a.eval x = u) (hr : Rd w u ys) (hm : Hid (ys.length = m)) (h1 : ∀ y ∈ ys, y.oneCell' = true)
    (hbytes : (n + m) * bytes ≤ 140737488355328) (hlen : n + m ≤ maxLen) (hbase : base ≤ w.heap.size)
    (h : ∀ v' w', w'.ownsRow base e 1 v' (n + m) (xs ++ ys) → w.grownBy w' v.ownBlock → (v'.ownBlock = v.ownBlock ∨ v'.ownBlock = some w.heap.size) → wpList P ops Q rest (a.put o.dst v') w') : wpList P ops Q (o :: rest) a w := by
  obtain rfl : xs.length = n := by simpa using hown.1
  obtain rfl : ys.length = m := hm.out
  obtain ⟨v', w', hrun, h2, h3, h4⟩ := run_append_rd (P := P) w base t o.type e z bytes ht hi hz v xs hown u ys hr h1 hbytes hlen hbase
  rw [List.length_append] at h2
  refine wpList_plain hgd fun K hK => ?_
  unfold Oper.wp execOp
  simp only [ho, resolve, invoke, builtin, Sem.run_bind, Sem.run_pure, Result.andThen_ok, List.map_toArray, List.map_cons, List.map_nil, hs, hx, hrun]
  exact hK _ _ (h v' w' h2 h3 h4)

/-- append(s, x...) within the capacity, whatever the source. -/
theorem wpList_append_fits_rd {P : Program} (w : World) {ops : Array Oper} {rest : List Oper} {o : Oper} {a : Act} {Q : Exit → Act → World → Prop} (hgd : o.guard = none) (s x : Operand) (t : TypeId)
    (ho : o.op = .call { callee := .builtin .append, args := #[s, x], argTypes := #[t, t] })
    (base : Nat) (e : TypeId) (z : Value) (bytes : Nat) (ht : P.underlying t = some (.slice e)) (hi : (P.info? e).map (fun i => (i.zero, i.size, i.bytes)) = some (some z, 1, bytes))
    (g cap n m : Nat) (xs : List Value) (hs : a.eval s = .slice (some ⟨g, 0, none⟩) n cap) (hown : w.ownsRow base e 1 (.slice (some ⟨g, 0, none⟩) n cap) n xs)
    (u : Value) (ys : List Value) (hx : a.eval x = u) (hr : Rd w u ys) (hm : Hid (ys.length = m)) (h1 : ∀ y ∈ ys, y.oneCell' = true) (hroom : n + m ≤ cap)
    (h : ∀ w', w'.ownsRow base e 1 (.slice (some ⟨g, 0, none⟩) (n + m) cap) (n + m) (xs ++ ys) → w.grownBy w' (some g) → wpList P ops Q rest (a.put o.dst (.slice (some ⟨g, 0, none⟩) (n + m) cap)) w') : wpList P ops Q (o :: rest) a w := by
  obtain ⟨i, hi0, hz0, hz1, hz2⟩ := info_parts hi
  obtain rfl : xs.length = n := by simpa using hown.1
  obtain rfl : ys.length = m := hm.out
  obtain ⟨A, c, rfl, hlc, hcm, hcell⟩ := hr
  have done : ∃ w', (Builtin.append_ #[t, t] o.type #[.slice (some ⟨g, 0, none⟩) xs.length cap, .slice A ys.length c]).run P w = .ok (.slice (some ⟨g, 0, none⟩) (xs.length + ys.length) cap) w' ∧
      w'.ownsRow base e 1 (.slice (some ⟨g, 0, none⟩) (xs.length + ys.length) cap) (xs.length + ys.length) (xs ++ ys) ∧ w.grownBy w' (some g) := by
    rcases Nat.eq_zero_or_pos ys.length with h0 | h0
    · have hy := List.eq_nil_of_length_eq_zero h0
      subst hy
      refine ⟨w, ?_, by simpa using hown, World.grownBy.refl _ _⟩
      rcases hown.2 with ⟨h', _⟩ | ⟨g', cap', cur, h', _, hg, hnc, _, hcs, htake⟩
      · cases h'
      · cases A <;> simp [Builtin.append_, run_underlying ht, sizeOf, typeInfo, hi0, Builtin.lenOf, Builtin.firstCells, storeCells, loadCells, loadCellsFrom] <;> omega
    · obtain ⟨b, off, rfl, _, hc⟩ := hcell h0
      have hnews : ∀ j y, ys[j]? = some y → w.cell? ((⟨b, off, none⟩ : Addr).add j) = some y := by
        intro j y hy
        have hj : j < ys.length := by
          rcases Nat.lt_or_ge j ys.length with h | h
          · exact h
          · rw [List.getElem?_eq_none h] at hy; cases hy
        have hp : (⟨b, off, none⟩ : Addr).add j = ⟨b, off + j, none⟩ := by unfold Addr.add; split <;> simp_all
        rw [hp, hc j hj, ← hy, List.getElem?_eq_getElem hj]
      obtain ⟨w', hrun, h2, h3⟩ := run_append_fits (P := P) w base t o.type e i 1 ht hi0 hz1 g xs.length cap xs hown ⟨b, off, none⟩ ys.length c ys (by simp) hnews h1 hroom
      exact ⟨w', by simpa using hrun, by simpa using h2, h3⟩
  obtain ⟨w', hrun, h2, h3⟩ := done
  refine wpList_plain hgd fun K hK => ?_
  unfold Oper.wp execOp
  simp only [ho, resolve, invoke, builtin, Sem.run_bind, Sem.run_pure, Result.andThen_ok, List.map_toArray, List.map_cons, List.map_nil, hs, hx, hrun]
  exact hK _ _ (h w' h2 h3)

/-- Slices of slices of bytes. -/
def Byts (w : World) (v : Value) (ls : List (List UInt8)) : Prop := ∃ us, us.length = ls.length ∧ Rd w v us ∧ ∀ (i : Nat) (u : Value) (l : List UInt8), us[i]? = some u → ls[i]? = some l → Byt w u l
theorem Byts.grow {w w' : World} {v : Value} {ls : List (List UInt8)} (h : Byts w v ls) (g : Grow w w') : Byts w' v ls := by
  obtain ⟨us, h1, h2, h3⟩ := h
  exact ⟨us, h1, h2.grow g, fun i u l hu hl => (h3 i u l hu hl).grow g⟩
theorem Byts.len {w : World} {A : Option Addr} {n c : Nat} {ls : List (List UInt8)} (h : Byts w (.slice A n c) ls) : n = ls.length ∧ n ≤ c ∧ c ≤ maxLen := by
  obtain ⟨us, h1, h2, _⟩ := h
  rw [← h1]
  exact h2.len
theorem Byts.form {w : World} {v : Value} {ls : List (List UInt8)} (h : Byts w v ls) : ∃ A c, v = .slice A ls.length c ∧ ls.length ≤ c ∧ c ≤ maxLen := by
  obtain ⟨us, h1, ⟨A, c, rfl, h2, h3, _⟩, _⟩ := h
  exact ⟨A, c, by rw [h1], by omega, h3⟩
theorem Byts.at_ {w : World} {A : Option Addr} {n c : Nat} {ls : List (List UInt8)} (h : Byts w (.slice A n c) ls) (hp : 0 < n) :
    ∃ b off, A = some ⟨b, off, none⟩ ∧ b < w.heap.size ∧ ∀ j (h : j < ls.length), ∃ u, w.cell? ⟨b, off + j, none⟩ = some u ∧ Byt w u ls[j] := by
  obtain ⟨us, h1, h2, h3⟩ := h
  obtain ⟨b, off, e, hb, hc⟩ := h2.at_ hp
  exact ⟨b, off, e, hb, fun j hj => ⟨us[j]'(by omega), hc j (by omega), h3 j _ _ (List.getElem?_eq_getElem (by omega)) (List.getElem?_eq_getElem hj)⟩⟩

/-- A literal of slices, just built. -/
theorem Byts.lit (w : World) (cs : Array Value) (e : TypeId) (ls : List (List UInt8)) (k : Nat) (hk : k = ls.length) (h : cs.size = ls.length) (hm : ls.length ≤ maxLen) (hs : ∀ (i : Nat) (u : Value) (l : List UInt8), cs[i]? = some u → ls[i]? = some l → Byt w u l) :
    Byts (w.alloc (.cells cs e)) (.slice (some ⟨w.heap.size, 0, none⟩) k k) ls := by
  subst hk
  refine ⟨cs.toList, by simpa using h, ?_, fun i u l hu hl => (hs i u l (by simpa using hu) hl).grow (Grow.alloc _ _)⟩
  have hr := Rd.block (w := w.alloc (.cells cs e)) (g := w.heap.size) (n := ls.length) (c := ls.length) (heap_alloc_new w _) (by omega) (Nat.le_refl _) hm
  rwa [List.take_of_length_le (by simp; omega)] at hr
theorem byt_one {w : World} {a : Value} {l : List UInt8} (ha : Byt w a l) : ∀ (i : Nat) (u : Value) (k : List UInt8), (#[a] : Array Value)[i]? = some u → [l][i]? = some k → Byt w u k := by
  intro i u k hu hk
  match i with
  | 0 => simp at hu hk; subst hu; subst hk; exact ha
  | i + 1 => simp at hk
theorem byt_two {w : World} {a b : Value} {l m : List UInt8} (ha : Byt w a l) (hb : Byt w b m) : ∀ (i : Nat) (u : Value) (k : List UInt8), (#[a, b] : Array Value)[i]? = some u → [l, m][i]? = some k → Byt w u k := by
  intro i u k hu hk
  match i with
  | 0 => simp at hu hk; subst hu; subst hk; exact ha
  | 1 => simp at hu hk; subst hu; subst hk; exact hb
  | i + 2 => simp at hk
theorem byt_three {w : World} {a b c : Value} {l m n : List UInt8} (ha : Byt w a l) (hb : Byt w b m) (hc : Byt w c n) : ∀ (i : Nat) (u : Value) (k : List UInt8), (#[a, b, c] : Array Value)[i]? = some u → [l, m, n][i]? = some k → Byt w u k := by
  intro i u k hu hk
  match i with
  | 0 => simp at hu hk; subst hu; subst hk; exact ha
  | 1 => simp at hu hk; subst hu; subst hk; exact hb
  | 2 => simp at hu hk; subst hu; subst hk; exact hc
  | i + 3 => simp at hk

theorem bv_one (l : List UInt8) : ∀ y ∈ l.map bv, y.oneCell' = true := by
  intro y hy
  obtain ⟨u, _, rfl⟩ := List.mem_map.1 hy
  rfl
theorem Byt.form2 {w : World} {v : Value} {l : List UInt8} (h : Byt w v l) : ∃ A m c, v = .slice A m c ∧ Hid (m = l.length) := by
  obtain ⟨A, c, rfl, _, _⟩ := h.form
  exact ⟨A, _, c, rfl, rfl⟩
theorem ret_int {k : IntKind} {a b : Int} (h : a = b) : Ending.returned (.int k a) = .returned (.int k b) := by rw [h]
theorem ret_bool {a b : Bool} (h : a = b) : Ending.returned (.bool a) = .returned (.bool b) := by rw [h]
theorem Byt.anywhere {w w' : World} {v : Value} (h : Byt w v []) : Byt w' v [] := by
  obtain ⟨A, c, e, h1, h2, _⟩ := h
  exact ⟨A, c, e, h1, h2, fun h => absurd h (by simp)⟩
end Go.Proofs.Ytfjmcfkpbacicaa
/- Bytes as numbers: plain arithmetic. -/
namespace Go.Proofs.Ytfjmcfkpbacicaa
set_option linter.unusedVariables false

def numOf (l : List UInt8) : Nat := l.foldl (fun a u => 256 * a + u.toNat) 0
theorem numOf_snoc (l : List UInt8) (u : UInt8) : numOf (l ++ [u]) = 256 * numOf l + u.toNat := by simp [numOf]
theorem numOf_acc (l : List UInt8) : ∀ acc : Nat, l.foldl (fun a u => 256 * a + u.toNat) acc < (acc + 1) * 256 ^ l.length := by
  induction l with
  | nil => intro acc; simp
  | cons u l ih =>
    intro acc
    simp only [List.foldl_cons, List.length_cons, Nat.pow_succ]
    have h1 := ih (256 * acc + u.toNat)
    have hu := u.toNat_lt
    have h2 : (256 * acc + u.toNat + 1) * 256 ^ l.length ≤ (256 * (acc + 1)) * 256 ^ l.length := Nat.mul_le_mul_right _ (by omega)
    have h3 : (256 * (acc + 1)) * 256 ^ l.length = (acc + 1) * (256 ^ l.length * 256) := by
      rw [Nat.mul_comm 256 (acc + 1), Nat.mul_assoc, Nat.mul_comm 256]
    omega
theorem numOf_lt (l : List UInt8) : numOf l < 256 ^ l.length := by have := numOf_acc l 0; simpa [numOf] using this
theorem take_snoc (l : List UInt8) (k i : Nat) (h : k + i < l.length) : (l.drop k).take (i + 1) = (l.drop k).take i ++ [l[k + i]] := by
  rw [List.take_succ_eq_append_getElem (by simp; omega)]
  simp

/-- A byte set in below a number. -/
theorem or_byte (N b : Nat) (hb : b < 256) (hN : N < 16777216) : bits .or .u32 ((N : Int) * 256 % 4294967296) ((b : Int) % 4294967296) = ((256 * N + b : Nat) : Int) := by
  rw [show (N : Int) * 256 % 4294967296 = ((256 * N : Nat) : Int) from by omega, show (b : Int) % 4294967296 = (b : Int) from by omega, u32_or_nat _ _ (by omega) (by omega)]
  congr 1
  have := Nat.two_pow_add_eq_or_of_lt (i := 8) (b := b) (by simpa using hb) N
  simpa using this.symm

/-- The first result of withinCode: an error, or none. -/
def withinCode (n : Nat) (at_ m : Int) : Int := if at_ < 0 ∨ (n : Int) < at_ then 8 else if m < 0 then 1 else if (n : Int) - at_ < m then 2 else 0

/-- The number that m bytes from a place on are, and the error. -/
def numAt (l : List UInt8) (at_ : Int) (m : Nat) : Int × Int :=
  if withinCode l.length at_ m = 0 then (((numOf ((l.drop at_.toNat).take m) : Nat) : Int), 0) else (0, withinCode l.length at_ m)
theorem numAt_ok {l : List UInt8} {k m : Nat} (h : k + m ≤ l.length) : numAt l (k : Int) m = (((numOf ((l.drop k).take m) : Nat) : Int), 0) := by
  unfold numAt
  rw [if_pos (by unfold withinCode; rw [if_neg (by omega), if_neg (by omega), if_neg (by omega)])]
  simp
theorem numAt_bad {l : List UInt8} {at_ : Int} {m : Nat} (h : withinCode l.length at_ m ≠ 0) : numAt l at_ m = (0, withinCode l.length at_ m) := by
  unfold numAt
  rw [if_neg h]
theorem within_zero {n : Nat} {at_ m : Int} (h : withinCode n at_ m = 0) : 0 ≤ at_ ∧ 0 ≤ m ∧ at_ + m ≤ n := by
  unfold withinCode at h
  (repeat' split at h) <;> omega
theorem numOf_lt4 (l : List UInt8) (h : l.length ≤ 4) : numOf l < 4294967296 := by
  have h1 := numOf_lt l
  have h2 : 256 ^ l.length ≤ 256 ^ 4 := Nat.pow_le_pow_right (by omega) h
  have h3 : (256 : Nat) ^ 4 = 4294967296 := by decide
  omega
theorem numOf_lt3 (l : List UInt8) (h : l.length ≤ 3) : numOf l < 16777216 := by
  have h1 := numOf_lt l
  have h2 : 256 ^ l.length ≤ 256 ^ 3 := Nat.pow_le_pow_right (by omega) h
  have h3 : (256 : Nat) ^ 3 = 16777216 := by decide
  omega
theorem numAt_lt (l : List UInt8) (at_ : Int) (m : Nat) (hm : m ≤ 4) : 0 ≤ (numAt l at_ m).1 ∧ (numAt l at_ m).1 < 4294967296 := by
  unfold numAt
  split
  · have := numOf_lt4 ((l.drop at_.toNat).take m) (by simp; omega)
    exact ⟨by simp only []; omega, by simp only []; omega⟩
  · exact ⟨by simp only []; omega, by simp only []; omega⟩

/-- The k least significant bytes of n, the most significant one first. -/
def dig (n : Nat) : Nat → List UInt8
  | 0 => []
  | k + 1 => UInt8.ofNat (n / 256 ^ k) :: dig n k
theorem dig_length (n : Nat) : ∀ k, (dig n k).length = k
  | 0 => rfl
  | k + 1 => by rw [dig, List.length_cons, dig_length n k]

/-- What the page says of a number's two bytes. -/
def two (n : Int) : List UInt8 := [UInt8.ofNat ((n % 65536).toNat / 256), UInt8.ofNat ((n % 65536).toNat % 256)]
theorem ofNat_mod (n : Nat) : UInt8.ofNat (n % 256) = UInt8.ofNat n := by
  apply UInt8.toNat_inj.1
  simp
theorem two_length (n : Int) : (two n).length = 2 := rfl
theorem dig_two (n : Int) : dig (n % 4294967296).toNat 2 = two n := by
  unfold two dig dig dig
  have h1 : (n % 4294967296).toNat % 65536 = (n % 65536).toNat := by omega
  have e1 : UInt8.ofNat ((n % 4294967296).toNat / 256 ^ 1) = UInt8.ofNat ((n % 65536).toNat / 256) := by
    rw [← ofNat_mod, ← ofNat_mod ((n % 65536).toNat / 256)]
    congr 1
    simp only [Nat.pow_one]
    omega
  have e2 : UInt8.ofNat ((n % 4294967296).toNat / 256 ^ 0) = UInt8.ofNat ((n % 65536).toNat % 256) := by
    rw [ofNat_mod, ← ofNat_mod, ← ofNat_mod ((n % 65536).toNat)]
    congr 1
    simp only [Nat.pow_zero, Nat.div_one]
    omega
  rw [e1, e2]
theorem dig_four (n : Nat) (h : n < 4294967296) : dig n 4 = two ((n / 65536 : Nat) : Int) ++ two ((n % 65536 : Nat) : Int) := by
  have e : ∀ a b : Nat, a % 256 = b % 256 → UInt8.ofNat a = UInt8.ofNat b := fun a b h => by rw [← ofNat_mod, ← ofNat_mod b, h]
  have p3 : (256 : Nat) ^ 3 = 16777216 := by decide
  have p2 : (256 : Nat) ^ 2 = 65536 := by decide
  have h1 : (((n / 65536 : Nat) : Int) % 65536).toNat = n / 65536 := by omega
  have h2 : (((n % 65536 : Nat) : Int) % 65536).toNat = n % 65536 := by omega
  unfold two
  rw [h1, h2]
  simp only [dig, p3, p2, Nat.pow_one, Nat.pow_zero, List.cons_append, List.nil_append]
  rw [e (n / 16777216) (n / 65536 / 256) (by omega), e (n / 65536) (n / 65536 % 256) (by omega), e (n / 256) (n % 65536 / 256) (by omega), e (n / 1) (n % 65536 % 256) (by omega)]

theorem set_dig (n m j : Nat) (h : j < m) : (List.replicate (m - j) (0 : UInt8) ++ dig n j).set (m - 1 - j) (UInt8.ofNat (n / 256 ^ j)) = List.replicate (m - (j + 1)) 0 ++ dig n (j + 1) := by
  rw [show m - j = (m - (j + 1)) + 1 from by omega, List.replicate_succ', List.append_assoc, List.set_append, if_neg (by simp; omega)]
  rw [List.length_replicate, show m - 1 - j - (m - (j + 1)) = 0 from by omega]
  simp [dig]
theorem shr_byte (n j : Nat) : (n : Int) / 2 ^ (8 * j) % 256 = ((UInt8.ofNat (n / 256 ^ j)).toNat : Int) := by
  have h : (2 : Int) ^ (8 * j) = ((256 ^ j : Nat) : Int) := by
    rw [Int.pow_mul, Int.natCast_pow]
    rfl
  rw [h, UInt8.toNat_ofNat']
  omega
theorem numOf_two (n : Nat) (h : n < 65536) : numOf (two (n : Int)) = n := by
  simp only [numOf, two, List.foldl_cons, List.foldl_nil, UInt8.toNat_ofNat']
  omega
theorem numOf_append (a b : List UInt8) : numOf (a ++ b) = numOf a * 256 ^ b.length + numOf b := by
  have key : ∀ (b : List UInt8) (acc : Nat), b.foldl (fun a u => 256 * a + u.toNat) acc = acc * 256 ^ b.length + b.foldl (fun a u => 256 * a + u.toNat) 0 := by
    intro b
    induction b with
    | nil => intro acc; simp
    | cons u b ih =>
      intro acc
      simp only [List.foldl_cons, List.length_cons]
      rw [ih (256 * acc + u.toNat), ih (256 * 0 + u.toNat), Nat.pow_succ]
      simp only [Nat.mul_zero, Nat.zero_add, Nat.add_mul]
      rw [show 256 * acc * 256 ^ b.length = acc * (256 ^ b.length * 256) from by rw [Nat.mul_comm 256 acc, Nat.mul_assoc, Nat.mul_comm 256]]
      omega
  unfold numOf
  rw [List.foldl_append, key b]
theorem numOf_four (n : Nat) (h : n < 4294967296) : numOf (dig n 4) = n := by
  rw [dig_four n h, numOf_append, numOf_two _ (by omega), numOf_two _ (by omega), two_length]
  have : (256 : Nat) ^ 2 = 65536 := by decide
  omega
/-- What was written is read. -/
theorem numAt_two (l : List UInt8) (n m : Nat) (hn : n < 65536) : numAt (l ++ two (n : Int) ++ dig m 4) (l.length : Int) 2 = ((n : Int), 0) := by
  rw [numAt_ok (by simp [two_length]), List.append_assoc, List.drop_left, List.take_left' (two_length _), numOf_two n hn]
theorem numAt_four (l : List UInt8) (n m : Nat) (hm : m < 4294967296) : numAt (l ++ two (n : Int) ++ dig m 4) ((l.length : Int) + 2) 4 = ((m : Int), 0) := by
  have e : (l.length : Int) + 2 = ((l.length + 2 : Nat) : Int) := by omega
  have hl : (l ++ two (n : Int)).length = l.length + 2 := by rw [List.length_append, two_length]
  rw [e, numAt_ok (by simp [two_length, dig_length]), ← hl, List.drop_left, List.take_of_length_le (by rw [dig_length]; omega), numOf_four m hm]
end Go.Proofs.Ytfjmcfkpbacicaa
namespace Go.Proofs.Ytfjmcfkpbacicaa
set_option linter.unusedVariables false
open Go.ChangeShapes Go.WideShapes Go.ChangeAt Go.RowKit

end Go.Proofs.Ytfjmcfkpbacicaa
/- Joined, written, cut, filled up: the contracts of the functions that make memory. -/
namespace Go.Proofs.Ytfjmcfkpbacicaa
set_option linter.unusedVariables false
open Go.ChangeShapes Go.WideShapes Go.ChangeAt Go.RowKit

theorem infoByte : (Try.prog.info? 5).map (fun i => (i.zero, i.size, i.bytes)) = some (some (.int .u8 0), 1, 1) := by kernel_rfl

/-- A row of bytes of the call's own. -/
def Own (w : World) (base : Nat) (v : Value) (l : List UInt8) : Prop := w.ownsRow base 5 1 v l.length (l.map bv)
theorem Own.byt {w : World} {base : Nat} {v : Value} {l : List UInt8} (h : Own w base v l) : Byt w v l := Byt.of_own h

theorem Own.lit (w : World) (cs : Array Value) (l : List UInt8) (h : cs.toList = l.map bv) (hm : l.length ≤ maxLen) : Own (w.alloc (.cells cs 5)) w.heap.size (.slice (some ⟨w.heap.size, 0, none⟩) l.length l.length) l := by
  have hs : cs.size = l.length := by rw [← Array.length_toList, h, List.length_map]
  refine ⟨by simp, .inr ⟨w.heap.size, l.length, cs, rfl, Nat.le_refl _, heap_alloc_new w _, Nat.le_refl _, hm, by omega, ?_⟩⟩
  rw [h, Nat.mul_one]
  exact List.take_of_length_le (by simp)
theorem ownsRow_grow {w w' : World} {base : Nat} {e : TypeId} {size : Nat} {v : Value} {n : Nat} {xs : List Value} (h : w.ownsRow base e size v n xs) (g : Grow w w') : w'.ownsRow base e size v n xs := by
  refine ⟨h.1, ?_⟩
  rcases h.2 with h2 | ⟨b, cap, cur, hv, hb, hh, r⟩
  · exact .inl h2
  · have hlt : b < w.heap.size := by
      rcases Nat.lt_or_ge b w.heap.size with h' | h'
      · exact h'
      · rw [Array.getElem?_eq_none h'] at hh; cases hh
    exact .inr ⟨b, cap, cur, hv, hb, (Below.block g b hlt).trans hh, r⟩
theorem Own.grow {w w' : World} {base : Nat} {v : Value} {l : List UInt8} (h : Own w base v l) (g : Grow w w') : Own w' base v l := ownsRow_grow h g
theorem own_block {w : World} {base : Nat} {e : TypeId} {size : Nat} {v : Value} {n : Nat} {xs : List Value} (h : w.ownsRow base e size v n xs) : ∀ k, v.ownBlock = some k → base ≤ k := by
  intro k hk
  rcases h.2 with ⟨rfl, _⟩ | ⟨g, cap, cur, rfl, hb, _⟩
  · simp [Value.ownBlock] at hk
  · simp [Value.ownBlock] at hk; omega
theorem u64_of (n : Int) : 0 ≤ IntKind.u64.wrap n ∧ IntKind.u64.wrap n % 65536 = n % 65536 := by
  have h : IntKind.u64.wrap n = n % 18446744073709551616 := by simp [IntKind.wrap, IntKind.signed, IntKind.bits]
  rw [h]
  constructor <;> omega

/-- The length of all of them. -/
def lens (ls : List (List UInt8)) : Nat := (ls.map List.length).sum
theorem lens_snoc (ls : List (List UInt8)) (j : Nat) (h : j < ls.length) : lens (ls.take (j + 1)) = lens (ls.take j) + ls[j].length := by
  rw [List.take_succ_eq_append_getElem h]
  simp only [lens, List.map_append, List.map_cons, List.map_nil, List.sum_append, List.sum_cons, List.sum_nil, Nat.add_zero]
theorem lens_le (ls : List (List UInt8)) (j : Nat) : lens (ls.take j) ≤ lens ls := by
  have h := congrArg lens (List.take_append_drop j ls)
  simp only [lens, List.map_append, List.sum_append] at h ⊢
  omega
theorem lens_flatten (ls : List (List UInt8)) : ls.flatten.length = lens ls := by simp [lens, List.length_flatten]

/-- What is cut out: the bytes, and the error. -/
def cutAt (l : List UInt8) (at_ n : Int) : List UInt8 := if withinCode l.length at_ n = 0 then (l.take (at_ + n).toNat).drop at_.toNat else []

theorem padAt_len (l : List UInt8) (k : Nat) : (l ++ List.replicate k (0 : UInt8)).length = l.length + k := by simp

def padOf (l : List UInt8) (unit : Int) : List UInt8 := if unit < 1 ∨ 64 < unit then [] else l ++ List.replicate ((unit.toNat - l.length % unit.toNat) % unit.toNat) 0
def padCode (unit : Int) : Int := if unit < 1 ∨ 64 < unit then 1 else 0

end Go.Proofs.Ytfjmcfkpbacicaa
/- Packets as values; the contracts of the small functions: how long, may it be, its flags. -/
namespace Go.Proofs.Ytfjmcfkpbacicaa
set_option linter.unusedVariables false
set_option linter.unusedSimpArgs false
open Go.ChangeShapes Go.WideShapes Go.ChangeAt Go.RowKit

structure Pkt where
  tos : Nat
  ident : Nat
  whole : Bool
  more : Bool
  off : Int
  ttl : Nat
  proto : Nat
  src : Nat
  dst : Nat
  opts : List UInt8
  data : List UInt8

/-- Each field in its type. -/
structure Pkt.Ok (k : Pkt) : Prop where
  tos : k.tos < 256
  ident : k.ident < 65536
  off1 : -9223372036854775808 ≤ k.off
  off2 : k.off ≤ 9223372036854775807
  ttl : k.ttl < 256
  proto : k.proto < 256
  src : k.src < 4294967296
  dst : k.dst < 4294967296

@[reducible] def ipV (k : Pkt) (vo vd : Value) : Value := .agg #[.int .u8 (k.tos : Int), .int .u16 (k.ident : Int), .bool k.whole, .bool k.more, .int .i64 k.off, .int .u8 (k.ttl : Int), .int .u8 (k.proto : Int), .int .u32 (k.src : Int), .int .u32 (k.dst : Int), vo, vd]
/-- The value v reads as the packet k. -/
def Ip (w : World) (v : Value) (k : Pkt) : Prop := ∃ vo vd, v = ipV k vo vd ∧ Byt w vo k.opts ∧ Byt w vd k.data ∧ k.Ok
theorem Ip.grow {w w' : World} {v : Value} {k : Pkt} (h : Ip w v k) (g : Grow w w') : Ip w' v k := by
  obtain ⟨vo, vd, e, h1, h2, h3⟩ := h
  exact ⟨vo, vd, e, h1.grow g, h2.grow g, h3⟩
theorem Ip.form {w : World} {v : Value} {k : Pkt} (h : Ip w v k) : ∃ A c B d, v = ipV k (.slice A k.opts.length c) (.slice B k.data.length d) ∧ Byt w (.slice A k.opts.length c) k.opts ∧ Byt w (.slice B k.data.length d) k.data ∧ k.Ok := by
  obtain ⟨vo, vd, e, h1, h2, h3⟩ := h
  obtain ⟨A, c, rfl, hc, hm⟩ := h1.form
  obtain ⟨B, d, rfl, hd, hn⟩ := h2.form
  exact ⟨A, c, B, d, e, h1, h2, h3⟩

/-- Of a length that any machine holds. -/
def Pkt.Small (k : Pkt) : Prop := k.opts.length ≤ 1000000 ∧ k.data.length ≤ 1000000

def Pkt.len (k : Pkt) : Nat := 20 + k.opts.length + k.data.length
def Pkt.check (k : Pkt) : Int := if k.off < 0 ∨ 8191 < k.off ∨ 40 < k.opts.length ∨ k.opts.length % 4 ≠ 0 then 1 else if 65535 < k.len then 9 else 0
def Pkt.flag (k : Pkt) : Int := (if k.whole then 16384 else 0) + (if k.more then 8192 else 0)

set_option maxHeartbeats 400000 in
theorem Len_any (v : Value) (k : Pkt) (w : World) (h : Ip w v k) (hs : k.Small) :
    Calls Try.prog 49 #[v] w fun e w' => e = .returned (.int .i64 (k.len : Nat)) ∧ Grow w w' := by
  obtain ⟨A, c, B, d, rfl, ho, hd, hk⟩ := h.form
  obtain ⟨hs1, hs2⟩ := hs
  go_enter Try.func49, Try.ntmps49
  go_wp2_with fail
  go_ret
  exact ⟨ret_int (by unfold Pkt.len; omega), Grow.alloc _ _⟩

set_option maxHeartbeats 400000 in
theorem RLen_any (v : Value) (k : Pkt) (w : World) (h : Ip w v k) (hs : k.Small) :
    Calls Try.prog 37 #[v] w fun e w' => e = .returned (.int .i64 (k.len : Nat)) ∧ Grow w w' := by
  obtain ⟨A, c, B, d, rfl, ho, hd, hk⟩ := h.form
  obtain ⟨hs1, hs2⟩ := hs
  go_enter Try.func37, Try.ntmps37
  go_wp2_with fail
  go_ret
  exact ⟨ret_int (by unfold Pkt.len; omega), Grow.alloc _ _⟩

set_option maxHeartbeats 1000000 in
theorem RCheck_ip (v : Value) (k : Pkt) (w : World) (h : Ip w v k) (hs : k.Small) :
    Calls Try.prog 39 #[v] w fun e w' => e = .returned (.int .i64 k.check) ∧ Grow w w' := by
  obtain ⟨A, c, B, d, rfl, ho, hd, hk⟩ := h.form
  have hsm := hs
  obtain ⟨hs1, hs2⟩ := hs
  have k1 := hk.off1
  have k2 := hk.off2
  have hg1 := Grow.alloc w (.cells #[.int .u8 (k.tos : Int), .int .u16 (k.ident : Int), .bool k.whole, .bool k.more, .int .i64 k.off, .int .u8 (k.ttl : Int), .int .u8 (k.proto : Int), .int .u32 (k.src : Int), .int .u32 (k.dst : Int), .slice A k.opts.length c, .slice B k.data.length d] 38)
  have hip := h.grow hg1
  unfold Pkt.check
  by_cases h1 : k.off < 0
  · rw [if_pos (.inl h1)]
    go_enter Try.func39, Try.ntmps39
    go_wp2_with fail
    go_ret
    exact ⟨rfl, hg1⟩
  by_cases h2 : 8191 < k.off
  · rw [if_pos (.inr (.inl h2))]
    go_enter Try.func39, Try.ntmps39
    go_wp2_with fail
    go_ret
    exact ⟨rfl, hg1⟩
  by_cases h3 : 40 < k.opts.length
  · rw [if_pos (.inr (.inr (.inl h3)))]
    go_enter Try.func39, Try.ntmps39
    go_wp2_with fail
    go_ret
    exact ⟨rfl, hg1⟩
  by_cases h4 : k.opts.length % 4 ≠ 0
  · rw [if_pos (.inr (.inr (.inr h4)))]
    have h5 : ((k.opts.length : Int) % 4 != 0) = true := by simp; omega
    go_enter Try.func39, Try.ntmps39
    go_wp2_with fail
    go_ret
    exact ⟨rfl, hg1⟩
  rw [if_neg (by omega)]
  have h6 : ((k.opts.length : Int) % 4 != 0) = false := by simp; omega
  have hlen : k.len ≤ 2000020 := by unfold Pkt.len; omega
  by_cases h5 : 65535 < k.len
  · rw [if_pos h5]
    go_enter Try.func39, Try.ntmps39
    go_wp2_with fail
    refine (RLen_any _ _ _ hip hsm).mono ?_
    rintro e w1 ⟨rfl, hg2⟩
    go_wp2_with fail
    go_ret
    exact ⟨rfl, hg1.trans hg2⟩
  · rw [if_neg h5]
    go_enter Try.func39, Try.ntmps39
    go_wp2_with fail
    refine (RLen_any _ _ _ hip hsm).mono ?_
    rintro e w1 ⟨rfl, hg2⟩
    go_wp2_with fail
    go_ret
    exact ⟨rfl, hg1.trans hg2⟩

set_option maxHeartbeats 400000 in
theorem Long_any (v : Value) (k : Pkt) (w : World) (h : Ip w v k) :
    Calls Try.prog 23 #[v] w fun e w' => e = .returned (.bool (decide (100 < k.opts.length ∨ 70000 < k.data.length))) ∧ Grow w w' := by
  obtain ⟨A, c, B, d, rfl, ho, hd, hk⟩ := h.form
  have l1 := ho.len.2
  have l2 := hd.len.2
  unfold maxLen at l1 l2
  by_cases h1 : 100 < k.opts.length
  · rw [decide_eq_true (.inl h1)]
    go_enter Try.func23, Try.ntmps23
    go_wp2_with fail
    go_ret
    exact ⟨rfl, Grow.alloc _ _⟩
  · by_cases h2 : 70000 < k.data.length
    · rw [decide_eq_true (.inr h2)]
      go_enter Try.func23, Try.ntmps23
      go_wp2_with fail
      go_ret
      exact ⟨ret_bool (by simp; omega), Grow.alloc _ _⟩
    · rw [decide_eq_false (by omega)]
      go_enter Try.func23, Try.ntmps23
      go_wp2_with fail
      go_ret
      exact ⟨ret_bool (by simp; omega), Grow.alloc _ _⟩

end Go.Proofs.Ytfjmcfkpbacicaa
