/- A REGION THAT DRAWS ITS ORDER, BY FACTS THAT STAY: each operation leaves a value of which one fact is known; a fact, once true, stays true while memory only grows. Then the order does not matter: one obligation for each operation, one for what stands behind the region. Nothing here is trusted. -/
import Derived.Orders
import Derived.Below
import Derived.RegionTactic
namespace Go.Proofs.Ytpbnpkbmefjiaaa
set_option linter.unusedVariables false
open Go.RowKit

/-- All that was there reads as it did. -/
def Grow (w w' : World) : Prop := Below w.heap.size w w'
theorem Grow.refl (w : World) : Grow w w := Below.refl _ _
theorem Grow.trans {a b c : World} (h : Grow a b) (k : Grow b c) : Grow a c := Below.trans h (Below.mono k h.size)
theorem Grow.drew (w : World) : Grow w w.drew := (Below.refl _ _).drew
theorem Grow.alloc (w : World) (o : Obj) : Grow w (w.alloc o) := (Below.refl _ _).alloc (Nat.le_refl _) o
theorem Grow.size {w w' : World} (h : Grow w w') : w.heap.size ≤ w'.heap.size := Below.size h
theorem Grow.cell {w w' : World} (h : Grow w w') {p : Addr} (hp : p.block < w.heap.size) : w'.cell? p = w.cell? p := Below.cell h hp
theorem Grow.frozen {w w' : World} (h : Grow w w') {p : Addr} (hp : p.block < w.heap.size) : w'.frozen? p = w.frozen? p := Below.frozen h hp

section
variable {P : Program}

/-- What an operation that came to this leaves: a value and a world, of which 'post' holds. -/
def looseUpon (P : Program) (post : Value → World → Prop) : Result Next → Prop
  | .ok (.value v) w' => post v w'
  | .ok .skip w' => post undef w'
  | .ok (.enter f args) w' => Calls P f args w' fun e w'' => ∃ v, e = .returned v ∧ post v w''
  | _ => False

@[go_sem] theorem looseUpon_value (post : Value → World → Prop) (v : Value) (w : World) : looseUpon P post (.ok (.value v) w) = post v w := rfl
@[go_sem] theorem looseUpon_skip (post : Value → World → Prop) (w : World) : looseUpon P post (.ok .skip w) = post undef w := rfl
@[go_sem] theorem looseUpon_enter (post : Value → World → Prop) (f : FuncId) (args : Array Value) (w : World) :
    looseUpon P post (.ok (.enter f args) w) = Calls P f args w fun e w'' => ∃ v, e = .returned v ∧ post v w'' := rfl

theorem wp_of_loose {o : Oper} {a : Act} {w : World} {K : Act → World → Prop} {Q : Exit → Act → World → Prop} {post : Value → World → Prop}
    (hK : ∀ v w', post v w' → K (a.put o.dst v) w') (h : looseUpon P post ((execOp a.eval o).run P w)) : o.wp P a w K Q := by
  unfold Oper.wp
  generalize (execOp a.eval o).run P w = r at *
  cases r with
  | ok n w' =>
    cases n <;> simp only [looseUpon] at h <;> simp only [Oper.upon]
    case value v => exact hK _ _ h
    case skip => exact hK _ _ h
    case enter f args => exact h.mono fun e w'' ⟨v, he, hp⟩ => by subst he; exact hK _ _ hp
  | halt x w' => simp only [looseUpon] at h

/-- The frame with the region's own slots filled by x. -/
def fillAct (x : Tmp → Value) : List Oper → Act → Act
  | [], a => a
  | o :: r, a => fillAct x r (a.put o.dst (x (o.dst.getD 0)))

@[go_sem] theorem fillAct_nil (x : Tmp → Value) (a : Act) : fillAct x [] a = a := rfl
@[go_sem] theorem fillAct_cons (x : Tmp → Value) (o : Oper) (r : List Oper) (a : Act) : fillAct x (o :: r) a = fillAct x r (a.put o.dst (x (o.dst.getD 0))) := rfl

/-- What an operation left: its slot's value. -/
def leftBy (x : Tmp → Value) (o : Oper) : Value := match o.dst with | some d => x d | none => undef

/-- What counts of its value: nothing where it writes no slot. -/
def leftAs (o : Oper) (v : Value) : Value := match o.dst with | some _ => v | none => undef

def bindsOn (md : Region.Mode) (o : Oper) : List Nat := (o.after.toList.filter (Region.binds md)).map (·.on)

/-- Each operation waits for earlier ones alone; no two write one slot; no slot lies outside the frame. -/
def looseOk (md : Region.Mode) (ops : Array Oper) (size : Nat) : Bool :=
  (ops.toList.zipIdx.all fun (o, i) => (bindsOn md o).all fun j => j < i) &&
  (ops.toList.zipIdx.all fun (o, i) => match o.dst with
    | none => true
    | some d => d < size && ops.toList.zipIdx.all fun (o', j) => i == j || o'.dst != some d)

theorem fillAct_defers (x : Tmp → Value) : ∀ (l : List Oper) (a : Act), (fillAct x l a).defers = a.defers
  | [], _ => rfl
  | o :: r, a => by rw [fillAct, fillAct_defers x r]; cases o.dst <;> rfl
theorem put_size (a : Act) (d : Option Tmp) (v : Value) : (a.put d v).tmps.size = a.tmps.size := by cases d <;> simp [Act.put]
theorem fillAct_size (x : Tmp → Value) : ∀ (l : List Oper) (a : Act), (fillAct x l a).tmps.size = a.tmps.size
  | [], _ => rfl
  | o :: r, a => by rw [fillAct, fillAct_size x r, put_size]
theorem fillAct_off (x : Tmp → Value) : ∀ (l : List Oper) (a : Act) (t : Nat), (∀ o ∈ l, o.dst ≠ some t) → (fillAct x l a).tmps[t]? = a.tmps[t]?
  | [], _, _, _ => rfl
  | o :: r, a, t, h => by
    rw [fillAct, fillAct_off x r _ t fun o' ho => h o' (List.mem_cons_of_mem _ ho)]
    have h0 := h o List.mem_cons_self
    cases hd : o.dst with
    | none => rfl
    | some d =>
      have : d ≠ t := fun e => h0 (by rw [hd, e])
      simp [Act.put, Array.getElem?_setIfInBounds_ne this]
theorem fillAct_on (x : Tmp → Value) : ∀ (l : List Oper) (a : Act) (t : Nat), t < a.tmps.size → (∃ o ∈ l, o.dst = some t) → (fillAct x l a).tmps[t]? = some (x t)
  | [], _, _, _, h => by obtain ⟨_, h, _⟩ := h; cases h
  | o :: r, a, t, hs, h => by
    rw [fillAct]
    by_cases hr : ∃ o' ∈ r, o'.dst = some t
    · exact fillAct_on x r _ t (by rw [put_size]; exact hs) hr
    · obtain ⟨o', ho', hd⟩ := h
      have ho : o.dst = some t := by
        rcases List.mem_cons.1 ho' with rfl | h'
        · exact hd
        · exact absurd ⟨o', h', hd⟩ hr
      rw [fillAct_off x r _ t fun o'' h'' e => hr ⟨o'', h'', e⟩, ho]
      simp [Act.put, hs]
theorem act_ext {a b : Act} (h1 : a.tmps.size = b.tmps.size) (h2 : ∀ t, t < a.tmps.size → a.tmps[t]? = b.tmps[t]?) (h3 : a.defers = b.defers) : a = b := by
  obtain ⟨ta, da⟩ := a
  obtain ⟨tb, db⟩ := b
  simp only at h1 h2 h3
  subst h3
  congr 1
  apply Array.ext h1
  intro i hi hi'
  have := h2 i hi
  rw [Array.getElem?_eq_getElem hi, Array.getElem?_eq_getElem hi'] at this
  exact Option.some.inj this

theorem fillAct_put (x : Tmp → Value) (l : List Oper) (a : Act) (d : Nat) (v : Value) (hd : ∃ o ∈ l, o.dst = some d) (hs : d < a.tmps.size) :
    (fillAct x l a).put (some d) v = fillAct (fun t => if t = d then v else x t) l a := by
  apply act_ext
  · rw [put_size, fillAct_size, fillAct_size]
  · intro t ht
    rw [put_size, fillAct_size] at ht
    by_cases htd : t = d
    · subst htd
      rw [fillAct_on _ l a t hs hd]
      simp [Act.put, fillAct_size, hs]
    · have h1 : ((fillAct x l a).put (some d) v).tmps[t]? = (fillAct x l a).tmps[t]? := by
        simp [Act.put, Array.getElem?_setIfInBounds_ne (Ne.symm htd)]
      rw [h1]
      by_cases hl : ∃ o ∈ l, o.dst = some t
      · rw [fillAct_on x l a t ht hl, fillAct_on _ l a t ht hl, if_neg htd]
      · have hno : ∀ o ∈ l, o.dst ≠ some t := fun o ho e => hl ⟨o, ho, e⟩
        rw [fillAct_off x l a t hno, fillAct_off _ l a t hno]
  · cases hl : fillAct x l a
    simp only [Act.put]
    have e1 := fillAct_defers x l a
    rw [hl] at e1
    rw [fillAct_defers]
    exact e1

/-- How many have not come up. -/
def unl (listed : Array Bool) : Nat → Nat
  | 0 => 0
  | n + 1 => unl listed n + (if listed.getD n true = true then 0 else 1)
theorem unl_set_le (listed : Array Bool) (i : Nat) : ∀ n, unl (listed.setIfInBounds i true) n ≤ unl listed n
  | 0 => Nat.le_refl _
  | n + 1 => by
    have := unl_set_le listed i n
    simp only [unl]
    by_cases hi : i = n
    · subst hi
      by_cases hs : i < listed.size
      · have : (listed.setIfInBounds i true).getD i true = true := by simp [hs]
        rw [if_pos this]; omega
      · have : (listed.setIfInBounds i true).getD i true = true := by simp [hs]
        rw [if_pos this]; omega
    · rw [getD_set_ne true hi]; omega
theorem unl_set (listed : Array Bool) (i : Nat) (h : listed.getD i true = false) : ∀ n, i < n → unl (listed.setIfInBounds i true) n + 1 ≤ unl listed n
  | 0, hn => absurd hn (Nat.not_lt_zero _)
  | n + 1, hn => by
    simp only [unl]
    by_cases hi : i = n
    · subst hi
      have h1 := unl_set_le listed i i
      have hs : i < listed.size := by
        rcases Nat.lt_or_ge i listed.size with h' | h'
        · exact h'
        · simp [Array.getElem?_eq_none h'] at h
      have e : (listed.setIfInBounds i true).getD i true = true := by simp [hs]
      rw [if_pos e, if_neg (by rw [h]; simp)]; omega
    · have h1 := unl_set listed i h n (by omega)
      rw [getD_set_ne true hi]; omega
theorem unl_zero (listed : Array Bool) : ∀ n, unl listed n = 0 → ∀ i, i < n → listed.getD i true = true
  | 0, _, _, hi => absurd hi (Nat.not_lt_zero _)
  | n + 1, h, i, hi => by
    simp only [unl] at h
    by_cases e : i = n
    · subst e
      by_cases hb : listed.getD i true = true
      · exact hb
      · rw [if_neg hb] at h; omega
    · exact unl_zero listed n (by omega) i (by omega)

variable {ops : Array Oper} {Q : Exit → Act → World → Prop} {md : Region.Mode}

theorem looseOk_before {size : Nat} (hk : looseOk md ops size = true) {i : Nat} {o : Oper} (ho : ops[i]? = some o) : ∀ e ∈ o.after, Region.binds md e = true → e.on < i := by
  intro e he hb
  simp only [looseOk, Bool.and_eq_true, List.all_eq_true] at hk
  have h1 := hk.1 (o, i) (by
    rw [List.mem_zipIdx_iff_getElem?]
    simpa using ho)
  have h2 := h1 e.on (by
    unfold bindsOn
    exact List.mem_map.2 ⟨e, List.mem_filter.2 ⟨by simpa using he, hb⟩, rfl⟩)
  simpa using h2
theorem looseOk_slot {size : Nat} (hk : looseOk md ops size = true) {i : Nat} {o : Oper} {d : Nat} (ho : ops[i]? = some o) (hd : o.dst = some d) :
    d < size ∧ ∀ (j : Nat) (o' : Oper), ops[j]? = some o' → i ≠ j → o'.dst ≠ some d := by
  simp only [looseOk, Bool.and_eq_true, List.all_eq_true] at hk
  have h1 := hk.2 (o, i) (by
    rw [List.mem_zipIdx_iff_getElem?]
    simpa using ho)
  simp only [hd, Bool.and_eq_true, decide_eq_true_eq, List.all_eq_true] at h1
  refine ⟨h1.1, fun j o' ho' hij e => ?_⟩
  have h2 := h1.2 (o', j) (by
    rw [List.mem_zipIdx_iff_getElem?]
    simpa using ho')
  simp [hij, e] at h2

theorem all_listed {size : Nat} (hk : looseOk md ops size = true) {listed : Array Bool} (hr : Region.ready md ops listed = []) :
    ∀ (i : Nat), i < ops.size → listed.getD i true = true := by
  intro i
  induction i using Nat.strongRecOn with
  | _ i ih =>
    intro hi
    by_cases hb : listed.getD i true = true
    · exact hb
    · exfalso
      have ho : ops[i]? = some ops[i] := Array.getElem?_eq_getElem hi
      have hm : i ∈ Region.ready md ops listed := by
        rw [mem_ready]
        refine ⟨by simpa using hb, ops[i], ho, fun e he hbe => ?_⟩
        have hlt := looseOk_before hk ho e he hbe
        have h1 := ih e.on hlt (by omega)
        have hs : i < listed.size := by
          rcases Nat.lt_or_ge i listed.size with h' | h'
          · exact h'
          · simp [Array.getElem?_eq_none h'] at hb
        have hs' : e.on < listed.size := by omega
        simpa [hs'] using h1
      rw [hr] at hm
      cases hm

/-- What is asked of each operation: 'A x': the frame with the region's own slots filled by x. -/
def looseStep (P : Program) (md : Region.Mode) (ops : Array Oper) (A : (Tmp → Value) → Act) (w₀ : World) (F : Nat → Value → World → Prop) (i : Nat) (o : Oper) : Prop :=
  ∀ (x : Tmp → Value) (w : World), Grow w₀ w → (∀ j ∈ bindsOn md o, ∀ o', ops[j]? = some o' → F j (leftBy x o') w) → ∀ post : Value → World → Prop, (∀ v w', Grow w w' → F i (leftAs o v) w' → post v w') →
    if Region.wanted o (yielded ops (A x).tmps) = true then looseUpon P post ((execOp (A x).eval o).run P w) else post undef w

def looseSteps (P : Program) (md : Region.Mode) (ops : Array Oper) (A : (Tmp → Value) → Act) (w₀ : World) (F : Nat → Value → World → Prop) : Nat → List Oper → Prop
  | _, [] => True
  | i, o :: r => looseStep P md ops A w₀ F i o ∧ looseSteps P md ops A w₀ F (i + 1) r

theorem looseSteps_at {A : (Tmp → Value) → Act} {w₀ : World} {F : Nat → Value → World → Prop} : ∀ (l : List Oper) (k : Nat), looseSteps P md ops A w₀ F k l → ∀ (i : Nat) (o : Oper), l[i]? = some o → looseStep P md ops A w₀ F (k + i) o
  | [], _, _, _, _, h => by simp at h
  | o' :: r, k, hs, 0, o, h => by
    simp at h
    subst h
    exact hs.1
  | o' :: r, k, hs, i + 1, o, h => by
    have := looseSteps_at r (k + 1) hs.2 i o (by simpa using h)
    rwa [show k + 1 + i = k + (i + 1) from by omega] at this

theorem wpAny_loose {a₀ : Act} {w₀ : World} {F : Nat → Value → World → Prop} (hk : looseOk md ops a₀.tmps.size = true)
    (hF : ∀ i v w w', Grow w w' → F i v w → F i v w') (hs : looseSteps P md ops (fun x => fillAct x ops.toList a₀) w₀ F 0 ops.toList)
    (fin : ∀ (x : Tmp → Value) (w : World), Grow w₀ w → (∀ (j : Nat) o', ops[j]? = some o' → F j (leftBy x o') w) → Q .normal (fillAct x ops.toList a₀) w) :
    ∀ (fuel : Nat) (listed : Array Bool) (x : Tmp → Value) (w : World), unl listed ops.size ≤ fuel → Grow w₀ w →
      (∀ i o, ops[i]? = some o → listed.getD i true = true → F i (leftBy x o) w) → wpAny P md ops Q fuel listed (fillAct x ops.toList a₀) w := by
  have done : ∀ (listed : Array Bool) (x : Tmp → Value) (w : World), Grow w₀ w → (∀ i o, ops[i]? = some o → listed.getD i true = true → F i (leftBy x o) w) →
      Region.ready md ops listed = [] → Q .normal (fillAct x ops.toList a₀) w := fun listed x w hg hf hr =>
    fin x w hg (fun j o ho => hf j o ho (all_listed hk hr j (Array.getElem?_eq_some_iff.1 ho).1))
  intro fuel
  induction fuel with
  | zero =>
    intro listed x w hu hg hf
    have hr : Region.ready md ops listed = [] := by
      rw [List.eq_nil_iff_forall_not_mem]
      intro j hj
      obtain ⟨h0, o, ho, _⟩ := mem_ready.1 hj
      have := unl_zero listed ops.size (by omega) j (Array.getElem?_eq_some_iff.1 ho).1
      rw [this] at h0
      cases h0
    exact ⟨hr, done listed x w hg hf hr⟩
  | succ fuel ih =>
    intro listed x w hu hg hf
    refine ⟨fun hr => done listed x w hg hf hr, fun i hi => ?_⟩
    obtain ⟨h0, o, ho, hall⟩ := mem_ready.1 hi
    have hilt : i < ops.size := (Array.getElem?_eq_some_iff.1 ho).1
    have hst := looseSteps_at ops.toList 0 hs i o (by simpa using ho)
    rw [Nat.zero_add] at hst
    have hdeps : ∀ j ∈ bindsOn md o, ∀ o', ops[j]? = some o' → F j (leftBy x o') w := fun j hj o' ho' => by
      unfold bindsOn at hj
      obtain ⟨e, he, rfl⟩ := List.mem_map.1 hj
      obtain ⟨he1, he2⟩ := List.mem_filter.1 he
      have h1 := hall e (by simpa using he1) he2
      have hs' : e.on < listed.size := by
        rcases Nat.lt_or_ge e.on listed.size with h' | h'
        · exact h'
        · simp [Array.getElem?_eq_none h'] at h1
      exact hf e.on o' ho' (by simpa [hs'] using h1)
    have next : ∀ v w', Grow w w' → F i (leftAs o v) w' → wpAny P md ops Q fuel (listed.setIfInBounds i true) ((fillAct x ops.toList a₀).put o.dst v) w' := by
      intro v w' hg' hv
      have hun := unl_set listed i h0 ops.size hilt
      cases hd : o.dst with
      | none =>
        refine ih _ x w' (by omega) (hg.trans hg') fun j o' ho' hl => ?_
        by_cases hij : i = j
        · subst hij
          rw [ho] at ho'
          cases ho'
          simpa [leftBy, leftAs, hd] using hv
        · rw [getD_set_ne true hij] at hl
          exact hF _ _ _ _ hg' (hf j o' ho' hl)
      | some d =>
        obtain ⟨hds, hdn⟩ := looseOk_slot hk ho hd
        rw [fillAct_put x ops.toList a₀ d v ⟨o, by simpa using Array.mem_of_getElem? ho, hd⟩ hds]
        refine ih _ _ w' (by omega) (hg.trans hg') fun j o' ho' hl => ?_
        by_cases hij : i = j
        · subst hij
          rw [ho] at ho'
          cases ho'
          simpa [leftBy, leftAs, hd] using hv
        · rw [getD_set_ne true hij] at hl
          have hne := hdn j o' ho' hij
          have : leftBy (fun t => if t = d then v else x t) o' = leftBy x o' := by
            unfold leftBy
            cases hd' : o'.dst with
            | none => rfl
            | some d' =>
              have : d' ≠ d := fun e => hne (by rw [hd', e])
              simp [this]
          rw [this]
          exact hF _ _ _ _ hg' (hf j o' ho' hl)
    have h1 := hst x w hg hdeps (fun v w' => wpAny P md ops Q fuel (listed.setIfInBounds i true) ((fillAct x ops.toList a₀).put o.dst v) w') next
    unfold wpOp
    rw [ho]
    show if Region.wanted o (yielded ops (fillAct x ops.toList a₀).tmps) = true then _ else _
    split
    · rename_i hw
      rw [if_pos hw] at h1
      exact .inl (wp_of_loose (fun _ _ h => h) h1)
    · rename_i hw
      rw [if_neg hw] at h1
      exact h1

theorem fillAct_own (a : Act) (l : List Oper) (h : ∀ o ∈ l, ∀ d, o.dst = some d → d < a.tmps.size) : fillAct (fun t => a.tmps.getD t undef) l a = a := by
  apply act_ext
  · exact fillAct_size _ _ _
  · intro t ht
    rw [fillAct_size] at ht
    by_cases hl : ∃ o ∈ l, o.dst = some t
    · rw [fillAct_on _ l a t ht hl]
      simp [ht]
    · exact fillAct_off _ l a t fun o ho e => hl ⟨o, ho, e⟩
  · exact fillAct_defers _ _ _

/-- Facts in a list, one for each operation. -/
def inList (Fs : List (Value → World → Prop)) (i : Nat) (v : Value) (w : World) : Prop := ((Fs[i]?).getD fun _ _ => True) v w
def stays (f : Value → World → Prop) : Prop := ∀ v w w', Grow w w' → f v w → f v w'
theorem inList_stays {Fs : List (Value → World → Prop)} (h : ∀ f ∈ Fs, stays f) : ∀ i v w w', Grow w w' → inList Fs i v w → inList Fs i v w' := by
  intro i v w w' hg hi
  unfold inList at *
  cases hf : Fs[i]? with
  | none => trivial
  | some f =>
    rw [hf] at hi
    exact h f (List.mem_of_getElem? hf) v w w' hg hi
def isV (u : Value) (v : Value) (_ : World) : Prop := v = u
theorem isV_stays (u : Value) : stays (isV u) := fun _ _ _ _ h => h

/-- **A region that draws its order, by facts that stay.** -/
theorem wp_region_loose {id : Nat} {a : Act} {w : World} {A : (Tmp → Value) → Act} (F : Nat → Value → World → Prop) (hm : P.follows .mixedOrders = true) (hk : looseOk .any ops a.tmps.size = true)
    (hF : ∀ i v w w', Grow w w' → F i v w → F i v w') (hA : ∀ x, fillAct x ops.toList a = A x) (hs : looseSteps P .any ops A w F 0 ops.toList)
    (fin : ∀ (x : Tmp → Value) (w' : World), Grow w w' → (∀ (j : Nat) o', ops[j]? = some o' → F j (leftBy x o') w') → Q .normal (A x) w') :
    (Code.region id ops true).wp P Q a w := by
  obtain rfl : (fun x => fillAct x ops.toList a) = A := funext hA
  refine wp_region_any hm ?_
  have h := wpAny_loose (Q := Q) hk hF hs fin ops.size (Array.replicate ops.size false) (fun t => a.tmps.getD t undef) w.drew ?_ (Grow.drew w) ?_
  · rw [fillAct_own a ops.toList fun o ho d hd => ?_] at h
    · exact h
    · obtain ⟨i, hi⟩ := List.getElem?_of_mem ho
      exact (looseOk_slot hk (i := i) (by simpa using hi) hd).1
  · have : ∀ n, unl (Array.replicate ops.size false) n ≤ n := fun n => by
      induction n with
      | zero => exact Nat.le_refl _
      | succ n ih => simp only [unl]; split <;> omega
    exact this _
  · intro i o ho hl
    have hi : i < ops.size := (Array.getElem?_eq_some_iff.1 ho).1
    simp [hi] at hl
end
end Go.Proofs.Ytpbnpkbmefjiaaa
