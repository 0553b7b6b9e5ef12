/- A REGION THAT DRAWS ITS ORDER AND THEN GOES ON IN THE TEXT's ORDER: its first m operations by facts that stay (Loose), in whatever order; the others wait for them and for one another (the phase of the stores), and are walked as any list of operations. Nothing here is trusted. -/
import Derived.Test.YtmnemkeieaflhaaC01
import Derived.Tactics
import Derived.Test.YtmnemkeieaflhaaC02
import Derived.Deep.DeepCutAuto
import Derived.Laws.CopyOwn
import Derived.RangeFuncNested
import Derived.RangeFuncBound
import Derived.RangeFuncCalls
import Derived.RangeFuncLeaves
import Derived.RangeFuncBox
import Derived.Shelf.Abstract
import Derived.Shelf.RegionOpen
import Derived.OwnWalkIn
import Derived.TacticsInMore
import Derived.LoopNIn
import Derived.LoopIn
import Derived.Deep.DeepFit
import Derived.Laws.Tables
namespace Go.Proofs.Ytmnemkeieaflhaa
set_option linter.unusedVariables false
open Go.RowKit

section
variable {P : Program} {ops : Array Oper} {Q : Exit → Act → World → Prop} {md : Region.Mode}

/-- Of the first m each is waited for by a later one, up to the one at m; from there on each waits for the one ahead of it. -/
def phaseOk (md : Region.Mode) (ops : Array Oper) (m : Nat) : Bool :=
  decide (m < ops.size) && ((List.range m).all fun j => ops.toList.zipIdx.any fun (o, i) => decide (j < i) && decide (i ≤ m) && (bindsOn md o).contains j) &&
  (ops.toList.zipIdx.all fun (o, i) => decide (i ≤ m) || (bindsOn md o).contains (i - 1))

theorem phase_lt {m : Nat} (h : phaseOk md ops m = true) : m < ops.size := by
  unfold phaseOk at h
  simp only [Bool.and_eq_true, decide_eq_true_eq] at h
  exact h.1.1
theorem phase_at {m : Nat} (h : phaseOk md ops m = true) {j : Nat} (hj : j < m) : ∃ i o, ops[i]? = some o ∧ j < i ∧ i ≤ m ∧ j ∈ bindsOn md o := by
  unfold phaseOk at h
  simp only [Bool.and_eq_true] at h
  have h1 := List.all_eq_true.1 h.1.2 j (List.mem_range.2 hj)
  rw [List.any_eq_true] at h1
  obtain ⟨⟨o, i⟩, hm, hc⟩ := h1
  rw [List.mem_zipIdx_iff_getElem?] at hm
  simp only [Bool.and_eq_true, decide_eq_true_eq, List.contains_iff_mem] at hc
  exact ⟨i, o, by simpa using hm, hc.1.1, hc.1.2, hc.2⟩
theorem phase_seq {m : Nat} (h : phaseOk md ops m = true) {i : Nat} {o : Oper} (ho : ops[i]? = some o) (hi : m < i) : i - 1 ∈ bindsOn md o := by
  unfold phaseOk at h
  simp only [Bool.and_eq_true] at h
  have h1 := List.all_eq_true.1 h.2 (o, i) (by rw [List.mem_zipIdx_iff_getElem?]; simpa using ho)
  simp only [Bool.or_eq_true, decide_eq_true_eq, List.contains_iff_mem] at h1
  exact h1.resolve_left (by omega)

theorem dep_listed {listed : Array Bool} {o : Oper} (hall : ∀ e ∈ o.after, Region.binds md e = true → listed.getD e.on false = true) : ∀ j ∈ bindsOn md o, listed.getD j true = true ∧ j < listed.size := by
  intro j hj
  unfold bindsOn at hj
  obtain ⟨e, he, rfl⟩ := List.mem_map.1 hj
  obtain ⟨he1, he2⟩ := List.mem_filter.1 he
  have h1 := hall e (by simpa using he1) he2
  have hs' : e.on < listed.size := by
    rcases Nat.lt_or_ge e.on listed.size with h' | h'
    · exact h'
    · simp [Array.getElem?_eq_none h'] at h1
  exact ⟨by simpa [hs'] using h1, hs'⟩

/-- All up to k have come, no other: the rest comes in the text's order. -/
theorem wpAny_seq {m size : Nat} (hk : looseOk md ops size = true) (hp : phaseOk md ops m = true) : ∀ (fuel : Nat) (listed : Array Bool) (k : Nat) (a : Act) (w : World), m ≤ k → k ≤ ops.size → ops.size - k ≤ fuel → listed.size = ops.size →
    (∀ j, j < ops.size → listed.getD j true = decide (j < k)) → wpList P ops Q (ops.toList.drop k) a w → wpAny P md ops Q fuel listed a w := by
  intro fuel
  induction fuel with
  | zero =>
    intro listed k a w hmk hkm hf hsz hl h
    obtain rfl : k = ops.size := by omega
    refine ⟨?_, ?_⟩
    · rw [List.eq_nil_iff_forall_not_mem]
      intro j hj
      obtain ⟨h0, o, ho, _⟩ := mem_ready.1 hj
      have hj := (Array.getElem?_eq_some_iff.1 ho).1
      rw [hl j hj] at h0
      simp [hj] at h0
    · rw [List.drop_of_length_le (by simp)] at h
      exact h
  | succ fuel ih =>
    intro listed k a w hmk hkm hf hsz hl h
    rcases Nat.lt_or_ge k ops.size with hlt | hge
    · have hdrop : ops.toList.drop k = ops[k] :: ops.toList.drop (k + 1) := by
        rw [List.drop_eq_getElem_cons (by simpa using hlt)]
        simp
      rw [hdrop] at h
      have hset : ∀ j, j < ops.size → (listed.setIfInBounds k true).getD j true = decide (j < k + 1) := fun j hj => by
        by_cases e : j = k
        · subst e
          have : j < listed.size := by omega
          simp [this]
        · rw [getD_set_ne true (Ne.symm e), hl j hj]
          by_cases h' : j < k
          · rw [decide_eq_true h', decide_eq_true (by omega)]
          · rw [decide_eq_false h', decide_eq_false (by omega)]
      have next : ∀ a w, wpList P ops Q (ops.toList.drop (k + 1)) a w → wpAny P md ops Q fuel (listed.setIfInBounds k true) a w := fun a w h' =>
        ih _ (k + 1) a w (by omega) (by omega) (by omega) (by simpa using hsz) hset h'
      refine ⟨fun hr => ?_, fun i hi => ?_⟩
      · exfalso
        have h1 := all_listed hk hr k hlt
        rw [hl k hlt] at h1
        simp at h1
      · obtain ⟨h0, o, ho, hall⟩ := mem_ready.1 hi
        have hilt : i < ops.size := (Array.getElem?_eq_some_iff.1 ho).1
        have hik : k ≤ i := by
          rw [hl i hilt] at h0
          simpa using h0
        have : i = k := by
          rcases Nat.lt_or_ge k i with h' | h'
          · have hd := (dep_listed hall _ (phase_seq hp ho (by omega))).1
            rw [hl (i - 1) (by omega)] at hd
            simp at hd
            omega
          · omega
        subst this
        unfold wpOp
        rw [ho]
        rw [show ops[i] = o from by rw [Array.getElem?_eq_getElem hilt] at ho; exact Option.some.inj ho] at h
        simp only [wpList] at h
        show if Region.wanted o (yielded ops a.tmps) = true then _ else _
        split
        · rename_i hw
          rw [if_pos hw] at h
          exact h.imp (Oper.wp_mono next) id
        · rename_i hw
          rw [if_neg hw] at h
          exact next _ _ h
    · obtain rfl : k = ops.size := by omega
      rw [List.drop_of_length_le (by simp)] at h
      refine ⟨fun _ => h, fun i hi => ?_⟩
      obtain ⟨h0, o, ho, _⟩ := mem_ready.1 hi
      have hilt := (Array.getElem?_eq_some_iff.1 ho).1
      rw [hl i hilt] at h0
      simp [hilt] at h0

theorem wpAny_phase {a₀ : Act} {w₀ : World} {F : Nat → Value → World → Prop} {m : Nat} (hp : phaseOk md ops m = true) (hk : looseOk md ops a₀.tmps.size = true)
    (hF : ∀ i v w w', Grow w w' → F i v w → F i v w') (hs : looseSteps P md ops (fun x => fillAct x (ops.toList.take m) a₀) w₀ F 0 (ops.toList.take m))
    (fin : ∀ (x : Tmp → Value) (w : World), Grow w₀ w → (∀ (j : Nat) o', j < m → ops[j]? = some o' → F j (leftBy x o') w) → wpList P ops Q (ops.toList.drop m) (fillAct x (ops.toList.take m) a₀) w) :
    ∀ (fuel : Nat) (listed : Array Bool) (x : Tmp → Value) (w : World), unl listed ops.size ≤ fuel → ops.size - m ≤ fuel → listed.size = ops.size → Grow w₀ w →
      (∀ j, m ≤ j → j < ops.size → listed.getD j true = false) → (∀ (i : Nat) o, ops[i]? = some o → listed.getD i true = true → ∀ j ∈ bindsOn md o, listed.getD j true = true) →
      (∀ i o, ops[i]? = some o → listed.getD i true = true → F i (leftBy x o) w) → wpAny P md ops Q fuel listed (fillAct x (ops.toList.take m) a₀) w := by
  have hlt := phase_lt hp
  intro fuel
  induction fuel with
  | zero =>
    intro listed x w hu hf hsz hg hm0 hcl hf'
    have h1 := unl_zero listed ops.size (by omega) m (by omega)
    rw [hm0 m (Nat.le_refl _) hlt] at h1
    cases h1
  | succ fuel ih =>
    intro listed x w hu hfu hsz hg hm0 hcl hf
    by_cases hall0 : ∀ j, j < m → listed.getD j true = true
    · refine wpAny_seq hk hp (fuel + 1) listed m _ w (Nat.le_refl _) (by omega) (by omega) hsz (fun j hj => ?_) (fin x w hg fun j o' hj ho' => hf j o' ho' (hall0 j hj))
      by_cases h' : j < m
      · rw [hall0 j h', decide_eq_true h']
      · rw [hm0 j (by omega) hj, decide_eq_false h']
    · have hfuel : ops.size - m ≤ fuel := by
        have h1 : ∀ (n : Nat), n ≤ ops.size → n - m ≤ unl listed n := by
          intro n
          induction n with
          | zero => intro _; simp
          | succ n ihn =>
            intro hn
            have := ihn (by omega)
            simp only [unl]
            by_cases h' : m ≤ n
            · rw [if_neg (by rw [hm0 n h' (by omega)]; simp)]
              omega
            · split <;> omega
        have h2 : ∃ j, j < m ∧ listed.getD j true = false := by
          rcases Classical.not_forall.1 hall0 with ⟨j, hj⟩
          rcases Classical.not_imp.1 hj with ⟨h3, h4⟩
          exact ⟨j, h3, by simpa using h4⟩
        obtain ⟨j, hj, hjl⟩ := h2
        have h3 : ∀ (n : Nat), n ≤ ops.size → j < n → n - m + 1 ≤ unl listed n := by
          intro n
          induction n with
          | zero => intro _ h; omega
          | succ n ihn =>
            intro hn hjn
            simp only [unl]
            by_cases e : j = n
            · subst e
              have := h1 j (by omega)
              rw [if_neg (by rw [hjl]; simp)]
              omega
            · have := ihn (by omega) (by omega)
              by_cases h' : m ≤ n
              · rw [if_neg (by rw [hm0 n h' (by omega)]; simp)]
                omega
              · split <;> omega
        have := h3 ops.size (Nat.le_refl _) (by omega)
        omega
      refine ⟨fun hr => ?_, fun i hi => ?_⟩
      · have := all_listed hk hr m hlt
        rw [hm0 m (Nat.le_refl _) hlt] at this
        cases this
      · obtain ⟨h0, o, ho, hall⟩ := mem_ready.1 hi
        have hilt : i < ops.size := (Array.getElem?_eq_some_iff.1 ho).1
        have hdepl : ∀ j ∈ bindsOn md o, listed.getD j true = true := fun j hj => (dep_listed hall j hj).1
        have him : i < m := by
          rcases Nat.lt_or_ge i m with h' | h'
          · exact h'
          · exfalso
            have e : i = m := by
              rcases Nat.lt_or_ge m i with h2 | h2
              · have h3 := hdepl _ (phase_seq hp ho h2)
                rw [hm0 (i - 1) (by omega) (by omega)] at h3
                cases h3
              · omega
            subst e
            apply hall0
            have key : ∀ (n j : Nat), j + n = i → 0 < n → listed.getD j true = true := by
              intro n
              induction n using Nat.strongRecOn with
              | _ n ihn =>
                intro j hj hn
                obtain ⟨i', o', ho', hji, him', hb⟩ := phase_at hp (j := j) (by omega)
                rcases Nat.lt_or_ge i' i with h1 | h1
                · exact hcl i' o' ho' (ihn (i - i') (by omega) i' (by omega) (by omega)) j hb
                · obtain rfl : i' = i := by omega
                  rw [ho] at ho'
                  cases ho'
                  exact hdepl j hb
            exact fun j hj => key (i - j) j (by omega) (by omega)
        have hst := looseSteps_at (ops.toList.take m) 0 hs i o (by rw [List.getElem?_take, if_pos (by omega)]; simpa using ho)
        rw [Nat.zero_add] at hst
        have hdeps : ∀ j ∈ bindsOn md o, ∀ o', ops[j]? = some o' → F j (leftBy x o') w := fun j hj o' ho' => hf j o' ho' (hdepl j hj)
        have hm1 : ∀ j, m ≤ j → j < ops.size → (listed.setIfInBounds i true).getD j true = false := fun j h1 h2 => by rw [getD_set_ne true (by omega)]; exact hm0 j h1 h2
        have hcl1 : ∀ (i' : Nat) o', ops[i']? = some o' → (listed.setIfInBounds i true).getD i' true = true → ∀ j ∈ bindsOn md o', (listed.setIfInBounds i true).getD j true = true := by
          intro i' o' ho' hl j hj
          have up : listed.getD j true = true → (listed.setIfInBounds i true).getD j true = true := fun h => by
            by_cases e : i = j
            · subst e
              have : i < listed.size := by omega
              simp [this]
            · rw [getD_set_ne true e]; exact h
          by_cases e : i = i'
          · subst e
            rw [ho] at ho'
            cases ho'
            exact up (hdepl j hj)
          · rw [getD_set_ne true e] at hl
            exact up (hcl i' o' ho' hl j hj)
        have hmem : o ∈ ops.toList.take m := by
          have h1 : (ops.toList.take m)[i]? = some o := by rw [List.getElem?_take, if_pos him]; simpa using ho
          exact List.mem_of_getElem? h1
        have next : ∀ v w', Grow w w' → F i (leftAs o v) w' → wpAny P md ops Q fuel (listed.setIfInBounds i true) ((fillAct x (ops.toList.take m) a₀).put o.dst v) w' := by
          intro v w' hg' hv
          have hun := unl_set listed i h0 ops.size hilt
          cases hd : o.dst with
          | none =>
            refine ih _ x w' (by omega) hfuel (by simpa using hsz) (hg.trans hg') hm1 hcl1 fun j o' ho' hl => ?_
            by_cases hij : i = j
            · subst hij
              rw [ho] at ho'
              cases ho'
              simpa [leftBy, leftAs, hd] using hv
            · rw [getD_set_ne true hij] at hl
              exact hF _ _ _ _ hg' (hf j o' ho' hl)
          | some d =>
            obtain ⟨hds, hdn⟩ := looseOk_slot hk ho hd
            rw [fillAct_put x (ops.toList.take m) a₀ d v ⟨o, hmem, hd⟩ hds]
            refine ih _ _ w' (by omega) hfuel (by simpa using hsz) (hg.trans hg') hm1 hcl1 fun j o' ho' hl => ?_
            by_cases hij : i = j
            · subst hij
              rw [ho] at ho'
              cases ho'
              simpa [leftBy, leftAs, hd] using hv
            · rw [getD_set_ne true hij] at hl
              have hne := hdn j o' ho' hij
              have : leftBy (fun t => if t = d then v else x t) o' = leftBy x o' := by
                unfold leftBy
                cases hd' : o'.dst with
                | none => rfl
                | some d' =>
                  have : d' ≠ d := fun e => hne (by rw [hd', e])
                  simp [this]
              rw [this]
              exact hF _ _ _ _ hg' (hf j o' ho' hl)
        have h1 := hst x w hg hdeps (fun v w' => wpAny P md ops Q fuel (listed.setIfInBounds i true) ((fillAct x (ops.toList.take m) a₀).put o.dst v) w') next
        unfold wpOp
        rw [ho]
        show if Region.wanted o (yielded ops (fillAct x (ops.toList.take m) a₀).tmps) = true then _ else _
        split
        · rename_i hw
          rw [if_pos hw] at h1
          exact .inl (wp_of_loose (fun _ _ h => h) h1)
        · rename_i hw
          rw [if_neg hw] at h1
          exact h1

/-- **A region that draws its order, up to its m-th operation; behind them the text's order.** -/
theorem wp_region_phase {id : Nat} {a : Act} {w : World} {A : (Tmp → Value) → Act} (F : Nat → Value → World → Prop) (m : Nat) (hm : P.follows .mixedOrders = true) (hp : phaseOk .any ops m = true) (hk : looseOk .any ops a.tmps.size = true)
    (hF : ∀ i v w w', Grow w w' → F i v w → F i v w') (hA : ∀ x, fillAct x (ops.toList.take m) a = A x) (hs : looseSteps P .any ops A w F 0 (ops.toList.take m))
    (fin : ∀ (x : Tmp → Value) (w' : World), Grow w w' → (∀ (j : Nat) o', j < m → ops[j]? = some o' → F j (leftBy x o') w') → wpList P ops Q (ops.toList.drop m) (A x) w') :
    (Code.region id ops true).wp P Q a w := by
  obtain rfl : (fun x => fillAct x (ops.toList.take m) a) = A := funext hA
  refine wp_region_any hm ?_
  have hlt := phase_lt hp
  have hrep : ∀ j, j < ops.size → (Array.replicate ops.size false).getD j true = false := fun j hj => by simp [hj]
  have h := wpAny_phase (Q := Q) hp hk hF hs fin ops.size (Array.replicate ops.size false) (fun t => a.tmps.getD t undef) w.drew ?_ (by omega) (by simp) (Grow.drew w) (fun j _ hj => hrep j hj) ?_ ?_
  · rw [fillAct_own a (ops.toList.take m) fun o ho d hd => ?_] at h
    · exact h
    · obtain ⟨i, hi⟩ := List.getElem?_of_mem (List.mem_of_mem_take ho)
      exact (looseOk_slot hk (i := i) (by simpa using hi) hd).1
  · have : ∀ n, unl (Array.replicate ops.size false) n ≤ n := fun n => by
      induction n with
      | zero => exact Nat.le_refl _
      | succ n ih => simp only [unl]; split <;> omega
    exact this _
  · intro i o ho hl
    rw [hrep i (Array.getElem?_eq_some_iff.1 ho).1] at hl
    cases hl
  · intro i o ho hl
    rw [hrep i (Array.getElem?_eq_some_iff.1 ho).1] at hl
    cases hl
end
end Go.Proofs.Ytmnemkeieaflhaa
/- Facts that stay, for regions that draw their order: a slice of bytes, a slice of such, a row of the call's own, texts. -/
namespace Go.Proofs.Ytmnemkeieaflhaa
set_option linter.unusedVariables false
set_option linter.unusedSimpArgs false
open Go.ChangeShapes Go.WideShapes Go.ChangeAt Go.RowKit

def isB (l : List UInt8) (v : Value) (w : World) : Prop := Byt w v l
theorem isB_stays (l : List UInt8) : stays (isB l) := fun _ _ _ hg h => Byt.grow h hg
def isBs (ls : List (List UInt8)) (v : Value) (w : World) : Prop := Byts w v ls
theorem isBs_stays (ls : List (List UInt8)) : stays (isBs ls) := fun _ _ _ hg h => Byts.grow h hg
def strV (l : List UInt8) : Value := .string ⟨l.toArray⟩
theorem str1 {w : World} {v : Value} {l : List UInt8} (h : Byt w v l) : (convert 36 9 v).run Try.prog w = .ok (strV l) w := h.str _ _ 5 Try.underlying36 Try.underlying5 Try.underlying9

/-- The row behind a copy of two bytes. -/
def lay (l : List UInt8) (k : Nat) (m : List UInt8) : List UInt8 := l.take k ++ (m ++ l.drop (k + m.length))
theorem lay_length (l : List UInt8) (k : Nat) (m : List UInt8) (h : k + m.length ≤ l.length) : (lay l k m).length = l.length := by simp [lay]; omega

/-- A row of the call's own: its block's cells, whatever lies behind the row. -/
theorem Own.cells {w : World} {base : Nat} {v : Value} {l : List UInt8} (h : Own w base v l) (hl : 0 < l.length) : ∃ g cap zs, v = .slice (some ⟨g, 0, none⟩) l.length cap ∧ base ≤ g ∧ l.length ≤ cap ∧ cap ≤ maxLen ∧ w.heap[g]? = some (.cells (l.map bv ++ zs).toArray 5 (0, 0)) ∧ (l.map bv ++ zs).length = cap := by
  obtain ⟨h1, h2⟩ := h
  rcases h2 with ⟨_, hx⟩ | ⟨g, cap, cur, e1, e2, hh, hn, hm, hc, ht⟩
  · simp at hx; subst hx; simp at hl
  · refine ⟨g, cap, cur.toList.drop l.length, e1, e2, hn, hm, ?_, ?_⟩
    · rw [Nat.mul_one] at ht
      rw [← ht, List.take_append_drop]
      simpa using hh
    · rw [Nat.mul_one] at ht
      rw [← ht, List.take_append_drop]
      simpa using hc
theorem Own.of_cells {w : World} {base g cap : Nat} {l : List UInt8} {zs : List Value} (hb : base ≤ g) (hn : l.length ≤ cap) (hm : cap ≤ maxLen) (hh : w.heap[g]? = some (.cells (l.map bv ++ zs).toArray 5 (0, 0))) (hc : (l.map bv ++ zs).length = cap) : Own w base (.slice (some ⟨g, 0, none⟩) l.length cap) l := by
  refine ⟨by simp, .inr ⟨g, cap, (l.map bv ++ zs).toArray, rfl, hb, hh, hn, hm, by simpa using hc, ?_⟩⟩
  rw [Nat.mul_one]
  simp
end Go.Proofs.Ytmnemkeieaflhaa
/- What a law's frame hands to its walk. -/
namespace Go.Proofs.Ytmnemkeieaflhaa
set_option linter.unusedVariables false
open Go.RowKit

theorem block_of_cell {w : World} {p : Addr} {v : Value} (h : w.cell? p = some v) : p.block < w.heap.size := by
  rcases Nat.lt_or_ge p.block w.heap.size with h' | h'
  · exact h'
  · unfold World.cell? at h
    rw [Array.getElem?_eq_none h'] at h
    simp at h
theorem add_at {b off : Nat} (j : Nat) : (⟨b, off, none⟩ : Addr).add j = ⟨b, off + j, none⟩ := by unfold Addr.add; split <;> simp_all

/-- A slice of bytes that came in. -/
theorem Byt.of_ints {w : World} {x : Addr} {l c : Nat} {zs : List Int} (hl : l ≤ c) (hm : c ≤ maxLen) (hz : zs.length = c) (hcell : ∀ i, i < zs.length → w.cell? (x.add i) = some (.int .u8 (zs.getD i 0)))
    (hwz : ∀ n ∈ zs, (Lit.int .u8 n).wf = true) : ∃ bs, Byt w (.slice (some x) l c) bs ∧ bs.length = l := by
  have e1 : ∀ n ∈ zs, (((UInt8.ofNat n.toNat).toNat : Nat) : Int) = n := by
    intro n hn
    have h := hwz n hn
    simp [Lit.wf, IntKind.min, IntKind.max, IntKind.signed, IntKind.bits] at h
    rw [UInt8.toNat_ofNat']
    omega
  refine ⟨(zs.take l).map fun n => UInt8.ofNat n.toNat, ?_, by simp; omega⟩
  refine Rd.mk_ (by simp; omega) hl hm fun hp => ?_
  obtain ⟨b, off, spot⟩ := x
  have h0 := hcell 0 (by omega)
  have hs : spot = none := by simpa [Addr.add] using World.cell?_spot h0
  subst hs
  refine ⟨b, off, rfl, block_of_cell (p := ⟨b, off, none⟩) (by simpa [Addr.add] using h0), fun j hj => ?_⟩
  have hj' : j < zs.length := by simp at hj; omega
  rw [← add_at, hcell j hj']
  simp only [List.getElem_map, List.getElem_take, bv]
  rw [e1 _ (List.getElem_mem hj')]
  simp [List.getD, List.getElem?_eq_getElem hj']
end Go.Proofs.Ytmnemkeieaflhaa
/- The words of bytes, visited by an iterator, and the sum over them: a range over a function. -/
namespace Go.Proofs.Ytmnemkeieaflhaa
set_option linter.unusedVariables false
set_option linter.unusedSimpArgs false
open Go.RowKit Go.Shelf
attribute [local go_sem] Oper.semAt_some

abbrev W16 := { x : Nat // x < 65536 }
@[reducible] def wv (x : W16) : Array Value := #[.int .i64 (x.1 : Int)]
/-- What a round keeps: what lay below m, and the captured box. -/
def KB (m Bs : Nat) (W W' : World) : Prop := Below m W W' ∧ W'.cell? ⟨Bs, 0, none⟩ = W.cell? ⟨Bs, 0, none⟩
theorem KB.refl (m Bs : Nat) (W : World) : KB m Bs W W := ⟨Below.refl _ _, rfl⟩
theorem KB.trans {m Bs : Nat} {A B C : World} (h : KB m Bs A B) (k : KB m Bs B C) : KB m Bs A C := ⟨h.1.trans k.1, k.2.trans h.2⟩
theorem KB.cell {m Bs : Nat} {A B : World} (h : KB m Bs A B) {p : Addr} (hp : p.block < m) : B.cell? p = A.cell? p := h.1.cell hp
def wupF (l : List UInt8) (k : Nat) : List W16 := (List.range k).map fun j => ⟨wordAt l j, wordAt_lt l j⟩
theorem wupF_succ (l : List UInt8) (k : Nat) : wupF l (k + 1) = wupF l k ++ [⟨wordAt l k, wordAt_lt l k⟩] := by simp [wupF, List.range_succ]
theorem wupF_length (l : List UInt8) (k : Nat) : (wupF l k).length = k := by simp [wupF]
theorem wupF_val (l : List UInt8) (k : Nat) : (wupF l k).map (·.1) = wup l k := by simp [wupF, wup]

def sumW (pre : List W16) : Nat := sumc (pre.map (·.1))
theorem sumW_snoc (pre : List W16) (x : W16) : sumW (pre ++ [x]) = addc (sumW pre) x.1 := by simp [sumW, sumc_snoc]
theorem sumW_lt (pre : List W16) : sumW pre < 65536 := by
  rw [sumW, sumc_ocs]
  · exact ocs_le _
  · intro y hy
    simp only [List.mem_map] at hy
    obtain ⟨z, _, rfl⟩ := hy
    exact z.2
theorem sumW_all (l : List UInt8) : sumW (wupF l (nwords l)) = ones l := by rw [sumW, wupF_val]; rfl

end Go.Proofs.Ytmnemkeieaflhaa
/- The laws' own walks, layer sum. -/
namespace Go.Proofs.Ytmnemkeieaflhaa
set_option linter.unusedVariables false
set_option linter.unusedSimpArgs false
open Go.ChangeShapes Go.WideShapes Go.ChangeAt Go.RowKit

end Go.Proofs.Ytmnemkeieaflhaa
/- Two bytes written over; the header; the packet as bytes. -/
namespace Go.Proofs.Ytmnemkeieaflhaa
set_option linter.unusedVariables false
set_option linter.unusedSimpArgs false
open Go.ChangeShapes Go.WideShapes Go.ChangeAt Go.RowKit

theorem splice_lay (l m : List UInt8) (zs : List Value) (k : Nat) (hk : k + m.length ≤ l.length) : splice (l.map bv ++ zs) k (m.map bv) = (lay l k m).map bv ++ zs := by
  unfold splice lay
  rw [List.take_append_of_le_length (by simp; omega), List.drop_append_of_le_length (by simp; omega)]
  simp [List.map_take, List.map_drop]

/-- A packet's cells, in a block of their own. -/
def Boxd (w : World) (b : Nat) (k : Pkt) (vo vd : Value) : Prop :=
  w.cell? ⟨b, 0, none⟩ = some (.int .u8 (k.tos : Int)) ∧ w.cell? ⟨b, 1, none⟩ = some (.int .u16 (k.ident : Int)) ∧ w.cell? ⟨b, 2, none⟩ = some (.bool k.whole) ∧ w.cell? ⟨b, 3, none⟩ = some (.bool k.more) ∧ w.cell? ⟨b, 4, none⟩ = some (.int .i64 k.off) ∧ w.cell? ⟨b, 5, none⟩ = some (.int .u8 (k.ttl : Int)) ∧ w.cell? ⟨b, 6, none⟩ = some (.int .u8 (k.proto : Int)) ∧ w.cell? ⟨b, 7, none⟩ = some (.int .u32 (k.src : Int)) ∧ w.cell? ⟨b, 8, none⟩ = some (.int .u32 (k.dst : Int)) ∧ w.cell? ⟨b, 9, none⟩ = some (vo) ∧ w.cell? ⟨b, 10, none⟩ = some (vd)
theorem cell_lt {w : World} {p : Addr} {v : Value} (h : w.cell? p = some v) : p.block < w.heap.size := block_of_cell h
theorem Boxd.grow {w w' : World} {b : Nat} {k : Pkt} {vo vd : Value} (h : Boxd w b k vo vd) (g : Grow w w') : Boxd w' b k vo vd := by
  obtain ⟨c0, c1, c2, c3, c4, c5, c6, c7, c8, c9, c10⟩ := h
  have hlt : b < w.heap.size := cell_lt c0
  exact ⟨(g.cell (p := ⟨b, 0, none⟩) hlt).trans c0, (g.cell (p := ⟨b, 1, none⟩) hlt).trans c1, (g.cell (p := ⟨b, 2, none⟩) hlt).trans c2, (g.cell (p := ⟨b, 3, none⟩) hlt).trans c3, (g.cell (p := ⟨b, 4, none⟩) hlt).trans c4, (g.cell (p := ⟨b, 5, none⟩) hlt).trans c5, (g.cell (p := ⟨b, 6, none⟩) hlt).trans c6, (g.cell (p := ⟨b, 7, none⟩) hlt).trans c7, (g.cell (p := ⟨b, 8, none⟩) hlt).trans c8, (g.cell (p := ⟨b, 9, none⟩) hlt).trans c9, (g.cell (p := ⟨b, 10, none⟩) hlt).trans c10⟩
theorem Boxd.new (w : World) (k : Pkt) (vo vd : Value) : Boxd (w.alloc (.cells #[.int .u8 (k.tos : Int), .int .u16 (k.ident : Int), .bool k.whole, .bool k.more, .int .i64 k.off, .int .u8 (k.ttl : Int), .int .u8 (k.proto : Int), .int .u32 (k.src : Int), .int .u32 (k.dst : Int), vo, vd] 38)) w.heap.size k vo vd := by
  unfold Boxd World.cell?
  rw [heap_alloc_new]
  exact ⟨rfl, rfl, rfl, rfl, rfl, rfl, rfl, rfl, rfl, rfl, rfl⟩

end Go.Proofs.Ytmnemkeieaflhaa
/- A packet laid into its block, and read there. -/
namespace Go.Proofs.Ytmnemkeieaflhaa
set_option linter.unusedVariables false
set_option linter.unusedSimpArgs false
open Go.ChangeShapes Go.WideShapes Go.ChangeAt Go.RowKit

/-- The block g holds the packet. -/
def Blk (w : World) (g : Nat) (k : Pkt) (vo vd : Value) : Prop := w.heap[g]? = some (.cells #[.int .u8 (k.tos : Int), .int .u16 (k.ident : Int), .bool k.whole, .bool k.more, .int .i64 k.off, .int .u8 (k.ttl : Int), .int .u8 (k.proto : Int), .int .u32 (k.src : Int), .int .u32 (k.dst : Int), vo, vd] 38 (0, 0))
theorem Blk.boxd {w : World} {g : Nat} {k : Pkt} {vo vd : Value} (h : Blk w g k vo vd) : Boxd w g k vo vd := by
  unfold Boxd World.cell?
  unfold Blk at h
  rw [h]
  exact ⟨rfl, rfl, rfl, rfl, rfl, rfl, rfl, rfl, rfl, rfl, rfl⟩
theorem Blk.lt {w : World} {g : Nat} {k : Pkt} {vo vd : Value} (h : Blk w g k vo vd) : g < w.heap.size := (Array.getElem?_eq_some_iff.1 h).1
theorem Blk.grow {w w' : World} {g : Nat} {k : Pkt} {vo vd : Value} (h : Blk w g k vo vd) (gr : Grow w w') : Blk w' g k vo vd := (Below.block gr g h.lt).trans h
theorem Blk.new (w : World) (k : Pkt) (vo vd : Value) : Blk (w.alloc (.cells #[.int .u8 (k.tos : Int), .int .u16 (k.ident : Int), .bool k.whole, .bool k.more, .int .i64 k.off, .int .u8 (k.ttl : Int), .int .u8 (k.proto : Int), .int .u32 (k.src : Int), .int .u32 (k.dst : Int), vo, vd] 38)) w.heap.size k vo vd := heap_alloc_new w _
theorem Blk.frozen {w : World} {g : Nat} {k : Pkt} {vo vd : Value} (h : Blk w g k vo vd) (i : Nat) : w.frozen? ⟨g, i, none⟩ = false := by
  unfold Blk at h
  unfold World.frozen?
  rw [h]
  simp
/-- All blocks but g are as they were. -/
def But (g : Nat) (w w' : World) : Prop := w'.heap.size = w.heap.size ∧ ∀ b, b ≠ g → w'.heap[b]? = w.heap[b]?
theorem Own.but {w w' : World} {g base : Nat} {v : Value} {l : List UInt8} (h : Own w base v l) (hb : But g w w') (hg : g < base) : Own w' base v l := by
  refine ⟨h.1, ?_⟩
  rcases h.2 with h2 | ⟨b, cap, cur, hv, hbb, hh, r⟩
  · exact .inl h2
  · exact .inr ⟨b, cap, cur, hv, hbb, (hb.2 b (by omega)).trans hh, r⟩
theorem Own.one {w : World} {base : Nat} {v : Value} {l : List UInt8} (h : Own w base v l) : v.oneCell' = true := by
  rcases h.2 with ⟨rfl, _⟩ | ⟨b, cap, cur, rfl, _⟩ <;> rfl
theorem Byt.one {w : World} {v : Value} {l : List UInt8} (h : Byt w v l) : v.oneCell' = true := by
  obtain ⟨A, c, rfl, _, _⟩ := h.form
  rfl

/-- *p = packet, as one step of a walk. -/
theorem wpList_store_ip (w₀ w : World) {ops : Array Oper} {rest : List Oper} {o : Oper} {a : Act} {Q : Exit → Act → World → Prop} (hgd : o.guard = none) (x y : Operand) (ho : o.op = .store 38 x y) (hdst : o.dst = none)
    (g : Nat) (hx : a.eval x = .pointer (some ⟨g, 0, none⟩)) (k k₀ : Pkt) (vo vd vo₀ vd₀ : Value) (hy : a.eval y = ipV k vo vd) (h1 : vo.oneCell' = true) (h2 : vd.oneCell' = true) (hb : Blk w g k₀ vo₀ vd₀)
    (hgr : Grow w₀ w) (hg : w₀.heap.size ≤ g) (h : ∀ w', Blk w' g k vo vd → But g w w' → Grow w₀ w' → wpList Try.prog ops Q rest a w') : wpList Try.prog ops Q (o :: rest) a w := by
  refine wpList_store_row hgd 38 x y ho g #[.int .u8 (k.tos : Int), .int .u16 (k.ident : Int), .bool k.whole, .bool k.more, .int .i64 k.off, .int .u8 (k.ttl : Int), .int .u8 (k.proto : Int), .int .u32 (k.src : Int), .int .u32 (k.dst : Int), vo, vd] hx hy 38 _ hb (by kernel_rfl) rfl ?_ ?_
  · rw [Array.all_eq_true_iff_forall_mem]
    intro z hz
    simp only [List.mem_toArray, List.mem_cons, List.not_mem_nil, or_false] at hz
    rcases hz with rfl | rfl | rfl | rfl | rfl | rfl | rfl | rfl | rfl | rfl | rfl <;> first | rfl | exact h1 | exact h2
  · have e : a.put o.dst undef = a := by rw [hdst]; rfl
    rw [e]
    refine h _ (setRow_heap w g _ _ _ _ hb) ⟨by simp [World.setRow], fun b hne => setRow_other w g b _ hne⟩ (below_setRow hgr hg _)

set_option maxHeartbeats 400000 in
/-- A packet and a number, handed back out of the packet's block. -/
theorem results_ip {fn : Func} (h : fn.results = #[.cell 2 38, .tmp 3]) (tmps : Array Value) (w : World) (g : Nat) (k : Pkt) (vo vd : Value) (ht : tmps.getD 2 undef = .pointer (some ⟨g, 0, none⟩)) (hb : Blk w g k vo vd) :
    (results fn tmps).run Try.prog w = .ok (.tuple #[ipV k vo vd, tmps.getD 3 undef]) w := by
  obtain ⟨b0, b1, b2, b3, b4, b5, b6, b7, b8, b9, b10⟩ := hb.boxd
  have ht' : tmps[2]?.getD undef = .pointer (some ⟨g, 0, none⟩) := by simpa using ht
  simp only [results, h, go_sem]
  simp [ht', b0, b1, b2, b3, b4, b5, b6, b7, b8, b9, b10, go_sem]

def isO (b : Nat) (l : List UInt8) (v : Value) (w : World) : Prop := Own w b v l
theorem isO_stays {b : Nat} (l : List UInt8) : stays (isO b l) := fun _ _ _ hg h => Own.grow h hg
end Go.Proofs.Ytmnemkeieaflhaa
