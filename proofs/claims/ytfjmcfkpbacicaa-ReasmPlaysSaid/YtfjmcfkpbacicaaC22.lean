/- A region that draws its order and ends in one operation that waits for all others (TailJ), where a fact may speak of the slots of several operations (of its own, and of those that it waits for): what a store did to the block whose address another operation laid. Nothing here is trusted. -/
import Derived.Test.YtfjmcfkpbacicaaC16
import Derived.Test.YtfjmcfkpbacicaaC21
namespace Go.Proofs.Ytfjmcfkpbacicaa
set_option linter.unusedVariables false
open Go.RowKit

section
variable {P : Program} {ops : Array Oper} {Q : Exit → Act → World → Prop} {md : Region.Mode}

/-- The slots behind operation o, which leaves v. -/
def updS (x : Tmp → Value) (o : Oper) (v : Value) : Tmp → Value := match o.dst with | none => x | some d => fun t => if t = d then v else x t
/-- What the operations that fact i speaks of have left. -/
def valsS (ops : Array Oper) (rd : Nat → List Nat) (i : Nat) (x : Tmp → Value) : List Value := (rd i).map fun r => match ops[r]? with | some o => leftBy x o | none => undef

/-- Another operation that is not done once 'j' is ready still takes what holds at the start. -/
def stillI (md : Region.Mode) (ops : Array Oper) (ni : List Nat) (j : Nat) : Bool := (List.range ops.size).any fun k => decide (k ≠ j) && (!(waits md ops j).contains k && ni.contains k)

theorem stillI_of {ni : List Nat} {j k : Nat} {o oj : Oper} (ho : ops[k]? = some o) (hj : ops[j]? = some oj) (hkj : k ≠ j) (hn : k ∉ bindsOn md oj) (hi : k ∈ ni) : stillI md ops ni j = true := by
  unfold stillI
  rw [List.any_eq_true]
  refine ⟨k, List.mem_range.2 (Array.getElem?_eq_some_iff.1 ho).1, ?_⟩
  rw [waits_of hj]
  simp only [Bool.and_eq_true, decide_eq_true_eq, Bool.not_eq_true', List.contains_eq_mem, decide_eq_false_iff_not]
  exact ⟨hkj, hn, hi⟩

def looseStepX (I : World → Prop) (ni : List Nat) (nd : Nat → List Nat) (R : World → World → Prop) (RJ : Nat → World → World → Prop) (P : Program) (md : Region.Mode) (ops : Array Oper) (A : (Tmp → Value) → Act) (w₀ : World) (rd : Nat → List Nat) (F : Nat → List Value → World → Prop) (i : Nat) (o : Oper) : Prop :=
  ∀ (x : Tmp → Value) (w : World), R w₀ w → (i ∈ ni → I w) → (∀ j ∈ nd i, F j (valsS ops rd j x) w) → ∀ post : Value → World → Prop, (∀ v w', R w w' → RJ i w w' → F i (valsS ops rd i (updS x o v)) w' → post v w') →
    if Region.wanted o (yielded ops (A x).tmps) = true then looseUpon P post ((execOp (A x).eval o).run P w) else post undef w

def looseStepsX (I : World → Prop) (ni : List Nat) (nd : Nat → List Nat) (R : World → World → Prop) (RJ : Nat → World → World → Prop) (P : Program) (md : Region.Mode) (ops : Array Oper) (A : (Tmp → Value) → Act) (w₀ : World) (rd : Nat → List Nat) (F : Nat → List Value → World → Prop) : Nat → List Oper → Prop
  | _, [] => True
  | i, o :: r => looseStepX I ni nd R RJ P md ops A w₀ rd F i o ∧ looseStepsX I ni nd R RJ P md ops A w₀ rd F (i + 1) r

theorem looseStepsX_at {I : World → Prop} {ni : List Nat} {nd : Nat → List Nat} {R : World → World → Prop} {RJ : Nat → World → World → Prop} {A : (Tmp → Value) → Act} {w₀ : World} {rd : Nat → List Nat} {F : Nat → List Value → World → Prop} : ∀ (l : List Oper) (k : Nat), looseStepsX I ni nd R RJ P md ops A w₀ rd F k l → ∀ (i : Nat) (o : Oper), l[i]? = some o → looseStepX I ni nd R RJ P md ops A w₀ rd F (k + i) o
  | [], _, _, _, _, h => by simp at h
  | o' :: r, k, hs, 0, o, h => by
    simp at h
    subst h
    exact hs.1
  | o' :: r, k, hs, i + 1, o, h => by
    have := looseStepsX_at r (k + 1) hs.2 i o (by simpa using h)
    rwa [show k + 1 + i = k + (i + 1) from by omega] at this

theorem wpAny_tailX {I : World → Prop} {ni : List Nat} {nd : Nat → List Nat} (hnd : ∀ k o, ops[k]? = some o → ∀ i ∈ nd k, i ∈ bindsOn md o) {rd : Nat → List Nat} (hrd : ∀ k o, ops[k]? = some o → ∀ i ∈ rd k, i = k ∨ i ∈ bindsOn md o) {R : World → World → Prop} {RJ : Nat → World → World → Prop} (hRt : ∀ a b c, R a b → R b c → R a c) {a₀ : Act} {w₀ : World} {F : Nat → List Value → World → Prop} {m : Nat} {oL : Oper} (hm : ops.size = m + 1) (hoL : ops[m]? = some oL) (hk : looseOk md ops a₀.tmps.size = true) (ht : tailOk md ops = true)
    (hI : ∀ j w w', stillI md ops ni j = true → RJ j w w' → I w → I w') (hF : ∀ i j vs w w', i ≠ j → stillFor md ops nd i j = true → RJ j w w' → F i vs w → F i vs w') (hs : looseStepsX I ni nd R RJ P md ops (fun x => fillAct x ops.toList a₀) w₀ rd F 0 (ops.toList.take m))
    (fin : ∀ (x : Tmp → Value) (w : World), R w₀ w → (m ∈ ni → I w) → (∀ j ∈ nd m, F j (valsS ops rd j x) w) →
      if Region.wanted oL (yielded ops (fillAct x ops.toList a₀).tmps) = true then looseUpon P (fun v w' => Q .normal ((fillAct x ops.toList a₀).put oL.dst v) w') ((execOp (fillAct x ops.toList a₀).eval oL).run P w)
      else Q .normal ((fillAct x ops.toList a₀).put oL.dst undef) w) :
    ∀ (fuel : Nat) (listed : Array Bool) (x : Tmp → Value) (w : World), unl listed ops.size ≤ fuel → listed.size = ops.size → R w₀ w →
      listed.getD m true = false → (∀ (i : Nat) o, ops[i]? = some o → listed.getD i true = true → ∀ j ∈ bindsOn md o, listed.getD j true = true) →
      (∀ i o, ops[i]? = some o → listed.getD i true = true → (∃ j o', ops[j]? = some o' ∧ listed.getD j true = false ∧ i ∈ nd j) → F i (valsS ops rd i x) w) → ((∃ k o, ops[k]? = some o ∧ listed.getD k true = false ∧ k ∈ ni) → I w) → wpAny P md ops Q fuel listed (fillAct x ops.toList a₀) w := by
  have none_ready : ∀ (listed : Array Bool), (∀ i, i < ops.size → listed.getD i true = true) → Region.ready md ops listed = [] := by
    intro listed h
    rw [List.eq_nil_iff_forall_not_mem]
    intro j hj
    obtain ⟨h0, o, ho, _⟩ := mem_ready.1 hj
    rw [h j (Array.getElem?_eq_some_iff.1 ho).1] at h0
    cases h0
  have ended : ∀ (fuel : Nat) (listed : Array Bool) (a : Act) (w : World), (∀ i, i < ops.size → listed.getD i true = true) → Q .normal a w → wpAny P md ops Q fuel listed a w := by
    intro fuel listed a w h hq
    have hr := none_ready listed h
    cases fuel with
    | zero => exact ⟨hr, hq⟩
    | succ fuel => exact ⟨fun _ => hq, fun i hi => by rw [hr] at hi; cases hi⟩
  have bnd : ∀ {i : Nat} {o : Oper}, ops[i]? = some o → ∀ j ∈ bindsOn md o, j < i := fun {i o} ho j hj => by
    unfold bindsOn at hj
    obtain ⟨e, he, rfl⟩ := List.mem_map.1 hj
    obtain ⟨he1, he2⟩ := List.mem_filter.1 he
    exact looseOk_before hk ho e (by simpa using he1) he2
  intro fuel
  induction fuel with
  | zero =>
    intro listed x w hu hsz hg hm0 hcl hf hin
    have := unl_zero listed ops.size (by omega) m (by omega)
    rw [this] at hm0
    cases hm0
  | succ fuel ih =>
    intro listed x w hu hsz hg hm0 hcl hf hin
    refine ⟨fun hr => ?_, fun i hi => ?_⟩
    · have := all_listed hk hr m (by omega)
      rw [this] at hm0
      cases hm0
    · obtain ⟨h0, o, ho, hall⟩ := mem_ready.1 hi
      have hilt : i < ops.size := (Array.getElem?_eq_some_iff.1 ho).1
      have hdepl : ∀ j ∈ bindsOn md o, listed.getD j true = true := fun j hj => by
        unfold bindsOn at hj
        obtain ⟨e, he, rfl⟩ := List.mem_map.1 hj
        obtain ⟨he1, he2⟩ := List.mem_filter.1 he
        have h1 := hall e (by simpa using he1) he2
        have hs' : e.on < listed.size := by
          rcases Nat.lt_or_ge e.on listed.size with h' | h'
          · exact h'
          · simp [Array.getElem?_eq_none h'] at h1
        simpa [hs'] using h1
      by_cases him : i = m
      · subst him
        have hoe : o = oL := Option.some.inj (ho.symm.trans hoL)
        subst hoe
        have hbef : ∀ j, j < i → listed.getD j true = true := fun j hj =>
          tail_all ht (listed := listed) (fun i' o' ho' hor => by
            rcases hor with h | h
            · exact hcl i' o' ho' h
            · have e : i' = i := by omega
              subst e
              rw [ho] at ho'
              cases ho'
              exact hdepl) (i - j) j (by omega) (by omega)
        have h1 := fin x w hg (fun hi => hin ⟨_, _, ho, h0, hi⟩) fun j hj => (by
          have hlj := hdepl j (hnd _ _ ho j hj)
          have hjlt : j < ops.size := Nat.lt_trans (bnd ho j (hnd _ _ ho j hj)) (Array.getElem?_eq_some_iff.1 ho).1
          exact hf j _ (Array.getElem?_eq_getElem hjlt) hlj ⟨_, _, ho, h0, hj⟩)
        have hall' : ∀ j, j < ops.size → (listed.setIfInBounds i true).getD j true = true := fun j hj => by
          by_cases hji : j = i
          · subst hji
            simp [hsz, hj]
          · rw [getD_set_ne true (Ne.symm hji)]
            exact hbef j (by omega)
        unfold wpOp
        rw [hoL]
        show if Region.wanted _ (yielded ops (fillAct x ops.toList a₀).tmps) = true then _ else _
        split
        · rename_i hw
          rw [if_pos hw] at h1
          exact .inl (wp_of_loose (fun v w' hq => ended _ _ _ _ hall' hq) h1)
        · rename_i hw
          rw [if_neg hw] at h1
          exact ended _ _ _ _ hall' h1
      · have hst := looseStepsX_at (ops.toList.take m) 0 hs i o (by rw [List.getElem?_take, if_pos (by omega)]; simpa using ho)
        rw [Nat.zero_add] at hst
        have hdeps : ∀ j ∈ nd i, F j (valsS ops rd j x) w := fun j hj => (by
          have hlj := hdepl j (hnd _ _ ho j hj)
          have hjlt : j < ops.size := Nat.lt_trans (bnd ho j (hnd _ _ ho j hj)) (Array.getElem?_eq_some_iff.1 ho).1
          exact hf j _ (Array.getElem?_eq_getElem hjlt) hlj ⟨_, _, ho, h0, hj⟩)
        have hm1 : (listed.setIfInBounds i true).getD m true = false := by rw [getD_set_ne true him]; exact hm0
        have hcl1 : ∀ (i' : Nat) o', ops[i']? = some o' → (listed.setIfInBounds i true).getD i' true = true → ∀ j ∈ bindsOn md o', (listed.setIfInBounds i true).getD j true = true := by
          intro i' o' ho' hl j hj
          have up : listed.getD j true = true → (listed.setIfInBounds i true).getD j true = true := fun h => by
            by_cases e : i = j
            · subst e
              have : i < listed.size := by omega
              simp [this]
            · rw [getD_set_ne true e]; exact h
          by_cases e : i = i'
          · subst e
            rw [ho] at ho'
            cases ho'
            exact up (hdepl j hj)
          · rw [getD_set_ne true e] at hl
            exact up (hcl i' o' ho' hl j hj)
        have hex : ∀ j, (∃ k o', ops[k]? = some o' ∧ (listed.setIfInBounds i true).getD k true = false ∧ j ∈ nd k) → stillFor md ops nd j i = true ∧ (∃ k o', ops[k]? = some o' ∧ listed.getD k true = false ∧ j ∈ nd k) := by
          rintro j ⟨k, o', hko, hkl, hkj⟩
          have hki : k ≠ i := by
            rintro rfl
            have : k < listed.size := by omega
            simp [this] at hkl
          rw [getD_set_ne true (Ne.symm hki)] at hkl
          exact ⟨stillFor_of hko ho hki (fun hin => by rw [hdepl k hin] at hkl; cases hkl) hkj, k, o', hko, hkl, hkj⟩
        have hinx : ∀ w', RJ i w w' → (∃ k o', ops[k]? = some o' ∧ (listed.setIfInBounds i true).getD k true = false ∧ k ∈ ni) → I w' := by
          rintro w' hgj ⟨k, o', hko, hkl, hkn⟩
          have hki : k ≠ i := by
            rintro rfl
            have : k < listed.size := by omega
            simp [this] at hkl
          rw [getD_set_ne true (Ne.symm hki)] at hkl
          exact hI i w w' (stillI_of hko ho hki (fun hin => by rw [hdepl k hin] at hkl; cases hkl) hkn) hgj (hin ⟨k, o', hko, hkl, hkn⟩)
        have next : ∀ v w', R w w' → RJ i w w' → F i (valsS ops rd i (updS x o v)) w' → wpAny P md ops Q fuel (listed.setIfInBounds i true) ((fillAct x ops.toList a₀).put o.dst v) w' := by
          intro v w' hg' hgj hv
          have hun := unl_set listed i h0 ops.size hilt
          cases hd : o.dst with
          | none =>
            have hup : updS x o v = x := by unfold updS; rw [hd]
            rw [hup] at hv
            refine ih _ x w' (by omega) (by simpa using hsz) (hRt _ _ _ hg hg') hm1 hcl1 (fun j o' ho' hl hux => ?_) (hinx w' hgj)
            by_cases hij : i = j
            · subst hij
              exact hv
            · rw [getD_set_ne true hij] at hl
              exact hF _ _ _ _ _ (Ne.symm hij) (hex j hux).1 hgj (hf j o' ho' hl (hex j hux).2)
          | some d =>
            have hup : updS x o v = fun t => if t = d then v else x t := by unfold updS; rw [hd]
            obtain ⟨hds, hdn⟩ := looseOk_slot hk ho hd
            rw [fillAct_put x ops.toList a₀ d v ⟨o, by simpa using Array.mem_of_getElem? ho, hd⟩ hds]
            refine ih _ _ w' (by omega) (by simpa using hsz) (hRt _ _ _ hg hg') hm1 hcl1 (fun j o' ho' hl hux => ?_) (hinx w' hgj)
            rw [← hup]
            by_cases hij : i = j
            · subst hij
              exact hv
            · rw [getD_set_ne true hij] at hl
              have e : valsS ops rd j (updS x o v) = valsS ops rd j x := by
                unfold valsS
                refine List.map_congr_left fun r hr => ?_
                have hri : i ≠ r := by
                  rintro rfl
                  rcases hrd j o' ho' i hr with h | h
                  · exact hij h
                  · have h9 := hcl j o' ho' hl i h
                    rw [h0] at h9
                    cases h9
                cases hor : ops[r]? with
                | none => rfl
                | some o'' =>
                  have hne := hdn r o'' hor hri
                  simp only
                  rw [hup]
                  unfold leftBy
                  cases hd' : o''.dst with
                  | none => rfl
                  | some d' =>
                    have : d' ≠ d := fun e => hne (by rw [hd', e])
                    simp [this]
              rw [e]
              exact hF _ _ _ _ _ (Ne.symm hij) (hex j hux).1 hgj (hf j o' ho' hl (hex j hux).2)
        have h1 := hst x w hg (fun hi => hin ⟨_, _, ho, h0, hi⟩) hdeps (fun v w' => wpAny P md ops Q fuel (listed.setIfInBounds i true) ((fillAct x ops.toList a₀).put o.dst v) w') next
        unfold wpOp
        rw [ho]
        show if Region.wanted o (yielded ops (fillAct x ops.toList a₀).tmps) = true then _ else _
        split
        · rename_i hw
          rw [if_pos hw] at h1
          exact .inl (wp_of_loose (fun _ _ h => h) h1)
        · rename_i hw
          rw [if_neg hw] at h1
          exact h1

/-- **A region that draws its order and ends in one operation.** -/
theorem wp_region_tailX {id : Nat} {a : Act} {w : World} {A : (Tmp → Value) → Act} (I : World → Prop) (ni : List Nat) (hI0 : I w.drew) (nd : Nat → List Nat) (R : World → World → Prop) (RJ : Nat → World → World → Prop) (hRt : ∀ a b c, R a b → R b c → R a c) (hRd : R w w.drew) (rd : Nat → List Nat) (F : Nat → List Value → World → Prop) (m : Nat) (oL : Oper) (hnd : ((List.range ops.size).all fun k => (nd k).all fun i => (waits .any ops k).contains i) = true) (hrd : ((List.range ops.size).all fun k => (rd k).all fun i => decide (i = k) || (waits .any ops k).contains i) = true) (hm : P.follows .mixedOrders = true) (hsz : ops.size = m + 1) (hoL : ops[m]? = some oL) (hk : looseOk .any ops a.tmps.size = true) (ht : tailOk .any ops = true)
    (hI : ∀ j w w', stillI .any ops ni j = true → RJ j w w' → I w → I w') (hF : ∀ i j vs w w', i ≠ j → stillFor .any ops nd i j = true → RJ j w w' → F i vs w → F i vs w') (hA : ∀ x, fillAct x ops.toList a = A x) (hs : looseStepsX I ni nd R RJ P .any ops A w rd F 0 (ops.toList.take m))
    (fin : ∀ (x : Tmp → Value) (w' : World), R w w' → (m ∈ ni → I w') → (∀ j ∈ nd m, F j (valsS ops rd j x) w') →
      if Region.wanted oL (yielded ops (A x).tmps) = true then looseUpon P (fun v w'' => Q .normal ((A x).put oL.dst v) w'') ((execOp (A x).eval oL).run P w')
      else Q .normal ((A x).put oL.dst undef) w') :
    (Code.region id ops true).wp P Q a w := by
  obtain rfl : (fun x => fillAct x ops.toList a) = A := funext hA
  refine wp_region_any hm ?_
  have h := wpAny_tailX (Q := Q) (nd := nd) (fun k o ho i hi => by
    rw [List.all_eq_true] at hnd
    have h1 := hnd k (List.mem_range.2 (Array.getElem?_eq_some_iff.1 ho).1)
    rw [List.all_eq_true] at h1
    have h2 := h1 i hi
    rw [waits_of ho] at h2
    simpa using h2) (rd := rd) (fun k o ho i hi => by
    rw [List.all_eq_true] at hrd
    have h1 := hrd k (List.mem_range.2 (Array.getElem?_eq_some_iff.1 ho).1)
    rw [List.all_eq_true] at h1
    have h2 := h1 i hi
    rw [waits_of ho] at h2
    simpa using h2) hRt hsz hoL hk ht hI hF hs fin ops.size (Array.replicate ops.size false) (fun t => a.tmps.getD t undef) w.drew ?_ (by simp) hRd (by simp [hsz]) ?_ ?_ (fun _ => hI0)
  · rw [fillAct_own a ops.toList fun o ho d hd => ?_] at h
    · exact h
    · obtain ⟨i, hi⟩ := List.getElem?_of_mem ho
      exact (looseOk_slot hk (i := i) (by simpa using hi) hd).1
  · have : ∀ n, unl (Array.replicate ops.size false) n ≤ n := fun n => by
      induction n with
      | zero => exact Nat.le_refl _
      | succ n ih => simp only [unl]; split <;> omega
    exact this _
  · intro i o ho hl
    have hi : i < ops.size := (Array.getElem?_eq_some_iff.1 ho).1
    simp [hi] at hl
  · intro i o ho hl _
    have hi : i < ops.size := (Array.getElem?_eq_some_iff.1 ho).1
    simp [hi] at hl
end

end Go.Proofs.Ytfjmcfkpbacicaa
/- ReasmPlays: what the operations of its drawn regions leave. -/
namespace Go.Proofs.Ytfjmcfkpbacicaa
set_option linter.unusedVariables false
set_option linter.unusedSimpArgs false
open Go.ChangeShapes Go.WideShapes Go.ChangeAt Go.RowKit

/-- What the operations of region 14 leave. -/
def P14G (W : World) (base : Nat) (most life now : Int) (vL sl ai p3 p4 : Value) (L : List Wt) (ks : List Pkt) (j : Nat) (v : Value) (u : World) : Prop :=
  match j with
  | 0 => v = (.agg #[.int .i64 most, .int .i64 life, vL])
  | 1 => v = sl
  | 2 => v = ai
  | 3 => v = p3
  | 4 => v = p4
  | 5 => v = .int .i64 now
  | 6 => ∃ vL' vo, v = .tuple #[.agg #[.int .i64 most, .int .i64 life, vL'], vo] ∧ RTab u base (.agg #[.int .i64 most, .int .i64 life, vL']) most life L ∧ Psl u vo ks ∧ base ≤ u.heap.size
  | 7 => ∃ vL' vo, v = .tuple #[.agg #[.int .i64 most, .int .i64 life, vL'], vo] ∧ RTab u base (.agg #[.int .i64 most, .int .i64 life, vL']) most life L ∧ Psl u vo ks ∧ base ≤ u.heap.size
  | 8 => ∃ vL', v = (.agg #[.int .i64 most, .int .i64 life, vL']) ∧ RTab u base (.agg #[.int .i64 most, .int .i64 life, vL']) most life L ∧ base ≤ u.heap.size
  | 9 => Psl u v ks
  | 10 => ∃ g, v = .pointer (some ⟨g, 0, none⟩) ∧ W.heap.size ≤ g ∧ TbBlk u g 0 0 (.slice none 0 0)
  | 11 => ∃ g vL', v = .pointer (some ⟨g, 0, none⟩) ∧ W.heap.size ≤ g ∧ TbBlk u g most life vL' ∧ RTab u base (.agg #[.int .i64 most, .int .i64 life, vL']) most life L ∧ base ≤ u.heap.size
  | _ => True
def P14F (W : World) (base : Nat) (most life now : Int) (vL sl ai p3 p4 : Value) (L : List Wt) (ks : List Pkt) (j : Nat) (vs : List Value) (u : World) : Prop := P14G W base most life now vL sl ai p3 p4 L ks j (vs.headD undef) u
def P14N (k : Nat) : List Nat := if k = 3 then [1, 2] else if k = 4 then [3] else if k = 5 then [4] else if k = 6 then [0, 5] else if k = 7 then [6] else if k = 8 then [7] else if k = 9 then [7] else if k = 11 then [8, 10] else if k = 12 then [9, 11] else []
def P14R (k : Nat) : List Nat := if k = 11 then [10] else [k]
def P14J (W : World) (j : Nat) (a b : World) : Prop := if j = 11 then ∃ g, W.heap.size ≤ g ∧ TbBlk a g 0 0 (.slice none 0 0) ∧ But g a b ∧ Grow W a ∧ Grow W b else Grow a b
theorem P14G.grow {W : World} {base : Nat} {most life now : Int} {vL sl ai p3 p4 : Value} {L : List Wt} {ks : List Pkt} {j : Nat} {v : Value} {u u' : World} (h : P14G W base most life now vL sl ai p3 p4 L ks j v u) (g : Grow u u') : P14G W base most life now vL sl ai p3 p4 L ks j v u' := by
  match j, h with
  | 0, h => exact h
  | 1, h => exact h
  | 2, h => exact h
  | 3, h => exact h
  | 4, h => exact h
  | 5, h => exact h
  | 6, h =>
    obtain ⟨vL', vo, e, h1, h2, h3⟩ := h
    exact ⟨vL', vo, e, h1.grow g h3, h2.grow g, Nat.le_trans h3 g.size⟩
  | 7, h =>
    obtain ⟨vL', vo, e, h1, h2, h3⟩ := h
    exact ⟨vL', vo, e, h1.grow g h3, h2.grow g, Nat.le_trans h3 g.size⟩
  | 8, h =>
    obtain ⟨vL', e, h1, h3⟩ := h
    exact ⟨vL', e, h1.grow g h3, Nat.le_trans h3 g.size⟩
  | 9, h => exact Psl.grow h g
  | 10, h =>
    obtain ⟨b, e, h1, h2⟩ := h
    exact ⟨b, e, h1, h2.grow g⟩
  | 11, h =>
    obtain ⟨b, vL', e, h1, h2, h3, h4⟩ := h
    exact ⟨b, vL', e, h1, h2.grow g, h3.grow g h4, Nat.le_trans h4 g.size⟩
  | (n + 12), h => exact h

/-- What the operations of region 18 leave. -/
def P18G (w : World) (tb rb : Nat) (most life now : Int) (A : List Wt) (vL sl ai p3 p4 p9 pk : Value) (R : AddR) (j : Nat) (v : Value) (u : World) : Prop :=
  match j with
  | 0 => v = .pointer (some ⟨tb, 0, none⟩)
  | 1 => v = sl
  | 2 => v = ai
  | 3 => v = p3
  | 4 => v = p4
  | 5 => v = .int .i64 now
  | 6 => v = sl
  | 7 => v = ai
  | 8 => v = p3
  | 9 => v = p9
  | 10 => v = pk
  | 11 => ∃ vo vd, v = .tuple #[ipV R.k vo vd, .bool R.ok, .int .i64 R.e] ∧ IpF w.heap.size u vo vd R.k ∧ Pm w tb rb most life A R.L vL u
  | 12 => ∃ vo vd, v = .tuple #[ipV R.k vo vd, .bool R.ok, .int .i64 R.e] ∧ IpF w.heap.size u vo vd R.k ∧ w.heap.size ≤ u.heap.size
  | 13 => ∃ vo vd, v = ipV R.k vo vd ∧ IpF w.heap.size u vo vd R.k ∧ w.heap.size ≤ u.heap.size
  | 14 => v = .bool R.ok
  | 15 => v = .int .i64 R.e
  | 16 => ∃ g, v = .pointer (some ⟨g, 0, none⟩) ∧ w.heap.size ≤ g ∧ Blk u g zeroPk (.slice none 0 0) (.slice none 0 0)
  | 17 => ∃ g vo vd, v = .pointer (some ⟨g, 0, none⟩) ∧ w.heap.size ≤ g ∧ Blk u g R.k vo vd ∧ IpF w.heap.size u vo vd R.k ∧ w.heap.size ≤ u.heap.size
  | 18 => v = .bool R.ok
  | _ => True
def P18F (w : World) (tb rb : Nat) (most life now : Int) (A : List Wt) (vL sl ai p3 p4 p9 pk : Value) (R : AddR) (j : Nat) (vs : List Value) (u : World) : Prop := P18G w tb rb most life now A vL sl ai p3 p4 p9 pk R j (vs.headD undef) u
def P18N (k : Nat) : List Nat := if k = 3 then [1, 2] else if k = 4 then [3] else if k = 5 then [4] else if k = 8 then [6, 7] else if k = 9 then [8] else if k = 10 then [9] else if k = 11 then [0, 5, 10] else if k = 12 then [11] else if k = 13 then [12] else if k = 14 then [12] else if k = 15 then [12] else if k = 17 then [13, 16] else if k = 18 then [14] else if k = 19 then [11, 15, 17, 18] else []
def P18R (k : Nat) : List Nat := if k = 17 then [16] else [k]
def P18J (w : World) (j : Nat) (a b : World) : Prop := if j = 11 then Only w.heap.size Za a b else if j = 17 then ∃ g, w.heap.size ≤ g ∧ Blk a g zeroPk (.slice none 0 0) (.slice none 0 0) ∧ But g a b ∧ Grow w a ∧ Grow w b else Grow a b
theorem P18G.grow {w : World} {tb rb : Nat} {most life now : Int} {A : List Wt} {vL sl ai p3 p4 p9 pk : Value} {R : AddR} {j : Nat} {v : Value} {u u' : World} (h : P18G w tb rb most life now A vL sl ai p3 p4 p9 pk R j v u) (g : Grow u u') : P18G w tb rb most life now A vL sl ai p3 p4 p9 pk R j v u' := by
  match j, h with
  | 0, h => exact h
  | 1, h => exact h
  | 2, h => exact h
  | 3, h => exact h
  | 4, h => exact h
  | 5, h => exact h
  | 6, h => exact h
  | 7, h => exact h
  | 8, h => exact h
  | 9, h => exact h
  | 10, h => exact h
  | 14, h => exact h
  | 15, h => exact h
  | 18, h => exact h
  | 11, h =>
    obtain ⟨vo, vd, e, h1, h2⟩ := h
    exact ⟨vo, vd, e, h1.grow g h2.gr.size, h2.grow g⟩
  | 12, h =>
    obtain ⟨vo, vd, e, h1, h2⟩ := h
    exact ⟨vo, vd, e, h1.grow g h2, Nat.le_trans h2 g.size⟩
  | 13, h =>
    obtain ⟨vo, vd, e, h1, h2⟩ := h
    exact ⟨vo, vd, e, h1.grow g h2, Nat.le_trans h2 g.size⟩
  | 16, h =>
    obtain ⟨b, e, h1, h2⟩ := h
    exact ⟨b, e, h1, h2.grow g⟩
  | 17, h =>
    obtain ⟨b, vo, vd, e, h1, h2, h3, h4⟩ := h
    exact ⟨b, vo, vd, e, h1, h2.grow g, h3.grow g h4, Nat.le_trans h4 g.size⟩
  | (n + 19), h => exact h
theorem ip_keep {w w' : World} {base g : Nat} {k : Pkt} {vo vd : Value} (h : Blk w g k vo vd) (o : Only base Za w w') : Blk w' g k vo vd := o.keep _ _ _ h rfl (ip_za g)
/-- A box that is filled leaves the tables as they are. -/
theorem Pm.boxed {w a b : World} {tb rb g : Nat} {most life : Int} {A A' : List Wt} {vL : Value} (h : Pm w tb rb most life A A' vL a) (hb : Blk a g zeroPk (.slice none 0 0) (.slice none 0 0)) (hbut : But g a b) (gb : Grow w b) (hg : w.heap.size ≤ g) : Pm w tb rb most life A A' vL b := by
  have o : Only w.heap.size (fun b T => b = g ∧ T = 38) a b := Only.butAt h.gr gb hbut hg hb
  exact ⟨h.tab.besideZ hb o, h.box.only o (fun e => absurd e.2 (by decide)), h.rt.only o (fun b e => absurd e.2 (by decide)) (fun b e => absurd e.2 (by decide)) (fun b e => absurd e.2 (by decide)), h.len, h.ok, h.low, gb⟩
theorem IpF.boxed {w a b : World} {g : Nat} {vo vd : Value} {k k0 : Pkt} {vo0 vd0 : Value} (h : IpF w.heap.size a vo vd k) (hb : Blk a g k0 vo0 vd0) (hbut : But g a b) (ga : Grow w a) (gb : Grow w b) (hg : w.heap.size ≤ g) : IpF w.heap.size b vo vd k :=
  h.only (Only.butAt ga gb hbut hg hb) (fun b e => absurd e.2 (by decide))

/-- What the operations of region 19 leave. -/
def P19G (W : World) (base : Nat) (most life now : Int) (vL sl ai p3 p4 p9 pk : Value) (R : AddR) (j : Nat) (v : Value) (u : World) : Prop :=
  match j with
  | 0 => v = (.agg #[.int .i64 most, .int .i64 life, vL])
  | 1 => v = sl
  | 2 => v = ai
  | 3 => v = p3
  | 4 => v = p4
  | 5 => v = .int .i64 now
  | 6 => v = sl
  | 7 => v = ai
  | 8 => v = p3
  | 9 => v = p9
  | 10 => v = pk
  | 11 => ∃ vL' vo vd, v = .tuple #[.agg #[.int .i64 most, .int .i64 life, vL'], ipV R.k vo vd, .bool R.ok, .int .i64 R.e] ∧ RTab u base (.agg #[.int .i64 most, .int .i64 life, vL']) most life R.L ∧ IpF base u vo vd R.k ∧ base ≤ u.heap.size
  | 12 => ∃ vL' vo vd, v = .tuple #[.agg #[.int .i64 most, .int .i64 life, vL'], ipV R.k vo vd, .bool R.ok, .int .i64 R.e] ∧ RTab u base (.agg #[.int .i64 most, .int .i64 life, vL']) most life R.L ∧ IpF base u vo vd R.k ∧ base ≤ u.heap.size
  | 13 => ∃ vL', v = (.agg #[.int .i64 most, .int .i64 life, vL']) ∧ RTab u base (.agg #[.int .i64 most, .int .i64 life, vL']) most life R.L ∧ base ≤ u.heap.size
  | 14 => ∃ vo vd, v = ipV R.k vo vd ∧ IpF base u vo vd R.k ∧ base ≤ u.heap.size
  | 15 => v = .bool R.ok
  | 16 => v = .int .i64 R.e
  | 17 => ∃ g, v = .pointer (some ⟨g, 0, none⟩) ∧ W.heap.size ≤ g ∧ TbBlk u g 0 0 (.slice none 0 0)
  | 18 => ∃ g, v = .pointer (some ⟨g, 0, none⟩) ∧ W.heap.size ≤ g ∧ Blk u g zeroPk (.slice none 0 0) (.slice none 0 0)
  | 19 => ∃ g vL', v = .pointer (some ⟨g, 0, none⟩) ∧ W.heap.size ≤ g ∧ TbBlk u g most life vL' ∧ RTab u base (.agg #[.int .i64 most, .int .i64 life, vL']) most life R.L ∧ base ≤ u.heap.size
  | 20 => ∃ g vo vd, v = .pointer (some ⟨g, 0, none⟩) ∧ W.heap.size ≤ g ∧ Blk u g R.k vo vd ∧ IpF base u vo vd R.k ∧ base ≤ u.heap.size
  | 21 => v = .bool R.ok
  | _ => True
def P19F (W : World) (base : Nat) (most life now : Int) (vL sl ai p3 p4 p9 pk : Value) (R : AddR) (j : Nat) (vs : List Value) (u : World) : Prop := P19G W base most life now vL sl ai p3 p4 p9 pk R j (vs.headD undef) u
def P19N (k : Nat) : List Nat := if k = 3 then [1, 2] else if k = 4 then [3] else if k = 5 then [4] else if k = 8 then [6, 7] else if k = 9 then [8] else if k = 10 then [9] else if k = 11 then [0, 5, 10] else if k = 12 then [11] else if k = 13 then [12] else if k = 14 then [12] else if k = 15 then [12] else if k = 16 then [12] else if k = 19 then [13, 17] else if k = 20 then [14, 18] else if k = 21 then [15] else if k = 22 then [16, 19, 20, 21] else []
def P19R (k : Nat) : List Nat := if k = 19 then [17] else if k = 20 then [18] else [k]
def P19J (W : World) (j : Nat) (a b : World) : Prop := if j = 19 then ∃ g, W.heap.size ≤ g ∧ TbBlk a g 0 0 (.slice none 0 0) ∧ But g a b ∧ Grow W a ∧ Grow W b else if j = 20 then ∃ g, W.heap.size ≤ g ∧ Blk a g zeroPk (.slice none 0 0) (.slice none 0 0) ∧ But g a b ∧ Grow W a ∧ Grow W b else Grow a b
theorem P19G.grow {W : World} {base : Nat} {most life now : Int} {vL sl ai p3 p4 p9 pk : Value} {R : AddR} {j : Nat} {v : Value} {u u' : World} (h : P19G W base most life now vL sl ai p3 p4 p9 pk R j v u) (g : Grow u u') : P19G W base most life now vL sl ai p3 p4 p9 pk R j v u' := by
  match j, h with
  | 0, h => exact h
  | 1, h => exact h
  | 2, h => exact h
  | 3, h => exact h
  | 4, h => exact h
  | 5, h => exact h
  | 6, h => exact h
  | 7, h => exact h
  | 8, h => exact h
  | 9, h => exact h
  | 10, h => exact h
  | 15, h => exact h
  | 16, h => exact h
  | 21, h => exact h
  | 11, h =>
    obtain ⟨vL', vo, vd, e, h1, h2, h3⟩ := h
    exact ⟨vL', vo, vd, e, h1.grow g h3, h2.grow g h3, Nat.le_trans h3 g.size⟩
  | 12, h =>
    obtain ⟨vL', vo, vd, e, h1, h2, h3⟩ := h
    exact ⟨vL', vo, vd, e, h1.grow g h3, h2.grow g h3, Nat.le_trans h3 g.size⟩
  | 13, h =>
    obtain ⟨vL', e, h1, h3⟩ := h
    exact ⟨vL', e, h1.grow g h3, Nat.le_trans h3 g.size⟩
  | 14, h =>
    obtain ⟨vo, vd, e, h1, h2⟩ := h
    exact ⟨vo, vd, e, h1.grow g h2, Nat.le_trans h2 g.size⟩
  | 17, h =>
    obtain ⟨b, e, h1, h2⟩ := h
    exact ⟨b, e, h1, h2.grow g⟩
  | 18, h =>
    obtain ⟨b, e, h1, h2⟩ := h
    exact ⟨b, e, h1, h2.grow g⟩
  | 19, h =>
    obtain ⟨b, vL', e, h1, h2, h3, h4⟩ := h
    exact ⟨b, vL', e, h1, h2.grow g, h3.grow g h4, Nat.le_trans h4 g.size⟩
  | 20, h =>
    obtain ⟨b, vo, vd, e, h1, h2, h3, h4⟩ := h
    exact ⟨b, vo, vd, e, h1, h2.grow g, h3.grow g h4, Nat.le_trans h4 g.size⟩
  | (n + 22), h => exact h
theorem blk_tb {w w' : World} {g n : Nat} {k : Pkt} {vo vd : Value} {a b : Int} {c : Value} (h : Blk w g k vo vd) (hn : TbBlk w n a b c) (hb : But n w w') : Blk w' g k vo vd := by
  refine (hb.2 g ?_).trans h
  rintro rfl
  unfold Blk at h
  unfold TbBlk at hn
  rw [h] at hn
  cases hn
theorem tb_blk {w w' : World} {g n : Nat} {k : Pkt} {vo vd : Value} {a b : Int} {c : Value} (hn : TbBlk w n a b c) (h : Blk w g k vo vd) (hb : But g w w') : TbBlk w' n a b c := by
  refine (hb.2 n ?_).trans hn
  rintro rfl
  unfold Blk at h
  unfold TbBlk at hn
  rw [h] at hn
  cases hn
theorem addS_e (most life now : Int) (k : Pkt) (A : List Wt) : 0 ≤ (addS most life now k A).e ∧ (addS most life now k A).e ≤ 120 := by
  unfold addS finS chk
  repeat' split
  all_goals first | (constructor <;> (simp; done)) | (simp at *; omega) | (simp; done)
end Go.Proofs.Ytfjmcfkpbacicaa
