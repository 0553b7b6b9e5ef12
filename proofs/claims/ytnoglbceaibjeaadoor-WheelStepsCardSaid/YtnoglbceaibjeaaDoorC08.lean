/- What advance has met when it stands at a slot: on lists and numbers alone. -/
import Derived.Test.YtnoglbceaibjeaaDoorC05
import Derived.Test.YtnoglbceaibjeaaDoorC07
import Derived.Test.YtnoglbceaibjeaaDoorC04
namespace Go.Proofs.YtnoglbceaibjeaaDoor
set_option linter.unusedVariables false
set_option linter.unusedSimpArgs false
open Go.ChangeShapes Go.WideShapes Go.ChangeAt Go.RowKit Go.Shelf

def advC (now now' : Nat) (L : List Tm) (d p : Nat) (n s : Nat) : List Tm := if (n < d ∨ n = d ∧ s < p) ∧ metB now now' n s = true then [] else chn now L n s
def advS (now now' : Nat) (L : List Tm) (n s : Nat) : List Tm := if metB now now' n s then chn now L n s else []
def advM (now now' : Nat) (L : List Tm) (d p : Nat) : List Tm := ((List.range d).flatMap fun no => (List.range 64).flatMap fun s => advS now now' L no s) ++ (List.range p).flatMap fun s => advS now now' L d s
theorem advM_all (now now' : Nat) (L : List Tm) : advM now now' L 7 0 = metL now now' L := by
  unfold advM metL advS
  simp
theorem advM_next (now now' : Nat) (L : List Tm) (d : Nat) : advM now now' L d 64 = advM now now' L (d + 1) 0 := by
  unfold advM
  rw [List.range_succ (n := d), List.flatMap_append, List.flatMap_singleton, List.range_zero, List.flatMap_nil, List.append_nil]
theorem advM_some {now now' : Nat} {L : List Tm} {d p q : Nat} (h : p ≤ q) (hn : ∀ s, p ≤ s → s < q → advS now now' L d s = []) : advM now now' L d q = advM now now' L d p := by
  obtain ⟨k, rfl⟩ : ∃ k, q = p + k := ⟨q - p, by omega⟩
  clear h
  induction k with
  | zero => rfl
  | succ k ih =>
    have e := ih (fun s h1 h2 => hn s h1 (by omega))
    rw [← e]
    unfold advM
    rw [← Nat.add_assoc, List.range_succ (n := p + k), List.flatMap_append, List.flatMap_singleton, hn (p + k) (by omega) (by omega), List.append_nil]
theorem advM_step {now now' : Nat} {L : List Tm} {d p q : Nat} (h : p ≤ q) (hn : ∀ s, p ≤ s → s < q → advS now now' L d s = []) (hq : metB now now' d q = true) : advM now now' L d (q + 1) = advM now now' L d p ++ chn now L d q := by
  rw [← advM_some h hn]
  unfold advM
  rw [List.range_succ (n := q), List.flatMap_append, List.flatMap_singleton, ← List.append_assoc]
  congr 1
  unfold advS
  rw [if_pos hq]
theorem advS_len (now now' : Nat) (L : List Tm) (n s : Nat) : (advS now now' L n s).length ≤ L.length := by
  unfold advS
  split
  · exact List.length_filter_le _ _
  · exact Nat.zero_le _
theorem advM_len (now now' : Nat) (L : List Tm) (d p : Nat) (hd : d ≤ 7) (hp : p ≤ 64) : (advM now now' L d p).length ≤ 512 * L.length := by
  unfold advM
  rw [List.length_append]
  have h1 := flat_len d (64 * L.length) (fun no => (List.range 64).flatMap fun s => advS now now' L no s) (fun no => flat_len 64 L.length (fun s => advS now now' L no s) (fun s => advS_len now now' L no s))
  have h2 := flat_len p L.length (fun s => advS now now' L d s) (fun s => advS_len now now' L d s)
  have h3 : d * (64 * L.length) ≤ 7 * (64 * L.length) := Nat.mul_le_mul_right _ hd
  have h4 : p * L.length ≤ 64 * L.length := Nat.mul_le_mul_right _ hp
  omega
/-- The slots that the wheel d meets, as bits. -/
def meetsN (now now' d : Nat) : Nat := if d < difS now now' then 2 ^ 64 - 1 else 2 ^ (dig now' d + 1) - 1
theorem meetsN_lt (now now' d : Nat) : meetsN now now' d < 2 ^ 64 := by
  unfold meetsN
  split
  · exact Nat.sub_lt (Nat.two_pow_pos 64) (by decide)
  · have h1 : 2 ^ (dig now' d + 1) ≤ 2 ^ 64 := Nat.pow_le_pow_right (by decide) (by have := dig_lt now' d; omega)
    have h2 := Nat.two_pow_pos (dig now' d + 1)
    omega
theorem meetsN_bit (now now' d s : Nat) (hs : s < 64) : (meetsN now now' d).testBit s = metB now now' d s := by
  unfold meetsN metB
  split <;> rename_i h
  · rw [Nat.testBit_two_pow_sub_one, decide_eq_true hs, decide_eq_true h]
    rfl
  · rw [Nat.testBit_two_pow_sub_one, decide_eq_false h, Bool.false_or, decide_eq_decide]
    omega
theorem and_64 (a b : Nat) (ha : a < 2 ^ 64) (hb : b < 2 ^ 64) : bits .and .u64 (a : Int) (b : Int) = ((a &&& b : Nat) : Int) := by
  have h : a &&& b < 2 ^ 64 := Nat.and_lt_two_pow _ hb
  show IntKind.u64.wrap (BitVec.toNat (BitVec.ofInt 64 (a : Int) &&& BitVec.ofInt 64 (b : Int))) = _
  rw [BitVec.toNat_and, BitVec.toNat_ofInt, BitVec.toNat_ofInt]
  have e1 : ((a : Int) % ((2 ^ 64 : Nat) : Int)).toNat = a := by omega
  have e2 : ((b : Int) % ((2 ^ 64 : Nat) : Int)).toNat = b := by omega
  rw [e1, e2, IntKind.wrap_u64]
  clear e1 e2
  generalize a &&& b = p at *
  omega
section
variable {w w' : World} {base wb mb now : Nat} {C C' : Nat → Nat → List Tm} {U U' : Nat → Nat}
theorem Whl.congr (h : Whl w base wb mb now C U) (hC : ∀ n s, n < 7 → s < 64 → C' n s = C n s) (hU : ∀ n, n < 7 → U' n = U n) : Whl w base wb mb now C' U' := by
  obtain ⟨cs, h1, h2⟩ := h.blk
  refine ⟨h.low, ⟨cs, h1, h2.size, h2.c0, h2.c1, ?_, ?_, ?_⟩, ?_, ?_, ?_⟩
  · intro n s hn hs
    rw [hC n s hn hs]; exact h2.fst n s hn hs
  · intro n s hn hs
    rw [hC n s hn hs]; exact h2.lst n s hn hs
  · intro n hn
    rw [hU n hn]; exact h2.usd n hn
  · intro n s hn hs
    rw [hC n s hn hs]; exact h.chn n s hn hs
  · intro n s hn hs
    rw [hC n s hn hs]; exact h.lowT n s hn hs
  · intro n1 s1 i1 n2 s2 i2 t1 t2 a1 a2 a3 a4 e1 e2
    rw [hC _ _ a1 a2] at e1
    rw [hC _ _ a3 a4] at e2
    exact h.uniq _ _ _ _ _ _ _ _ a1 a2 a3 a4 e1 e2
/-- The wheel's tick stored. -/
theorem Whl.setNow (h : Whl w base wb mb now C U) (now' : Nat) : w.frozen? ⟨wb, 0, none⟩ = false ∧ Whl (w.setCell ⟨wb, 0, none⟩ (.int .i64 (now' : Int))) base wb mb now' C U ∧ Only base Ze w (w.setCell ⟨wb, 0, none⟩ (.int .i64 (now' : Int))) := by
  obtain ⟨cs, hB, hC⟩ := h.blk
  have hsz := hC.size
  refine ⟨frozen_of hB, ⟨h.low, ⟨_, heap_setCell_own (k := 0) hB _, by simpa using hsz, ?_, ?_, ?_, ?_, ?_⟩, ?_, h.lowT, h.uniq⟩, Only.set hB h.low (.inl rfl) _⟩
  · rw [Array.getElem?_setIfInBounds_self_of_lt (by omega)]
  · rw [Array.getElem?_setIfInBounds_ne (by omega)]; exact hC.c1
  · intro n s hn hs
    rw [Array.getElem?_setIfInBounds_ne (by unfold so; omega)]; exact hC.fst n s hn hs
  · intro n s hn hs
    rw [Array.getElem?_setIfInBounds_ne (by unfold so; omega)]; exact hC.lst n s hn hs
  · intro n hn
    rw [Array.getElem?_setIfInBounds_ne (by omega)]; exact hC.usd n hn
  · intro n s hn hs
    exact (h.chn n s hn hs).keep fun t ht => Below.heap_setCell _ _ _ _ (h.ltT hn hs ht).2
end
/-- The bits that are still to be looked at. -/
def Left (now now' : Nat) (u d p x : Nat) : Prop := x < 2 ^ 64 ∧ ∀ s, s < 64 → x.testBit s = (u.testBit s && metB now now' d s && decide (p ≤ s))
theorem Left.start {now now' u d : Nat} (hu : u < 2 ^ 64) : Left now now' u d 0 (u &&& meetsN now now' d) := by
  refine ⟨Nat.and_lt_two_pow _ (meetsN_lt _ _ _), fun s hs => ?_⟩
  rw [Nat.testBit_and, meetsN_bit _ _ _ _ hs]
  simp
theorem Left.step {now now' u d p x : Nat} (h : Left now now' u d p x) (h0 : x ≠ 0) : low x < 64 ∧ p ≤ low x ∧ u.testBit (low x) = true ∧ metB now now' d (low x) = true ∧ (∀ s, p ≤ s → s < low x → u.testBit s = true → metB now now' d s = false) ∧ Left now now' u d (low x + 1) (x &&& (x - 1)) := by
  obtain ⟨h1, h2⟩ := h
  obtain ⟨l1, l2, l3⟩ := low_spec h0 h1
  have h3 := h2 (low x) l1
  rw [l2] at h3
  have h3' := h3.symm
  simp only [Bool.and_eq_true, decide_eq_true_eq] at h3'
  obtain ⟨⟨q1, q2⟩, q3⟩ := h3'
  refine ⟨l1, q3, q1, q2, fun s hs1 hs2 hu => ?_, drop_lt h1, fun s hs => ?_⟩
  · have h4 := h2 s (by omega)
    rw [l3 s hs2, hu, decide_eq_true hs1] at h4
    simpa using h4.symm
  · rw [drop_low h0 h1, h2 s hs]
    rcases Nat.lt_trichotomy s (low x) with a | a | a
    · have h4 := h2 s hs
      rw [l3 s a] at h4
      rw [← h4, decide_eq_false (by omega : ¬ low x + 1 ≤ s)]
      simp
    · rw [a, decide_eq_false (by omega : ¬ low x + 1 ≤ low x)]
      simp
    · rw [decide_eq_true (by omega : low x + 1 ≤ s), decide_eq_true (by omega : p ≤ s), decide_eq_true (by omega : s ≠ low x)]
      simp
theorem Left.stop {now now' u d p : Nat} (h : Left now now' u d p 0) : ∀ s, p ≤ s → s < 64 → u.testBit s = true → metB now now' d s = false := by
  intro s hs1 hs2 hu
  have h4 := h.2 s hs2
  rw [Nat.zero_testBit, hu, decide_eq_true hs1] at h4
  simpa using h4.symm
/-- Those that are not met stay. -/
def keepN (now now' u d : Nat) : Nat := u &&& (2 ^ 64 - (meetsN now now' d + 1))
theorem keepN_bit {now now' u d s : Nat} (hs : s < 64) : (keepN now now' u d).testBit s = (u.testBit s && !metB now now' d s) := by
  unfold keepN
  rw [Nat.testBit_and, Nat.testBit_two_pow_sub_succ (meetsN_lt now now' d), meetsN_bit _ _ _ _ hs, decide_eq_true hs, Bool.true_and]
end Go.Proofs.YtnoglbceaibjeaaDoor
/- Contract: advance. -/
namespace Go.Proofs.YtnoglbceaibjeaaDoor
set_option linter.unusedVariables false
set_option linter.unusedSimpArgs false
open Go.ChangeShapes Go.WideShapes Go.ChangeAt Go.RowKit Go.Shelf

/-- Where advance stands: at the slot p of the wheel d. -/
structure AdvAt (w0 w : World) (base wb mb now now' : Nat) (L : List Tm) (U V : Nat → Nat) (d p : Nat) (v : Value) : Prop where
  whl : Whl w base wb mb now' (advC now now' L d p) V
  old : ∀ n, d ≤ n → V n = U n
  new : ∀ n, n < d → V n = keepN now now' (U n) n
  row : Trow w base v (advM now now' L d p)
  only : Only base Ze w0 w

theorem wrap_meets {dg : Nat} (h : dg < 64) : IntKind.u64.wrap (IntKind.u64.wrap (2 * 2 ^ dg) - 1) = ((2 ^ (dg + 1) - 1 : Nat) : Int) := by
  have e : (2 * (2 : Int) ^ dg) = ((2 ^ (dg + 1) : Nat) : Int) := by
    rw [Nat.pow_succ, Nat.mul_comm]
    simp
  have h1 : 1 ≤ 2 ^ (dg + 1) := Nat.two_pow_pos _
  have h2 : 2 ^ (dg + 1) ≤ 2 ^ 64 := Nat.pow_le_pow_right (by decide) (by omega)
  rw [e]
  clear e
  generalize 2 ^ (dg + 1) = p at *
  rw [IntKind.wrap_u64, IntKind.wrap_u64]
  omega
theorem advC_len (now now' : Nat) (L : List Tm) (d p n s : Nat) : (advC now now' L d p n s).length ≤ L.length := by
  unfold advC
  split
  · exact Nat.zero_le _
  · exact List.length_filter_le _ _
section
variable {w0 w w' : World} {base wb mb now now' : Nat} {L : List Tm} {U V : Nat → Nat} {d p : Nat} {v : Value}
theorem AdvAt.drew (h : AdvAt w0 w base wb mb now now' L U V d p v) : AdvAt w0 w.drew base wb mb now now' L U V d p v :=
  ⟨h.whl.drew, h.old, h.new, h.row.grow (Grow.drew _), h.only.trans (Only.grow (Grow.drew _) h.whl.bas Ze)⟩
/-- One slot emptied. -/
theorem AdvAt.step (h : AdvAt w0 w base wb mb now now' L U V d p v) (hW : Wst w0 base wb mb now L U) (hd : d < 7) {x : Nat} (hx : x ≠ 0) (hl : Left now now' (U d) d p x) (hlen : L.length ≤ 1000) (hp : p ≤ 64) (hT : TabAt 0 Lib.deBruijn64tab w0) (hb : 0 < base) :
    Calls Tryd.prog 31 #[.int .u64 (x : Int)] w (fun e w' => e = .returned (.int .i64 (low x : Int)) ∧ w' = w) ∧
    Calls Tryd.prog 38 #[.pointer (some ⟨wb, 2 + d * 128 + low x * 2, none⟩), v] w (fun e w' => ∃ v', e = .returned v' ∧ AdvAt w0 w' base wb mb now now' L U V d (low x + 1) v') := by
  obtain ⟨l1, l2, l3, l4, l5, l6⟩ := hl.step hx
  refine ⟨tz_any x hl.1 w fun _ => TabAt.only hT h.only hb, ?_⟩
  have e0 : so d (low x) = 2 + d * 128 + low x * 2 := by unfold so; omega
  have hC : advC now now' L d p d (low x) = chn now L d (low x) := by
    unfold advC
    rw [if_neg (fun e => by omega)]
  have hn : ∀ s, p ≤ s → s < low x → advS now now' L d s = [] := by
    intro s h1 h2
    unfold advS
    cases hm : metB now now' d s with
    | false => rfl
    | true =>
      rw [if_pos rfl]
      cases hc : chn now L d s with
      | nil => rfl
      | cons a r =>
        have := (hW.uBit d s hd (by omega)).2 (by rw [hc]; simp)
        rw [l5 s h1 h2 this] at hm
        cases hm
  have := sempty_any w base wb mb now' (advC now now' L d p) V h.whl d (low x) hd l1 (advM now now' L d p) v h.row (by have := advM_len now now' L d p (by omega) hp; have := advC_len now now' L d p d (low x); omega)
  rw [e0] at this
  refine this.mono ?_
  rintro e w' ⟨v', rfl, h1, h2, h3⟩
  rw [hC, ← advM_step l2 hn l4] at h1
  refine ⟨v', rfl, h2.congr ?_ (fun _ _ => rfl), h.old, h.new, h1, h.only.trans h3⟩
  intro n s hn7 hs
  by_cases e1 : n = d ∧ s = low x
  · obtain ⟨rfl, rfl⟩ := e1
    rw [upd_same]
    unfold advC
    rw [if_pos ⟨.inr ⟨rfl, by omega⟩, l4⟩]
  · rw [upd_other e1]
    unfold advC
    by_cases e2 : (n < d ∨ n = d ∧ s < p) ∧ metB now now' n s = true
    · have e4 : n < d ∨ n = d ∧ s < low x + 1 := by
        rcases e2.1 with q | q
        · exact .inl q
        · exact .inr ⟨q.1, by omega⟩
      rw [if_pos e2, if_pos ⟨e4, e2.2⟩]
    · rw [if_neg e2]
      by_cases e3 : (n < d ∨ n = d ∧ s < low x + 1) ∧ metB now now' n s = true
      · rw [if_pos e3]
        have hnd : n = d ∧ p ≤ s ∧ s < low x := by
          rcases e3.1 with q | q
          · exact absurd ⟨.inl q, e3.2⟩ e2
          · refine ⟨q.1, ?_, by omega⟩
            rcases Nat.lt_or_ge s p with a | a
            · exact absurd ⟨.inr ⟨q.1, a⟩, e3.2⟩ e2
            · exact a
        obtain ⟨rfl, q1, q2⟩ := hnd
        have := hn s q1 q2
        unfold advS at this
        rw [if_pos e3.2] at this
        exact this.symm
      · rw [if_neg e3]
/-- A wheel done: its bits stored. -/
theorem AdvAt.next (h : AdvAt w0 w base wb mb now now' L U V d p v) (hW : Wst w0 base wb mb now L U) (hd : d < 7) (hl : Left now now' (U d) d p 0) (hp : p ≤ 64) :
    w.cell? ⟨wb, 898 + d, none⟩ = some (.int .u64 (U d : Int)) ∧ w.frozen? ⟨wb, 898 + d, none⟩ = false ∧ AdvAt w0 (w.setCell ⟨wb, 898 + d, none⟩ (.int .u64 ((keepN now now' (U d) d : Nat) : Int))) base wb mb now now' L U (updU V d (keepN now now' (U d) d)) (d + 1) 0 v := by
  have hs := hl.stop
  obtain ⟨q1, q2⟩ := h.whl.cellU hd
  rw [h.old d (Nat.le_refl _)] at q1
  obtain ⟨k1, k2⟩ := h.whl.used hd (keepN now now' (U d) d)
  have k3 : Only base Ze w (w.setCell ⟨wb, 898 + d, none⟩ (.int .u64 ((keepN now now' (U d) d : Nat) : Int))) := by
    obtain ⟨cs, hB, _⟩ := h.whl.blk
    exact Only.set hB h.whl.low (.inl rfl) _
  have hn : ∀ s, p ≤ s → s < 64 → advS now now' L d s = [] := by
    intro s h1 h2
    unfold advS
    cases hm : metB now now' d s with
    | false => rfl
    | true =>
      rw [if_pos rfl]
      cases hc : chn now L d s with
      | nil => rfl
      | cons a r =>
        have := (hW.uBit d s hd h2).2 (by rw [hc]; simp)
        rw [hs s h1 h2 this] at hm
        cases hm
  refine ⟨q1, q2, k1.congr ?_ (fun _ _ => rfl), ?_, ?_, ?_, h.only.trans k3⟩
  · intro n s hn7 hs7
    unfold advC
    by_cases e2 : (n < d ∨ n = d ∧ s < p) ∧ metB now now' n s = true
    · rw [if_pos e2, if_pos ⟨by rcases e2.1 with q | q <;> left <;> omega, e2.2⟩]
    · rw [if_neg e2]
      by_cases e3 : (n < d + 1 ∨ n = d + 1 ∧ s < 0) ∧ metB now now' n s = true
      · rw [if_pos e3]
        have hnd : n = d ∧ p ≤ s := by
          rcases Nat.lt_or_ge n d with q | q
          · exact absurd ⟨.inl q, e3.2⟩ e2
          · refine ⟨by omega, ?_⟩
            rcases Nat.lt_or_ge s p with a | a
            · exact absurd ⟨.inr ⟨by omega, a⟩, e3.2⟩ e2
            · exact a
        obtain ⟨rfl, q9⟩ := hnd
        have := hn s q9 hs7
        unfold advS at this
        rw [if_pos e3.2] at this
        exact this.symm
      · rw [if_neg e3]
  · intro n hn'
    unfold updU
    rw [if_neg (by omega)]
    exact h.old n (by omega)
  · intro n hn'
    unfold updU
    split
    · rename_i e; rw [e]
    · exact h.new n (by omega)
  · have := h.row.only (k2 : Only base Zw w _) (fun b e => by rcases e with e | e <;> exact absurd e (by decide))
    rw [← advM_next, advM_some hp hn]
    exact this
end

set_option maxRecDepth 10000 in
set_option maxHeartbeats 4000000 in
theorem advance_any (w : World) (base wb mb now now' : Nat) (L : List Tm) (U : Nat → Nat) (h : Wst w base wb mb now L U) (hT : TabAt 0 Lib.deBruijn64tab w) (hb : 0 < base) (hnn : now ≤ now') (hm : now' ≤ maxT) (hlen : L.length ≤ 1000) :
    Calls Tryd.prog 27 #[.pointer (some ⟨wb, 0, none⟩), .int .i64 (now' : Int)] w fun e w' => ∃ v V, e = .returned v ∧ AdvAt w w' base wb mb now now' L U V 7 0 v := by
  have a0 := h.whl.cell.1
  have c0 := differ_any now now' h.nowM hm w
  obtain ⟨T, hTT⟩ : ∃ T, T = difS now now' := ⟨_, rfl⟩
  rw [← hTT] at c0
  obtain ⟨f0, hN, oN⟩ := h.whl.setNow now'
  obtain ⟨W1, hW1⟩ : ∃ W1, W1 = w.setCell ⟨wb, 0, none⟩ (.int .i64 (now' : Int)) := ⟨_, rfl⟩
  have H0 : Hid (AdvAt w W1 base wb mb now now' L U U 0 0 (.slice none 0 0)) := by
    rw [hW1]
    exact ⟨hN.congr (fun n s _ _ => by unfold advC; rw [if_neg (fun e => by omega)]) (fun _ _ => rfl), fun _ _ => rfl, fun n hn => absurd hn (Nat.not_lt_zero _), ⟨rfl, .inl ⟨rfl, rfl⟩⟩, oN⟩
  have HW : Hid (Wst w base wb mb now L U ∧ TabAt 0 Lib.deBruijn64tab w ∧ 0 < base ∧ now ≤ now' ∧ now' ≤ maxT ∧ L.length ≤ 1000 ∧ T = difS now now') := ⟨h, hT, hb, hnn, hm, hlen, hTT⟩
  have HW1 := Lib.hid hW1
  clear h hT hb hnn hm hlen hTT hN oN hW1
  go_enter Tryd.func27, Tryd.ntmps27
  go_wp2_with fail
  refine c0.mono ?_
  rintro e w' ⟨rfl, hw⟩
  subst w'
  clear c0
  go_wp2_with fail
  rw [← HW1.out]
  clear a0 f0
  go_loopg [6, 20] 7 (fun gk s6 s20 wr => ∃ (d : Nat) (V : Nat → Nat), gk = 7 - d ∧ s20 = .int .i64 (d : Int) ∧ Hid (d ≤ 7 ∧ AdvAt w wr base wb mb now now' L U V d 0 s6))
  case atStart => exact ⟨0, U, rfl, rfl, Nat.zero_le _, H0.out⟩
  case round =>
    obtain ⟨d, V, rfl, rfl, HR⟩ := hrel
    rcases Nat.lt_or_ge d 7 with hlt | hge
    · have i0 : (d : Int) < 7 := by omega
      have c1 := digit_any now' d HW.out.2.2.2.2.1 hlt wr
      obtain ⟨dg, hdg⟩ : ∃ dg, dg = dig now' d := ⟨_, rfl⟩
      rw [← hdg] at c1
      have hd64 : dg < 64 := by rw [hdg]; exact dig_lt _ _
      go_wp2_with fail
      refine c1.mono ?_
      rintro e w' ⟨rfl, hw⟩
      subst w'
      have HD : Hid (d < 7 ∧ dg < 64 ∧ (d < T → meetsN now now' d = 2 ^ 64 - 1) ∧ (¬ d < T → meetsN now now' d = 2 ^ (dg + 1) - 1)) := by
        refine ⟨hlt, hd64, fun h => ?_, fun h => ?_⟩
        · unfold meetsN
          rw [if_pos (by rw [← HW.out.2.2.2.2.2.2]; exact h)]
        · unfold meetsN
          rw [if_neg (by rw [← HW.out.2.2.2.2.2.2]; exact h), hdg]
      have hwm := wrap_meets hd64
      obtain ⟨m1, hm1⟩ : ∃ m1, m1 = 2 ^ (dg + 1) - 1 := ⟨_, rfl⟩
      rw [← hm1] at hwm
      have HM := Lib.hid hm1
      clear c1 hlt hdg hm1
      go_upto_region 8 with fail
      clear hwm hd64
      obtain ⟨me, hme⟩ : ∃ me, me = meetsN now now' d := ⟨_, rfl⟩
      have HME := Lib.hid hme
      clear hme
      go_cut [30] (fun s30 wx => s30 = .bool (decide (d < T)) ∧ wr = wx)
      case first =>
        rcases Nat.lt_or_ge d T with q | q
        · have q2 := decide_eq_true q
          have q3 : (d : Int) < (T : Int) := by omega
          go_wp2_with fail
          go_meet
          exact ⟨by rw [q2], rfl⟩
        · have q2 : decide (d < T) = false := decide_eq_false (by omega)
          have q3 : ¬ ((d : Int) < (T : Int)) := by omega
          go_wp2_with fail
          go_meet
          exact ⟨by rw [q2], rfl⟩
      case rest =>
        obtain ⟨rfl, rfl⟩ := hcut
        go_upto_if 30 with fail
        go_cut [8] (fun s8 wx => s8 = .int .u64 (me : Int) ∧ wr = wx)
        case first =>
          rcases Nat.lt_or_ge d T with q | q
          · have q2 := decide_eq_true q
            have e := HD.out.2.2.1 q
            have HE : Hid ((me : Int) = 18446744073709551615) := by show (me : Int) = _; rw [HME.out, e]; decide
            clear e
            go_wp2_with fail
            go_meet
            exact ⟨by rw [HE.out], rfl⟩
          · have q2 : decide (d < T) = false := decide_eq_false (by omega)
            have e := HD.out.2.2.2 (by omega)
            have HE : Hid (me = m1) := by show me = m1; rw [HME.out, HM.out, e]
            clear e
            go_wp2_with fail
            go_meet
            exact ⟨by rw [HE.out], rfl⟩
        case rest =>
          obtain ⟨rfl, rfl⟩ := hcut
          have hA := HR.out.2
          have hU := HW.out.1.uLt d HD.out.1
          have a1 := (hA.whl.cellU HD.out.1).1
          rw [hA.old d (Nat.le_refl _)] at a1
          have hml : me < 2 ^ 64 := by rw [HME.out]; exact meetsN_lt _ _ _
          have q1 := and_64 (U d) me hU hml
          have HL0 : Hid (Left now now' (U d) d 0 (U d &&& me)) := by rw [HME.out]; exact Left.start hU
          have HQ : Hid (bits .andNot .u64 (U d : Int) (me : Int) = ((keepN now now' (U d) d : Nat) : Int)) := by
            show _ = _
            rw [andNot_64 (U d) me hU hml]
            unfold keepN
            rw [← HME.out]
          generalize U d &&& me = x0 at *
          have HUL : Hid (U d < 2 ^ 64) := hU
          clear hA hU hml
          go_wp2_with fail
          clear q1 a1
          rename World => wo
          go_loopg [6, 9] 64 (fun gk s6 s9 wr => ∃ x p : Nat, gk = 64 - p ∧ s9 = .int .u64 (x : Int) ∧ Hid (p ≤ 64 ∧ Left now now' (U d) d p x ∧ AdvAt w wr base wb mb now now' L U V d p s6))
          case atStart => exact ⟨x0, 0, rfl, rfl, Nat.zero_le _, HL0.out, HR.out.2⟩
          case round =>
            obtain ⟨x, p, rfl, rfl, HU⟩ := hrel
            by_cases hx : x = 0
            · have HL : Hid (Left now now' (U d) d p 0) := by rw [← hx]; exact HU.out.2.1
              subst hx
              obtain ⟨wD, hwD⟩ : ∃ wD, wD = wr.drew := ⟨_, rfl⟩
              obtain ⟨k1, k2, k3⟩ := (HU.out.2.2.drew).next HW.out.1 HD.out.1 HL.out HU.out.1
              rw [← hwD] at k1 k2 k3
              have q1 := HQ.out
              have HK := Lib.hid k3
              generalize keepN now now' (U d) d = kn at *
              generalize U d = ud at *
              have i0 : (d : Int) < 7 := by have := HD.out; omega
              obtain ⟨d1, hd1⟩ : ∃ d1, d1 = d + 1 := ⟨_, rfl⟩
              have n1 : (d : Int) + 1 = (d1 : Int) := by omega
              have n2 : IntKind.i64.wrap (d1 : Int) = (d1 : Int) := IntWalk.i64_in _ (by omega)
              have HD1 := Lib.hid hd1
              clear k3 hd1
              go_upto_region 14 with fail
              refine wp_region_still_tail 11 (by kernel_rfl) (by kernel_rfl) ?_
              simp only [List.take_succ_cons, List.take_zero, List.drop_succ_cons, List.drop_zero]
              change wpStill _ _ wr.drew (fun a' => wpList _ _ _ _ a' wr.drew) _ _
              rw [← hwD]
              have HDW := Lib.hid hwD
              clear hwD
              repeat still_step
              refine wpStill_nil ?_
              go_wp2_with fail
              go_roundg (7 - d1)
              case measure => have := HD.out; have := HD1.out; omega
              case rel => exact ⟨d1, _, rfl, rfl, by have := HD.out; have := HD1.out; omega, by rw [HD1.out]; exact HK.out⟩
            · obtain ⟨c2, c3⟩ := (HU.out.2.2.drew).step HW.out.1 HD.out.1 hx HU.out.2.1 HW.out.2.2.2.2.2.1 HU.out.1 HW.out.2.1 HW.out.2.2.1
              obtain ⟨l1, l2, _, _, _, l6⟩ := HU.out.2.1.step hx
              have hx64 := HU.out.2.1.1
              have q1 := and_64 x (x - 1) hx64 (by omega)
              obtain ⟨s, hs⟩ : ∃ s, s = low x := ⟨_, rfl⟩
              rw [← hs] at c2 c3 l1 l2 l6
              have HL : Hid (s < 64 ∧ p ≤ s ∧ Left now now' (U d) d (s + 1) (x &&& (x - 1))) := ⟨l1, l2, l6⟩
              generalize x &&& (x - 1) = x2 at *
              obtain ⟨x1, hx1⟩ : ∃ x1, x1 = x - 1 := ⟨_, rfl⟩
              rw [← hx1] at q1
              have n1 : (x : Int) - 1 = (x1 : Int) := by omega
              have n2 : IntKind.u64.wrap (x1 : Int) = (x1 : Int) := by rw [IntKind.wrap_u64]; omega
              have n3 : IntKind.u64.wrap ((x : Int) - 1) = (x1 : Int) := by rw [n1]; exact n2
              have j1 : ¬ ((x : Int) = 0) := by omega
              have j2 : ((x : Int) == 0) = false := by rw [beq_eq_false_iff_ne]; exact j1
              have j3 : (s : Int) < 64 := by omega
              have i0 : (d : Int) < 7 := by have := HD.out; omega
              have HN := Lib.hid (And.intro n1 (And.intro n2 (And.intro n3 q1)))
              clear hs hx l1 l2 l6 hx64 hx1 n1 n2 n3 q1
              go_upto_region 13 with fail
              clear j1 j2
              refine wp_region_still_tail 9 (by kernel_rfl) (by kernel_rfl) ?_
              simp only [List.take_succ_cons, List.take_zero, List.drop_succ_cons, List.drop_zero]
              still_step
              still_step
              still_step
              still_call c2
              still_step
              still_step
              still_step
              still_step
              still_step
              refine wpStill_nil ?_
              clear c2
              change wpList _ _ _ _ _ wr.drew
              go_wp2_with fail
              refine c3.mono ?_
              rintro e w2 ⟨v', rfl, h2⟩
              have H2 := Lib.hid h2
              clear c3 h2
              obtain ⟨n1, n2, n3, q1⟩ := HN.out
              go_wp2_with fail
              go_roundg (64 - (s + 1))
              case measure => have := HL.out.1; have := HL.out.2.1; omega
              case rel => exact ⟨x2, s + 1, rfl, rfl, by have := HL.out.1; omega, HL.out.2.2, H2.out⟩
    · obtain rfl : d = 7 := by have := HR.out.1; omega
      go_wp2_with fail
      go_ret
      exact ⟨_, V, rfl, HR.out.2⟩
end Go.Proofs.YtnoglbceaibjeaaDoor
/- Where Tick stands while it lays those that it met anew. -/
namespace Go.Proofs.YtnoglbceaibjeaaDoor
set_option linter.unusedVariables false
set_option linter.unusedSimpArgs false
open Go.ChangeShapes Go.WideShapes Go.ChangeAt Go.RowKit Go.Shelf

def Zt (b : Nat) (T : TypeId) : Prop := Zm b T ∨ T = 60
section
variable {w w' : World} {base wb mb now : Nat} {L : List Tm} {U : Nat → Nat}
theorem Wst.blkInj (h : Wst w base wb mb now L U) {a b : Tm} (ha : a ∈ L) (hb : b ∈ L) (e : a.blk = b.blk) : a = b := by
  have pa := plc_lt h.nowM (h.tks a ha)
  have pb := plc_lt h.nowM (h.tks b hb)
  obtain ⟨i, hi⟩ := List.getElem?_of_mem (h.inChn ha)
  obtain ⟨j, hj⟩ := List.getElem?_of_mem (h.inChn hb)
  obtain ⟨e1, e2, e3⟩ := h.whl.uniq _ _ _ _ _ _ _ _ pa.1 pa.2 pb.1 pb.2 hi hj e
  rw [e1, e2, e3] at hi
  rw [hi] at hj
  exact Option.some.inj hj
theorem Wst.blkLow (h : Wst w base wb mb now L U) {a : Tm} (ha : a ∈ L) : base ≤ a.blk := by
  have pa := plc_lt h.nowM (h.tks a ha)
  exact h.whl.lowT _ _ pa.1 pa.2 a (h.inChn ha)
end
theorem Whl.only {w w' : World} {base b0 wb mb now : Nat} {C : Nat → Nat → List Tm} {U : Nat → Nat} {Z : Nat → TypeId → Prop} (h : Whl w base wb mb now C U) (o : Only b0 Z w w') (hw : ∀ b, ¬ Z b 68) (ht : ∀ b, ¬ Z b 70) : Whl w' base wb mb now C U := by
  obtain ⟨cs, h1, h2⟩ := h.blk
  refine ⟨h.low, ⟨cs, o.cells h1 (hw _), h2⟩, fun n s hn hs i t hi => ?_, h.lowT, h.uniq⟩
  exact o.cells (h.chn n s hn hs i t hi) (ht _)
/-- The timers lie in memory, with whatever links. -/
def TmIn (w : World) (l : List Tm) : Prop := ∀ t ∈ l, ∃ x y, w.heap[t.blk]? = some (.cells (tmC t x y) 70 (0, 0))
structure TickAt (w0 w2 w : World) (base wb mb now now' : Nat) (L M : List Tm) (i : Nat) (V : Nat → Nat) (v s7 : Value) : Prop where
  whl : Whl w base wb mb now' (midC now now' L (M.take i)) V
  uLt : ∀ no, no < 7 → V no < 2 ^ 64
  uBit : ∀ no s, no < 7 → s < 64 → ((V no).testBit s = true ↔ midC now now' L (M.take i) no s ≠ [])
  map : IMap w mb ((inM now' L (M.take i)).map pairW)
  met : Trow w base v M
  lt : ∀ g, v.ownBlock = some g → g < w2.heap.size
  due : Trow w w2.heap.size s7 (dueL now' (M.take i))
  tms : TmIn w M
  siz : w2.heap.size ≤ w.heap.size
  bs : base ≤ w2.heap.size
  only : Only base Zt w0 w
structure TickC (w0 : World) (base wb mb now now' : Nat) (L : List Tm) (U : Nat → Nat) : Prop where
  st : Wst w0 base wb mb now L U
  le : now ≤ now'
  mx : now' ≤ maxT
  len : L.length ≤ 1000
section
variable {w0 w2 w w' : World} {base wb mb now now' : Nat} {L M : List Tm} {i : Nat} {U V : Nat → Nat} {v s7 : Value} {t : Tm}
theorem TickC.mem (c : TickC w0 base wb mb now now' L U) (ht : t ∈ metL now now' L) : t ∈ L ∧ t.tk ≤ maxT ∧ base ≤ t.blk := ⟨(metL_mem ht).1, c.st.tks t (metL_mem ht).1, c.st.blkLow (metL_mem ht).1⟩
theorem TickC.nodup (c : TickC w0 base wb mb now now' L U) : (metL now now' L).Nodup := metL_nodup c.le c.mx c.st.tks (ids_nodup c.st.nod)
theorem take_not {l : List Tm} (hn : l.Nodup) {i : Nat} {t : Tm} (ht : l[i]? = some t) : t ∉ l.take i := by
  intro hm
  obtain ⟨j, hj⟩ := List.getElem?_of_mem hm
  rw [List.getElem?_take] at hj
  split at hj
  · rename_i hlt
    have hjl := (List.getElem?_eq_some_iff.1 hj).1
    have := (List.getElem?_inj hjl hn).1 (hj.trans ht.symm)
    omega
  · cases hj
/-- No timer that is in a chain lies where one that is still to be looked at does. -/
theorem TickC.apart (c : TickC w0 base wb mb now now' L U) {i : Nat} (ht : (metL now now' L)[i]? = some t) {n s : Nat} {u : Tm} (hu : u ∈ midC now now' L ((metL now now' L).take i) n s) : u.blk ≠ t.blk := by
  intro e
  have htm := List.mem_of_getElem? ht
  obtain ⟨t1, t2⟩ := metL_mem htm
  rcases midC_mem hu with ⟨h1, h2, h3⟩ | h1
  · have := c.st.blkInj h1 t1 e
    subst this
    rw [h2] at t2
    rw [h3] at t2
    cases t2
  · have hum := List.mem_of_mem_take h1
    have := c.st.blkInj (metL_mem hum).1 t1 e
    subst this
    exact take_not c.nodup ht h1
theorem take_next {l : List Tm} {i : Nat} {t : Tm} (ht : l[i]? = some t) : l.take (i + 1) = l.take i ++ [t] := by
  rw [List.take_add_one, ht]
  rfl
/-- One that is not due yet: what put leaves. -/
theorem TickAt.put (c : TickC w0 base wb mb now now' L U) (h : TickAt w0 w2 w base wb mb now now' L (metL now now' L) i V v s7) (ht : (metL now now' L)[i]? = some t) (hlate : now' < t.tk) :
    Calls Tryd.prog 24 #[.pointer (some ⟨wb, 0, none⟩), .pointer (some ⟨t.blk, 0, none⟩)] w fun e w' => e = .returned (.tuple #[]) ∧ ∃ V', TickAt w0 w2 w' base wb mb now now' L (metL now now' L) (i + 1) V' v s7 := by
  have htm := List.mem_of_getElem? ht
  obtain ⟨m1, m2, m3⟩ := c.mem htm
  obtain ⟨x, y, hb⟩ := h.tms t htm
  obtain ⟨no, s, hpl⟩ : ∃ no s, plc now' t.tk = (no, s) := ⟨_, _, rfl⟩
  have hp := plc_lt c.mx m2
  rw [hpl] at hp
  obtain ⟨hno, hs⟩ : no < 7 ∧ s < 64 := hp
  refine (put_any w base wb mb now' _ V h.whl c.mx t m2 x y hb (fun n m _ _ u hu => c.apart ht hu) m3 h.uLt no s hpl).mono ?_
  rintro e w' ⟨rfl, h1, h2, h3⟩
  have hC : ∀ n m, midC now now' L ((metL now now' L).take (i + 1)) n m = upd (midC now now' L ((metL now now' L).take i)) no s (midC now now' L ((metL now now' L).take i) no s ++ [t]) n m := by
    intro n m
    rw [take_next ht, midC_late hlate hpl]
    rfl
  have hp2 : 2 ^ s < 2 ^ 64 := Nat.pow_lt_pow_right (by decide) hs
  have hw' := h1.congr (C' := midC now now' L ((metL now now' L).take (i + 1))) (fun n m _ _ => hC n m) (fun _ _ => rfl)
  refine ⟨rfl, _, hw', ?_, ?_, ?_, h.met.only h2 (fun b e => by rcases e with e | e <;> exact absurd e (by decide)), h.lt, ?_, ?_, Nat.le_trans h.siz h2.size, h.bs, h.only.trans (h2.mono fun _ _ _ _ _ e => .inl (.inl e))⟩
  · intro n hn
    unfold updU
    split
    · exact Nat.or_lt_two_pow (h.uLt no hno) hp2
    · exact h.uLt n hn
  · intro n m hn hm
    rw [hC]
    by_cases e : n = no ∧ m = s
    · obtain ⟨rfl, rfl⟩ := e
      rw [upd_same]
      unfold updU
      rw [if_pos rfl, Nat.testBit_or, Nat.testBit_two_pow_self]
      simp
    · rw [upd_other e]
      unfold updU
      split <;> rename_i e3
      · subst e3
        rw [Nat.testBit_or, Nat.testBit_two_pow, decide_eq_false (fun e4 => e ⟨rfl, e4.symm⟩), Bool.or_false]
        exact h.uBit n m hn hm
      · exact h.uBit n m hn hm
  · have e1 : inM now' L ((metL now now' L).take (i + 1)) = inM now' L ((metL now now' L).take i) := by
      unfold inM
      rw [take_next ht, dueL_late hlate]
    rw [e1]
    exact h2.imap h.map zw_map
  · rw [take_next ht, dueL_late hlate]
    exact h2.row h.due (fun b _ e => by rcases e with e | e <;> exact absurd e (by decide))
  · intro u hu
    by_cases hin : u ∈ midC now now' L ((metL now now' L).take (i + 1)) no s
    · obtain ⟨j, hj⟩ := List.getElem?_of_mem hin
      exact ⟨_, _, hw'.chn no s hno hs j u hj⟩
    · obtain ⟨x', y', hb'⟩ := h.tms u hu
      refine ⟨x', y', (h3 u.blk ?_ ?_ ?_).trans hb'⟩
      · intro e
        obtain ⟨cs, hB, _⟩ := h.whl.blk
        rw [e, hB] at hb'
        injection hb' with hb'
        injection hb' with _ hb'
        exact absurd hb' (by decide)
      · intro e
        have := c.st.blkInj (metL_mem hu).1 m1 e
        subst this
        apply hin
        rw [hC, upd_same]
        simp
      · intro z hz e
        apply hin
        rw [hC, upd_same]
        have hzL : z ∈ L := by
          rcases midC_mem hz with q | q
          · exact q.1
          · exact (metL_mem (List.mem_of_mem_take q)).1
        have := c.st.blkInj (metL_mem hu).1 hzL e
        subst this
        exact List.mem_append_left _ hz
/-- One that is due: what its deletion from the map and its being appended leave. -/
theorem TickAt.due_ (c : TickC w0 base wb mb now now' L U) (h : TickAt w0 w2 w base wb mb now now' L (metL now now' L) i V v s7) (ht : (metL now now' L)[i]? = some t) (hdue : ¬ now' < t.tk) :
    ∃ j, ((inM now' L ((metL now now' L).take i)).map pairW)[j]? = some (t.id, t.blk) ∧ (((inM now' L ((metL now now' L).take i)).map pairW).map Prod.fst).Nodup ∧
      ∀ w3, IMap w3 mb (((inM now' L ((metL now now' L).take i)).map pairW).eraseIdx j) → w.grownBy w3 (some mb) → Trow w3 w2.heap.size s7 (dueL now' ((metL now now' L).take i)) ∧ w2.heap.size ≤ w3.heap.size ∧ (dueL now' ((metL now now' L).take i)).length ≤ 1000000 ∧
        ∀ v5 w5, Trow w5 w2.heap.size v5 (dueL now' ((metL now now' L).take i) ++ [t]) → Only w2.heap.size Zr w3 w5 → TickAt w0 w2 w5 base wb mb now now' L (metL now now' L) (i + 1) V v v5 := by
  have htm := List.mem_of_getElem? ht
  obtain ⟨m1, m2, m3⟩ := c.mem htm
  have hin : t ∈ inM now' L ((metL now now' L).take i) := by
    refine List.mem_filter.2 ⟨m1, decide_eq_true fun hd => ?_⟩
    exact take_not c.nodup ht (List.mem_filter.1 hd).1
  obtain ⟨j, hj⟩ := List.getElem?_of_mem hin
  have hnod : ((inM now' L ((metL now now' L).take i)).map Tm.id).Nodup := (List.Sublist.map _ List.filter_sublist).nodup c.st.nod
  have he : ((inM now' L ((metL now now' L).take i)).map pairW).eraseIdx j = (inM now' L ((metL now now' L).take (i + 1))).map pairW := by
    rw [take_next ht, inM_due c.st.nod m1 hdue, ← erase_filter hnod hj, Go.ChangeMaps.map_eraseIdx]
  refine ⟨j, by rw [List.getElem?_map, hj]; rfl, by rw [List.map_map]; exact hnod, fun w3 hm3 hg3 => ?_⟩
  have kc := grown_cells h.map hg3
  have hmc : midC now now' L ((metL now now' L).take (i + 1)) = midC now now' L ((metL now now' L).take i) := by rw [take_next ht, midC_due hdue]
  have h3w : Whl w3 base wb mb now' (midC now now' L ((metL now now' L).take i)) V := h.whl.keep kc
  have o3 : Only base Zm w w3 := only_map h.map hg3 c.st.lowM h.whl.bas
  have hnz : ∀ b, ¬ Zm b 60 := fun b e => by
    rcases e with (e | e) | e <;> exact absurd e (by decide)
  have hd3 : Trow w3 w2.heap.size s7 (dueL now' ((metL now now' L).take i)) := o3.row h.due fun g _ => hnz g
  have hlen : (dueL now' ((metL now now' L).take i)).length ≤ 1000000 := by
    have h1 : (dueL now' ((metL now now' L).take i)).length ≤ ((metL now now' L).take i).length := List.length_filter_le _ _
    have h2 : ((metL now now' L).take i).length ≤ (metL now now' L).length := List.length_take_le' _ _
    have h3 := advM_len now now' L 7 0 (Nat.le_refl _) (by omega)
    rw [advM_all] at h3
    have := c.len
    omega
  refine ⟨hd3, Nat.le_trans h.siz o3.size, hlen, fun v5 w5 hr5 o5 => ?_⟩
  rw [he] at hm3
  have hbase := h.bs
  have o5' : Only base Zr w3 w5 := ⟨o5.low.mono hbase, o5.keep⟩
  refine ⟨?_, h.uLt, ?_, o5.imap hm3 (fun e => absurd (show mapT = 60 from e) (by decide)), ?_, h.lt, ?_, ?_, Nat.le_trans (Nat.le_trans h.siz o3.size) o5.size, h.bs, (h.only.trans (o3.mono fun _ _ _ _ _ e => .inl e)).trans (o5'.mono fun _ _ _ _ _ e => .inr e)⟩
  · rw [hmc]
    exact h3w.only o5 (fun b e => absurd (show 68 = 60 from e) (by decide)) (fun b e => absurd (show 70 = 60 from e) (by decide))
  · rw [hmc]; exact h.uBit
  · exact ownsRow_other (h.met.only o3 hnz) fun b cs hb _ => o5.low.block b (h.lt b hb)
  · rw [take_next ht, dueL_due hdue]
    exact hr5
  · intro u hu
    obtain ⟨x', y', hb'⟩ := h.tms u hu
    exact ⟨x', y', o5.cells ((kc _ _ _ hb').trans hb') (fun e => absurd (show 70 = 60 from e) (by decide))⟩
end
end Go.Proofs.YtnoglbceaibjeaaDoor
/- Contract: Tick. -/
namespace Go.Proofs.YtnoglbceaibjeaaDoor
set_option linter.unusedVariables false
set_option linter.unusedSimpArgs false
open Go.ChangeShapes Go.WideShapes Go.ChangeAt Go.RowKit Go.Shelf

set_option maxHeartbeats 400000 in
theorem wTick_range (w : World) (base wb mb now : Nat) (L : List Tm) (U : Nat → Nat) (h : Wst w base wb mb now L U) (y : Int) (hy : y < (now : Int) ∨ 1099511627776 < y) :
    Calls Tryd.prog 15 #[.pointer (some ⟨wb, 0, none⟩), .int .i64 y] w fun e w' => e = .returned (.tuple #[.slice none 0 0, .int .i64 8]) ∧ w' = w := by
  have a0 := h.whl.cell.1
  clear h
  by_cases h1 : y < (now : Int)
  · have d1 : decide (y < (now : Int)) = true := decide_eq_true h1
    clear hy
    go_enter Tryd.func15, Tryd.ntmps15
    go_wp2_with fail
    go_ret2
    exact ⟨rfl, rfl⟩
  · have d1 : decide (y < (now : Int)) = false := decide_eq_false h1
    have h2 : 1099511627776 < y := by omega
    clear hy
    go_enter Tryd.func15, Tryd.ntmps15
    go_wp2_with fail
    go_ret2
    exact ⟨rfl, rfl⟩
theorem Only.later {base : Nat} {Z : Nat → TypeId → Prop} {a b c : World} (h : Only base Z a b) (k : Below a.heap.size b c) (hb : base ≤ a.heap.size) : Only base Z a c :=
  ⟨h.low.trans (k.mono hb), fun i o T hi ht hz => (k.block i (Array.getElem?_eq_some_iff.1 hi).1).trans (h.keep i o T hi ht hz)⟩
section
variable {w0 w2 w w' : World} {base wb mb now now' : Nat} {L M : List Tm} {i : Nat} {U V : Nat → Nat} {v s7 : Value} {t : Tm}
theorem TickAt.drew (h : TickAt w0 w2 w base wb mb now now' L M i V v s7) : TickAt w0 w2 w.drew base wb mb now now' L M i V v s7 :=
  ⟨h.whl.drew, h.uLt, h.uBit, h.map.keep rfl, h.met.grow (Grow.drew _), h.lt, h.due.grow (Grow.drew _), fun t ht => h.tms t ht, h.siz, h.bs, h.only.trans (Only.grow (Grow.drew _) h.whl.bas Zt)⟩
theorem TickAt.start (c : TickC w0 base wb mb now now' L U) (h : AdvAt w0 w base wb mb now now' L U V 7 0 v) : TickAt w0 w w base wb mb now now' L (metL now now' L) 0 V v (.slice none 0 0) := by
  have hC : ∀ n s, n < 7 → s < 64 → midC now now' L ((metL now now' L).take 0) n s = advC now now' L 7 0 n s := by
    intro n s hn _
    rw [List.take_zero, midC_nil]
    unfold advC
    by_cases hm : metB now now' n s = true
    · rw [if_pos ⟨.inl hn, hm⟩]
      simp [hm]
    · rw [if_neg (fun e => hm e.2)]
      simp [hm]
  have hrow := h.row
  rw [advM_all] at hrow
  refine ⟨h.whl.congr hC (fun _ _ => rfl), ?_, ?_, ?_, hrow, fun g hg => (World.ownsRow.lt hrow g hg).2, ⟨rfl, .inl ⟨rfl, rfl⟩⟩, ?_, Nat.le_refl _, h.whl.bas, h.only.mono fun _ _ _ _ _ e => ?_⟩
  · intro n hn
    rw [h.new n hn]
    exact Nat.and_lt_two_pow _ (Nat.sub_lt (Nat.two_pow_pos 64) (Nat.succ_pos _))
  · intro n s hn hs
    rw [h.new n hn, keepN_bit hs, List.take_zero, midC_nil]
    have := c.st.uBit n s hn hs
    by_cases hm : metB now now' n s = true
    · simp [hm]
    · simp only [hm, Bool.not_false, Bool.and_true]
      rw [this]
      simp
  · rw [List.take_zero, inM_nil]
    exact h.only.imap c.st.map (fun e => by rcases e with e | e <;> exact absurd e (by decide))
  · intro t ht
    obtain ⟨x, y, hb⟩ := c.st.tmAt (metL_mem ht).1
    exact ⟨x, y, h.only.cells hb (fun e => by rcases e with e | e <;> exact absurd e (by decide))⟩
  · rcases e with e | e
    · exact .inl (.inl (.inl e))
    · exact .inr e
theorem metL_len (now now' : Nat) (L : List Tm) : (metL now now' L).length ≤ 512 * L.length := by
  have h3 := advM_len now now' L 7 0 (Nat.le_refl _) (by omega)
  rw [advM_all] at h3
  exact h3
/-- When all have been laid anew, the due ones sorted and told. -/
theorem TickAt.done (c : TickC w0 base wb mb now now' L U) (h : TickAt w0 w2 w base wb mb now now' L (metL now now' L) (metL now now' L).length V v s7) {w' w4 : World} (o4 : Only w2.heap.size Zr w w4) (o5 : Only w0.heap.size Zi w4 w') (hs : w0.heap.size ≤ w2.heap.size) :
    Wst w' base wb mb now' (left now' L) V ∧ Only base Zt w0 w' := by
  have e1 : (metL now now' L).take (metL now now' L).length = metL now now' L := List.take_length
  have hw := h.whl
  have hu := h.uBit
  have hm := h.map
  rw [e1] at hw hu hm
  rw [midC_all c.le c.mx c.st.tks] at hw hu
  rw [inM_all c.le c.mx c.st.tks] at hm
  have z1 : ∀ T, T ≠ 60 → ∀ b, ¬ Zr b T := fun T h b e => h e
  have z2 : ∀ T, T ≠ 3 → ∀ b, ¬ Zi b T := fun T h b e => h e
  refine ⟨⟨(hw.only o4 (z1 _ (by decide)) (z1 _ (by decide))).only o5 (z2 _ (by decide)) (z2 _ (by decide)), h.uLt, hu, o5.imap (o4.imap hm (z1 _ (by decide) _)) (z2 _ (by decide) _), c.st.lowM, (List.Sublist.map _ List.filter_sublist).nodup c.st.nod, fun t ht => c.st.tks t (List.mem_filter.1 ht).1, c.mx⟩, ?_⟩
  have hb0 := c.st.whl.bas
  exact (h.only.trans ((Only.mono ⟨o4.low.mono h.bs, o4.keep⟩ fun _ _ _ _ _ e => .inr e))).later o5.low hb0
end

set_option maxRecDepth 10000 in
set_option maxHeartbeats 4000000 in
theorem wTick_any (w : World) (base wb mb now now' : Nat) (L : List Tm) (U : Nat → Nat) (c : TickC w base wb mb now now' L U) (hT : TabAt 0 Lib.deBruijn64tab w) (hb : 0 < base) :
    Calls Tryd.prog 15 #[.pointer (some ⟨wb, 0, none⟩), .int .i64 (now' : Int)] w fun e w' => ∃ (D : List Tm) (v : Value) (V : Nat → Nat), e = .returned (.tuple #[v, .int .i64 0]) ∧
      Irow w' w.heap.size v D ∧ Srt tkI D ∧ Stb tkI D (L.filter fun t => decide (t.tk ≤ now')) ∧ Wst w' base wb mb now' (left now' L) V ∧ Only base Zt w w' := by
  have a0 := c.st.whl.cell.1
  have c0 := advance_any w base wb mb now now' L U c.st hT hb c.le c.mx c.len
  have HC := Lib.hid c
  have d1 : decide ((now' : Int) < (now : Int)) = false := decide_eq_false (by have := c.le; omega)
  have d2 : ¬ (1099511627776 < (now' : Int)) := by have := c.mx; unfold maxT at this; omega
  have d3 : ¬ (now' < now) := by have := c.le; omega
  clear c hT hb
  go_enter Tryd.func15, Tryd.ntmps15
  go_wp2_with fail
  refine c0.mono ?_
  rintro e w2 ⟨v, V0, rfl, hA⟩
  have H0 := Lib.hid (TickAt.start HC.out hA)
  have HS : Hid (w.heap.size ≤ w2.heap.size) := hA.only.size
  clear c0 hA a0 d1 d2 d3
  obtain ⟨M, hM⟩ : ∃ M, M = metL now now' L := ⟨_, rfl⟩
  have HM := Lib.hid hM
  have hM2 := HM.out
  rw [← hM] at H0
  obtain ⟨A, cp, hv⟩ := H0.out.met.form
  obtain ⟨n, hn⟩ : ∃ n, n = M.length := ⟨_, rfl⟩
  rw [← hn] at hv
  subst hv
  have HN := Lib.hid hn
  clear hM hM2 hn
  go_wp2_with fail
  go_loopg [7, 27] n (fun gk s7 s27 wr => ∃ (i : Nat) (V : Nat → Nat), gk = n - i ∧ s27 = .int .i64 (i : Int) ∧ Hid (i ≤ n ∧ TickAt w w2 wr base wb mb now now' L M i V (.slice A n cp) s7))
  case atStart => exact ⟨0, V0, rfl, rfl, Nat.zero_le _, H0.out⟩
  case round =>
    obtain ⟨i, V, rfl, rfl, HR⟩ := hrel
    rcases Nat.lt_or_ge i n with hlt | hge
    · obtain ⟨t, ht⟩ : ∃ t, M[i]? = some t := ⟨_, List.getElem?_eq_getElem (by rw [← HN.out]; exact hlt)⟩
      obtain ⟨A', cp', e1, q1, q2, q3, q4⟩ := RdK.of_own HR.out.2.met
      obtain ⟨g, off, hg, hgl, hgc⟩ := q4 (by rw [← HN.out]; omega)
      have e2 : A = some ⟨g, off, none⟩ := by
        rw [hg] at e1
        injection e1
      have k0 : wr.cell? ⟨g, off + i, none⟩ = some (.pointer (some ⟨t.blk, 0, none⟩)) := hgc i (tpV t) (by rw [List.getElem?_map, ht]; rfl)
      obtain ⟨x, y, hb⟩ := HR.out.2.tms t (List.mem_of_getElem? ht)
      have k1 : wr.cell? ⟨t.blk, 1, none⟩ = some (.int .i64 (t.tk : Int)) := (cell_of_row wr t.blk 1 _ _ _ hb).trans rfl
      have k2 : wr.cell? ⟨t.blk, 0, none⟩ = some (.int .i64 t.id) := (cell_of_row wr t.blk 0 _ _ _ hb).trans rfl
      have i0 : (i : Int) < (n : Int) := by omega
      obtain ⟨i1, hi1⟩ : ∃ i1, i1 = i + 1 := ⟨_, rfl⟩
      have hnl : n ≤ 512000 := by
        have := HC.out.len
        have := metL_len now now' L
        rw [← HM.out, ← HN.out] at this
        omega
      have n1 : (i : Int) + 1 = (i1 : Int) := by omega
      have n2 : IntKind.i64.wrap (i1 : Int) = (i1 : Int) := IntWalk.i64_in _ (by omega)
      have n3 : IntKind.i64.wrap ((i : Int) + 1) = (i1 : Int) := by rw [n1]; exact n2
      have HI := Lib.hid (And.intro hi1 hlt)
      have HTM := Lib.hid ht
      subst e2
      clear q1 q2 q3 q4 e1 hg hgl hgc hb hi1 ht hnl hlt
      by_cases hl : now' < t.tk
      · have c1 := TickAt.put HC.out (by rw [← HM.out]; exact HR.out.2) (by rw [← HM.out]; exact HTM.out) hl
        rw [← HM.out] at c1
        have l1 : (now' : Int) < (t.tk : Int) := by omega
        clear hl k2
        go_wp2_with fail
        refine c1.mono ?_
        rintro e w3 ⟨rfl, V', h3⟩
        have H3 := Lib.hid h3
        clear c1 h3 k0 k1 l1
        go_wp2_with fail
        go_roundg (n - i1)
        case measure => have := HI.out; omega
        case rel => exact ⟨i1, V', rfl, rfl, by have := HI.out; omega, by rw [HI.out.1]; exact H3.out⟩
      · have c1 := TickAt.due_ HC.out (by rw [← HM.out]; exact HR.out.2.drew) (by rw [← HM.out]; exact HTM.out) hl
        rw [← HM.out] at c1
        obtain ⟨j, j1, j2, j3⟩ := c1
        have HJ := Lib.hid (And.intro j1 (And.intro j2 j3))
        have l1 : ¬ ((now' : Int) < (t.tk : Int)) := by omega
        have l2 : ¬ (now' < t.tk) := hl
        have k3 := HR.out.2.whl.cell.2
        have k4 := HR.out.2.drew.map
        obtain ⟨wD, hwD⟩ : ∃ wD, wD = wr.drew := ⟨_, rfl⟩
        have y1 : wD.cell? ⟨t.blk, 0, none⟩ = some (.int .i64 t.id) := by rw [hwD]; exact k2
        have y2 : wD.cell? ⟨wb, 1, none⟩ = some (.map (some mb)) := by rw [hwD]; exact k3
        rw [← hwD] at k4 HJ
        obtain ⟨A7, c7, e7⟩ := HR.out.2.due.form
        have HK := Lib.hid k4
        obtain ⟨n7, hn7⟩ : ∃ n7, n7 = (dueL now' (M.take i)).length := ⟨_, rfl⟩
        rw [← hn7] at e7
        subst e7
        clear j1 j2 j3 hl k2 k3 k4 hn7
        go_upto_region 12 with fail
        refine wp_region_still_tail 8 (by kernel_rfl) (by kernel_rfl) ?_
        simp only [List.take_succ_cons, List.take_zero, List.drop_succ_cons, List.drop_zero]
        change wpStill _ _ wr.drew (fun a' => wpList _ _ _ _ a' wr.drew) _ _
        rw [← hwD]
        have HDW := Lib.hid hwD
        clear hwD
        repeat still_step
        refine wpStill_nil ?_
        clear k0 k1 l1 l2 y1 y2
        go_wp2_with (first | (at_builtin; refine run_tapp w3 w2.heap.size (.slice A7 n7 c7) (dueL now' (M.take i)) t H3.out.1 H3.out.2.1 H3.out.2.2.1 rfl (.tmp 48) (.tmp 50) rfl rfl rfl ?_; intro v5 w5 hr5 o5; have H5 := Lib.hid (H3.out.2.2.2 v5 w5 hr5 o5); clear hr5 o5) | (refine run_idel wD HK.out HJ.out.2.1 HJ.out.1 rfl (.tmp 43) (.tmp 47) rfl rfl rfl ?_; intro w3 hm3 hg3; have H3 := Lib.hid (HJ.out.2.2 w3 hm3 hg3); clear hm3 hg3))
        go_roundg (n - i1)
        case measure => have := HI.out; omega
        case rel => exact ⟨i1, V, rfl, rfl, by have := HI.out; omega, by rw [HI.out.1]; exact H5.out⟩
    · obtain rfl : i = n := by have := HR.out.1; omega
      have h1 := HR.out.2.due
      have e1 : M.take i = M := by rw [HN.out, List.take_length]
      rw [e1] at h1
      obtain ⟨D, hD⟩ : ∃ D, D = dueL now' M := ⟨_, rfl⟩
      rw [← hD] at h1
      have hdl : D.length ≤ 1000000 := by
        have h2 : D.length ≤ M.length := by rw [hD]; exact List.length_filter_le _ _
        have := HC.out.len
        have h3 := metL_len now now' L
        rw [← HM.out] at h3
        omega
      have htm : TmIn wr D := fun t ht => HR.out.2.tms t (by rw [hD] at ht; exact (List.mem_filter.1 ht).1)
      obtain ⟨A7, c7, e7⟩ := h1.form
      have c1 := ssf_any wr w2.heap.size _ D h1 htm hdl
      have HD : Hid (D = dueL now' M ∧ D.length ≤ 1000000 ∧ TmIn wr D) := ⟨hD, hdl, htm⟩
      obtain ⟨n7, hn7⟩ : ∃ n7, n7 = D.length := ⟨_, rfl⟩
      rw [← hn7] at e7
      subst e7
      rename World => wo
      clear h1 e1 hD hdl htm hn7
      go_wp2_with fail
      refine c1.mono ?_
      rintro e w4 ⟨rfl, D', h2, h3, h4, o4⟩
      have htm4 : TmIn w4 D' := fun t ht => by
        obtain ⟨x, y, hb⟩ := HD.out.2.2 t (h4.mem ht)
        exact ⟨x, y, o4.cells hb (fun e => absurd (show 70 = 60 from e) (by decide))⟩
      have hsz : w.heap.size ≤ w4.heap.size := Nat.le_trans HS.out (Nat.le_trans HR.out.2.siz o4.size)
      have c2 := ids_any w4 w2.heap.size w.heap.size _ D' h2 hsz htm4 (by rw [h4.len]; exact HD.out.2.1)
      have H4 : Hid (Srt tkI D' ∧ Stb tkI D' D ∧ Only w2.heap.size Zr wo w4) := ⟨h3, h4, o4⟩
      clear c1 h2 h3 h4 o4 htm4 hsz
      go_wp2_with fail
      refine c2.mono ?_
      rintro e w5 ⟨v', rfl, h6, o6⟩
      have H6 := Lib.hid (And.intro h6 o6)
      clear c2 h6 o6
      go_wp2_with fail
      go_ret2
      have hR := HR.out.2
      rw [HN.out, HM.out] at hR
      obtain ⟨f1, f2⟩ := TickAt.done HC.out hR H4.out.2.2 H6.out.2 HS.out
      refine ⟨D', v', V, rfl, H6.out.1, H4.out.1, H4.out.2.1.trans ?_, f1, f2⟩
      rw [HD.out.1, HM.out]
      exact due_stb HC.out.le HC.out.mx HC.out.st.tks
end Go.Proofs.YtnoglbceaibjeaaDoor
