/- Rows of pairs of numbers; what PoolOnce keeps from round to round. -/
import Derived.Test.YtkambcjinidomaaBpIf
import Derived.ChangeKeysEq
namespace Go.Proofs.Ytkambcjinidomaa
set_option linter.unusedVariables false
set_option linter.unusedSimpArgs false
open Go.ChangeShapes Go.WideShapes Go.ChangeAt Go.RowKit

def pr (x : Int × Int) : List Value := [.int .i64 x.1, .int .i64 x.2]
theorem pr_len : ∀ l : List (Int × Int), (l.flatMap pr).length = l.length * 2
  | [] => rfl
  | x :: l => by
    rw [List.flatMap_cons, List.length_append, pr_len l, List.length_cons]
    simp [pr]
    omega
theorem pr_at : ∀ (l : List (Int × Int)) (k : Nat) (x : Int × Int), l[k]? = some x → (l.flatMap pr)[k * 2]? = some (.int .i64 x.1) ∧ (l.flatMap pr)[k * 2 + 1]? = some (.int .i64 x.2)
  | [], k, x, h => by simp at h
  | y :: l, 0, x, h => by
    simp at h
    subst h
    simp [pr, List.flatMap_cons]
  | y :: l, k + 1, x, h => by
    obtain ⟨h1, h2⟩ := pr_at l k x (by simpa using h)
    rw [List.flatMap_cons, show (k + 1) * 2 = k * 2 + 2 by omega, show k * 2 + 2 + 1 = k * 2 + 1 + 2 by omega]
    have e : (pr y).length = 2 := rfl
    rw [List.getElem?_append_right (by omega), List.getElem?_append_right (by omega), e, Nat.add_sub_cancel, Nat.add_sub_cancel]
    exact ⟨h1, h2⟩
theorem pr_one (l : List (Int × Int)) : ∀ y ∈ l.flatMap pr, y.oneCell' = true := by
  intro y hy
  obtain ⟨t, _, h⟩ := List.mem_flatMap.1 hy
  simp [pr] at h
  rcases h with rfl | rfl <;> rfl
theorem infoPr : (Try.prog.info? 57).map (fun i => (i.zero, i.size, i.bytes)) = some (some (.agg #[.int .i64 0, .int .i64 0]), 2, 16) := by kernel_rfl
/-- A row of pairs of the call's own. -/
def Prs (w : World) (base : Nat) (v : Value) (l : List (Int × Int)) : Prop := w.ownsRow base 57 2 v l.length (l.flatMap pr)
section
variable {w w' : World} {base base' : Nat} {v : Value} {l : List (Int × Int)}
theorem Prs.form (h : Prs w base v l) : ∃ A c, v = .slice A l.length c := by
  obtain ⟨A, c, e, _⟩ := (RdK.of_own h).form
  exact ⟨A, c, e⟩
theorem Prs.grow (h : Prs w base v l) (g : Grow w w') : Prs w' base v l := ownsRow_other h fun b cs _ hh => g.block b (Array.getElem?_eq_some_iff.1 hh).1
theorem Prs.only {b0 : Nat} {Z : Nat → TypeId → Prop} (h : Prs w base v l) (o : Only b0 Z w w') (hz : ∀ b, ¬ Z b 57) : Prs w' base v l := o.row h fun g _ => hz g
theorem prs_none (w : World) (base : Nat) : Prs w base (.slice none 0 0) [] := ⟨rfl, .inl ⟨rfl, rfl⟩⟩
theorem Prs.cell (h : Prs w base v l) (hp : 0 < l.length) : ∃ b off c, v = .slice (some ⟨b, off, none⟩) l.length c ∧ b < w.heap.size ∧
    ∀ k x, l[k]? = some x → w.cell? ⟨b, off + k * 2, none⟩ = some (.int .i64 x.1) ∧ w.cell? ⟨b, off + k * 2 + 1, none⟩ = some (.int .i64 x.2) := by
  obtain ⟨A, c, rfl, h0, h1, h2, h3⟩ := RdK.of_own h
  obtain ⟨b, off, rfl, hb, hc⟩ := h3 hp
  refine ⟨b, off, c, rfl, hb, fun k x hx => ?_⟩
  obtain ⟨q1, q2⟩ := pr_at l k x hx
  have := hc _ _ q2
  rw [← Nat.add_assoc] at this
  exact ⟨hc _ _ q1, this⟩
end
/-- append(v, x), x just laid. -/
theorem run_prapp (w : World) (base : Nat) (v : Value) (l : List (Int × Int)) (t : Int × Int) (h : Prs w base v l) (hb : base ≤ w.heap.size) (hl : l.length ≤ 1000000) {ops : Array Oper} {rest : List Oper} {o : Oper} {a : Act} {Q : Exit → Act → World → Prop} (hgd : o.guard = none) (s x : Operand)
    (ho : o.op = .call { callee := .builtin .append, args := #[s, x], argTypes := #[56, 56] }) (hs : a.eval s = v) (hx : a.eval x = .slice (some ⟨w.heap.size, 0, none⟩) 1 1)
    (hK : ∀ v5 w5, Prs w5 base v5 (l ++ [t]) → w.heap.size ≤ w5.heap.size → (∀ b o, w.heap[b]? = some o → v.ownBlock ≠ some b → w5.heap[b]? = some o) → Below base w w5 → wpList Try.prog ops Q rest (a.put o.dst v5) w5) : wpList Try.prog ops Q (o :: rest) a (w.alloc (.cells #[.int .i64 t.1, .int .i64 t.2] 57)) := by
  have g1 : Grow w (w.alloc (.cells #[.int .i64 t.1, .int .i64 t.2] 57)) := Grow.alloc _ _
  have hlit : RdK (w.alloc (.cells #[.int .i64 t.1, .int .i64 t.2] 57)) 2 (.slice (some ⟨w.heap.size, 0, none⟩) 1 1) 1 ([t].flatMap pr) := RdK.of_own (World.ownsRow_lit (base := w.heap.size) (e := 57) (size := 2) w #[.int .i64 t.1, .int .i64 t.2] 1 (Nat.le_refl _) (by decide) rfl)
  refine wpList_appK _ hgd s x 56 ho 57 _ 2 16 Try.underlying56 infoPr rfl (by decide) base v _ l.length 1 _ _ hs hx (h.grow g1) hlit (pr_one [t]) (by omega) (by unfold maxLen; omega) (Nat.le_trans hb g1.size) ?_
  intro v5 w5 ho5 hg5 _
  refine hK v5 w5 (by unfold Prs; rw [List.length_append, List.flatMap_append]; exact ho5) (Nat.le_trans g1.size hg5.size) (fun b o hb hne => ?_) ?_
  · have hlt := (Array.getElem?_eq_some_iff.1 hb).1
    exact (hg5.block b (Nat.lt_of_lt_of_le hlt g1.size) fun e => hne e.symm).trans ((g1.block b hlt).trans hb)
  · refine Below.trans (Below.mono g1 hb) ⟨hg5.os, hg5.tape, hg5.output, hg5.size, fun i hi => hg5.block i (Nat.lt_of_lt_of_le hi (Nat.le_trans hb g1.size)) fun e => ?_⟩
    have := (World.ownsRow.lt (h.grow g1) i e.symm).1
    omega
theorem eqP (a b c d : Int) (w : World) : (Op.equalIn 10000 57 (.agg #[.int .i64 a, .int .i64 b]) (.agg #[.int .i64 c, .int .i64 d])).run Try.prog w = .ok (decide (a = c ∧ b = d)) w := by
  have hp : Try.prog.plainKey 3 = true := by kernel_rfl
  have p0 : ∀ a b : Int, (part 3 #[.int .i64 a, .int .i64 b] (0 * 1)).run Try.prog w = .ok (.int .i64 a) w := fun a b => run_part_plain w hp rfl
  have p1 : ∀ a b : Int, (part 3 #[.int .i64 a, .int .i64 b] (1 * 1)).run Try.prog w = .ok (.int .i64 b) w := fun a b => run_part_plain w hp rfl
  have q : ∀ d (x y : Int), (Op.equalIn (d + 1) 3 (.int .i64 x) (.int .i64 y)).run Try.prog w = .ok (decide (x = y)) w := fun d x y => by
    simp [Op.equalIn, run_underlying Try.underlying3]
    try rfl
  have key : ∀ n, (Op.equalIn (n + 1 + 1) 57 (.agg #[.int .i64 a, .int .i64 b]) (.agg #[.int .i64 c, .int .i64 d])).run Try.prog w = .ok (decide (a = c ∧ b = d)) w := fun n => by
    cases hi : Try.prog.info? 3 with
    | none =>
      have h : (Try.prog.info? 3).isSome = true := by kernel_rfl
      rw [hi] at h
      cases h
    | some i =>
      rw [run_equalIn_array w (n + 1) _ _ Try.underlying57 hi, show Try.prog.cellsOf 3 = 1 from by kernel_rfl, show List.range 2 = [0, 1] from rfl]
      by_cases e1 : a = c
      · by_cases e2 : b = d
        · simp only [Op.eqItems, Sem.run_bind, p0, p1, q, Result.andThen_ok, Sem.run_pure, e1, e2, decide_true, Bool.not_true, Bool.false_eq_true, if_false, and_self]
        · simp only [Op.eqItems, Sem.run_bind, p0, p1, q, Result.andThen_ok, Sem.run_pure, e1, e2, decide_true, decide_false, Bool.not_true, Bool.not_false, Bool.false_eq_true, if_false, if_true, and_false]
      · simp only [Op.eqItems, Sem.run_bind, p0, p1, q, Result.andThen_ok, Sem.run_pure, e1, decide_false, Bool.not_false, if_true, false_and]
  exact key 9998
theorem hasb_app (l : List Bf) (b : Bf) (x : Int) : Hasb (l ++ [b]) x ↔ Hasb l x ∨ b.id = x := by
  unfold Hasb
  constructor
  · rintro ⟨c, hc, e⟩
    rcases List.mem_append.1 hc with h | h
    · exact .inl ⟨c, h, e⟩
    · rw [List.mem_singleton.1 h] at e
      exact .inr e
  · rintro (⟨c, hc, e⟩ | e)
    · exact ⟨c, List.mem_append.2 (.inl hc), e⟩
    · exact ⟨b, List.mem_append.2 (.inr List.mem_cons_self), e⟩
theorem hasb_erase {l : List Bf} (hn : (l.map Bf.id).Nodup) {k : Nat} (hk : k < l.length) (y : Int) : Hasb (l.eraseIdx k) y ↔ Hasb l y ∧ y ≠ (bp l k).id := by
  have hp := erase_perm l k hk
  have hn2 : ((bp l k :: l.eraseIdx k).map Bf.id).Nodup := (hp.map _).nodup_iff.2 hn
  rw [List.map_cons, List.nodup_cons] at hn2
  constructor
  · rintro ⟨b, hb, e⟩
    refine ⟨⟨b, hp.mem_iff.1 (List.mem_cons_of_mem _ hb), e⟩, fun q => hn2.1 ?_⟩
    rw [← q, ← e]
    exact List.mem_map_of_mem hb
  · rintro ⟨⟨b, hb, e⟩, hne⟩
    rcases List.mem_cons.1 (hp.mem_iff.2 hb) with q | q
    · subst q
      exact absurd e.symm hne
    · exact ⟨b, q, e⟩
theorem filt_len : ∀ {O : List (Int × Int)} {y : Int × Int}, O.Nodup → y ∈ O → (O.filter fun z => decide (z ≠ y)).length + 1 = O.length
  | [], y, _, h => by cases h
  | z :: O, y, hn, h => by
    obtain ⟨h1, h2⟩ := List.nodup_cons.1 hn
    by_cases e : z = y
    · subst e
      rw [List.filter_cons_of_neg (by simp), List.length_cons]
      congr 2
      exact List.filter_eq_self.2 fun u hu => decide_eq_true fun q => h1 (by rw [← q]; exact hu)
    · rcases List.mem_cons.1 h with q | q
      · exact absurd q.symm e
      · rw [List.filter_cons_of_pos (by simpa using e), List.length_cons, List.length_cons, filt_len h2 q]
theorem pvP_out (p : Pls) (g a n s : Int) (i : Nat) : (pvP p g a n s i).out = (p i).out := by
  unfold pvP
  by_cases h : pvE p g a n s = 0
  · rw [if_pos h]
    by_cases e : i = g.toNat
    · subst e; rw [upd_same]
    · rw [upd_other e]
  · rw [if_neg h]
theorem rmP_out (p : Pls) (g n : Int) (i : Nat) : (rmP p g n i).out = (p i).out := by
  unfold rmP
  by_cases h : rmE g n = 0
  · rw [if_pos h]
    by_cases e : i = g.toNat
    · subst e; rw [upd_same]
    · rw [upd_other e]
  · rw [if_neg h]
theorem tkE_cases (p : Pls) (g : Int) : (tkE p g ≠ 0 ∧ tkP p g = p) ∨ (tkE p g = 0 ∧ ¬ Bad g ∧ ¬ (p g.toNat).fr.length = 0) := by
  by_cases h0 : Bad g
  · have := tkE_bad (p := p) h0
    exact .inl ⟨by rw [this.1]; decide, this.2.2.2⟩
  · by_cases h1 : (p g.toNat).fr.length = 0
    · have := tkE_none h0 h1
      exact .inl ⟨by rw [this.1]; decide, this.2.2.2⟩
    · exact .inr ⟨(tkE_ok h0 h1).1, h0, h1⟩
theorem gvE_cases (p : Pls) (g x : Int) : (gvE p g x ≠ 0 ∧ gvP p g x = p) ∨ (gvE p g x = 0 ∧ ¬ Bad g ∧ Hasb (p g.toNat).out x) := by
  by_cases h0 : Bad g
  · have := gvE_bad (p := p) (x := x) h0
    exact .inl ⟨by rw [this.1]; decide, this.2⟩
  · by_cases h1 : Hasb (p g.toNat).out x
    · exact .inr ⟨(gvE_ok h0 h1).1, h0, h1⟩
    · have := gvE_none h0 h1
      exact .inl ⟨by rw [this.1]; decide, this.2⟩
/-- What is out, by the law's own list. -/
structure Ous (p : Pls) (O : List (Int × Int)) : Prop where
  nd : O.Nodup
  mem : ∀ g x, (g, x) ∈ O ↔ ¬ Bad g ∧ Hasb (p g.toNat).out x
theorem Ous.same {p p' : Pls} {O : List (Int × Int)} (h : Ous p O) (e : ∀ i, (p' i).out = (p i).out) : Ous p' O := ⟨h.nd, fun g x => by rw [h.mem g x, e]⟩
theorem ous_none : Ous noneP [] := by
  refine ⟨List.nodup_nil, fun g x => Iff.intro (fun h => by cases h) ?_⟩
  rintro ⟨_, b, hb, _⟩
  cases hb
theorem Ous.take {p : Pls} {O : List (Int × Int)} (h : Ous p O) (hp : POk p) {g : Int} (h0 : ¬ Bad g) (h1 : ¬ (p g.toNat).fr.length = 0) : (g, tkI p g) ∉ O ∧ Ous (tkP p g) (O ++ [(g, tkI p g)]) := by
  obtain ⟨e1, e2, _, e4⟩ := tkE_ok h0 h1
  obtain ⟨k, hgk, hk, hk2⟩ := bad_nat h0
  have nd := (hp k hk).nd
  rw [hk2] at h1 e2 e4
  have hno : ¬ Hasb (p k).out (bp (p k).fr 0).id := by
    rintro ⟨b, hb, e⟩
    rw [List.map_append] at nd
    exact (List.nodup_append.1 nd).2.2 _ (List.mem_map_of_mem (bp_mem (Nat.pos_of_ne_zero h1))) _ (List.mem_map_of_mem hb) e.symm
  have hnm : (g, tkI p g) ∉ O := fun q => hno (by
    have := ((h.mem _ _).1 q).2
    rwa [hk2, e2] at this)
  refine ⟨hnm, ⟨List.nodup_append.2 ⟨h.nd, by simp, fun a ha b hb e => hnm (by rw [List.mem_singleton.1 hb] at e; rw [← e]; exact ha)⟩, fun g' x => ?_⟩⟩
  rw [List.mem_append, List.mem_singleton, h.mem, e4, Prod.mk.injEq, e2]
  by_cases eg : g' = g
  · subst eg
    rw [hk2, upd_same]
    show _ ↔ _ ∧ Hasb ((p k).out ++ [bp (p k).fr 0]) x
    rw [hasb_app]
    constructor
    · rintro (⟨a, b⟩ | ⟨_, b⟩)
      · exact ⟨a, .inl b⟩
      · exact ⟨h0, .inr b.symm⟩
    · rintro ⟨a, b | b⟩
      · exact .inl ⟨a, b⟩
      · exact .inr ⟨rfl, b.symm⟩
  · constructor
    · rintro (⟨a, b⟩ | ⟨a, _⟩)
      · refine ⟨a, ?_⟩
        rw [upd_other fun e => eg (by obtain ⟨k', q1, _, q2⟩ := bad_nat a; omega)]
        exact b
      · exact absurd a eg
    · rintro ⟨a, b⟩
      rw [upd_other fun e => eg (by obtain ⟨k', q1, _, q2⟩ := bad_nat a; omega)] at b
      exact .inl ⟨a, b⟩
theorem Ous.give {p : Pls} {O : List (Int × Int)} (h : Ous p O) (hp : POk p) {g x : Int} (h0 : ¬ Bad g) (h1 : Hasb (p g.toNat).out x) : (g, x) ∈ O ∧ Ous (gvP p g x) (O.filter fun z => decide (z ≠ (g, x))) := by
  refine ⟨(h.mem g x).2 ⟨h0, h1⟩, ⟨h.nd.filter _, fun g' x' => ?_⟩⟩
  rw [(gvE_ok h0 h1).2]
  obtain ⟨k, hgk, hk, hk2⟩ := bad_nat h0
  have nd := (hp k hk).nd
  rw [List.map_append] at nd
  have nd2 := (List.nodup_append.1 nd).2.1
  rw [hk2] at h1 ⊢
  have hil := ix_lt h1
  rw [List.mem_filter, h.mem]
  simp only [decide_eq_true_eq, ne_eq, Prod.mk.injEq]
  by_cases eg : g' = g
  · subst eg
    rw [hk2, upd_same]
    show _ ↔ _ ∧ Hasb ((p k).out.eraseIdx _) x'
    rw [hasb_erase nd2 hil, ix_id h1]
    constructor
    · rintro ⟨⟨a, b⟩, c⟩
      exact ⟨a, b, fun e => c ⟨rfl, e⟩⟩
    · rintro ⟨a, b, c⟩
      exact ⟨⟨a, b⟩, fun e => c e.2⟩
  · constructor
    · rintro ⟨⟨a, b⟩, c⟩
      refine ⟨a, ?_⟩
      rw [upd_other fun e => eg (by obtain ⟨k', q1, _, q2⟩ := bad_nat a; omega)]
      exact b
    · rintro ⟨a, b⟩
      rw [upd_other fun e => eg (by obtain ⟨k', q1, _, q2⟩ := bad_nat a; omega)] at b
      exact ⟨⟨a, b⟩, fun e => eg e.1⟩
end Go.Proofs.Ytkambcjinidomaa
