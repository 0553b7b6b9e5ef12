/- Contract: add of the program's pool. -/
import Derived.Test.YtkambcjinidomaaBpFn
namespace Go.Proofs.Ytkambcjinidomaa
set_option linter.unusedVariables false
set_option linter.unusedSimpArgs false
open Go.ChangeShapes Go.WideShapes Go.ChangeAt Go.RowKit

theorem infoBi : (Try.prog.info? 3).map (fun i => (i.zero, i.size, i.bytes)) = some (some (.int .i64 0), 1, 8) := by kernel_rfl
theorem run_offapp (w : World) (base : Nat) (v : Value) (n : Nat) (xs : List Value) (x : Int) (h : OffR w base 3 1 v n xs) (hb : base ≤ w.heap.size) (hl : n ≤ 1000000) {ops : Array Oper} {rest : List Oper} {o : Oper} {a : Act} {Q : Exit → Act → World → Prop} (hgd : o.guard = none) (s u : Operand)
    (ho : o.op = .call { callee := .builtin .append, args := #[s, u], argTypes := #[50, 50] }) (hs : a.eval s = v) (hx : a.eval u = .slice (some ⟨w.heap.size, 0, none⟩) 1 1)
    (hK : ∀ v5 w5, OffR w5 base 3 1 v5 (n + 1) (xs ++ [.int .i64 x]) → (∀ b, b < w.heap.size → v.ownBlock ≠ some b → w5.heap[b]? = w.heap[b]?) → Only base (fun _ T => T = 3) w w5 → (v5.ownBlock = v.ownBlock ∨ ∃ b, v5.ownBlock = some b ∧ w.heap.size ≤ b) → wpList Try.prog ops Q rest (a.put o.dst v5) w5) : wpList Try.prog ops Q (o :: rest) a (w.alloc (.cells #[.int .i64 x] 3)) := by
  have g1 : Grow w (w.alloc (.cells #[.int .i64 x] 3)) := Grow.alloc _ _
  have hlit : RdK (w.alloc (.cells #[.int .i64 x] 3)) 1 (.slice (some ⟨w.heap.size, 0, none⟩) 1 1) 1 [.int .i64 x] := RdK.of_own (World.ownsRow_lit (base := w.heap.size) (e := 3) (size := 1) w #[.int .i64 x] 1 (Nat.le_refl _) (by decide) rfl)
  refine wpList_appOff _ hgd s u 50 ho 3 _ 1 8 Try.underlying50 infoBi rfl (by decide) base v _ n 1 _ _ hs hx (h.grow g1) hlit (fun y hy => by simp at hy; subst hy; rfl) (by decide) (by omega) (by unfold maxLen; omega) (Nat.le_trans hb g1.size) ?_
  intro v5 w5 ho5 hg5 hat
  refine hK v5 w5 ho5 (fun b hlt hb => (hg5.block b (Nat.lt_of_lt_of_le hlt g1.size) fun e => hb e.symm).trans (g1.block b hlt)) ((Only.grow g1 hb _).trans (Only.grown hg5 (fun b e => ?_) (Nat.le_trans hb g1.size))) ?_
  · obtain ⟨cs, h1, h2⟩ := (h.grow g1).blk e
    exact ⟨h2, fun o T ho' hT => by rw [h1] at ho'; cases ho'; cases hT; rfl⟩
  · rcases hat with e | e
    · exact .inl e
    · exact .inr ⟨_, e, g1.size⟩
theorem zpp_int {a b : World} {base : Nat} (h : Only base (fun _ T => T = 3) a b) : Only base Zp a b := h.mono fun i o T _ _ e => by subst e; unfold Zp; decide
theorem zpp_map {a b : World} {base mb : Nat} (h : a.grownBy b (some mb)) (hm : base ≤ mb) (hb : base ≤ a.heap.size) {es : Array MapEntry} {ck : Nat} (he : a.heap[mb]? = some (.map es ck)) : Only base Zp a b :=
  Only.grown h (fun g e => by cases e; exact ⟨hm, fun o T ho hT => by rw [he] at ho; cases ho; cases hT; unfold Zp; decide⟩) hb
theorem zpp_pool : Zp 0 64 := by unfold Zp; decide
set_option maxRecDepth 10000 in
set_option maxHeartbeats 2000000 in
theorem add_any (w : World) (base pb : Nat) (gs : Array Value) (m : Nat → Nat) (v : Nat → Value) (p : Pls) (h : PpS w base pb gs m v p) (hb : base ≤ w.heap.size) (k : Nat) (hk : k < 16) (i s : Int) (x : Gp) (hfr : x.fr = (p k).fr ++ [⟨i, s⟩]) (hl : (p k).fr.length ≤ 1000000)
    (hput : ∃ w', (Instr.mapUpdate 59 (.map (some (m k))) (.int .i64 i) (.agg #[.int .i64 s, .int .i64 1])).run Try.prog w = .ok () w' ∧ BM w' (m k) (ents x) ∧ w.grownBy w' (some (m k))) :
    Calls Try.prog 24 #[.pointer (some ⟨pb, k * 2, none⟩), .int .i64 i, .int .i64 s] w fun e w' => e = .returned (.tuple #[]) ∧ ∃ gs' v', PpS w' base pb gs' m v' (upd p k x) ∧ Only base Zp w w' := by
  obtain ⟨w2, p1, p2, p3⟩ := hput
  have c0 := h.cellm hk
  have kb : ∀ b, b ≠ m k → b < w.heap.size → w2.heap[b]? = w.heap[b]? := fun b hb hl => p3.block b hl fun e => hb (Option.some.inj e)
  have hb2 : w2.heap[pb]? = some (.cells gs 64 (0, 0)) := (kb pb (Ne.symm (h.m_ne hk)) h.lt).trans h.blk
  have c1 : w2.cell? ⟨pb, k * 2 + 1, none⟩ = some (v k) := (cell_of_row w2 pb (k * 2 + 1) gs _ _ hb2).trans (h.vc k hk)
  have hr2 : OffR w2 base 3 1 (v k) (p k).fr.length ((p k).fr.map iv) := (h.row k hk).other fun b cs q hh => kb b (h.mv_ne hk hk q) (Array.getElem?_eq_some_iff.1 hh).1
  obtain ⟨es, ck, hm0⟩ := (h.map k hk).2.blk
  have o2 : Only base Zp w w2 := zpp_map p3 (h.map k hk).1 hb hm0
  have hb2' : base ≤ w2.heap.size := Nat.le_trans hb p3.size
  have HK : Hid (∀ v5 w5, OffR w5 base 3 1 v5 ((p k).fr.length + 1) ((p k).fr.map iv ++ [.int .i64 i]) → (∀ b, b < w2.heap.size → (v k).ownBlock ≠ some b → w5.heap[b]? = w2.heap[b]?) → Only base (fun _ T => T = 3) w2 w5 → (v5.ownBlock = (v k).ownBlock ∨ ∃ b, v5.ownBlock = some b ∧ w2.heap.size ≤ b) →
      w5.cell? ⟨pb, k * 2 + 1, none⟩ = some (v k) ∧ w5.frozen? ⟨pb, k * 2 + 1, none⟩ = false ∧ ∃ gs' v', PpS (w5.setCell ⟨pb, k * 2 + 1, none⟩ v5) base pb gs' m v' (upd p k x) ∧ Only base Zp w (w5.setCell ⟨pb, k * 2 + 1, none⟩ v5)) := by
    intro v5 w5 r5 k5 o5 n5
    have hvp : (v k).ownBlock ≠ some pb := fun q => h.v_ne hk q rfl
    have hvm : (v k).ownBlock ≠ some (m k) := fun q => h.mv_ne hk hk q rfl
    have hb5 : w5.heap[pb]? = some (.cells gs 64 (0, 0)) := (k5 pb (Array.getElem?_eq_some_iff.1 hb2).1 hvp).trans hb2
    have hb6 := heap_setCell_own (k := k * 2 + 1) hb5 v5
    have k6 : ∀ b, b ≠ pb → (w5.setCell ⟨pb, k * 2 + 1, none⟩ v5).heap[b]? = w5.heap[b]? := fun b hb => Below.heap_setCell _ _ _ _ hb
    refine ⟨(cell_of_row w5 pb (k * 2 + 1) gs _ _ hb5).trans (h.vc k hk), frozen_of hb5, _, _, h.step (x := x) hk hb6 ((p2.keep (k5 _ p2.lt hvm)).keep (k6 _ (h.m_ne hk))) ?_ ?_ ?_, (o2.trans (zpp_int o5)).trans (Only.set hb5 h.bas zpp_pool _)⟩
    · have e1 : x.fr.length = (p k).fr.length + 1 := by rw [hfr, List.length_append]; rfl
      have e2 : x.fr.map iv = (p k).fr.map iv ++ [.int .i64 i] := by rw [hfr, List.map_append]; rfl
      rw [e1, e2]
      exact r5.other fun b cs q hh => k6 b fun e => by
        rw [e, hb5] at hh
        injection hh with hh
        injection hh with _ hh
        exact absurd hh (by decide)
    · rcases n5 with e | ⟨b, e, q⟩
      · exact .inl e
      · exact .inr ⟨b, e, Nat.le_trans p3.size q⟩
    · intro b hlt q1 q2 q3
      exact ((k6 b q1).trans (k5 b (Nat.lt_of_lt_of_le hlt p3.size) q3)).trans (kb b q2 hlt)
  obtain ⟨A, c, hv, _⟩ := hr2.form
  rw [hv] at c1 hr2 HK
  obtain ⟨n, hn⟩ : ∃ n, n = (p k).fr.length := ⟨_, rfl⟩
  rw [← hn] at c1 hr2 HK hl
  have HR : Hid (OffR w2 base 3 1 (.slice A n c) n ((p k).fr.map iv) ∧ n ≤ 1000000 ∧ base ≤ w2.heap.size) := ⟨hr2, hl, hb2'⟩
  clear h hb hfr hl p2 p3 kb hb2 hr2 hm0 o2 hb2' hv hn
  go_enter Try.func24, Try.ntmps24
  go_wp2_with (at_builtin; refine run_offapp w2 base (.slice A n c) n ((p k).fr.map iv) i HR.out.1 HR.out.2.2 HR.out.2.1 rfl (.tmp 17) (.tmp 19) rfl rfl rfl ?_; intro v5 w5 r5 k5 o5 n5; obtain ⟨t5, f5, H5⟩ := HK.out v5 w5 r5 k5 o5 n5; obtain ⟨A5, c5, hv5, _⟩ := r5.form; subst hv5; have H6 := Lib.hid H5; clear r5 k5 o5 n5 H5)
  refine bodyPost_end (results_none rfl _ _ _) rfl ?_
  exact ⟨rfl, H6.out⟩
end Go.Proofs.Ytkambcjinidomaa
