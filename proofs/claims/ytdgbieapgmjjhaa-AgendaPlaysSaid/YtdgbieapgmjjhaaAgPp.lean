/- Contract: Pop of a queue. -/
import Derived.Test.YtdgbieapgmjjhaaAgUp
namespace Go.Proofs.Ytdgbieapgmjjhaa
set_option linter.unusedVariables false
set_option linter.unusedSimpArgs false
open Go.ChangeShapes Go.WideShapes Go.ChangeAt Go.RowKit

theorem run_pdel {mb : Nat} {i n : Int} {f : Int → Option Int} (w : World) (h : PlF w mb f) (hf : f n = some i) {ops : Array Oper} {rest : List Oper} {o : Oper} {a : Act} {Q : Exit → Act → World → Prop} (hgd : o.guard = none) (m x : Operand)
    (ho : o.op = Op.call { callee := Callee.builtin Builtin.delete, args := #[m, x], argTypes := #[56, 3] }) (hm : a.eval m = .map (some mb)) (hx : a.eval x = .int .i64 n)
    (hK : ∀ w', PlF w' mb (fun y => if y = n then none else f y) → w.grownBy w' (some mb) → wpList Try.prog ops Q rest (a.put o.dst (.tuple #[])) w') : wpList Try.prog ops Q (o :: rest) a w := by
  obtain ⟨w', hrun, h2, h3⟩ := h.del hf o.type
  refine wpList_plain hgd fun K hK' => ?_
  unfold Oper.wp
  simp [execOp, ho, resolve, invoke, builtin, hm, hx, hrun, Result.andThen]
  exact hK' _ _ (hK w' h2 h3)
theorem flat_take : ∀ (l : List En) (n : Nat), (l.take n).flatMap en = (l.flatMap en).take (n * 4)
  | [], n => by simp
  | a :: l, 0 => by simp
  | a :: l, n + 1 => by
    rw [List.take_succ_cons, List.flatMap_cons, List.flatMap_cons, flat_take l n, show (n + 1) * 4 = n * 4 + 4 from by omega]
    rfl
theorem PlE.pop {f : Int → Option Int} {E : List En} (h : PlE f E) (hn : (E.map En.id).Nodup) {n : Nat} (hl : E.length = n + 1) : PlE (fun y => if y = (pt E n).id then none else f y) (E.take n) := by
  intro x k
  show (if x = (pt E n).id then none else f x) = some k ↔ _
  have hlen : (E.take n).length = n := by rw [List.length_take]; omega
  have hpt : ∀ m, m < n → pt (E.take n) m = pt E m := fun m hm => by
    unfold pt
    rw [List.getD_eq_getElem?_getD, List.getD_eq_getElem?_getD, List.getElem?_take_of_lt hm]
  rw [hlen]
  by_cases q : x = (pt E n).id
  · rw [if_pos q]
    constructor
    · intro e; cases e
    · rintro ⟨m, hm, h1, _⟩
      rw [hpt m hm, q] at h1
      have := ids_pt hn (by omega) (by omega) h1
      omega
  · rw [if_neg q, h x k]
    constructor
    · rintro ⟨m, hm, h1, h2⟩
      have : m ≠ n := fun e => q (by rw [← h1, e])
      exact ⟨m, by omega, by rw [hpt m (by omega)]; exact h1, h2⟩
    · rintro ⟨m, hm, h1, h2⟩
      exact ⟨m, by omega, by rw [← hpt m hm]; exact h1, h2⟩
set_option maxHeartbeats 4000000 in
set_option maxRecDepth 100000 in
theorem qpop_any (w : World) (base ab mb : Nat) (v : Value) (E : List En) (mo pu : Int) (h : Qu w base ab mb v E mo pu) (n : Nat) (hl : E.length = n + 1) (hn : n ≤ 100000) :
    Calls Try.prog 72 #[.pointer (some ⟨ab, 2, none⟩)] w fun e w' => e = .returned (.iface 66 (enV (pt E n))) ∧ ∃ v', Qu w' base ab mb v' (E.take n) mo pu ∧ Only base Zq w w' := by
  obtain ⟨g, c, cur, hv, hbg, hg, hlc, hcs, htk, hc⟩ := h.ents (by omega)
  have hcm : c ≤ maxLen := by
    obtain ⟨A9, c9, e9, _, h9⟩ := h.form
    rw [hv] at e9
    cases e9
    exact h9
  subst hv
  obtain ⟨x0, x1, x2, x3⟩ := hc n (by omega)
  obtain ⟨a2, a3, _, _⟩ := h.cell
  obtain ⟨f, hf, hfE⟩ := h.map
  have hfn : f (pt E n).id = some (n : Int) := (hfE _ _).2 ⟨n, by omega, rfl, rfl⟩
  have hlt := h.lt
  have habm : ab ≠ mb := fun e => by
    obtain ⟨L, ⟨es, ck, hm, _⟩, _⟩ := hf
    have := h.blk
    rw [e, hm] at this
    cases this
  have hgl := (Array.getElem?_eq_some_iff.1 hg).1
  obtain ⟨W1, hW1⟩ : ∃ W1, W1 = w.alloc (.cells #[.int .i64 (pt E n).id, .int .i64 (pt E n).at_, .int .i64 (pt E n).rk, .int .i64 (pt E n).no] 66) := ⟨_, rfl⟩
  have g1 : Grow w W1 := by rw [hW1]; exact Grow.alloc _ _
  have hnew : W1.heap[w.heap.size]? = some (.cells #[.int .i64 (pt E n).id, .int .i64 (pt E n).at_, .int .i64 (pt E n).rk, .int .i64 (pt E n).no] 66 (0, 0)) := by rw [hW1]; exact heap_alloc_new w _
  have hb1 := (g1.block ab hlt).trans h.blk
  have f2 : W1.frozen? ⟨ab, 2, none⟩ = false := frozen_of hb1
  have y2 : W1.cell? ⟨ab, 2, none⟩ = some (.slice (some ⟨g, 0, none⟩) (n + 1) c) := by rw [← hl]; exact (cell_of_row W1 ab 2 _ _ _ hb1).trans rfl
  obtain ⟨W2, hW2⟩ : ∃ W2, W2 = W1.setCell ⟨ab, 2, none⟩ (.slice (some ⟨g, 0, none⟩) n c) := ⟨_, rfl⟩
  have hb2 : W2.heap[ab]? = some (.cells #[.int .i64 mo, .int .i64 pu, .slice (some ⟨g, 0, none⟩) n c, .map (some mb)] 61 (0, 0)) := by rw [hW2]; exact heap_setCell_own hb1 _
  have k2 : ∀ b, b ≠ ab → W2.heap[b]? = W1.heap[b]? := fun b hb => by rw [hW2]; exact Below.heap_setCell _ _ _ _ hb
  have z3 : W2.cell? ⟨ab, 3, none⟩ = some (.map (some mb)) := (cell_of_row W2 ab 3 _ _ _ hb2).trans rfl
  have hnew2 := (k2 w.heap.size (by omega)).trans hnew
  have w0 : W2.cell? ⟨w.heap.size, 0, none⟩ = some (.int .i64 (pt E n).id) := (cell_of_row W2 _ 0 _ _ _ hnew2).trans rfl
  have hmlt := hf.lt
  have hf2 : PlF W2.drew mb f := hf.keep ((k2 mb habm.symm).trans (g1.block mb hmlt))
  have o2 : Only base Zq w W2 := (Only.grow g1 h.bas _).trans (by rw [hW2]; exact Only.set hb1 h.low.1 (.inl rfl) _)
  have hgab : g ≠ ab := fun e => by
    have := h.blk
    rw [← e, hg] at this
    injection this with this
    injection this with _ this
    exact absurd this (by decide)
  have hgmb : g ≠ mb := fun e => by
    obtain ⟨L, ⟨es, ck, hm, _⟩, _⟩ := hf
    rw [← e, hg] at hm
    cases hm
  have hg2 := (k2 g hgab).trans ((g1.block g hgl).trans hg)
  have s2 : W2.heap.size = W1.heap.size := by rw [hW2]; simp
  have HF : Hid (PlF W2.drew mb f ∧ f (pt E n).id = some (n : Int) ∧ ∀ w3, PlF w3 mb (fun y => if y = (pt E n).id then none else f y) → W2.drew.grownBy w3 (some mb) → w3.heap[w.heap.size]? = some (.cells #[.int .i64 (pt E n).id, .int .i64 (pt E n).at_, .int .i64 (pt E n).rk, .int .i64 (pt E n).no] 66 (0, 0)) ∧ Qu w3 base ab mb (.slice (some ⟨g, 0, none⟩) n c) (E.take n) mo pu ∧ Only base Zq w w3) := by
    refine ⟨hf2, hfn, fun w3 hm3 hg3 => ?_⟩
    have k3 : ∀ b, b ≠ mb → b < W2.heap.size → w3.heap[b]? = W2.heap[b]? := fun b hb hl => hg3.block b hl (fun e => hb (Option.some.inj e))
    have hlen : (E.take n).length = n := by rw [List.length_take]; omega
    have gs := g1.size
    refine ⟨(k3 _ (by omega) (by have := (Array.getElem?_eq_some_iff.1 hnew2).1; exact this)).trans hnew2, ⟨(k3 ab habm (by omega)).trans hb2, ?_, ⟨_, hm3, hfE.pop h.nod hl⟩, (List.Sublist.map _ (List.take_sublist _ _)).nodup h.nod, h.low⟩, ?_⟩
    · rw [hlen]
      refine ⟨by rw [flat_en_len, hlen], .inr ⟨g, c, cur, rfl, hbg, (k3 g hgmb (by omega)).trans hg2, by omega, hcm, hcs, ?_⟩⟩
      rw [flat_take, ← htk, List.take_take, Nat.min_eq_left (by omega)]
    · refine (o2.trans (Only.grow (Grow.drew W2) (by have := h.bas; omega) _)).trans (Only.grown hg3 (fun b e => by
        cases e
        obtain ⟨L, ⟨es, ck, hm, _⟩, _⟩ := hf2
        exact ⟨h.low.2, fun o T ho hT => by rw [hm] at ho; cases ho; cases hT; exact .inr (.inl rfl)⟩) (by have := h.bas; show base ≤ W2.heap.size; omega))
  rw [hl] at a2
  have i1 : ((n + 1 : Nat) : Int) - 1 = (n : Int) := by omega
  obtain ⟨N, hN⟩ : ∃ N, N = n + 1 := ⟨_, rfl⟩
  rw [← hN] at a2 y2
  have n1 : (N : Int) - 1 = (n : Int) := by omega
  have n2 : IntKind.i64.wrap (n : Int) = (n : Int) := IntWalk.i64_in _ (by omega)
  have n3 : IntKind.i64.wrap ((N : Int) - 1) = (n : Int) := by rw [n1]; exact n2
  have i2 : (n : Int) < (N : Int) := by omega
  have i3 : (n : Int) ≤ (c : Int) := by omega
  unfold enV
  generalize pt E n = x at *
  clear h hc hg hf hfE hfn hlt habm hgl g1 hnew hb1 hb2 k2 hnew2 hmlt hf2 o2 hgab hgmb hg2 s2 htk hcs hlc hbg i1 hN hl hcm
  go_enter Try.func72, Try.ntmps72
  go_upto_region 3 with fail
  rw [← hW1]
  clear x0 x1 x2 x3
  have HW1 := Lib.hid hW1
  clear hW1
  go_upto_region 4 with fail
  rw [← hW2]
  have HW2 := Lib.hid hW2
  clear hW2 f2 y2 a2
  obtain ⟨wD, hwD⟩ : ∃ wD, wD = W2.drew := ⟨_, rfl⟩
  have z3' : wD.cell? ⟨ab, 3, none⟩ = some (.map (some mb)) := by rw [hwD]; exact z3
  have w0' : wD.cell? ⟨w.heap.size, 0, none⟩ = some (.int .i64 x.id) := by rw [hwD]; exact w0
  rw [← hwD] at HF
  refine wp_region_still_tail 7 (by kernel_rfl) (by kernel_rfl) ?_
  simp only [List.take_succ_cons, List.take_zero, List.drop_succ_cons, List.drop_zero]
  change wpStill _ _ W2.drew (fun a' => wpList _ _ _ _ a' W2.drew) _ _
  rw [← hwD]
  have HD := Lib.hid hwD
  clear hwD z3 w0
  repeat still_step
  refine wpStill_nil ?_
  clear z3' w0'
  go_wp2_with (refine run_pdel wD HF.out.1 HF.out.2.1 rfl (.tmp 30) (.tmp 33) rfl rfl rfl ?_; intro w3 hm3 hg3; obtain ⟨b0, q3, o3⟩ := HF.out.2.2 w3 hm3 hg3; have b1 := (cell_of_row w3 w.heap.size 0 _ _ _ b0).trans rfl; have b2 := (cell_of_row w3 w.heap.size 1 _ _ _ b0).trans rfl; have b3 := (cell_of_row w3 w.heap.size 2 _ _ _ b0).trans rfl; have b4 := (cell_of_row w3 w.heap.size 3 _ _ _ b0).trans rfl; have HR := Lib.hid (And.intro q3 o3); clear b0 q3 o3 hm3 hg3)
  go_ret
  exact ⟨rfl, _, HR.out⟩
end Go.Proofs.Ytdgbieapgmjjhaa
