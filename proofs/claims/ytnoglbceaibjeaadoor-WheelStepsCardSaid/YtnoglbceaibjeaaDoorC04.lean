/- Contract: Stop, of a timer that is set. -/
import Derived.Test.YtnoglbceaibjeaaDoorC03
import Derived.Deep.LoopGhost
import Derived.Deep.DeepCutAuto
import Derived.Test.YtnoglbceaibjeaaDoorC01
namespace Go.Proofs.YtnoglbceaibjeaaDoor
set_option linter.unusedVariables false
set_option linter.unusedSimpArgs false
open Go.ChangeShapes Go.WideShapes Go.ChangeAt Go.RowKit

theorem run_idel {mb b j : Nat} {n : Int} {L : List (Int × Nat)} (w : World) (h : IMap w mb L) (hN : (L.map Prod.fst).Nodup) (hj : L[j]? = some (n, b)) {ops : Array Oper} {rest : List Oper} {o : Oper} {a : Act} {Q : Exit → Act → World → Prop} (hgd : o.guard = none) (m x : Operand)
    (ho : o.op = Op.call { callee := Callee.builtin Builtin.delete, args := #[m, x], argTypes := #[59, 3] }) (hm : a.eval m = .map (some mb)) (hx : a.eval x = .int .i64 n)
    (hK : ∀ w', IMap w' mb (L.eraseIdx j) → w.grownBy w' (some mb) → wpList Tryd.prog ops Q rest (a.put o.dst (.tuple #[])) w') : wpList Tryd.prog ops Q (o :: rest) a w := by
  obtain ⟨w', hrun, h2, h3⟩ := h.del hN hj o.type
  refine wpList_plain hgd fun K hK' => ?_
  unfold Oper.wp
  simp [execOp, ho, resolve, invoke, builtin, hm, hx, hrun, Result.andThen]
  exact hK' _ _ (hK w' h2 h3)
/-- The wheel does not see what only the map, or no block at all, changes. -/
theorem Whl.keep {w w' : World} {base wb mb now : Nat} {C : Nat → Nat → List Tm} {U : Nat → Nat} (h : Whl w base wb mb now C U) (hk : ∀ (b : Nat) (T : TypeId) (cs : Array Value), w.heap[b]? = some (.cells cs T (0, 0)) → w'.heap[b]? = w.heap[b]?) : Whl w' base wb mb now C U := by
  refine ⟨h.low, ?_, ?_, h.lowT, h.uniq⟩
  · obtain ⟨cs, hB, hC⟩ := h.blk
    exact ⟨cs, (hk _ _ _ hB).trans hB, hC⟩
  · intro no s hno hs i t ht
    have := h.chn no s hno hs i t ht
    exact (hk _ _ _ this).trans this
theorem grown_cells {w w' : World} {mb : Nat} {L : List (Int × Nat)} (hm : IMap w mb L) (hg : w.grownBy w' (some mb)) : ∀ (b : Nat) (T : TypeId) (cs : Array Value), w.heap[b]? = some (.cells cs T (0, 0)) → w'.heap[b]? = w.heap[b]? := by
  intro b T cs hb
  refine hg.block b (Array.getElem?_eq_some_iff.1 hb).1 fun e => ?_
  cases e
  obtain ⟨es, ck, h1, _⟩ := hm
  rw [h1] at hb
  cases hb
def Zm (b : Nat) (T : TypeId) : Prop := Zw b T ∨ T = mapT
theorem only_map {w w' : World} {mb base : Nat} {L : List (Int × Nat)} (hm : IMap w mb L) (hg : w.grownBy w' (some mb)) (hlow : base ≤ mb) (hs : base ≤ w.heap.size) : Only base Zm w w' :=
  Only.grown hg (fun g e => by
    cases e
    obtain ⟨es, ck, h1, _⟩ := hm
    exact ⟨hlow, fun o T ho hT => by rw [h1] at ho; cases ho; cases hT; exact .inr rfl⟩) hs
theorem Only.imap {w w' : World} {mb base : Nat} {L : List (Int × Nat)} {Z : Nat → TypeId → Prop} (h : Only base Z w w') (hm : IMap w mb L) (hz : ¬ Z mb mapT) : IMap w' mb L := by
  obtain ⟨es, ck, h1, h2, h3⟩ := hm
  exact ⟨es, ck, h.keep mb _ mapT h1 rfl hz, h2, h3⟩
theorem zw_map {b : Nat} : ¬ Zw b mapT := by
  intro e
  rcases e with e | e <;> exact absurd e (by decide)
theorem clr_lt (u s : Nat) : clr u s < 2 ^ 64 := Nat.and_lt_two_pow _ (Nat.sub_lt (by decide) (Nat.succ_pos _))
theorem clr_bit (u s i : Nat) (hs : s < 64) (hi : i < 64) : (clr u s).testBit i = (u.testBit i && decide (i ≠ s)) := by
  have hp : 2 ^ s < 2 ^ 64 := Nat.pow_lt_pow_right (by decide) hs
  unfold clr
  rw [Nat.testBit_and, Nat.testBit_two_pow_sub_succ hp, Nat.testBit_two_pow, decide_eq_true hi, Bool.true_and]
  by_cases e : i = s
  · subst e; simp
  · simp [e, Ne.symm e]
theorem erase_filter {l : List Tm} (hn : (l.map Tm.id).Nodup) {j : Nat} {t : Tm} (hj : l[j]? = some t) : l.eraseIdx j = l.filter fun u => decide (u.id ≠ t.id) := by
  induction l generalizing j with
  | nil => simp at hj
  | cons a l ih =>
    simp only [List.map_cons, List.nodup_cons] at hn
    cases j with
    | zero =>
      simp at hj
      subst hj
      rw [List.eraseIdx_zero, List.tail_cons, List.filter_cons_of_neg (by simp)]
      refine (List.filter_eq_self.2 fun u hu => ?_).symm
      refine decide_eq_true fun e => hn.1 ?_
      rw [← e]
      exact List.mem_map_of_mem hu
    | succ j =>
      have hj' : l[j]? = some t := by simpa using hj
      rw [List.eraseIdx_cons_succ, ih hn.2 hj', List.filter_cons_of_pos]
      refine decide_eq_true fun e => hn.1 ?_
      rw [e]
      exact List.mem_map_of_mem (List.mem_of_getElem? hj')
theorem chn_ids {now no s : Nat} {L : List Tm} (hn : (L.map Tm.id).Nodup) : ((chn now L no s).map Tm.id).Nodup := (List.Sublist.map _ List.filter_sublist).nodup hn
theorem chn_filter (now : Nat) (L : List Tm) (no s : Nat) (p : Tm → Bool) : chn now (L.filter p) no s = (chn now L no s).filter p := by
  unfold chn
  rw [List.filter_filter, List.filter_filter]
  congr 1
  funext u
  exact Bool.and_comm _ _
theorem chn_erase {now : Nat} {L : List Tm} (hn : (L.map Tm.id).Nodup) {t : Tm} {no s j : Nat} (hpl : plc now t.tk = (no, s)) (hj : (chn now L no s)[j]? = some t) :
    chn now (L.filter fun u => decide (u.id ≠ t.id)) = upd (chn now L) no s ((chn now L no s).eraseIdx j) := by
  have htL : t ∈ L := (List.mem_filter.1 (List.mem_of_getElem? hj)).1
  funext n m
  rw [chn_filter]
  by_cases e : n = no ∧ m = s
  · obtain ⟨rfl, rfl⟩ := e
    rw [upd_same, erase_filter (chn_ids hn) hj]
  · rw [upd_other e]
    refine List.filter_eq_self.2 fun u hu => decide_eq_true fun e2 => ?_
    obtain ⟨hu1, hu2⟩ := List.mem_filter.1 hu
    have hp : plc now u.tk = (n, m) := of_decide_eq_true hu2
    have : u = t := by
      obtain ⟨i, hi⟩ := List.getElem?_of_mem hu1
      obtain ⟨k, hk⟩ := List.getElem?_of_mem htL
      have e1 : (L.map Tm.id)[i]? = some t.id := by rw [List.getElem?_map, hi]; exact congrArg some e2
      have e3 : (L.map Tm.id)[k]? = some t.id := by rw [List.getElem?_map, hk]; rfl
      have := (List.getElem?_inj (List.getElem?_eq_some_iff.1 e1).1 hn).1 (e1.trans e3.symm)
      subst this
      rw [hi] at hk
      exact Option.some.inj hk
    subst this
    rw [hpl] at hp
    cases hp
    exact e ⟨rfl, rfl⟩

set_option maxHeartbeats 1000000 in
theorem wStop_some (w : World) (base wb mb now : Nat) (L : List Tm) (U : Nat → Nat) (h : Wst w base wb mb now L U) (t : Tm) (ht : t ∈ L) :
    Calls Tryd.prog 13 #[.pointer (some ⟨wb, 0, none⟩), .int .i64 t.id] w fun e w' => e = .returned (.bool true) ∧ ∃ U', Wst w' base wb mb now (L.filter fun u => decide (u.id ≠ t.id)) U' ∧ Only base Zm w w' := by
  obtain ⟨jL, hjL⟩ := List.getElem?_of_mem ht
  have hjM : (L.map pairW)[jL]? = some (t.id, t.blk) := by rw [List.getElem?_map, hjL]; rfl
  have hp := plc_lt h.nowM (h.tks t ht)
  have hin := h.inChn ht
  obtain ⟨no, s, hpl⟩ : ∃ no s, plc now t.tk = (no, s) := ⟨_, _, rfl⟩
  rw [hpl] at hp hin
  obtain ⟨hno, hs⟩ : no < 7 ∧ s < 64 := hp
  obtain ⟨j, hj⟩ := List.getElem?_of_mem hin
  have a0 := h.whl.cell.2
  have a1 := h.map.look_some h.nodM hjM
  have c0 := take_any w base wb mb now (chn now L) U h.whl h.nowM t (h.tks t ht) h.uLt no s j hpl hj
  have hmap := List.map_congr_left (l := L) (f := pairW) (g := pairW) fun _ _ => rfl
  have he : (L.map pairW).eraseIdx jL = (L.filter fun u => decide (u.id ≠ t.id)).map pairW := by
    rw [← erase_filter h.nod hjL, Go.ChangeMaps.map_eraseIdx]
  have hce := chn_erase h.nod hpl hj
  have F2 : Hid (∀ U2 w2, U2 = (if (chn now L no s).eraseIdx j = [] then updU U no (clr (U no) s) else U) → Whl w2 base wb mb now (upd (chn now L) no s ((chn now L no s).eraseIdx j)) U2 → Only base Zw w w2 →
      w2.cell? ⟨wb, 1, none⟩ = some (.map (some mb)) ∧ IMap w2 mb (L.map pairW) ∧ ∀ w3, IMap w3 mb ((L.map pairW).eraseIdx jL) → w2.grownBy w3 (some mb) → Wst w3 base wb mb now (L.filter fun u => decide (u.id ≠ t.id)) U2 ∧ Only base Zm w w3) := by
    intro U2 w2 hU2 h2 o2
    have hm2 := o2.imap h.map zw_map
    refine ⟨h2.cell.2, hm2, fun w3 hm3 hg3 => ?_⟩
    rw [he] at hm3
    have o3 : Only base Zm w w3 := (o2.mono fun _ _ _ _ _ e => .inl e).trans (only_map hm2 hg3 h.lowM h2.bas)
    refine ⟨⟨?_, ?_, ?_, hm3, h.lowM, ?_, fun u hu => h.tks u (List.mem_filter.1 hu).1, h.nowM⟩, o3⟩
    · rw [hce]
      exact h2.keep (grown_cells hm2 hg3)
    · intro n hn
      rw [hU2]
      split
      · unfold updU
        split
        · exact clr_lt _ _
        · exact h.uLt n hn
      · exact h.uLt n hn
    · intro n m hn hm
      rw [hce, hU2]
      by_cases e : n = no ∧ m = s
      · obtain ⟨rfl, rfl⟩ := e
        rw [upd_same]
        split <;> rename_i e2
        · unfold updU
          rw [if_pos rfl, clr_bit _ _ _ hm hm]
          simp [e2]
        · rw [h.uBit n m hn hm]
          exact ⟨fun _ => e2, fun _ => List.ne_nil_of_mem hin⟩
      · rw [upd_other e]
        split
        · unfold updU
          split <;> rename_i e3
          · subst e3
            rw [clr_bit _ _ _ hs hm, ← h.uBit n m hn hm]
            simp [show m ≠ s from fun e4 => e ⟨rfl, e4⟩]
          · exact h.uBit n m hn hm
        · exact h.uBit n m hn hm
    · exact (List.Sublist.map _ List.filter_sublist).nodup h.nod
  have HN := Lib.hid h.nodM
  clear hpl hmap he hce hin hno hs hj h ht hjL
  go_enter Tryd.func13, Tryd.ntmps13
  go_wp2_with fail
  refine c0.mono ?_
  rintro e w2 ⟨rfl, h2, o2⟩
  obtain ⟨b0, b1, HX⟩ := F2.out _ w2 rfl h2 o2
  have HX := Lib.hid HX
  clear c0 h2 o2 F2
  go_wp2_with (refine run_idel w2 b1 HN.out hjM rfl (.tmp 27) (.tmp 28) rfl rfl rfl ?_; intro w3 hm3 hg3; have HR := Lib.hid (HX.out w3 hm3 hg3); clear hm3 hg3)
  go_ret
  exact ⟨rfl, _, HR.out⟩
end Go.Proofs.YtnoglbceaibjeaaDoor
/- Contract: Set. -/
namespace Go.Proofs.YtnoglbceaibjeaaDoor
set_option linter.unusedVariables false
set_option linter.unusedSimpArgs false
open Go.ChangeShapes Go.WideShapes Go.ChangeAt Go.RowKit

theorem wStop_any (w : World) (base wb mb now : Nat) (L : List Tm) (U : Nat → Nat) (h : Wst w base wb mb now L U) (x : Int) :
    Calls Tryd.prog 13 #[.pointer (some ⟨wb, 0, none⟩), .int .i64 x] w fun e w' => e = .returned (.bool (decide (∃ t ∈ L, t.id = x))) ∧ ∃ U', Wst w' base wb mb now (L.filter fun u => decide (u.id ≠ x)) U' ∧ Only base Zm w w' := by
  by_cases hx : ∃ t ∈ L, t.id = x
  · rw [decide_eq_true hx]
    obtain ⟨t, ht, rfl⟩ := hx
    exact wStop_some w base wb mb now L U h t ht
  · rw [decide_eq_false hx]
    have hx' : ∀ t ∈ L, t.id ≠ x := fun t ht e => hx ⟨t, ht, e⟩
    refine (wStop_none w base wb mb now L U h x hx').mono ?_
    rintro e w' ⟨rfl, rfl⟩
    refine ⟨rfl, U, ?_, Only.refl _ _ _⟩
    rw [List.filter_eq_self.2 fun u hu => decide_eq_true (hx' u hu)]
    exact h
theorem chn_snoc (now : Nat) (L : List Tm) (t : Tm) {no s : Nat} (hpl : plc now t.tk = (no, s)) : chn now (L ++ [t]) = upd (chn now L) no s (chn now L no s ++ [t]) := by
  funext n m
  rw [chn_app]
  by_cases e : n = no ∧ m = s
  · obtain ⟨rfl, rfl⟩ := e
    rw [upd_same]
    congr 1
    unfold chn
    simp [hpl]
  · rw [upd_other e]
    have : chn now [t] n m = [] := by
      unfold chn
      rw [List.filter_cons_of_neg (by
        rw [hpl]
        simp
        intro a b
        exact e ⟨a.symm, b.symm⟩)]
      rfl
    rw [this, List.append_nil]
/-- One timer more: from its block, the map and put to the wheel. -/
theorem Wst.more {w w5 : World} {base wb mb now : Nat} {L : List Tm} {U : Nat → Nat} (h : Wst w base wb mb now L U) {t : Tm} (htk : t.tk ≤ maxT) (hx : ∀ u ∈ L, u.id ≠ t.id) {no s : Nat} (hpl : plc now t.tk = (no, s))
    (hW : Whl w5 base wb mb now (upd (chn now L) no s (chn now L no s ++ [t])) (updU U no (U no ||| 2 ^ s))) (hm : IMap w5 mb (L.map pairW ++ [(t.id, t.blk)])) : Wst w5 base wb mb now (L ++ [t]) (updU U no (U no ||| 2 ^ s)) := by
  have hp := plc_lt h.nowM htk
  rw [hpl] at hp
  obtain ⟨hno, hs⟩ : no < 7 ∧ s < 64 := hp
  have hp2 : 2 ^ s < 2 ^ 64 := Nat.pow_lt_pow_right (by decide) hs
  have hsn := chn_snoc now L t hpl
  refine ⟨by rw [hsn]; exact hW, ?_, ?_, by rw [List.map_append]; exact hm, h.lowM, ?_, ?_, h.nowM⟩
  · intro n hn
    unfold updU
    split
    · exact Nat.or_lt_two_pow (h.uLt no hno) hp2
    · exact h.uLt n hn
  · intro n m hn hm'
    rw [hsn]
    by_cases e : n = no ∧ m = s
    · obtain ⟨rfl, rfl⟩ := e
      rw [upd_same]
      unfold updU
      rw [if_pos rfl, Nat.testBit_or, Nat.testBit_two_pow_self]
      simp
    · rw [upd_other e]
      unfold updU
      split <;> rename_i e3
      · subst e3
        rw [Nat.testBit_or, Nat.testBit_two_pow, decide_eq_false (fun e4 => e ⟨rfl, e4.symm⟩), Bool.or_false]
        exact h.uBit n m hn hm'
      · exact h.uBit n m hn hm'
  · rw [List.map_append]
    refine List.nodup_append.2 ⟨h.nod, by simp, ?_⟩
    intro a ha b hb
    obtain ⟨u, hu, rfl⟩ := List.mem_map.1 ha
    simp at hb
    subst hb
    exact hx u hu
  · intro u hu
    rcases List.mem_append.1 hu with h1 | h1
    · exact h.tks u h1
    · rw [List.mem_singleton.1 h1]; exact htk
set_option maxHeartbeats 400000 in
theorem wSet_range (w : World) (base wb mb now : Nat) (L : List Tm) (U : Nat → Nat) (h : Wst w base wb mb now L U) (x y : Int) (hy : y < 0 ∨ 1099511627776 < y) :
    Calls Tryd.prog 11 #[.pointer (some ⟨wb, 0, none⟩), .int .i64 x, .int .i64 y] w fun e w' => e = .returned (.int .i64 8) ∧ w' = w := by
  clear h
  rcases hy with hy | hy
  · go_enter Tryd.func11, Tryd.ntmps11
    go_wp2_with fail
    go_ret
    exact ⟨rfl, rfl⟩
  · have h0 : decide (y < 0) = false := decide_eq_false (by omega)
    go_enter Tryd.func11, Tryd.ntmps11
    go_wp2_with fail
    go_ret
    exact ⟨rfl, rfl⟩
set_option maxHeartbeats 400000 in
theorem wSet_full (w : World) (base wb mb now : Nat) (L : List Tm) (U : Nat → Nat) (h : Wst w base wb mb now L U) (x y : Int) (h0 : 0 ≤ y) (h1 : y ≤ 1099511627776) (hx : ∀ t ∈ L, t.id ≠ x) (hl : L.length = 4096) :
    Calls Tryd.prog 11 #[.pointer (some ⟨wb, 0, none⟩), .int .i64 x, .int .i64 y] w fun e w' => e = .returned (.int .i64 5) ∧ w' = w := by
  have a0 := h.whl.cell.2
  have a1 := h.map.look_none (h.absent hx)
  have a2 := h.map.len 3
  rw [List.length_map, hl] at a2
  clear h hx hl
  go_enter Tryd.func11, Tryd.ntmps11
  go_wp2_with fail
  go_ret
  exact ⟨rfl, rfl⟩
/-- Behind Set's Stop: the new block, the map, put. -/
theorem set_tail (w w2 : World) (base wb mb now : Nat) (L : List Tm) (U : Nat → Nat) (h : Wst w2 base wb mb now L U) (o : Only base Zm w w2) (x : Int) (y : Nat) (h1 : y ≤ maxT) (hx : ∀ u ∈ L, u.id ≠ x) :
    ∃ w4, (w2.alloc (.cells #[.int .i64 x, .int .i64 (y : Int), .pointer none, .pointer none] 70)).cell? ⟨wb, 1, none⟩ = some (.map (some mb)) ∧
      (Instr.mapUpdate 59 (.map (some mb)) (.int .i64 x) (.pointer (some ⟨w2.heap.size, 0, none⟩))).run Tryd.prog (w2.alloc (.cells #[.int .i64 x, .int .i64 (y : Int), .pointer none, .pointer none] 70)) = .ok () w4 ∧
      Calls Tryd.prog 24 #[.pointer (some ⟨wb, 0, none⟩), .pointer (some ⟨w2.heap.size, 0, none⟩)] w4 fun e w' => e = .returned (.tuple #[]) ∧ ∃ U', Wst w' base wb mb now (L ++ [⟨x, y, w2.heap.size⟩]) U' ∧ Only base Zm w w' := by
  obtain ⟨W3, hW3⟩ : ∃ W3, W3 = w2.alloc (.cells #[.int .i64 x, .int .i64 (y : Int), .pointer none, .pointer none] 70) := ⟨_, rfl⟩
  have g3 : Grow w2 W3 := by rw [hW3]; exact Grow.alloc _ _
  have hnew : W3.heap[w2.heap.size]? = some (.cells (tmC ⟨x, y, w2.heap.size⟩ (.pointer none) (.pointer none)) 70 (0, 0)) := by rw [hW3]; exact heap_alloc_new w2 _
  have h3 : Whl W3 base wb mb now (chn now L) U := h.whl.keep fun b T cs hb => g3.block b (Array.getElem?_eq_some_iff.1 hb).1
  have o3 : Only base Zm w2 W3 := Only.grow g3 h.whl.bas _
  have hm3 : IMap W3 mb (L.map pairW) := h.map.keep (by
    obtain ⟨es, ck, e, _⟩ := h.map
    exact g3.block mb (Array.getElem?_eq_some_iff.1 e).1)
  obtain ⟨w4, hrun, hm4, hg4⟩ := hm3.upd (h.absent hx) w2.heap.size
  have kc := grown_cells hm3 hg4
  have h4 : Whl w4 base wb mb now (chn now L) U := h3.keep kc
  have hnew4 := (kc _ _ _ hnew).trans hnew
  have o4 := (o.trans o3).trans (only_map hm3 hg4 h.lowM h3.bas)
  obtain ⟨no, s, hpl⟩ : ∃ no s, plc now y = (no, s) := ⟨_, _, rfl⟩
  have hp := plc_lt h.nowM h1
  rw [hpl] at hp
  have cP := put_any w4 base wb mb now (chn now L) U h4 h.nowM ⟨x, y, w2.heap.size⟩ h1 _ _ hnew4 (fun n m hn hm u hu => by
    have := (h.whl.ltT hn hm hu).1
    show u.blk ≠ w2.heap.size
    omega) h.whl.bas h.uLt no s hpl
  rw [← hW3]
  refine ⟨w4, h3.cell.2, hrun, cP.mono ?_⟩
  rintro e w' ⟨rfl, h5, o5, _⟩
  refine ⟨rfl, _, h.more (t := ⟨x, y, w2.heap.size⟩) h1 hx hpl h5 (o5.imap hm4 zw_map), o4.trans (o5.mono fun _ _ _ _ _ e => .inl e)⟩

set_option maxHeartbeats 1000000 in
theorem wSet_set (w : World) (base wb mb now : Nat) (L : List Tm) (U : Nat → Nat) (h : Wst w base wb mb now L U) (x : Int) (y : Nat) (h1 : y ≤ maxT) (t : Tm) (ht : t ∈ L) (hx : t.id = x) :
    Calls Tryd.prog 11 #[.pointer (some ⟨wb, 0, none⟩), .int .i64 x, .int .i64 (y : Int)] w fun e w' => e = .returned (.int .i64 0) ∧ ∃ b U', Wst w' base wb mb now ((L.filter fun u => decide (u.id ≠ x)) ++ [⟨x, y, b⟩]) U' ∧ Only base Zm w w' := by
  have a0 := h.whl.cell.2
  obtain ⟨j, hj⟩ := List.getElem?_of_mem ht
  have a1 := h.map.look_some h.nodM (x := x) (b := t.blk) (j := j) (by rw [List.getElem?_map, hj, ← hx]; rfl)
  have i1 : ¬ (1099511627776 < (y : Int)) := by unfold maxT at h1; omega
  have i2 : ¬ ((y : Int) < 0) := by omega
  have c0 := wStop_any w base wb mb now L U h x
  have HT : Hid (∀ w2 U2, Wst w2 base wb mb now (L.filter fun u => decide (u.id ≠ x)) U2 → Only base Zm w w2 → _) := fun w2 U2 h2 o2 => set_tail w w2 base wb mb now _ U2 h2 o2 x y h1 (fun u hu => of_decide_eq_true (List.mem_filter.1 hu).2)
  generalize (L.filter fun u => decide (u.id ≠ x)) = L' at *
  clear h hj ht hx h1
  go_enter Tryd.func11, Tryd.ntmps11
  go_wp2_with fail
  refine c0.mono ?_
  rintro e w2 ⟨rfl, U2, h2, o2⟩
  obtain ⟨w4, b1, b2, b3⟩ := HT.out w2 U2 h2 o2
  clear c0 h2 o2 HT
  go_wp2_with fail
  refine b3.mono ?_
  rintro e w5 ⟨rfl, U5, h5, o5⟩
  have HR := Lib.hid (And.intro h5 o5)
  clear h5 o5 b1 b2 b3
  go_wp2_with fail
  go_ret
  exact ⟨rfl, _, _, HR.out⟩
set_option maxHeartbeats 1000000 in
theorem wSet_new (w : World) (base wb mb now : Nat) (L : List Tm) (U : Nat → Nat) (h : Wst w base wb mb now L U) (x : Int) (y : Nat) (h1 : y ≤ maxT) (hx : ∀ t ∈ L, t.id ≠ x) (hl : L.length ≠ 4096) :
    Calls Tryd.prog 11 #[.pointer (some ⟨wb, 0, none⟩), .int .i64 x, .int .i64 (y : Int)] w fun e w' => e = .returned (.int .i64 0) ∧ ∃ b U', Wst w' base wb mb now ((L.filter fun u => decide (u.id ≠ x)) ++ [⟨x, y, b⟩]) U' ∧ Only base Zm w w' := by
  have a0 := h.whl.cell.2
  have a1 := h.map.look_none (h.absent hx)
  have a2 := h.map.len 3
  rw [List.length_map] at a2
  have i0 : ¬ ((L.length : Int) = 4096) := by omega
  have i1 : ¬ (1099511627776 < (y : Int)) := by unfold maxT at h1; omega
  have i2 : ¬ ((y : Int) < 0) := by omega
  have c0 := wStop_any w base wb mb now L U h x
  have HT : Hid (∀ w2 U2, Wst w2 base wb mb now (L.filter fun u => decide (u.id ≠ x)) U2 → Only base Zm w w2 → _) := fun w2 U2 h2 o2 => set_tail w w2 base wb mb now _ U2 h2 o2 x y h1 (fun u hu => of_decide_eq_true (List.mem_filter.1 hu).2)
  generalize (L.filter fun u => decide (u.id ≠ x)) = L' at *
  clear h hx hl h1
  go_enter Tryd.func11, Tryd.ntmps11
  go_wp2_with fail
  refine c0.mono ?_
  rintro e w2 ⟨rfl, U2, h2, o2⟩
  obtain ⟨w4, b1, b2, b3⟩ := HT.out w2 U2 h2 o2
  clear c0 h2 o2 HT
  go_wp2_with fail
  refine b3.mono ?_
  rintro e w5 ⟨rfl, U5, h5, o5⟩
  have HR := Lib.hid (And.intro h5 o5)
  clear h5 o5 b1 b2 b3
  go_wp2_with fail
  go_ret
  exact ⟨rfl, _, _, HR.out⟩
end Go.Proofs.YtnoglbceaibjeaaDoor
/- Contract: New. -/
namespace Go.Proofs.YtnoglbceaibjeaaDoor
set_option linter.unusedVariables false
set_option linter.unusedSimpArgs false
open Go.ChangeShapes Go.WideShapes Go.ChangeAt Go.RowKit

set_option maxHeartbeats 400000 in
theorem wNew_not (w : World) (n : Int) (hn : n < 0 ∨ 1099511627776 < n) : Calls Tryd.prog 9 #[.int .i64 n] w fun e w' => e = .returned (.tuple #[.pointer none, .int .i64 8]) ∧ w' = w := by
  rcases hn with hn | hn
  · go_enter Tryd.func9, Tryd.ntmps9
    go_wp2_with fail
    go_ret2
    exact ⟨rfl, rfl⟩
  · have h0 : decide (n < 0) = false := decide_eq_false (by omega)
    go_enter Tryd.func9, Tryd.ntmps9
    go_wp2_with fail
    go_ret2
    exact ⟨rfl, rfl⟩
def wz (n m : Value) : Array Value := ⟨n :: m :: (List.replicate 896 (Value.pointer none) ++ List.replicate 7 (Value.int .u64 0))⟩
theorem run_wz (n : Int) (mb : Nat) (w : World) : (Instr.build 68 #[(0, .int .i64 n), (1, .map (some mb))]).run Tryd.prog w = .ok (.agg (wz (.int .i64 n) (.map (some mb)))) w := by kernel_rfl
theorem wz_size (a b : Value) : (wz a b).size = 905 := by kernel_rfl
theorem wz_0 (a b : Value) : (wz a b)[0]? = some a := by kernel_rfl
theorem wz_1 (a b : Value) : (wz a b)[1]? = some b := by kernel_rfl
theorem wz_p (a b : Value) (i : Nat) (h : i < 896) : (wz a b)[i + 2]? = some (.pointer none) := by
  unfold wz
  rw [List.getElem?_toArray, List.getElem?_cons_succ, List.getElem?_cons_succ, List.getElem?_append_left (by rw [List.length_replicate]; exact h), List.getElem?_replicate_of_lt h]
theorem wz_u (a b : Value) (i : Nat) (h : i < 7) : (wz a b)[898 + i]? = some (.int .u64 0) := by
  unfold wz
  rw [show 898 + i = (896 + i) + 1 + 1 from by omega, List.getElem?_toArray, List.getElem?_cons_succ, List.getElem?_cons_succ, List.getElem?_append_right (by rw [List.length_replicate]; omega), List.length_replicate, List.getElem?_replicate_of_lt (by omega)]
theorem run_mm (w : World) : (Instr.makeMap 59 none).run Tryd.prog w = .ok (.map (some w.heap.size)) (w.alloc (.map #[] 0)) := by kernel_rfl
attribute [local irreducible] wz
theorem wpList_wz (w : World) {ops : Array Oper} {rest : List Oper} {o : Oper} {a : Act} {Q : Exit → Act → World → Prop} (hgd : o.guard = none) (x y : Operand) (ho : o.op = Op.build 68 #[(0, x), (1, y)]) (n : Int) (mb : Nat) (hx : a.eval x = .int .i64 n) (hy : a.eval y = .map (some mb))
    (Z : Array Value) (hZ : Hid (wz (.int .i64 n) (.map (some mb)) = Z)) (hK : wpList Tryd.prog ops Q rest (a.put o.dst (.agg Z)) w) : wpList Tryd.prog ops Q (o :: rest) a w := by
  have r1 := run_wz n mb w
  rw [hZ.out] at r1
  refine wpList_plain hgd fun K hK' => ?_
  unfold Oper.wp
  simp only [execOp, ho, Sem.run_bind, List.map_toArray, List.map_cons, List.map_nil, hx, hy, r1, Result.andThen_ok]
  exact hK' _ _ hK
set_option maxRecDepth 20000 in
set_option maxHeartbeats 4000000 in
theorem wNew_walk (w : World) (n : Nat) (hn : n ≤ maxT) : Calls Tryd.prog 9 #[.int .i64 (n : Int)] w fun e w' => e = .returned (.tuple #[.pointer (some ⟨w.heap.size + 1, 0, none⟩), .int .i64 0]) ∧
    w' = (w.alloc (.map #[] 0)).alloc (.cells (wz (.int .i64 (n : Int)) (.map (some w.heap.size))) 68) := by
  have i1 : ¬ (1099511627776 < (n : Int)) := by unfold maxT at hn; omega
  have i2 : ¬ ((n : Int) < 0) := by omega
  have r0 := run_mm w
  clear hn
  obtain ⟨Z, hZ⟩ : ∃ Z, wz (.int .i64 (n : Int)) (.map (some w.heap.size)) = Z := ⟨_, rfl⟩
  rw [hZ]
  have HZ := Lib.hid hZ
  clear hZ
  go_enter Tryd.func9, Tryd.ntmps9
  go_wp2_with (refine wpList_wz _ rfl (.tmp 10) (.tmp 11) rfl _ _ rfl rfl Z HZ ?_)
  go_ret2
  exact ⟨rfl, rfl⟩
theorem wNew_any (w : World) (base : Nat) (hb : base ≤ w.heap.size) (n : Nat) (hn : n ≤ maxT) : Calls Tryd.prog 9 #[.int .i64 (n : Int)] w fun e w' => e = .returned (.tuple #[.pointer (some ⟨w.heap.size + 1, 0, none⟩), .int .i64 0]) ∧
    Wst w' base (w.heap.size + 1) w.heap.size n [] (fun _ => 0) ∧ Grow w w' := by
  refine (wNew_walk w n hn).mono ?_
  rintro e w' ⟨rfl, rfl⟩
  have hB := heap_alloc_new (w.alloc (.map #[] 0)) (.cells (wz (.int .i64 (n : Int)) (.map (some w.heap.size))) 68)
  rw [World.size_alloc] at hB
  have hM : ((w.alloc (.map #[] 0)).alloc (.cells (wz (.int .i64 (n : Int)) (.map (some w.heap.size))) 68)).heap[w.heap.size]? = some (.map #[] 0) := by
    rw [Below.heap_alloc _ _ _ (by simp)]
    exact heap_alloc_new w _
  refine ⟨rfl, ⟨⟨Nat.le_succ_of_le hb, ⟨_, hB, wz_size _ _, wz_0 _ _, wz_1 _ _, ?_, ?_, ?_⟩, ?_, ?_, ?_⟩, ?_, ?_, ?_, hb, ?_, ?_, hn⟩, (Grow.alloc _ _).trans (Grow.alloc _ _)⟩
  · intro no s hno hs
    rw [show so no s = (no * 64 + s) * 2 + 2 from by unfold so; omega, wz_p _ _ _ (by omega)]
    rfl
  · intro no s hno hs
    rw [show so no s + 1 = (no * 64 + s) * 2 + 1 + 2 from by unfold so; omega, wz_p _ _ _ (by omega)]
    rfl
  · intro no hno
    exact wz_u _ _ no hno
  · intro no s _ _
    exact Chn.nil
  · intro no s _ _ t ht
    cases ht
  · intro no s i no' s' i' t t' _ _ _ _ h
    simp [chn] at h
  · intro no _
    exact Nat.two_pow_pos 64
  · intro no s _ _
    simp [chn]
  · exact ⟨#[], 0, hM, ⟨by simp, by simp, by simp⟩, rfl⟩
  · simp
  · intro t ht
    cases ht
end Go.Proofs.YtnoglbceaibjeaaDoor
/- Contract: a slot's least tick. -/
namespace Go.Proofs.YtnoglbceaibjeaaDoor
set_option linter.unusedVariables false
set_option linter.unusedSimpArgs false
open Go.ChangeShapes Go.WideShapes Go.ChangeAt Go.RowKit

def lmin : List Tm → Nat
  | [] => 0
  | t :: r => r.foldl (fun a u => min a u.tk) t.tk
theorem foldl_take {r : List Tm} {i : Nat} {u : Tm} (h : r[i]? = some u) (a : Nat) : (r.take (i + 1)).foldl (fun a u => min a u.tk) a = min ((r.take i).foldl (fun a u => min a u.tk) a) u.tk := by
  rw [List.take_add_one, h, List.foldl_append]
  rfl
set_option maxHeartbeats 1000000 in
theorem least_any (w : World) (wb k : Nat) (t0 : Tm) (r : List Tm) (hk : w.cell? ⟨wb, k, none⟩ = some (.pointer (some ⟨t0.blk, 0, none⟩))) (hc : Chn w (t0 :: r)) :
    Calls Tryd.prog 32 #[.pointer (some ⟨wb, k, none⟩)] w fun e w' => e = .returned (.int .i64 (lmin (t0 :: r) : Int)) ∧ w' = w := by
  have h0 := hc 0 t0 rfl
  have a0 : w.cell? ⟨t0.blk, 1, none⟩ = some (.int .i64 (t0.tk : Int)) := (cell_of_row w t0.blk 1 _ _ _ h0).trans rfl
  have a1 : w.cell? ⟨t0.blk, 3, none⟩ = some (lk r[0]?) := (cell_of_row w t0.blk 3 _ _ _ h0).trans rfl
  have H : Hid (∀ (i : Nat) (u : Tm), r[i]? = some u → w.cell? ⟨u.blk, 1, none⟩ = some (.int .i64 (u.tk : Int)) ∧ w.cell? ⟨u.blk, 3, none⟩ = some (lk r[i + 1]?)) := by
    intro i u hu
    have h1 := hc (i + 1) u (by simpa using hu)
    exact ⟨(cell_of_row w u.blk 1 _ _ _ h1).trans rfl, (cell_of_row w u.blk 3 _ _ _ h1).trans rfl⟩
  clear hc h0
  go_enter Tryd.func32, Tryd.ntmps32
  go_wp2_with fail
  go_loopg [3, 4] r.length (fun g s3 s4 wr => ∃ i : Nat, i ≤ r.length ∧ g = r.length - i ∧ s3 = .int .i64 (((r.take i).foldl (fun a u => min a u.tk) t0.tk : Nat) : Int) ∧ s4 = lk r[i]? ∧ wr = w)
  case atStart => exact ⟨0, Nat.zero_le _, rfl, rfl, rfl, rfl⟩
  case round =>
    obtain ⟨i, hi, rfl, hs3, hs4, rfl⟩ := hrel
    rcases Nat.lt_or_ge i r.length with hlt | hge
    · obtain ⟨u, hu⟩ : ∃ u, r[i]? = some u := ⟨_, List.getElem?_eq_getElem hlt⟩
      obtain ⟨b0, b1⟩ := H.out i u hu
      have hf := Lib.hid (foldl_take hu t0.tk)
      rw [hu] at hs4
      simp only [lk] at hs4
      subst hs4
      generalize (r.take i).foldl (fun a u => min a u.tk) t0.tk = a at *
      subst hs3
      clear hu
      go_wp2_with fail
      go_roundg (r.length - (i + 1))
      case measure => omega
      case rel => exact ⟨i + 1, by omega, rfl, by rw [hf.out]; exact congrArg (Value.int .i64) (by omega), rfl, rfl⟩
    · obtain rfl : i = r.length := by omega
      have e4 : lk r[r.length]? = .pointer none := by rw [List.getElem?_eq_none (Nat.le_refl _)]; rfl
      rw [e4] at hs4
      subst hs4
      rw [List.take_length] at hs3
      have e5 : lmin (t0 :: r) = r.foldl (fun a u => min a u.tk) t0.tk := rfl
      rw [← e5] at hs3
      generalize hm : lmin (t0 :: r) = m at hs3
      have HM := Lib.hid hm
      clear hm
      subst hs3
      clear e5 e4
      go_wp2_with fail
      go_ret
      exact ⟨by rw [HM.out]; rfl, rfl⟩
end Go.Proofs.YtnoglbceaibjeaaDoor
/- Contract: a slot's empty: its timers behind those that were met. -/
namespace Go.Proofs.YtnoglbceaibjeaaDoor
set_option linter.unusedVariables false
set_option linter.unusedSimpArgs false
open Go.ChangeShapes Go.WideShapes Go.ChangeAt Go.RowKit

theorem infoTp : (Tryd.prog.info? 60).map (fun i => (i.zero, i.size, i.bytes)) = some (some (.pointer none), 1, 8) := by kernel_rfl
def tpV (t : Tm) : Value := .pointer (some ⟨t.blk, 0, none⟩)
/-- A row of timers of the call's own. -/
def Trow (w : World) (base : Nat) (v : Value) (l : List Tm) : Prop := w.ownsRow base 60 1 v l.length (l.map tpV)
def Zr (b : Nat) (T : TypeId) : Prop := T = 60
theorem Trow.grow {w w' : World} {base : Nat} {v : Value} {l : List Tm} (h : Trow w base v l) (g : Grow w w') : Trow w' base v l := ownsRow_other h fun b cs _ hh => g.block b (Array.getElem?_eq_some_iff.1 hh).1
/-- What one append leaves. -/
theorem Trow.app {w w5 : World} {base : Nat} {v v5 : Value} {l : List Tm} {t : Tm} (h : Trow w base v l) (hb : base ≤ w.heap.size) (ho : w5.ownsRow base 60 1 v5 (l.length + 1) (l.map tpV ++ [tpV t])) (hg : (w.alloc (.cells #[tpV t] 60)).grownBy w5 v.ownBlock) :
    Trow w5 base v5 (l ++ [t]) ∧ Only base Zr w w5 := by
  refine ⟨?_, ?_⟩
  · unfold Trow
    rw [List.length_append, List.map_append]
    exact ho
  · have g1 : Grow w (w.alloc (.cells #[tpV t] 60)) := Grow.alloc _ _
    refine (Only.grow g1 hb Zr).trans (Only.grown hg (fun b e => ?_) (Nat.le_trans hb g1.size))
    obtain ⟨cs, h1, h2⟩ := ownsRow_blk (h.grow g1) e
    exact ⟨h2, fun o T ho' hT => by rw [h1] at ho'; cases ho'; cases hT; rfl⟩
theorem Trow.form {w : World} {base : Nat} {v : Value} {l : List Tm} (h : Trow w base v l) : ∃ A c, v = .slice A l.length c := by
  obtain ⟨A, c, e, _⟩ := (RdK.of_own h).form
  exact ⟨A, c, e⟩
theorem run_tapp (w : World) (base : Nat) (v : Value) (l : List Tm) (t : Tm) (h : Trow w base v l) (hb : base ≤ w.heap.size) (hl : l.length ≤ 1000000) {ops : Array Oper} {rest : List Oper} {o : Oper} {a : Act} {Q : Exit → Act → World → Prop} (hgd : o.guard = none) (s x : Operand)
    (ho : o.op = .call { callee := .builtin .append, args := #[s, x], argTypes := #[75, 75] }) (hs : a.eval s = v) (hx : a.eval x = .slice (some ⟨w.heap.size, 0, none⟩) 1 1)
    (hK : ∀ v5 w5, Trow w5 base v5 (l ++ [t]) → Only base Zr w w5 → wpList Tryd.prog ops Q rest (a.put o.dst v5) w5) : wpList Tryd.prog ops Q (o :: rest) a (w.alloc (.cells #[.pointer (some ⟨t.blk, 0, none⟩)] 60)) := by
  have g1 : Grow w (w.alloc (.cells #[tpV t] 60)) := Grow.alloc _ _
  have hlit : RdK (w.alloc (.cells #[tpV t] 60)) 1 (.slice (some ⟨w.heap.size, 0, none⟩) 1 1) 1 [tpV t] := RdK.of_own (World.ownsRow_lit (base := w.heap.size) (e := 60) (size := 1) w #[tpV t] 1 (Nat.le_refl _) (by decide) rfl)
  refine wpList_appK _ hgd s x 75 ho 60 _ 1 8 Tryd.underlying75 infoTp rfl (by decide) base v _ l.length 1 _ _ hs hx (h.grow g1) hlit (fun y hy => by simp at hy; subst hy; rfl) (by omega) (by unfold maxLen; omega) (Nat.le_trans hb g1.size) ?_
  intro v5 w5 ho5 hg5 _
  obtain ⟨h1, h2⟩ := h.app hb ho5 hg5
  exact hK v5 w5 h1 h2
set_option maxHeartbeats 2000000 in
theorem empty_walk (w : World) (base wb k : Nat) (l met : List Tm) (v : Value) (cs : Array Value) (hB : w.heap[wb]? = some (.cells cs 68 (0, 0))) (hk : cs[k]? = some (lk l.head?)) (hk1 : k + 1 < cs.size) (hc : Chn w l) (hm : Trow w base v met) (hb : base ≤ w.heap.size) (hn : met.length + l.length ≤ 1000000) :
    Calls Tryd.prog 38 #[.pointer (some ⟨wb, k, none⟩), v] w fun e w' => ∃ v' w1, e = .returned v' ∧ Trow w1 base v' (met ++ l) ∧ Only base Zr w w1 ∧ w' = (w1.setCell ⟨wb, k, none⟩ (.pointer none)).setCell ⟨wb, k + 1, none⟩ (.pointer none) := by
  have a0 : w.cell? ⟨wb, k, none⟩ = some (lk l[0]?) := by
    rw [← List.head?_eq_getElem?]
    exact (cell_of_row w wb k cs _ _ hB).trans hk
  have H : Hid (∀ (i : Nat) (u : Tm), l[i]? = some u → ∀ w1, Only base Zr w w1 → w1.cell? ⟨u.blk, 3, none⟩ = some (lk l[i + 1]?)) := by
    intro i u hu w1 o1
    have h1 := o1.cells (hc i u hu) (fun e => absurd (show 70 = 60 from e) (by decide))
    exact (cell_of_row w1 u.blk 3 _ _ _ h1).trans rfl
  have HB : Hid (∀ w1, Only base Zr w w1 → w1.cell? ⟨wb, k, none⟩ = some (lk l.head?) ∧ w1.frozen? ⟨wb, k, none⟩ = false ∧ (w1.setCell ⟨wb, k, none⟩ (.pointer none)).frozen? ⟨wb, k + 1, none⟩ = false ∧ ∃ z, (w1.setCell ⟨wb, k, none⟩ (.pointer none)).cell? ⟨wb, k + 1, none⟩ = some z) := by
    intro w1 o1
    have h1 := o1.cells hB (fun e => absurd (show 68 = 60 from e) (by decide))
    have h2 := heap_setCell_own (k := k) h1 (.pointer none)
    refine ⟨(cell_of_row w1 wb k cs _ _ h1).trans hk, frozen_of h1, frozen_of h2, cs[k + 1], (cell_of_row _ wb (k + 1) _ _ _ h2).trans ?_⟩
    rw [Array.getElem?_setIfInBounds_ne (by omega)]
    exact Array.getElem?_eq_getElem hk1
  have H0 := Lib.hid (And.intro hm hb)
  obtain ⟨A0, c0, rfl⟩ := hm.form
  clear hc hB hk hk1 hm hb
  go_enter Tryd.func38, Tryd.ntmps38
  go_wp2_with fail
  go_loopg [1, 5] l.length (fun g s1 s5 wr => ∃ i : Nat, i ≤ l.length ∧ g = l.length - i ∧ s5 = lk l[i]? ∧ Hid (Trow wr base s1 (met ++ l.take i) ∧ Only base Zr w wr ∧ base ≤ wr.heap.size))
  case atStart => exact ⟨0, Nat.zero_le _, rfl, rfl, by rw [List.take_zero, List.append_nil]; exact H0.out.1, Only.refl _ _ _, H0.out.2⟩
  case round =>
    obtain ⟨i, hi, rfl, hs5, HR⟩ := hrel
    rcases Nat.lt_or_ge i l.length with hlt | hge
    · obtain ⟨u, hu⟩ : ∃ u, l[i]? = some u := ⟨_, List.getElem?_eq_getElem hlt⟩
      have HU := Lib.hid hu
      rw [hu] at hs5
      simp only [lk] at hs5
      subst hs5
      clear hu
      have hlen : (met ++ l.take i).length ≤ 1000000 := by rw [List.length_append, List.length_take]; omega
      obtain ⟨A1, c1, e1⟩ := HR.out.1.form
      have HE := Lib.hid hlen
      clear hlen
      generalize (met ++ l.take i).length = n1 at e1
      subst e1
      go_wp2_with (at_builtin; refine run_tapp wr base (.slice A1 n1 c1) (met ++ l.take i) u HR.out.1 HR.out.2.2 HE.out rfl (.tmp 16) (.tmp 18) rfl rfl rfl ?_; intro v5 w5 hr5 o5; have b5 := H.out i u HU.out w5 (HR.out.2.1.trans o5); have H5 := Lib.hid (And.intro hr5 o5); clear hr5 o5)
      go_roundg (l.length - (i + 1))
      case measure => omega
      case rel =>
        refine ⟨i + 1, by omega, rfl, rfl, ?_, HR.out.2.1.trans H5.out.2, Nat.le_trans HR.out.2.2 H5.out.2.size⟩
        rw [List.take_add_one, HU.out, ← List.append_assoc]
        exact H5.out.1
    · obtain rfl : i = l.length := by omega
      have e5 : lk l[l.length]? = .pointer none := by rw [List.getElem?_eq_none (Nat.le_refl _)]; rfl
      rw [e5] at hs5
      subst hs5
      clear e5
      rw [List.take_length] at HR
      obtain ⟨d0, d1, d2, z, d3⟩ := HB.out wr HR.out.2.1
      clear a0
      go_wp2_with fail
      go_ret
      exact ⟨_, wr, rfl, HR.out.1, HR.out.2.1, rfl⟩
/-- The wheel's block and rows of timers; no timer. -/
def Ze (b : Nat) (T : TypeId) : Prop := T = 68 ∨ T = 60
theorem Trow.only {w w' : World} {base : Nat} {v : Value} {l : List Tm} {Z : Nat → TypeId → Prop} (h : Trow w base v l) (o : Only base Z w w') (hz : ∀ b, ¬ Z b 60) : Trow w' base v l := o.row h fun g _ => hz g
theorem sempty_any (w : World) (base wb mb now : Nat) (C : Nat → Nat → List Tm) (U : Nat → Nat) (h : Whl w base wb mb now C U) (no s : Nat) (hno : no < 7) (hs : s < 64) (met : List Tm) (v : Value) (hm : Trow w base v met) (hn : met.length + (C no s).length ≤ 1000000) :
    Calls Tryd.prog 38 #[.pointer (some ⟨wb, so no s, none⟩), v] w fun e w' => ∃ v', e = .returned v' ∧ Trow w' base v' (met ++ C no s) ∧ Whl w' base wb mb now (upd C no s []) U ∧ Only base Ze w w' := by
  obtain ⟨cs, hB, hC⟩ := h.blk
  have hk1 : so no s + 1 < cs.size := by rw [hC.size]; unfold so; omega
  refine (empty_walk w base wb (so no s) (C no s) met v cs hB (hC.fst no s hno hs) hk1 (h.chn no s hno hs) hm h.bas hn).mono ?_
  rintro e w' ⟨v', w1, rfl, hr, o1, rfl⟩
  have hB1 : w1.heap[wb]? = some (.cells cs 68 (0, 0)) := o1.cells hB (fun e => absurd (show 68 = 60 from e) (by decide))
  have hB2 := heap_setCell_own (k := so no s) hB1 (.pointer none)
  have hB3 := heap_setCell_own (k := so no s + 1) hB2 (.pointer none)
  have o2 : Only base (fun b T => T = 68) w1 (w1.setCell ⟨wb, so no s, none⟩ (.pointer none)) := Only.set hB1 h.low rfl _
  have o3 := o2.trans (Only.set (Z := fun b T => T = 68) hB2 h.low rfl (i := so no s + 1) (.pointer none))
  have oE : Only base Ze w _ := (o1.mono (Y := Ze) fun _ _ _ _ _ e => .inr e).trans (o3.mono fun _ _ _ _ _ e => .inl e)
  refine ⟨v', rfl, hr.only o3 (fun b e => absurd e (by decide)), ?_, oE⟩
  refine h.slot hno hs hB3 (hC.slot hno hs (by simp) ?_ ?_ ?_) Chn.nil ?_ (by simp) (by simp) (by simp)
  · intro i h1 h2
    simp [Ne.symm h1, Ne.symm h2]
  · simp [lk, show so no s < cs.size from by omega]
  · simp [lk, hk1]
  · intro n m hn' hm' _ x hx
    obtain ⟨i, hi⟩ := List.getElem?_of_mem hx
    have hx1 := h.chn n m hn' hm' i x hi
    exact (oE.cells hx1 (fun e => by rcases e with e | e <;> exact absurd e (by decide))).trans hx1.symm
end Go.Proofs.YtnoglbceaibjeaaDoor
/- Contract: ids: the numbers of the timers of a row. -/
namespace Go.Proofs.YtnoglbceaibjeaaDoor
set_option linter.unusedVariables false
set_option linter.unusedSimpArgs false
open Go.ChangeShapes Go.WideShapes Go.ChangeAt Go.RowKit

theorem infoIn : (Tryd.prog.info? 3).map (fun i => (i.zero, i.size, i.bytes)) = some (some (.int .i64 0), 1, 8) := by kernel_rfl
def idV (t : Tm) : Value := .int .i64 t.id
/-- A row of numbers of the call's own. -/
def Irow (w : World) (base : Nat) (v : Value) (l : List Tm) : Prop := w.ownsRow base 3 1 v l.length (l.map idV)
def Zi (b : Nat) (T : TypeId) : Prop := T = 3
theorem Irow.grow {w w' : World} {base : Nat} {v : Value} {l : List Tm} (h : Irow w base v l) (g : Grow w w') : Irow w' base v l := ownsRow_other h fun b cs _ hh => g.block b (Array.getElem?_eq_some_iff.1 hh).1
theorem Irow.app {w w5 : World} {base : Nat} {v v5 : Value} {l : List Tm} {t : Tm} (h : Irow w base v l) (hb : base ≤ w.heap.size) (ho : w5.ownsRow base 3 1 v5 (l.length + 1) (l.map idV ++ [idV t])) (hg : (w.alloc (.cells #[idV t] 3)).grownBy w5 v.ownBlock) :
    Irow w5 base v5 (l ++ [t]) ∧ Only base Zi w w5 := by
  refine ⟨?_, ?_⟩
  · unfold Irow
    rw [List.length_append, List.map_append]
    exact ho
  · have g1 : Grow w (w.alloc (.cells #[idV t] 3)) := Grow.alloc _ _
    refine (Only.grow g1 hb Zi).trans (Only.grown hg (fun b e => ?_) (Nat.le_trans hb g1.size))
    obtain ⟨cs, h1, h2⟩ := ownsRow_blk (h.grow g1) e
    exact ⟨h2, fun o T ho' hT => by rw [h1] at ho'; cases ho'; cases hT; rfl⟩
theorem Irow.form {w : World} {base : Nat} {v : Value} {l : List Tm} (h : Irow w base v l) : ∃ A c, v = .slice A l.length c := by
  obtain ⟨A, c, e, _⟩ := (RdK.of_own h).form
  exact ⟨A, c, e⟩
theorem run_iapp (w : World) (base : Nat) (v : Value) (l : List Tm) (t : Tm) (h : Irow w base v l) (hb : base ≤ w.heap.size) (hl : l.length ≤ 1000000) {ops : Array Oper} {rest : List Oper} {o : Oper} {a : Act} {Q : Exit → Act → World → Prop} (hgd : o.guard = none) (s x : Operand)
    (ho : o.op = .call { callee := .builtin .append, args := #[s, x], argTypes := #[38, 38] }) (hs : a.eval s = v) (hx : a.eval x = .slice (some ⟨w.heap.size, 0, none⟩) 1 1)
    (hK : ∀ v5 w5, Irow w5 base v5 (l ++ [t]) → Only base Zi w w5 → wpList Tryd.prog ops Q rest (a.put o.dst v5) w5) : wpList Tryd.prog ops Q (o :: rest) a (w.alloc (.cells #[.int .i64 t.id] 3)) := by
  have g1 : Grow w (w.alloc (.cells #[idV t] 3)) := Grow.alloc _ _
  have hlit : RdK (w.alloc (.cells #[idV t] 3)) 1 (.slice (some ⟨w.heap.size, 0, none⟩) 1 1) 1 [idV t] := RdK.of_own (World.ownsRow_lit (base := w.heap.size) (e := 3) (size := 1) w #[idV t] 1 (Nat.le_refl _) (by decide) rfl)
  refine wpList_appK _ hgd s x 38 ho 3 _ 1 8 Tryd.underlying38 infoIn rfl (by decide) base v _ l.length 1 _ _ hs hx (h.grow g1) hlit (fun y hy => by simp at hy; subst hy; rfl) (by omega) (by unfold maxLen; omega) (Nat.le_trans hb g1.size) ?_
  intro v5 w5 ho5 hg5 _
  obtain ⟨h1, h2⟩ := h.app hb ho5 hg5
  exact hK v5 w5 h1 h2
set_option maxHeartbeats 1000000 in
theorem ids_nil (w : World) (A : Option Addr) (c : Nat) : Calls Tryd.prog 30 #[.slice A 0 c] w fun e w' => e = .returned (.slice none 0 0) ∧ w' = w := by
  go_enter Tryd.func30, Tryd.ntmps30
  go_wp2_with fail
  go_loopg [3, 8] 0 (fun g s3 s8 wr => s3 = .slice none 0 0 ∧ s8 = .int .i64 0 ∧ wr = w ∧ g = 0)
  case atStart => exact ⟨rfl, rfl, rfl, rfl⟩
  case round =>
    obtain ⟨rfl, rfl, rfl, rfl⟩ := hrel
    go_wp2_with fail
    go_ret
    exact ⟨rfl, rfl⟩
set_option maxHeartbeats 2000000 in
theorem ids_any (w : World) (base b0 : Nat) (v : Value) (l : List Tm) (hv : Trow w base v l) (hb0 : b0 ≤ w.heap.size) (hT : ∀ t ∈ l, ∃ x y, w.heap[t.blk]? = some (.cells (tmC t x y) 70 (0, 0))) (hn : l.length ≤ 1000000) :
    Calls Tryd.prog 30 #[v] w fun e w' => ∃ v', e = .returned v' ∧ Irow w' b0 v' l ∧ Only b0 Zi w w' := by
  rcases Nat.eq_zero_or_pos l.length with h0 | h0
  · obtain ⟨A, c, rfl⟩ := hv.form
    rw [h0]
    refine (ids_nil w A c).mono ?_
    rintro e w' ⟨rfl, rfl⟩
    obtain rfl : l = [] := List.eq_nil_of_length_eq_zero h0
    exact ⟨_, rfl, ⟨rfl, .inl ⟨rfl, rfl⟩⟩, Only.refl _ _ _⟩
  · obtain ⟨A, c, rfl, hlen, hnc, hcm, hcell⟩ := RdK.of_own hv
    obtain ⟨b, off, rfl, hlt, hcl⟩ := hcell h0
    have hz : ∀ T, T ≠ 3 → ∀ b, ¬ Zi b T := fun T hT b e => hT e
    have hvb : (Value.slice (some ⟨b, off, none⟩) l.length c).ownBlock = some b := rfl
    obtain ⟨cs, hbb, _⟩ := ownsRow_blk hv hvb
    have HC : Hid (∀ (i : Nat) (u : Tm), l[i]? = some u → ∀ w1, Only b0 Zi w w1 → w1.cell? ⟨b, off + i, none⟩ = some (.pointer (some ⟨u.blk, 0, none⟩)) ∧ w1.cell? ⟨u.blk, 0, none⟩ = some (.int .i64 u.id)) := by
      intro i u hu w1 o1
      obtain ⟨x, y, h1⟩ := hT u (List.mem_of_getElem? hu)
      have h2 := o1.cells h1 (hz _ (by decide) _)
      have h3 := o1.cells hbb (hz _ (by decide) _)
      refine ⟨?_, (cell_of_row w1 u.blk 0 _ _ _ h2).trans rfl⟩
      have h4 := hcl i (tpV u) (by rw [List.getElem?_map, hu]; rfl)
      rw [cell_of_row w b (off + i) _ _ _ hbb] at h4
      exact (cell_of_row w1 b (off + i) _ _ _ h3).trans h4
    have H0 := Lib.hid hb0
    clear hv hT hlen hnc hcm hcell hlt hcl hz hvb hbb hb0
    go_enter Tryd.func30, Tryd.ntmps30
    go_wp2_with fail
    go_loopg [3, 8] l.length (fun g s3 s8 wr => ∃ i : Nat, i ≤ l.length ∧ g = l.length - i ∧ s8 = .int .i64 (i : Int) ∧ Hid (Irow wr b0 s3 (l.take i) ∧ Only b0 Zi w wr ∧ b0 ≤ wr.heap.size))
    case atStart => exact ⟨0, Nat.zero_le _, rfl, rfl, ⟨rfl, .inl ⟨rfl, rfl⟩⟩, Only.refl _ _ _, H0.out⟩
    case round =>
      obtain ⟨i, hi, rfl, rfl, HR⟩ := hrel
      rcases Nat.lt_or_ge i l.length with hlt | hge
      · obtain ⟨u, hu⟩ : ∃ u, l[i]? = some u := ⟨_, List.getElem?_eq_getElem hlt⟩
        obtain ⟨d0, d1⟩ := HC.out i u hu wr HR.out.2.1
        have HU := Lib.hid hu
        have hd : decide ((i : Int) < (l.length : Int)) = true := decide_eq_true (by omega)
        have hlen : (l.take i).length ≤ 1000000 := by rw [List.length_take]; omega
        obtain ⟨A1, c1, e1⟩ := HR.out.1.form
        have HE := Lib.hid hlen
        clear hlen hu
        generalize (l.take i).length = n1 at e1
        subst e1
        go_wp2_with (at_builtin; refine run_iapp wr b0 (.slice A1 n1 c1) (l.take i) u HR.out.1 HR.out.2.2 HE.out rfl (.tmp 12) (.tmp 17) rfl rfl rfl ?_; intro v5 w5 hr5 o5; have H5 := Lib.hid (And.intro hr5 o5); clear hr5 o5)
        go_roundg (l.length - (i + 1))
        case measure => omega
        case rel =>
          refine ⟨i + 1, by omega, rfl, by go_num, ?_, HR.out.2.1.trans H5.out.2, Nat.le_trans HR.out.2.2 H5.out.2.size⟩
          rw [List.take_add_one, HU.out]
          exact H5.out.1
      · obtain rfl : i = l.length := by omega
        rw [List.take_length] at HR
        go_wp2_with fail
        go_ret
        exact ⟨_, rfl, HR.out.1, HR.out.2.1⟩
end Go.Proofs.YtnoglbceaibjeaaDoor
/- Contract: byTick. -/
namespace Go.Proofs.YtnoglbceaibjeaaDoor
set_option linter.unusedVariables false
set_option linter.unusedSimpArgs false
open Go.ChangeShapes Go.WideShapes Go.ChangeAt Go.RowKit Go.Shelf
attribute [local irreducible] wpQuiet

set_option maxHeartbeats 1000000 in
theorem byTick_any (w : World) (a b : Tm) (ha : w.cell? ⟨a.blk, 1, none⟩ = some (.int .i64 (a.tk : Int))) (hb : w.cell? ⟨b.blk, 1, none⟩ = some (.int .i64 (b.tk : Int))) (la : a.blk < w.heap.size) (lb : b.blk < w.heap.size) :
    Calls Tryd.prog 29 #[.pointer (some ⟨a.blk, 0, none⟩), .pointer (some ⟨b.blk, 0, none⟩)] w fun e w' => e = .returned (.int .i64 (Lib.compareInt (a.tk : Int) (b.tk : Int))) ∧ Grow w w' := by
  have cS : ∀ p : Gw w, Calls Tryd.prog 40 #[.int .i64 (a.tk : Int), .int .i64 (b.tk : Int)] p.v fun e w' => e = .returned (.int .i64 (Lib.compareInt (a.tk : Int) (b.tk : Int))) ∧ ∃ q : Gw w, w' = q.v := fun p =>
    (Tryd.cmp_Compare_int _ _ p.v).mono fun e w' h => ⟨h.1, p, h.2⟩
  have e0 := fun p : Gw w => Gw.cell la ha p
  have e1 := fun p : Gw w => Gw.cell lb hb p
  clear ha hb la lb
  go_enter Tryd.func29, Tryd.ntmps29
  go_wp2_with fail
  refine wp_region_gw (by kernel_rfl) (by kernel_rfl) ?_
  repeat (quiet_step ((go_at_call 40; exact cS _)))
  refine wpQuiet_nil ?_
  intro _ hw'
  obtain ⟨⟨wq, hgq⟩, hw2⟩ := hw'
  subst hw2
  go_wp2_with fail
  go_ret
  exact ⟨rfl, hgq⟩
end Go.Proofs.YtnoglbceaibjeaaDoor
/- Contract: the reference's Same. -/
namespace Go.Proofs.YtnoglbceaibjeaaDoor
set_option linter.unusedVariables false
set_option linter.unusedSimpArgs false
open Go.ChangeShapes Go.WideShapes Go.ChangeAt Go.RowKit Go.Shelf

def inV (x : Int) : Value := .int .i64 x
def RdI (w : World) (v : Value) (xs : List Int) : Prop := RdK w 1 v xs.length (xs.map inV)
set_option maxHeartbeats 1000000 in
theorem wSame_len (w : World) (A B : Option Addr) (n m c d : Nat) (h : n ≠ m) : Calls Tryd.prog 17 #[.slice A n c, .slice B m d] w fun e w' => e = .returned (.bool false) ∧ w' = w := by
  have i0 : ¬ ((n : Int) = (m : Int)) := by omega
  clear h
  go_enter Tryd.func17, Tryd.ntmps17
  go_wp2_with fail
  go_ret
  exact ⟨rfl, rfl⟩
set_option maxHeartbeats 1000000 in
theorem wSame_zero (w : World) (A B : Option Addr) (c d : Nat) : Calls Tryd.prog 17 #[.slice A 0 c, .slice B 0 d] w fun e w' => e = .returned (.bool true) ∧ w' = w := by
  go_enter Tryd.func17, Tryd.ntmps17
  go_wp2_with fail
  go_loopg [5] 0 (fun g s5 wr => s5 = .int .i64 0 ∧ wr = w ∧ g = 0)
  case atStart => exact ⟨rfl, rfl, rfl⟩
  case round =>
    obtain ⟨rfl, rfl, rfl⟩ := hrel
    go_wp2_with fail
    go_ret
    exact ⟨rfl, rfl⟩
set_option maxHeartbeats 2000000 in
theorem wSame_walk (w : World) (a b oa ob c d n : Nat) (xs ys : List Int) (hx : xs.length = n) (hy : ys.length = n) (hn : n ≤ 1000000) (la : a < w.heap.size) (lb : b < w.heap.size)
    (ha : ∀ (i : Nat) (x : Int), xs[i]? = some x → w.cell? ⟨a, oa + i, none⟩ = some (.int .i64 x)) (hb : ∀ (i : Nat) (y : Int), ys[i]? = some y → w.cell? ⟨b, ob + i, none⟩ = some (.int .i64 y)) :
    Calls Tryd.prog 17 #[.slice (some ⟨a, oa, none⟩) n c, .slice (some ⟨b, ob, none⟩) n d] w fun e w' => e = .returned (.bool (decide (xs = ys))) ∧ Grow w w' := by
  have HF : Hid ((∀ (i : Nat) (x : Int), xs[i]? = some x → ∀ w1, Grow w w1 → w1.cell? ⟨a, oa + i, none⟩ = some (.int .i64 x)) ∧ (∀ (i : Nat) (y : Int), ys[i]? = some y → ∀ w1, Grow w w1 → w1.cell? ⟨b, ob + i, none⟩ = some (.int .i64 y))) :=
    ⟨fun i x h w1 g => (g.cell la).trans (ha i x h), fun i y h w1 g => (g.cell lb).trans (hb i y h)⟩
  have HL := Lib.hid (And.intro hx hy)
  have HD : Hid ((xs.take n = ys.take n → decide (xs = ys) = true) ∧ ∀ (i : Nat) (x y : Int), xs[i]? = some x → ys[i]? = some y → x ≠ y → decide (xs = ys) = false) := by
    refine ⟨fun h => ?_, fun i x y h1 h2 hne => ?_⟩
    · rw [List.take_of_length_le (by omega), List.take_of_length_le (by omega)] at h
      exact decide_eq_true h
    · refine decide_eq_false fun e => ?_
      subst e
      rw [h1] at h2
      exact hne (Option.some.inj h2)
  generalize decide (xs = ys) = R at *
  clear ha hb la lb hx hy
  go_enter Tryd.func17, Tryd.ntmps17
  go_wp2_with fail
  go_loopg [5] n (fun g s5 wr => ∃ k : Nat, k ≤ n ∧ g = n - k ∧ s5 = .int .i64 (k : Int) ∧ Hid (xs.take k = ys.take k) ∧ Grow w wr)
  case atStart => exact ⟨0, Nat.zero_le _, rfl, rfl, rfl, Grow.refl _⟩
  case round =>
    obtain ⟨k, hk, rfl, rfl, HE, hgr⟩ := hrel
    have G1 := Lib.hid hgr
    clear hgr
    rcases Nat.lt_or_ge k n with hlt | hge
    · obtain ⟨x, hx⟩ : ∃ x, xs[k]? = some x := ⟨_, List.getElem?_eq_getElem (by have := HL.out.1; omega)⟩
      obtain ⟨y, hy⟩ : ∃ y, ys[k]? = some y := ⟨_, List.getElem?_eq_getElem (by have := HL.out.2; omega)⟩
      have c0 := HF.out.1 k x hx wr G1.out
      have c1 := HF.out.2 k y hy wr G1.out
      have i0 : (k : Int) < (n : Int) := by omega
      have HX := Lib.hid (And.intro hx hy)
      clear hx hy
      by_cases e : x = y
      · subst e
        go_wp2_with fail
        go_quiet (fail)
        go_wp2_with fail
        go_roundg (n - (k + 1))
        case measure => omega
        case rel =>
          refine ⟨k + 1, by omega, rfl, by go_num, ?_, G1.out.trans ⟨rfl, rfl, rfl, Nat.le_refl _, fun _ _ => rfl⟩⟩
          show xs.take (k + 1) = ys.take (k + 1)
          rw [List.take_add_one, List.take_add_one, HX.out.1, HX.out.2, HE.out]
      · have HR := Lib.hid (HD.out.2 k x y HX.out.1 HX.out.2 e)
        go_wp2_with fail
        go_quiet (fail)
        go_wp2_with fail
        go_ret
        exact ⟨by rw [HR.out]; rfl, G1.out.trans ⟨rfl, rfl, rfl, Nat.le_refl _, fun _ _ => rfl⟩⟩
    · obtain rfl : k = n := by omega
      have HR := Lib.hid (HD.out.1 HE.out)
      go_wp2_with fail
      go_ret
      exact ⟨by rw [HR.out]; rfl, G1.out⟩
theorem wSame_any (w : World) (u v : Value) (xs ys : List Int) (hu : RdI w u xs) (hv : RdI w v ys) (hx : xs.length ≤ 1000000) : Calls Tryd.prog 17 #[u, v] w fun e w' => e = .returned (.bool (decide (xs = ys))) ∧ Grow w w' := by
  obtain ⟨A, c, rfl, h1, h2, h3, h4⟩ := hu
  obtain ⟨B, d, rfl, k1, k2, k3, k4⟩ := hv
  by_cases hl : xs.length = ys.length
  · rcases Nat.eq_zero_or_pos xs.length with h0 | h0
    · have e1 : xs = [] := List.eq_nil_of_length_eq_zero h0
      have e2 : ys = [] := List.eq_nil_of_length_eq_zero (by omega)
      subst e1 e2
      refine (wSame_zero w A B c d).mono ?_
      rintro e w' ⟨rfl, rfl⟩
      exact ⟨rfl, Grow.refl _⟩
    · obtain ⟨a, oa, rfl, la, ca⟩ := h4 h0
      obtain ⟨b, ob, rfl, lb, cb⟩ := k4 (by omega)
      rw [← hl]
      exact wSame_walk w a b oa ob c d xs.length xs ys rfl hl.symm hx la lb (fun i x h => ca i (inV x) (by rw [List.getElem?_map, h]; rfl)) (fun i x h => cb i (inV x) (by rw [List.getElem?_map, h]; rfl))
  · refine (wSame_len w A B xs.length ys.length c d hl).mono ?_
    rintro e w' ⟨rfl, rfl⟩
    exact ⟨by rw [decide_eq_false fun e => hl (by rw [e])], Grow.refl _⟩
end Go.Proofs.YtnoglbceaibjeaaDoor
/- The lowest bit of a number: told, taken off. -/
namespace Go.Proofs.YtnoglbceaibjeaaDoor
set_option linter.unusedVariables false
set_option linter.unusedSimpArgs false
open Go.ChangeShapes Go.WideShapes Go.ChangeAt Go.RowKit Go.Shelf

def low (x : Nat) : Nat := Lib.ctz 64 x
theorem low_form {x : Nat} (h0 : x ≠ 0) (hx : x < 2 ^ 64) : ∃ m, x = 2 ^ low x * (2 * m + 1) ∧ low x < 64 := by
  unfold low Lib.ctz
  rw [if_neg h0]
  exact Lib.ctzFrom_spec 64 x (by omega) hx
theorem odd_bit (m i : Nat) : (2 * m + 1).testBit i = if i = 0 then true else m.testBit (i - 1) := by
  cases i with
  | zero => simp
  | succ i =>
    rw [Nat.testBit_succ, if_neg (by omega), show (2 * m + 1) / 2 = m from by omega]
    rfl
theorem even_bit (m i : Nat) : (2 * m).testBit i = if i = 0 then false else m.testBit (i - 1) := by
  cases i with
  | zero => simp
  | succ i =>
    rw [Nat.testBit_succ, if_neg (by omega), show (2 * m) / 2 = m from by omega]
    rfl
theorem low_spec {x : Nat} (h0 : x ≠ 0) (hx : x < 2 ^ 64) : low x < 64 ∧ x.testBit (low x) = true ∧ ∀ i, i < low x → x.testBit i = false := by
  obtain ⟨m, hm, hl⟩ := low_form h0 hx
  generalize low x = c at *
  subst hm
  refine ⟨hl, ?_, fun i hi => ?_⟩
  · rw [Nat.testBit_two_pow_mul, Nat.sub_self, odd_bit]
    simp
  · rw [Nat.testBit_two_pow_mul, decide_eq_false (by omega)]
    rfl
theorem drop_low {x : Nat} (h0 : x ≠ 0) (hx : x < 2 ^ 64) (i : Nat) : (x &&& (x - 1)).testBit i = (x.testBit i && decide (i ≠ low x)) := by
  obtain ⟨m, hm, hl⟩ := low_form h0 hx
  generalize low x = c at *
  have hp : 0 < 2 ^ c := Nat.two_pow_pos c
  have e1 : x - 1 = 2 ^ c * (2 * m) + (2 ^ c - 1) := by
    rw [hm, Nat.mul_add, Nat.mul_one]
    omega
  rw [Nat.testBit_and, e1, Nat.testBit_two_pow_mul_add _ (by omega), hm, Nat.testBit_two_pow_mul]
  rcases Nat.lt_trichotomy i c with h | h | h
  · rw [decide_eq_false (by omega : ¬ i ≥ c)]
    simp
  · subst h
    rw [if_neg (by omega), Nat.sub_self, even_bit]
    simp
  · rw [if_neg (by omega), odd_bit, even_bit, if_neg (by omega), if_neg (by omega), decide_eq_true (by omega : i ≥ c), decide_eq_true (by omega : i ≠ c)]
    simp
theorem drop_lt {x : Nat} (hx : x < 2 ^ 64) : x &&& (x - 1) < 2 ^ 64 := Nat.and_lt_two_pow _ (by omega)
theorem tz_any (x : Nat) (hx : x < 18446744073709551616) (w : World) (hT : x ≠ 0 → TabAt 0 Lib.deBruijn64tab w) :
    Calls Tryd.prog 31 #[.int .u64 (x : Int)] w fun e w' => e = .returned (.int .i64 (low x : Int)) ∧ w' = w := Any7.bits_TrailingZeros64 Tryd.laysTz x hx w hT
end Go.Proofs.YtnoglbceaibjeaaDoor
/- The least tick of a wheel lies in its lowest used slot. -/
namespace Go.Proofs.YtnoglbceaibjeaaDoor
set_option linter.unusedVariables false
set_option linter.unusedSimpArgs false

theorem plc_order {now t t' no s s' : Nat} (h1 : now ≤ maxT) (ht : t ≤ maxT) (ht' : t' ≤ maxT) (hp : plc now t = (no, s)) (hp' : plc now t' = (no, s')) (h : s < s') : t < t' := by
  have d1 := plc_dif h1 ht
  have d2 := plc_dif h1 ht'
  have e1 := plc_two (now := now) (t := t)
  have e2 := plc_two (now := now) (t := t')
  rw [hp] at d1 e1
  rw [hp'] at d2 e2
  simp only at d1 d2 e1 e2
  have q1 := top_eq t no
  have q2 := top_eq t' no
  have q3 := d1.eq
  have q4 := d2.eq
  refine lt_of_top (d := no) ?_
  omega
theorem fold_le : ∀ (r : List Tm) (a : Nat), r.foldl (fun a u => min a u.tk) a ≤ a ∧ ∀ u ∈ r, r.foldl (fun a u => min a u.tk) a ≤ u.tk
  | [], a => ⟨Nat.le_refl _, fun u hu => by cases hu⟩
  | x :: r, a => by
    obtain ⟨h1, h2⟩ := fold_le r (min a x.tk)
    refine ⟨Nat.le_trans h1 (Nat.min_le_left _ _), fun u hu => ?_⟩
    rcases List.mem_cons.1 hu with rfl | hu
    · exact Nat.le_trans h1 (Nat.min_le_right _ _)
    · exact h2 u hu
theorem fold_mem : ∀ (r : List Tm) (a : Nat), r.foldl (fun a u => min a u.tk) a = a ∨ ∃ u ∈ r, u.tk = r.foldl (fun a u => min a u.tk) a
  | [], a => .inl rfl
  | x :: r, a => by
    rcases fold_mem r (min a x.tk) with h | ⟨u, hu, h⟩
    · rw [List.foldl_cons, h]
      rcases Nat.le_total a x.tk with h1 | h1
      · exact .inl (Nat.min_eq_left h1)
      · exact .inr ⟨x, by simp, (Nat.min_eq_right h1).symm⟩
    · exact .inr ⟨u, List.mem_cons_of_mem _ hu, h⟩
theorem lmin_le {l : List Tm} : ∀ u ∈ l, lmin l ≤ u.tk := by
  cases l with
  | nil => intro u hu; cases hu
  | cons t r =>
    intro u hu
    rcases List.mem_cons.1 hu with rfl | hu
    · exact (fold_le r u.tk).1
    · exact (fold_le r t.tk).2 u hu
theorem lmin_mem {l : List Tm} (h : l ≠ []) : ∃ u ∈ l, u.tk = lmin l := by
  cases l with
  | nil => exact absurd rfl h
  | cons t r =>
    rcases fold_mem r t.tk with h | ⟨u, hu, h⟩
    · exact ⟨t, by simp, h.symm⟩
    · exact ⟨u, List.mem_cons_of_mem _ hu, h⟩
/-- The wheel no, where one of its bits is set: the least tick of its timers. -/
theorem wheel_least {w : World} {base wb mb now : Nat} {L : List Tm} {U : Nat → Nat} (h : Wst w base wb mb now L U) {no : Nat} (hno : no < 7) (hU : U no ≠ 0) :
    low (U no) < 64 ∧ chn now L no (low (U no)) ≠ [] ∧ ∀ u ∈ L, (plc now u.tk).1 = no → lmin (chn now L no (low (U no))) ≤ u.tk := by
  obtain ⟨h1, h2, h3⟩ := low_spec hU (h.uLt no hno)
  have hne := (h.uBit no _ hno h1).1 h2
  refine ⟨h1, hne, fun u hu hp => ?_⟩
  have hlt := (plc_lt h.nowM (h.tks u hu)).2
  have hin := h.inChn hu
  rw [hp] at hin
  rcases Nat.lt_trichotomy (plc now u.tk).2 (low (U no)) with a | a | a
  · have := h3 _ a
    have h4 := (h.uBit no _ hno hlt).2 (List.ne_nil_of_mem hin)
    rw [this] at h4
    cases h4
  · rw [a] at hin
    exact lmin_le u hin
  · obtain ⟨x, hx, hxe⟩ := lmin_mem hne
    obtain ⟨hx1, hx2⟩ := List.mem_filter.1 hx
    have := plc_order h.nowM (h.tks x hx1) (h.tks u hu) (of_decide_eq_true hx2) (show plc now u.tk = (no, (plc now u.tk).2) from by rw [← hp]) a
    omega
/-- No bit of the wheel no is set: it has no timers. -/
theorem wheel_none {w : World} {base wb mb now : Nat} {L : List Tm} {U : Nat → Nat} (h : Wst w base wb mb now L U) {no : Nat} (hno : no < 7) (hU : U no = 0) : ∀ u ∈ L, (plc now u.tk).1 ≠ no := by
  intro u hu hp
  have hlt := (plc_lt h.nowM (h.tks u hu)).2
  have hin := h.inChn hu
  rw [hp] at hin
  have h4 := (h.uBit no _ hno hlt).2 (List.ne_nil_of_mem hin)
  rw [hU, Nat.zero_testBit] at h4
  cases h4
end Go.Proofs.YtnoglbceaibjeaaDoor
