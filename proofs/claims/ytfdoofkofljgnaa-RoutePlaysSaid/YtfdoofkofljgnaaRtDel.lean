/- Contracts: slices.Delete on routes. -/
import Derived.Test.YtfdoofkofljgnaaRtSearch
import Derived.Laws.CopyRow
import Derived.Laws.Tables
namespace Go.Proofs.Ytfdoofkofljgnaa
set_option linter.unusedVariables false
set_option linter.unusedSimpArgs false
open Go.ChangeShapes Go.WideShapes Go.ChangeAt Go.RowKit Go.Shelf

theorem zero5 : (Builtin.zeroCells (Value.agg #[.int .u32 0, .int .i64 0, .int .u32 0, .int .i64 0, .int .i64 0]).cells 1).toList = [.int .u32 0, .int .i64 0, .int .u32 0, .int .i64 0, .int .i64 0] := by kernel_rfl

/-- clear of the one element behind a row's last. -/
theorem run_clear5 {P : Program} (w : World) (t e ty : TypeId) (ht : P.underlying t = some (.slice e)) (hv : ∀ w, (zeroValue e).run P w = .ok (.agg #[.int .u32 0, .int .i64 0, .int .u32 0, .int .i64 0, .int .i64 0]) w)
    (base g cap c : Nat) (l : List Rt) (h : Orow e w base (.slice (some ⟨g, 0, none⟩) l.length cap) l) (hroom : l.length + 1 ≤ cap) :
    ∃ w', (Builtin.clear_ #[t] ty #[.slice (some ⟨g, l.length * 5, none⟩) 1 c]).run P w = .ok (.tuple #[]) w' ∧ Orow e w' base (.slice (some ⟨g, 0, none⟩) l.length cap) l ∧ w.grownBy w' (some g) := by
  rcases h.2 with ⟨h', _⟩ | ⟨g', cap', cur, h', hb, hg, hnc, hcm, hcs, htake⟩
  · cases h'
  · cases h'
    have hst := run_storeCells_at (P := P) g (l.length * 5) e [.int .u32 0, .int .i64 0, .int .u32 0, .int .i64 0, .int .i64 0] 0 cur w hg (by simp; omega) (by
      intro v hv
      simp at hv
      rcases hv with rfl | rfl | rfl | rfl <;> rfl)
    simp only [Nat.add_zero] at hst
    refine ⟨w.setRow g (cur.toList.take (l.length * 5) ++ ([.int .u32 0, .int .i64 0, .int .u32 0, .int .i64 0, .int .i64 0] : List Value) ++ cur.toList.drop (l.length * 5 + ([.int .u32 0, .int .i64 0, .int .u32 0, .int .i64 0, .int .i64 0] : List Value).length)).toArray, ?_, ⟨h.1, .inr ⟨g, cap, _, rfl, hb, setRow_heap w g cur _ e _ hg, hnc, hcm, ?_, ?_⟩⟩, ⟨rfl, rfl, rfl, by simp, fun k _ hk => setRow_other w g k _ (fun e => hk (by simp [e]))⟩⟩
    · simp only [Builtin.clear_, List.getElem?_toArray, List.getElem?_cons_zero, Sem.run_bind, run_underlying ht, Result.andThen_ok, hv, zero5, hst, Sem.run_pure]
    · simp only [List.size_toArray, List.length_append, List.length_take, List.length_drop, Array.length_toList, List.length_cons, List.length_nil]
      omega
    · have e1 : (cur.toList.take (l.length * 5)).length = l.length * 5 := by
        have hcl : cur.toList.length = cap * 5 := by rw [← hcs]; rfl
        rw [List.length_take, hcl]
        omega
      rw [List.append_assoc, List.take_append_of_le_length (by rw [e1]; exact Nat.le_refl _), List.take_take, Nat.min_self]
      exact htake

theorem Orow.front {w : World} {e : TypeId} {base g n cap i : Nat} {l : List Rt} (h : Orow e w base (.slice (some ⟨g, 0, none⟩) n cap) l) (hi : i ≤ l.length) : Orow e w base (.slice (some ⟨g, 0, none⟩) i cap) (l.take i) := by
  obtain ⟨h1, h2⟩ := h
  have hl : (l.take i).length = i := by rw [List.length_take]; omega
  refine ⟨by rw [cells5_length], ?_⟩
  rcases h2 with ⟨h', _⟩ | ⟨g', cap', cur, h', hb, hg, hnc, hcm, hcs, htake⟩
  · cases h'
  · injection h' with e1 e2 e3
    injection e1 with e1
    injection e1 with e1
    subst e1 e3
    refine .inr ⟨g, cap, cur, by rw [hl], hb, hg, by rw [hl]; omega, hcm, hcs, ?_⟩
    rw [hl, ← cells5_take, ← htake, List.take_take, Nat.min_eq_left (by omega)]
theorem Orow.len {w : World} {e : TypeId} {base n cap : Nat} {A : Option Addr} {l : List Rt} (h : Orow e w base (.slice A n cap) l) : n = l.length ∧ n ≤ cap ∧ cap ≤ maxLen := h.rts.len

theorem step_app5_fits {P : Program} (w : World) {ops : Array Oper} {o : Oper} {a : Act} {K : Act → World → Prop} {Q : Exit → Act → World → Prop} {E : Prop} (hgd : o.guard = none) (s x : Operand) (t e : TypeId)
    (ho : o.op = .call { callee := .builtin .append, args := #[s, x], argTypes := #[t, t] })
    (ht : P.underlying t = some (.slice e)) (hi : (P.info? e).map (fun i => (i.zero, i.size, i.bytes)) = some (some (.agg #[.int .u32 0, .int .i64 0, .int .u32 0, .int .i64 0, .int .i64 0]), 5, 40))
    (base g i cap : Nat) (A : Addr) (n c : Nat) (l m : List Rt) (hs : a.eval s = .slice (some ⟨g, 0, none⟩) i cap) (hx : a.eval x = .slice (some A) n c) (hown : Orow e w base (.slice (some ⟨g, 0, none⟩) i cap) l) (hr : Rts w (.slice (some A) n c) m) (hroom : i + n ≤ cap)
    (h : ∀ w', Orow e w' base (.slice (some ⟨g, 0, none⟩) (i + n) cap) (l ++ m) → w.grownBy w' (some g) → K (a.put o.dst (.slice (some ⟨g, 0, none⟩) (i + n) cap)) w') :
    if Region.wanted o (yielded ops a.tmps) = true then Oper.wp P o a w K Q else E := by
  have hw : Region.wanted o (yielded ops a.tmps) = true := by simp [Region.wanted, hgd]
  rw [if_pos hw]
  obtain ⟨j, hi0, hz0, hz1, hz2⟩ := info_parts hi
  have hil := hown.len.1
  have hnm := hr.len.1
  have hnews : ∀ j y, (cells5 m)[j]? = some y → w.cell? (A.add j) = some y := by
    intro j y hy
    have hj : 0 < n := by
      rcases Nat.eq_zero_or_pos m.length with h0 | h0
      · rw [List.eq_nil_of_length_eq_zero h0] at hy; simp [cells5] at hy
      · omega
    obtain ⟨b, off, e', _, hc⟩ := hr.raw hj
    injection e' with e'
    subst e'
    rw [add_at]
    exact hc j y hy
  obtain ⟨w', hrun, h2, h3⟩ := run_append_fits (P := P) w base t o.type e j 5 ht hi0 hz1 g i cap (cells5 l) (by rw [hil]; rw [hil] at hown; exact hown) A n c (cells5 m) (by rw [cells5_length, hnm]) hnews (cells5_one m) hroom
  unfold Oper.wp execOp
  simp only [ho, resolve, invoke, builtin, Sem.run_bind, Sem.run_pure, Result.andThen_ok, List.map_toArray, List.map_cons, List.map_nil, hs, hx, hrun]
  refine h w' ?_ h3
  unfold Orow
  rw [List.length_append, cells5_append, ← hil, ← hnm]
  exact h2
theorem Grown.trans {a b c : World} {row : Option Nat} (h : a.grownBy b row) (k : b.grownBy c row) : a.grownBy c row :=
  ⟨k.os.trans h.os, k.tape.trans h.tape, k.output.trans h.output, Nat.le_trans h.size k.size, fun i hi hne => (k.block i (Nat.lt_of_lt_of_le hi h.size) hne).trans (h.block i hi hne)⟩

set_option maxRecDepth 10000 in
set_option maxHeartbeats 2000000 in
theorem Delete_any (w : World) (base g cap i : Nat) (ws : List Rt) (h : Orow 72 w base (.slice (some ⟨g, 0, none⟩) ws.length cap) ws) (hi : i < ws.length) (hlen : ws.length ≤ 1000000) :
    Calls Try.prog 34 #[.slice (some ⟨g, 0, none⟩) ws.length cap, .int .i64 (i : Int), .int .i64 ((i : Int) + 1)] w fun e w' => e = .returned (.slice (some ⟨g, 0, none⟩) (ws.length - 1) cap) ∧
      Orow 72 w' base (.slice (some ⟨g, 0, none⟩) (ws.length - 1) cap) (ws.eraseIdx i) ∧ w.grownBy w' (some g) := by
  have hle := h.len
  have hR := h.rts
  have herase : ws.take i ++ ws.drop (i + 1) = ws.eraseIdx i := (List.eraseIdx_eq_take_drop_succ _ _).symm
  have hel : (ws.eraseIdx i).length = ws.length - 1 := List.length_eraseIdx_of_lt hi
  have hF : Hid (∀ w1, Grow w w1 → Orow 72 w1 base (.slice (some ⟨g, 0, none⟩) i cap) (ws.take i)) := fun w1 hg => (h.front (by omega)).grow hg
  have hcl : Hid (∀ w, (zeroValue 72).run Try.prog w = .ok (.agg #[.int .u32 0, .int .i64 0, .int .u32 0, .int .i64 0, .int .i64 0]) w) := Try.zeroValue72
  obtain ⟨A, hA, hS⟩ : ∃ A : Addr, (if cap = i + 1 then some (⟨g, 0, none⟩ : Addr) else some ⟨g, (i + 1) * 5, none⟩) = some A ∧ Hid (∀ w1, Grow w w1 → Rts w1 (.slice (some A) (ws.length - (i + 1)) (cap - (i + 1))) (ws.drop (i + 1))) := by
    by_cases hc : cap = i + 1
    · exact ⟨⟨g, 0, none⟩, by simp [hc], fun w1 hg => (hR.back0 (by omega) hc).grow hg⟩
    · refine ⟨⟨g, (i + 1) * 5, none⟩, by simp [hc], fun w1 hg => ?_⟩
      have := (hR.back (k := i + 1) (by omega) hc).grow hg
      simpa [add_at] using this
  have HE := Lib.hid (And.intro herase hel)
  have HL := Lib.hid h
  clear h hR herase hel
  generalize hN : ws.length = N at *
  have HN := Lib.hid hN
  clear hN
  have hmx : cap ≤ 9223372036854775807 := hle.2.2
  have q1 : ¬ N = i := by omega
  have q2 : (i : Int) ≤ (cap : Int) := by omega
  have q3 : ((i : Int) + 1) ≤ (N : Int) := by omega
  have q4 : ((i : Int) + 1) ≤ (cap : Int) := by omega
  have q5 : (N : Int) ≤ (cap : Int) := by omega
  have q6 : (((i : Int) + 1)).toNat = i + 1 := by omega
  go_enter Try.func34, Try.ntmps34
  go_wp2_with fail
  have q8 : (0 : Int) ≤ (i : Int) + 1 := by omega
  have q7 : i + (N - (i + 1)) = N - 1 := by omega
  have HQ := Lib.hid q7
  clear q7
  go_region_law (refine step_app5_fits _ rfl (.tmp 22) (.tmp 25) 59 72 rfl Try.underlying59 infoWay base g i cap A (N - (i + 1)) (cap - (i + 1)) _ _ (by simp [Act.eval, Act.put]) (by simp [Act.eval, Act.put]) (hF.out _ (Grow.drew _)) (hS.out _ (Grow.drew _)) (by omega) ?_; intro w1 ho1 hg1; rw [HQ.out, HE.out.1] at ho1; rw [HQ.out])
  obtain ⟨M, rfl⟩ : ∃ M, N = M + 1 := ⟨N - 1, by omega⟩
  rw [Nat.add_sub_cancel] at *
  have hEl := HE.out.2
  have r1 : ¬ cap = M := by omega
  have r2 : (M : Int) ≤ (cap : Int) := by omega
  have r3 : ((M + 1 : Nat) : Int) ≤ (cap : Int) := by omega
  have r4 : M + 1 - M = 1 := by omega
  have HW := Lib.hid (And.intro ho1 hg1)
  clear ho1 hg1
  obtain ⟨w2, hrun, ho2, hg2⟩ := run_clear5 (P := Try.prog) w1 59 72 0 Try.underlying59 hcl.out base g cap (cap - M) (ws.eraseIdx i) (by rw [hEl]; exact HW.out.1) (by rw [hEl]; omega)
  rw [hEl] at ho2 hrun
  have HX := Lib.hid (And.intro ho2 hg2)
  clear ho2 hg2
  go_wp2_with fail
  go_ret
  refine ⟨rfl, HX.out.1, Grown.trans ?_ (Grown.trans HW.out.2 HX.out.2)⟩
  exact ⟨rfl, rfl, rfl, Nat.le_refl _, fun _ _ _ => rfl⟩
end Go.Proofs.Ytfdoofkofljgnaa
