/- Contract: New of the program's pool. -/
import Derived.Test.YtkambcjinidomaaBpPv
namespace Go.Proofs.Ytkambcjinidomaa
set_option linter.unusedVariables false
set_option linter.unusedSimpArgs false
open Go.ChangeShapes Go.WideShapes Go.ChangeAt Go.RowKit

/-- The cells of an empty pool by value. -/
def pz : Array Value := ((List.replicate 16 [Value.map none, Value.slice none 0 0]).flatten).toArray
theorem run_pz (w : World) : (Instr.build 64 #[]).run Try.prog w = .ok (.agg pz) w := by kernel_rfl
theorem pz_at (k : Nat) (hk : k < 16) : pz[k * 2]? = some (.map none) ∧ pz[k * 2 + 1]? = some (.slice none 0 0) := by
  rcases (by omega : k = 0 ∨ k = 1 ∨ k = 2 ∨ k = 3 ∨ k = 4 ∨ k = 5 ∨ k = 6 ∨ k = 7 ∨ k = 8 ∨ k = 9 ∨ k = 10 ∨ k = 11 ∨ k = 12 ∨ k = 13 ∨ k = 14 ∨ k = 15) with rfl | rfl | rfl | rfl | rfl | rfl | rfl | rfl | rfl | rfl | rfl | rfl | rfl | rfl | rfl | rfl <;> exact ⟨rfl, rfl⟩
theorem run_bmm (w : World) : (Instr.makeMap 59 none).run Try.prog w = .ok (.map (some w.heap.size)) (w.alloc (.map #[] 0)) := by kernel_rfl
attribute [local irreducible] pz
theorem bm_new (w : World) : BM (w.alloc (.map #[] 0)) w.heap.size [] := ⟨[], ⟨#[], 0, heap_alloc_new w _, ⟨by simp, by simp, by simp⟩, rfl⟩, List.Perm.refl _, by simp⟩
/-- Where New stands: the first i maps are made. -/
structure NwAt (w wr : World) (pb i : Nat) (gs : Array Value) (m : Nat → Nat) : Prop where
  blk : wr.heap[pb]? = some (.cells gs 64 (0, 0))
  low : w.heap.size ≤ pb
  mc : ∀ k, k < i → gs[k * 2]? = some (.map (some (m k)))
  mz : ∀ k, k < 16 → ∃ u, gs[k * 2]? = some u
  vc : ∀ k, k < 16 → gs[k * 2 + 1]? = some (.slice none 0 0)
  mp : ∀ k, k < i → w.heap.size ≤ m k ∧ BM wr (m k) []
  ne : ∀ k j, k < i → j < i → k ≠ j → m k ≠ m j
  gr : Grow w wr
section
variable {w wr : World} {pb i : Nat} {gs : Array Value} {m : Nat → Nat}
theorem NwAt.store (h : NwAt w wr pb i gs m) (hi : i < 16) : ∃ u, (wr.alloc (.map #[] 0)).cell? ⟨pb, i * 2, none⟩ = some u ∧ (wr.alloc (.map #[] 0)).frozen? ⟨pb, i * 2, none⟩ = false ∧
    NwAt w ((wr.alloc (.map #[] 0)).setCell ⟨pb, i * 2, none⟩ (.map (some wr.heap.size))) pb (i + 1) (gs.setIfInBounds (i * 2) (.map (some wr.heap.size))) (fun j => if j = i then wr.heap.size else m j) := by
  have hlt := (Array.getElem?_eq_some_iff.1 h.blk).1
  have gA : Grow wr (wr.alloc (.map #[] 0)) := Grow.alloc _ _
  have hb := (gA.block pb hlt).trans h.blk
  obtain ⟨u, hu⟩ := h.mz i hi
  have hsz := (Array.getElem?_eq_some_iff.1 hu).1
  have hb1 := heap_setCell_own (k := i * 2) hb (.map (some wr.heap.size))
  have k1 : ∀ b, b ≠ pb → ((wr.alloc (.map #[] 0)).setCell ⟨pb, i * 2, none⟩ (.map (some wr.heap.size))).heap[b]? = (wr.alloc (.map #[] 0)).heap[b]? := fun b hb => Below.heap_setCell _ _ _ _ hb
  have mne : ∀ k, k < i → m k ≠ pb := fun k hk e => by
    obtain ⟨es, ck, e2⟩ := (h.mp k hk).2.blk
    rw [e, h.blk] at e2
    cases e2
  refine ⟨u, (cell_of_row _ pb (i * 2) gs _ _ hb).trans hu, frozen_of hb, hb1, h.low, fun k hk => ?_, fun k hk => ?_, fun k hk => ?_, fun k hk => ?_, fun k j hk hj hne => ?_, (h.gr.trans gA).setCell h.low _⟩
  · rw [Array.getElem?_setIfInBounds]
    by_cases e : k = i
    · subst e
      rw [if_pos rfl, if_pos hsz]
      show _ = some (Value.map (some (if k = k then wr.heap.size else m k)))
      rw [if_pos rfl]
    · rw [if_neg (by omega)]
      show _ = some (Value.map (some (if k = i then wr.heap.size else m k)))
      rw [if_neg e]
      exact h.mc k (by omega)
  · rw [Array.getElem?_setIfInBounds]
    by_cases e : k = i
    · subst e
      rw [if_pos rfl, if_pos hsz]
      exact ⟨_, rfl⟩
    · rw [if_neg (by omega)]
      exact h.mz k hk
  · rw [Array.getElem?_setIfInBounds, if_neg (by omega)]
    exact h.vc k hk
  · show w.heap.size ≤ (if k = i then wr.heap.size else m k) ∧ BM _ (if k = i then wr.heap.size else m k) []
    by_cases e : k = i
    · rw [if_pos e]
      exact ⟨h.gr.size, (bm_new wr).keep (k1 _ (by omega))⟩
    · rw [if_neg e]
      have hk' : k < i := by omega
      exact ⟨(h.mp k hk').1, ((h.mp k hk').2.keep (gA.block _ (h.mp k hk').2.lt)).keep (k1 _ (mne k hk'))⟩
  · show (if k = i then wr.heap.size else m k) ≠ (if j = i then wr.heap.size else m j)
    have hl : ∀ q, q < i → m q < wr.heap.size := fun q hq => (h.mp q hq).2.lt
    by_cases e : k = i
    · rw [if_pos e, if_neg (by omega)]
      have := hl j (by omega)
      omega
    · rw [if_neg e]
      by_cases e2 : j = i
      · rw [if_pos e2]
        have := hl k (by omega)
        omega
      · rw [if_neg e2]
        exact h.ne k j (by omega) (by omega) hne
theorem NwAt.done (h : NwAt w wr pb 16 gs m) : Bpp wr w.heap.size pb noneP :=
  ⟨pok_none, gs, m, fun _ => .slice none 0 0, ⟨h.blk, h.low, h.mc, h.vc, h.mp, fun _ _ => offR_nil _ _ _ _, h.ne, fun _ _ b _ _ _ e => by cases e⟩⟩
end
theorem NwAt.start (w : World) : NwAt w (w.alloc (.cells pz 64)) w.heap.size 0 pz (fun _ => 0) :=
  ⟨heap_alloc_new w _, Nat.le_refl _, fun k h => absurd h (Nat.not_lt_zero _), fun k h => ⟨_, (pz_at k h).1⟩, fun k h => (pz_at k h).2, fun k h => absurd h (Nat.not_lt_zero _), fun k j h => absurd h (Nat.not_lt_zero _), Grow.alloc _ _⟩
theorem wpList_pz (w : World) {ops : Array Oper} {rest : List Oper} {o : Oper} {a : Act} {Q : Exit → Act → World → Prop} (hgd : o.guard = none) (ho : o.op = Op.build 64 #[])
    (Z : Array Value) (hZ : Hid (pz = Z)) (hK : wpList Try.prog ops Q rest (a.put o.dst (.agg Z)) w) : wpList Try.prog ops Q (o :: rest) a w := by
  have r1 := run_pz w
  rw [hZ.out] at r1
  refine wpList_plain hgd fun K hK' => ?_
  unfold Oper.wp
  simp only [execOp, ho, Sem.run_bind, List.map_toArray, List.map_nil, r1, Result.andThen_ok]
  exact hK' _ _ hK
set_option maxRecDepth 10000 in
set_option maxHeartbeats 1000000 in
theorem newP (w : World) : Calls Try.prog 7 #[] w fun e w' => ∃ pb, e = .returned (.pointer (some ⟨pb, 0, none⟩)) ∧ Bpp w' w.heap.size pb noneP ∧ Grow w w' := by
  obtain ⟨Z, hZ⟩ : ∃ Z, pz = Z := ⟨_, rfl⟩
  have H0 := NwAt.start w
  rw [hZ] at H0
  have H1 := Lib.hid H0
  have HZ := Lib.hid hZ
  clear H0 hZ
  have r0 := fun w => run_bmm w
  go_enter Try.func7, Try.ntmps7
  go_wp2_with (refine wpList_pz _ rfl rfl Z HZ ?_)
  go_loopg [5] 16 (fun gk s5 wr => ∃ i : Nat, i ≤ 16 ∧ gk = 16 - i ∧ s5 = .int .i64 (i : Int) ∧ Hid (∃ gs m, NwAt w wr w.heap.size i gs m))
  case atStart => exact ⟨0, Nat.zero_le _, rfl, rfl, ⟨_, _, H1.out⟩⟩
  case round =>
    obtain ⟨i, hi, rfl, rfl, HR⟩ := hrel
    clear H1
    obtain ⟨gs, m, hn⟩ := HR.out
    rcases Nat.lt_or_ge i 16 with hlt | hge
    · have i0 : (i : Int) < 16 := by omega
      obtain ⟨u, z0, z1, z2⟩ := hn.store hlt
      have H2 := Lib.hid z2
      clear hn z2 HR
      go_wp2_with fail
      go_roundg (16 - (i + 1))
      case measure => omega
      case rel => exact ⟨i + 1, by omega, rfl, rfl, ⟨_, _, H2.out⟩⟩
    · obtain rfl : i = 16 := by omega
      have HD := Lib.hid (And.intro hn.done hn.gr)
      clear hn
      go_wp2_with fail
      go_ret
      exact ⟨_, rfl, HD.out⟩
end Go.Proofs.Ytkambcjinidomaa
