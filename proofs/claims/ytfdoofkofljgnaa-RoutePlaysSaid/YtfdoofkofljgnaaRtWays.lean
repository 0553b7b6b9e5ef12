/- Contracts: slices.Backward on nodes (a range over a function), Ways. -/
import Derived.RangeFuncNested
import Derived.RangeFuncBound
import Derived.RangeFuncCalls
import Derived.RangeFuncLeaves
import Derived.RangeFuncBox
import Derived.Shelf.Abstract
import Derived.Shelf.RegionOpen
import Derived.OwnWalkIn
import Derived.TacticsInMore
import Derived.LoopNIn
import Derived.LoopIn
import Derived.Test.YtfdoofkofljgnaaRtAll
namespace Go.Proofs.Ytfdoofkofljgnaa
set_option linter.unusedVariables false
set_option linter.unusedSimpArgs false
open Go.RowKit Go.Shelf
attribute [local go_sem] Oper.semAt_some

/-- What a round keeps: the blocks below bt but the one that the loop writes. -/
def KT (TB bt : Nat) (W W' : World) : Prop := Below 0 W W' ∧ ∀ b, b < bt → b ≠ TB → W'.heap[b]? = W.heap[b]?
theorem KT.refl (TB bt : Nat) (W : World) : KT TB bt W W := ⟨Below.refl _ _, fun _ _ _ => rfl⟩
theorem KT.trans {TB bt : Nat} {A B C : World} (h : KT TB bt A B) (k : KT TB bt B C) : KT TB bt A C := ⟨h.1.trans k.1, fun b h1 h2 => (k.2 b h1 h2).trans (h.2 b h1 h2)⟩
theorem KT.cell {TB bt : Nat} {A B : World} (h : KT TB bt A B) {p : Addr} (h1 : p.block < bt) (h2 : p.block ≠ TB) : B.cell? p = A.cell? p := World.cell?_of_block (w := A) (h.2 p.block h1 h2)
@[reducible] def wvN (pf : Nat → Value) (x : Nat) : Array Value := #[.int .i64 (x : Int), pf x]
/-- From m - 1 down, k of them. -/
def dl (m k : Nat) : List Nat := (List.range k).map fun t => m - 1 - t
theorem dl_succ (m k : Nat) : dl m (k + 1) = dl m k ++ [m - 1 - k] := by simp [dl, List.range_succ]
theorem dl_length (m k : Nat) : (dl m k).length = k := by simp [dl]

set_option maxRecDepth 100000 in
set_option maxHeartbeats 4000000 in
theorem back1_in (n : Nat) (hn : 1 ≤ n) (r Bs lb cap m TB bt : Nat) (pf : Nat → Value) (hm : m ≤ 33) (hmc : m ≤ cap) (hBs : Bs < bt) (hBt : Bs ≠ TB) (hlb : lb < bt) (hlt : lb ≠ TB) (J Jx : List Nat → World → Prop)
    (hY : ∀ pre x W, J pre W → pre.length < m → YieldAt Fence.wide (n - 1) Try.prog r (wvN pf x) W fun e W' =>
      (e = .returned (.bool true) ∧ J (pre ++ [x]) W' ∧ KT TB bt W W') ∨ (e = .returned (.bool false) ∧ Jx (pre ++ [x]) W'))
    (W : World) (hBc : W.cell? ⟨Bs, 0, none⟩ = some (.slice (some ⟨lb, 0, none⟩) m cap)) (hcell : ∀ j, j < m → W.cell? ⟨lb, j, none⟩ = some (pf j)) (h0 : J [] W) :
    CallsIn Fence.wide n Try.prog 38 #[.func (.yield r) #[] #[], .pointer (some ⟨Bs, 0, none⟩)] W fun e W' => (∃ v, e = .returned v) ∧
      ((∃ ys, ys = dl m m ∧ J ys W') ∨ (∃ pre, (∃ k, k ≤ m ∧ pre = dl m k) ∧ Jx pre W')) := by
  refine callsIn_of_wp Try.func38 rfl trivial ?_ rfl
  simp only [Try.ntmps38, List.size_toArray, List.length_cons, List.length_nil, Nat.reduceAdd, Nat.reduceSub, Array.replicate_succ, Array.replicate_zero, List.push_toArray, List.append_toArray, List.nil_append, List.cons_append]
  gi_wp2
  gi_loopw [3] (fun i wr => ∃ t : Nat, t ≤ m ∧ i = .int .i64 ((t : Int) - 1) ∧ J (dl m (m - t)) wr ∧ KT TB bt W wr)
    (fun i _ => (intOf i + 1).toNat)
  case atStart => exact ⟨m, Nat.le_refl _, rfl, by rw [Nat.sub_self]; exact h0, KT.refl _ _ _⟩
  case round =>
    obtain ⟨t, ht, rfl, hJs, hnx⟩ := hrel
    have hBr : wr.cell? ⟨Bs, 0, none⟩ = some (.slice (some ⟨lb, 0, none⟩) m cap) := (hnx.cell (p := ⟨Bs, 0, none⟩) hBs hBt).trans hBc
    rcases t with _ | s
    · rw [Nat.sub_zero] at hJs
      have hi : ((0 : Nat) : Int) - 1 = -1 := by omega
      rw [hi]
      gi_wp2
      go_end0
      exact ⟨⟨_, rfl⟩, .inl ⟨_, rfl, hJs⟩⟩
    · have hi : ((s + 1 : Nat) : Int) - 1 = (s : Int) := by omega
      have hc1 : wr.cell? ⟨lb, s, none⟩ = some (pf s) := (hnx.cell (p := ⟨lb, s, none⟩) hlb hlt).trans (hcell s (by omega))
      obtain ⟨fn, tmps, assign, body, hy, hR⟩ := hY _ s wr hJs (by rw [dl_length]; omega)
      have e1 : dl m (m - s) = dl m (m - (s + 1)) ++ [s] := by
        rw [show m - s = m - (s + 1) + 1 from by omega, dl_succ, show m - 1 - (m - (s + 1)) = s from by omega]
      dsimp only [wvN] at hy
      have hsm : (s : Int) < (m : Int) := by omega
      rw [hi]
      gi_wp2
      refine hR.mono ?_
      rintro e W3 (⟨rfl, hJ3, hk3⟩ | ⟨rfl, hJx3⟩)
      · gi_wp2
        go_roundw
        case rel => exact ⟨s, by omega, by go_num, by rw [e1]; exact hJ3, hnx.trans hk3⟩
        case measure => simp [intOf]
      · gi_wp2
        refine bodyPost_ret (results_none rfl _ _ _) rfl ?_
        exact ⟨⟨_, rfl⟩, .inr ⟨_, ⟨m - s, by omega, rfl⟩, by rw [e1]; exact hJx3⟩⟩

set_option maxHeartbeats 1000000 in
theorem Backward_in (n : Nat) (a : Option Addr) (len cap : Nat) (w : World) :
    CallsIn Fence.wide n Try.prog 27 #[.slice a len cap] w fun e w' => e = .returned (.func (.func 38) #[] #[.pointer (some ⟨w.heap.size, 0, none⟩)]) ∧ w' = w.alloc (.cells #[.slice a len cap] 67) := by
  refine callsIn_of_wp Try.func27 rfl trivial ?_ rfl
  simp only [Try.ntmps27, List.size_toArray, List.length_cons, List.length_nil, Nat.reduceAdd, Nat.reduceSub, Array.replicate_succ, Array.replicate_zero, List.push_toArray, List.append_toArray, List.nil_append, List.cons_append]
  gi_wp2
  go_ret
  exact ⟨rfl, rfl⟩

theorem back_stops (n : Nat) (hn : 1 ≤ n) (Bs lb cap m TB bt : Nat) (pf : Nat → Value) (hm : m ≤ 33) (hmc : m ≤ cap) (hBt : Bs ≠ TB) (hlt : lb ≠ TB) (w : World) (hBs : Bs < bt) (hlb : lb < bt) (hbt : bt ≤ w.heap.size)
    (hBc : w.cell? ⟨Bs, 0, none⟩ = some (.slice (some ⟨lb, 0, none⟩) m cap)) (hcell : ∀ j, j < m → w.cell? ⟨lb, j, none⟩ = some (pf j)) :
    SeqStopsK Fence.wide n Try.prog 38 #[.pointer (some ⟨Bs, 0, none⟩)] (wvN pf) (KT TB bt) (fun ys => ys = dl m m) (fun pre => ∃ k, k ≤ m ∧ pre = dl m k) m w := fun r J Jx W hW _ _ hY h0 =>
  back1_in n hn r Bs lb cap m TB bt pf hm hmc hBs hBt hlb hlt J Jx hY W ((hW.cell (p := ⟨Bs, 0, none⟩) (by show Bs < _; omega)).trans hBc) (fun j hj => (hW.cell (p := ⟨lb, j, none⟩) (by show lb < _; omega)).trans (hcell j hj)) h0

/-- The nodes on the way to an address, as a function. -/
theorem nodes_fn {M : Net} {a : Int} {m : Nat} (hm : 1 ≤ m) (hs : ∀ j, j < m → ∃ d, M j (netOf a (j : Int)) = some d) : ∃ nf : Nat → Nd, (∀ j, j < m → M j (netOf a (j : Int)) = some (nf j)) ∧ ∀ j, ∃ i, i < m ∧ nf j = nf i := by
  obtain ⟨d0, hd0⟩ := hs 0 (by omega)
  refine ⟨fun j => (M j (netOf a (j : Int))).getD d0 |> fun d => if j < m then d else d0, fun j hj => ?_, fun j => ?_⟩
  · obtain ⟨d, hd⟩ := hs j hj
    simp [hd, hj]
  · by_cases hj : j < m
    · exact ⟨j, hj, rfl⟩
    · refine ⟨0, by omega, ?_⟩
      have h0 : (0 : Nat) < m := by omega
      have e0 : M 0 (netOf a ((0 : Nat) : Int)) = some d0 := hd0
      simp [hj, h0]
      rw [show (M 0 (netOf a 0)) = some d0 from e0]
      rfl
def flatN (nf : Nat → Nd) (l : List Nat) : List Rt := l.flatMap fun j => (nf j).ws
theorem flatN_snoc (nf : Nat → Nd) (l : List Nat) (x : Nat) : flatN nf (l ++ [x]) = flatN nf l ++ (nf x).ws := by simp [flatN]
theorem flatN_length (nf : Nat → Nd) (h : ∀ j, (nf j).ws.length ≤ 65536) : ∀ l : List Nat, (flatN nf l).length ≤ l.length * 65536
  | [] => by simp [flatN]
  | x :: l => by
    have := flatN_length nf h l
    have h2 := h x
    have e : flatN nf (x :: l) = (nf x).ws ++ flatN nf l := by simp [flatN]
    rw [e, List.length_append, List.length_cons]
    omega
theorem dl_cons (m : Nat) : dl (m + 1) (m + 1) = m :: dl m m := by
  unfold dl
  rw [List.range_succ_eq_map]
  simp only [List.map_cons, List.map_map]
  congr 1
  apply List.map_congr_left
  intro t _
  simp
  omega
theorem flatN_down {M : Net} {a : Int} {nf : Nat → Nd} : ∀ m : Nat, (∀ j, j < m → M j (netOf a (j : Int)) = some (nf j)) → flatN nf (dl m m) = downOf M a m
  | 0, _ => rfl
  | m + 1, h => by
    rw [dl_cons, downOf_some (h m (by omega)), ← flatN_down m fun j hj => h j (by omega)]
    simp [flatN]
theorem Orow.isCells {e : TypeId} {w : World} {base : Nat} {v : Value} {l : List Rt} (h : Orow e w base v l) {b : Nat} (hb : v.ownBlock = some b) : ∃ cs, w.heap[b]? = some (.cells cs e (0, 0)) := by
  rcases h.2 with ⟨rfl, _⟩ | ⟨g, cap, cur, rfl, _, hh, _⟩
  · cases hb
  · injection hb with hb
    have : g = b := hb
    subst this
    exact ⟨cur, hh⟩

set_option maxRecDepth 100000 in
set_option maxHeartbeats 2000000 in
theorem Ways_walk (w : World) (base tb : Nat) (n : Int) (M : Net) (role : Nat → Role) (h : Trie w base tb n M role) (hlen : ∀ k x d, M k x = some d → d.ws.length ≤ 65536) (a : Int) (ha : 0 ≤ a ∧ a ≤ 4294967295) :
    Calls Try.prog 14 #[.pointer (some ⟨tb, 0, none⟩), .int .u32 a] w fun e w' => ∃ v m, e = .returned v ∧ (∀ j, j < m → ∃ d, M j (netOf a j) = some d) ∧ (∀ j, m ≤ j → M j (netOf a j) = none) ∧ Orow 32 w' w.heap.size v (downOf M a m) ∧ Grow w w' := by
  have cL := fun w1 (hg : Grow w w1) => line_any w1 base tb n M role (h.grow hg) a ha
  refine (callsIn_wide (n := 3)).1 ?_
  refine callsIn_of_wp_marks Try.func14 rfl trivial ?_ rfl
  simp only [Try.ntmps14, List.size_toArray, List.length_cons, List.length_nil, Nat.reduceAdd, Nat.reduceSub, Array.replicate_succ, Array.replicate_zero, List.push_toArray, List.append_toArray, List.nil_append, List.cons_append]
  gi_wp2_with fail
  refine ⟨trivial, ?_⟩
  refine (callsIn_wide.2 (cL _ (Grow.alloc _ _))).mono ?_
  clear cL
  rintro e w1 ⟨v, m, rfl, hm1, hm33, hsome, hnone, hown, hg1⟩
  obtain ⟨lb, cap, rfl, hlB, hlb, hl1, hl2, hlc⟩ := line_row hown hm1
  have htold : w1.cell? ⟨w.heap.size, 0, none⟩ = some (.slice none 0 0) := by
    rw [hg1.cell (p := ⟨w.heap.size, 0, none⟩) (by simp)]
    simp [World.cell?_alloc_new]
  gi_wp2_with (refine ⟨trivial, ?_⟩; gi_at_call 27; refine (Backward_in _ _ _ _ _).mono ?_; rintro e w' ⟨rfl, rfl⟩)
  obtain ⟨nf, hnf, hnf2⟩ := nodes_fn hm1 hsome
  have hnode : ∀ j, ∃ k x, M k x = some (nf j) := fun j => by
    obtain ⟨i, hi, e⟩ := hnf2 j
    exact ⟨i, _, by rw [e]; exact hnf i hi⟩
  have hGw : Grow w w1 := (Grow.alloc w _).trans hg1
  have hsz : w.heap.size + 1 ≤ w1.heap.size := by have := hg1.size; simp at this; exact this
  have hlB' : w.heap.size + 1 ≤ lb := by simpa using hlB
  have hfz : w1.frozen? ⟨w.heap.size, 0, none⟩ = false := by
    rw [hg1.frozen (p := ⟨w.heap.size, 0, none⟩) (by simp)]
    unfold World.frozen?
    rw [heap_alloc_new w (.cells #[.slice none 0 0] 26)]
    simp
  have hW0 : (w1.alloc (.cells #[.slice (some ⟨lb, 0, none⟩) m cap] 67)).heap.size = w1.heap.size + 1 := by simp
  have hG0 : Grow w1 (w1.alloc (.cells #[.slice (some ⟨lb, 0, none⟩) m cap] 67)) := Grow.alloc _ _
  have hBc : (w1.alloc (.cells #[.slice (some ⟨lb, 0, none⟩) m cap] 67)).cell? ⟨w1.heap.size, 0, none⟩ = some (.slice (some ⟨lb, 0, none⟩) m cap) := by simp [World.cell?_alloc_new]
  have hst := back_stops (3 - 1) (by omega) w1.heap.size lb cap m w.heap.size (w1.heap.size + 1) (fun j => .pointer (some ⟨(nf j).blk, 0, none⟩)) hm33 hl1 (by omega) (by omega) _ (by omega) (by omega) (by rw [hW0]; exact Nat.le_refl _) hBc
    (fun j hj => (hG0.cell (p := ⟨lb, j, none⟩) hlb).trans (by rw [hlc j hj, hnf j hj]; rfl))
  have hlen2 : ∀ j, (nf j).ws.length ≤ 65536 := fun j => by
    obtain ⟨k, x, hk⟩ := hnode j
    exact hlen _ _ _ hk
  have h13 : 1 ≤ 3 := by omega
  refine wpIn_rangeFunc_ownG rfl h13 (gf := 38) (lb := #[.pointer (some ⟨w1.heap.size, 0, none⟩)]) rfl trivial (enters_of Try.func38 (by kernel_rfl) rfl)
    hst (fun h k => h.trans k) ?hKb (Below.refl _ _) ?hps
    (fun pre W => (∃ v, W.cell? ⟨w.heap.size, 0, none⟩ = some v ∧ W.frozen? ⟨w.heap.size, 0, none⟩ = false ∧ Orow 32 W (w1.heap.size + 1) v (flatN nf pre) ∧ w1.heap.size + 1 ≤ W.heap.size) ∧ Below w.heap.size w W)
    (fun _ _ _ => False)
    (OwnFrom.and (Own.from ?hown _) (ownFrom_below (Nat.le_refl _) (by simp; omega)))
    (fun _ _ _ _ _ hs _ _ => hs)
    ⟨⟨.slice none 0 0, (hG0.cell (p := ⟨w.heap.size, 0, none⟩) (by show w.heap.size < _; omega)).trans htold, (hG0.frozen (p := ⟨w.heap.size, 0, none⟩) (by show w.heap.size < _; omega)).trans hfz, Orow.nil _ _ _, by rw [hW0]; exact Nat.le_refl _⟩, hGw.trans (Grow.alloc _ _)⟩
    (fun x => { tmps := #[.pointer (some ⟨tb, 0, none⟩), .int .u32 a, undef, undef, .slice none 0 0, .pointer (some ⟨w.heap.size, 0, none⟩), undef, .pointer (some ⟨(nf x).blk, 0, none⟩), .pointer (some ⟨tb, 0, none⟩), .bool false, .pointer (some ⟨tb, 0, none⟩), .int .u32 a, .slice (some ⟨lb, 0, none⟩) m cap, .func (.func 38) #[] #[.pointer (some ⟨w1.heap.size, 0, none⟩)], .int .i64 (x : Int), .pointer (some ⟨(nf x).blk, 0, none⟩), undef, undef, undef, undef], defers := [] }) ?assign ?body ?done ?stop
  case hps => intro x; rfl
  case hKb =>
    intro W l' o o' hle ho h1 h2
    have hb := belowK_b (n₀ := w1.heap.size + 1) (w := w1.alloc (.cells #[.slice (some ⟨lb, 0, none⟩) m cap] 67)) (by simp) W l' o o' hle ho h1 h2
    exact ⟨hb.mono (Nat.zero_le _), fun b hb' _ => hb.block b hb'⟩
  case hown =>
    rintro s A B row ⟨v, hc, hf, ho, hsB⟩ hg hr
    refine ⟨v, cell_kept hc hg hr, (frozen_kept hc hg hr).trans hf, ho.other fun b hb hlt => hg.block b hlt fun e => ?_, Nat.le_trans hsB hg.size⟩
    obtain ⟨o, h1, h2⟩ := hr b e.symm
    obtain ⟨cs, h3⟩ := ho.isCells hb
    rw [h3] at h1
    cases h1
    cases h2
  case assign =>
    intro l x W K hK
    gi_wp2
    exact hK
  case body =>
    rintro l pre x W ⟨⟨v, hc, hf, ho, hsw⟩, hB⟩ hpl
    obtain ⟨k, y, hk⟩ := hnode x
    have hn := (h.node _ _ _ hk).2.2
    have hblt : (nf x).blk < w.heap.size := h.lt _ (by rw [hn.blk]; simp)
    have hwlt : ∀ b, (nf x).wv.ownBlock = some b → b < w.heap.size := fun b hb => h.lt b (by rw [hn.mine b hb]; simp)
    have hfl := flatN_length nf hlen2 pre
    have hx2 := hlen2 x
    have cT := tell_g W (nf x).blk (w1.heap.size + 1) (nf x).wv (nf x).ws ((hB.cell (p := ⟨(nf x).blk, 2, none⟩) hblt).trans hn.c2) (hn.row.rts.low hB hwlt) hsw (fun b hb => by have := hwlt b hb; omega) v (flatN nf pre) ho (by omega)
    have HH := Lib.hid (And.intro ho (And.intro hB hf))
    have HC := Lib.hid hc
    clear ho hB hn hk hwlt hfl hx2
    have hn1 : 1 ≤ 3 - 1 - 1 := by omega
    gi_wp2_with (refine ⟨trivial, ?_⟩; gi_at_call 29; refine (CallsIn.inRound l (callsIn_wide.2 cT)).mono ?_; rintro e w2 ⟨v2, rfl, ho2, hg2⟩; obtain ⟨A2, C2, hv2, _, _⟩ := ho2.rts.form; generalize (flatN nf pre ++ (nf x).ws).length = L2 at hv2; subst hv2; have hTBne : some w.heap.size ≠ v.ownBlock := fun e => (by have := (HH.out.1.lt _ e.symm).1; omega); have hb2 := hg2.block w.heap.size (by omega) hTBne; have c2 := (World.cell?_of_block (w := W) (a := ⟨w.heap.size, 0, none⟩) hb2).trans hc; have f2 := (World.frozen?_of_block (w := W) (a := ⟨w.heap.size, 0, none⟩) hb2).trans hf; have HX := Lib.hid (And.intro ho2 hg2); clear ho2 hg2 hTBne hb2)
    obtain ⟨ho2, hg2⟩ := HX.out
    obtain ⟨ho, hB, _⟩ := HH.out
    have hKO := KeepsOthers.of_grownBy hg2 (fun j o hj ho' => by
      obtain ⟨cs, h3⟩ := ho.isCells hj
      rw [h3] at ho'
      cases ho'
      rfl)
    have hvB : ∀ b, v.ownBlock = some b → w1.heap.size + 1 ≤ b := fun b hb => (ho.lt b hb).1
    refine ⟨(hKO.trans (KeepsOthers.setCell _ _ _)).from _, ⟨?_, fun b hb hne => ?_⟩, ⟨_, World.cell?_setCell_same' _ _ _ (by rw [c2]; rfl), by rw [World.frozen?_setCell]; exact f2, ?_, ?_⟩, ?_⟩
    · exact ((Below.refl 0 W).grown hg2 (Nat.zero_le _) (fun _ _ => Nat.zero_le _)).setCell (Nat.zero_le _) _
    · rw [Below.heap_setCell _ _ _ _ hne]
      exact hg2.block b (by omega) fun e => by have := hvB b e.symm; omega
    · rw [flatN_snoc]
      exact ho2.other fun b hb _ => Below.heap_setCell _ _ _ _ (by
        have := (ho2.lt b hb).1
        show b ≠ w.heap.size
        omega)
    · have := hg2.size
      simp [World.setCell]
      omega
    · exact (hB.grown hg2 (by omega) (fun b hb => by have := hvB b hb; omega)).setCell (Nat.le_refl _) _
  case done =>
    rintro D ys W hD rfl ⟨⟨v, hc, hf, ho, hsw⟩, hB⟩ hK
    rw [flatN_down m hnf] at ho
    have hDn : ∀ b, v.ownBlock = some b → b ≠ D := fun b hb e => by
      obtain ⟨cs, h3⟩ := ho.isCells hb
      rw [e, hK] at h3
      cases h3
    have HH := Lib.hid (And.intro ho hDn)
    clear ho hDn
    gi_wp2
    refine ⟨by simp, .inl ⟨_, _, rfl, run_takeDeferred hK, ?_⟩⟩
    obtain ⟨ho, hDn⟩ := HH.out
    exact ⟨_, results_tmp rfl _ _ _, v, m, rfl, hsome, hnone, (ho.base_ (by omega)).other fun b hb _ => World.putObj_heap_other (fun e => hDn b hb e), hB.trans (belowK_b (w := w) (Nat.le_refl _) W D _ _ (by simp at hD; omega) hK rfl rfl)⟩
  case stop =>
    rintro D c pre W _ _ h _
    exact h.elim
end Go.Proofs.Ytfdoofkofljgnaa
