/- The words of bytes, visited by an iterator, and the sum over them: a range over a function. -/
import Derived.RangeFuncNested
import Derived.RangeFuncBound
import Derived.RangeFuncCalls
import Derived.RangeFuncLeaves
import Derived.RangeFuncBox
import Derived.Shelf.Abstract
import Derived.Shelf.RegionOpen
import Derived.OwnWalkIn
import Derived.TacticsInMore
import Derived.LoopNIn
import Derived.LoopIn
import Derived.Test.YtbhdpobmooncpaaSum
namespace Go.Proofs.Ytbhdpobmooncpaa
set_option linter.unusedVariables false
set_option linter.unusedSimpArgs false
open Go.RowKit Go.Shelf
attribute [local go_sem] Oper.semAt_some

abbrev W16 := { x : Nat // x < 65536 }
@[reducible] def wv (x : W16) : Array Value := #[.int .i64 (x.1 : Int)]
/-- What a round keeps: what lay below m, and the captured box. -/
def KB (m Bs : Nat) (W W' : World) : Prop := Below m W W' ∧ W'.cell? ⟨Bs, 0, none⟩ = W.cell? ⟨Bs, 0, none⟩
theorem KB.refl (m Bs : Nat) (W : World) : KB m Bs W W := ⟨Below.refl _ _, rfl⟩
theorem KB.trans {m Bs : Nat} {A B C : World} (h : KB m Bs A B) (k : KB m Bs B C) : KB m Bs A C := ⟨h.1.trans k.1, k.2.trans h.2⟩
theorem KB.cell {m Bs : Nat} {A B : World} (h : KB m Bs A B) {p : Addr} (hp : p.block < m) : B.cell? p = A.cell? p := h.1.cell hp
def wupF (l : List UInt8) (k : Nat) : List W16 := (List.range k).map fun j => ⟨wordAt l j, wordAt_lt l j⟩
theorem wupF_succ (l : List UInt8) (k : Nat) : wupF l (k + 1) = wupF l k ++ [⟨wordAt l k, wordAt_lt l k⟩] := by simp [wupF, List.range_succ]
theorem wupF_length (l : List UInt8) (k : Nat) : (wupF l k).length = k := by simp [wupF]
theorem wupF_val (l : List UInt8) (k : Nat) : (wupF l k).map (·.1) = wup l k := by simp [wupF, wup]

set_option maxRecDepth 100000 in
set_option maxHeartbeats 4000000 in
theorem words1_in (n : Nat) (hn : 1 ≤ n) (r Bs n₀ b off c : Nat) (l : List UInt8) (hl : l.length ≤ 281474976710656) (hc : l.length ≤ c) (hb : b < n₀) (J Jx : List W16 → World → Prop)
    (hY : ∀ pre x W, J pre W → pre.length < nwords l → YieldAt Fence.wide (n - 1) Try.prog r (wv x) W fun e W' =>
      (e = .returned (.bool true) ∧ J (pre ++ [x]) W' ∧ KB n₀ Bs W W') ∨ (e = .returned (.bool false) ∧ Jx (pre ++ [x]) W'))
    (W : World) (hBs : W.cell? ⟨Bs, 0, none⟩ = some (.slice (some ⟨b, off, none⟩) l.length c)) (hcell : ∀ j (h : j < l.length), W.cell? ⟨b, off + j, none⟩ = some (.int .u8 ((l[j]).toNat : Int))) (h0 : J [] W) :
    CallsIn Fence.wide n Try.prog 55 #[.func (.yield r) #[] #[], .pointer (some ⟨Bs, 0, none⟩)] W fun e W' => (∃ v, e = .returned v) ∧
      ((∃ ys, ys = wupF l (nwords l) ∧ J ys W') ∨ (∃ pre, (∃ k, k ≤ nwords l ∧ pre = wupF l k) ∧ Jx pre W')) := by
  refine callsIn_of_wp Try.func55 rfl trivial ?_ rfl
  simp only [Try.ntmps55, List.size_toArray, List.length_cons, List.length_nil, Nat.reduceAdd, Nat.reduceSub, Array.replicate_succ, Array.replicate_zero, List.push_toArray, List.append_toArray, List.nil_append, List.cons_append]
  gi_wp2
  gi_loopw [3] (fun i wr => ∃ k : Nat, k ≤ nwords l ∧ i = .int .i64 ((2 * k : Nat) : Int) ∧ J (wupF l k) wr ∧ KB n₀ Bs W wr)
    (fun i _ => nwords l - (intOf i).toNat / 2)
  case atStart => exact ⟨0, Nat.zero_le _, rfl, h0, KB.refl _ _ _⟩
  case round =>
    obtain ⟨k, hk, rfl, hJs, hnx⟩ := hrel
    have hBr : wr.cell? ⟨Bs, 0, none⟩ = some (.slice (some ⟨b, off, none⟩) l.length c) := hnx.2.trans hBs
    by_cases hlt : 2 * k < l.length
    · have hk' : k < nwords l := by unfold nwords; omega
      have hc1 : wr.cell? ⟨b, off + 2 * k, none⟩ = some (.int .u8 ((l[2 * k]).toNat : Int)) := (hnx.cell (p := ⟨b, off + 2 * k, none⟩) hb).trans (hcell (2 * k) hlt)
      have hu := (l[2 * k]).toNat_lt
      obtain ⟨fn, tmps, assign, body, hy, hR⟩ := hY _ (⟨wordAt l k, wordAt_lt l k⟩ : W16) wr hJs (by rw [wupF_length]; exact hk')
      dsimp only [wv] at hy
      by_cases h2 : 2 * k + 1 < l.length
      · have hc2 : wr.cell? ⟨b, off + (2 * k + 1), none⟩ = some (.int .u8 ((l[2 * k + 1]).toNat : Int)) := (hnx.cell (p := ⟨b, off + (2 * k + 1), none⟩) hb).trans (hcell (2 * k + 1) h2)
        have hu2 := (l[2 * k + 1]).toNat_lt
        have KK : bits .or .i64 (((l[2 * k]).toNat : Int) * 256) ((l[2 * k + 1]).toNat : Int) = ((wordAt l k : Nat) : Int) := by rw [wordAt_two l k h2]; exact or_word _ _ (by omega) (by omega)
        gi_wp2
        refine hR.mono ?_
        rintro e W3 (⟨rfl, hJ3, hk3⟩ | ⟨rfl, hJx3⟩)
        · gi_wp2
          go_roundw
          case rel => exact ⟨k + 1, hk', by simp; omega, by rw [wupF_succ]; exact hJ3, hnx.trans hk3⟩
          case measure => simp [intOf]; omega
        · gi_wp2
          refine bodyPost_ret (results_none rfl _ _ _) rfl ?_
          exact ⟨⟨_, rfl⟩, .inr ⟨_, ⟨k + 1, hk', (wupF_succ _ _).symm⟩, hJx3⟩⟩
      · have KK : ((wordAt l k : Nat) : Int) = ((l[2 * k]).toNat : Int) * 256 := by rw [wordAt_one l k hlt h2]; omega
        rw [KK] at hy
        clear KK
        gi_wp2
        refine hR.mono ?_
        rintro e W3 (⟨rfl, hJ3, hk3⟩ | ⟨rfl, hJx3⟩)
        · gi_wp2
          go_roundw
          case rel => exact ⟨k + 1, hk', by simp; omega, by rw [wupF_succ]; exact hJ3, hnx.trans hk3⟩
          case measure => simp [intOf]; omega
        · gi_wp2
          refine bodyPost_ret (results_none rfl _ _ _) rfl ?_
          exact ⟨⟨_, rfl⟩, .inr ⟨_, ⟨k + 1, hk', (wupF_succ _ _).symm⟩, hJx3⟩⟩
    · obtain rfl : k = nwords l := by unfold nwords at *; omega
      gi_wp2
      go_end0
      exact ⟨⟨_, rfl⟩, .inl ⟨_, rfl, hJs⟩⟩
set_option maxRecDepth 100000 in
set_option maxHeartbeats 1000000 in
theorem words1_nil_in (n : Nat) (r Bs : Nat) (J : List W16 → World → Prop) (A : Option Addr) (c : Nat) (W : World) (hBs : W.cell? ⟨Bs, 0, none⟩ = some (.slice A 0 c)) (h0 : J [] W) :
    CallsIn Fence.wide n Try.prog 55 #[.func (.yield r) #[] #[], .pointer (some ⟨Bs, 0, none⟩)] W fun e W' => (∃ v, e = .returned v) ∧ J [] W' := by
  refine callsIn_of_wp Try.func55 rfl trivial ?_ rfl
  simp only [Try.ntmps55, List.size_toArray, List.length_cons, List.length_nil, Nat.reduceAdd, Nat.reduceSub, Array.replicate_succ, Array.replicate_zero, List.push_toArray, List.append_toArray, List.nil_append, List.cons_append]
  gi_wp2
  gi_loopw [3] (fun i wr => i = .int .i64 0 ∧ wr.cell? ⟨Bs, 0, none⟩ = some (.slice A 0 c) ∧ J [] wr) (fun _ _ => 0)
  case atStart => exact ⟨rfl, hBs, h0⟩
  case round =>
    obtain ⟨rfl, hBr, hJs⟩ := hrel
    gi_wp2
    go_end0
    exact ⟨⟨_, rfl⟩, hJs⟩

set_option maxHeartbeats 1000000 in
theorem words_in (n : Nat) (a : Option Addr) (len cap : Nat) (w : World) :
    CallsIn Fence.wide n Try.prog 51 #[.slice a len cap] w fun e w' => e = .returned (.func (.func 55) #[] #[.pointer (some ⟨w.heap.size, 0, none⟩)]) ∧ w' = w.alloc (.cells #[.slice a len cap] 24) := by
  refine callsIn_of_wp Try.func51 rfl trivial ?_ rfl
  simp only [Try.ntmps51, List.size_toArray, List.length_cons, List.length_nil, Nat.reduceAdd, Nat.reduceSub, Array.replicate_succ, Array.replicate_zero, List.push_toArray, List.append_toArray, List.nil_append, List.cons_append]
  gi_wp2
  go_ret
  exact ⟨rfl, rfl⟩

theorem words_stops (n : Nat) (hn : 1 ≤ n) (Bs n₀ : Nat) (v : Value) (l : List UInt8) (hl : l.length ≤ 281474976710656) (w : World) (hBs : Bs < w.heap.size) (hn₀ : n₀ ≤ w.heap.size) (w₀ : World) (hw₀ : w₀.heap.size = n₀) (hB : Below n₀ w₀ w) (h : Byt w₀ v l)
    (hc : w.cell? ⟨Bs, 0, none⟩ = some v) :
    SeqStopsK Fence.wide n Try.prog 55 #[.pointer (some ⟨Bs, 0, none⟩)] wv (KB n₀ Bs) (fun ys => ys = wupF l (nwords l)) (fun pre => ∃ k, k ≤ nwords l ∧ pre = wupF l k) (nwords l) w := fun r J Jx W hW _ _ hY h0 => by
  have hc' := (hW.cell (p := ⟨Bs, 0, none⟩) hBs).trans hc
  have hBW : Below n₀ w₀ W := hB.trans (hW.mono hn₀)
  obtain ⟨A, c, rfl, hcl, hcm⟩ := h.form
  by_cases hp : 0 < l.length
  · obtain ⟨b, off, rfl, hb, hcell⟩ := h.at_ hp
    exact words1_in n hn r Bs n₀ b off c l hl hcl (by omega) J Jx hY W hc' (fun j hj => (hBW.cell (p := ⟨b, off + j, none⟩) (by simp; omega)).trans (hcell j hj)) h0
  · obtain rfl : l = [] := List.eq_nil_of_length_eq_zero (by omega)
    exact (words1_nil_in n r Bs J A c W hc' h0).mono fun e W' ⟨he, hj⟩ => ⟨he, .inl ⟨_, rfl, hj⟩⟩

def sumW (pre : List W16) : Nat := sumc (pre.map (·.1))
theorem sumW_snoc (pre : List W16) (x : W16) : sumW (pre ++ [x]) = addc (sumW pre) x.1 := by simp [sumW, sumc_snoc]
theorem sumW_lt (pre : List W16) : sumW pre < 65536 := by
  rw [sumW, sumc_ocs]
  · exact ocs_le _
  · intro y hy
    simp only [List.mem_map] at hy
    obtain ⟨z, _, rfl⟩ := hy
    exact z.2
theorem sumW_all (l : List UInt8) : sumW (wupF l (nwords l)) = ones l := by rw [sumW, wupF_val]; rfl

set_option maxRecDepth 100000 in
set_option maxHeartbeats 2000000 in
/-- The sum of any bytes. -/
theorem Sum_any (v : Value) (l : List UInt8) (w : World) (h : Byt w v l) (hl : l.length ≤ 281474976710656) :
    Calls Try.prog 48 #[v] w fun e w' => e = .returned (.int .i64 (ones l : Nat)) ∧ Grow w w' := by
  obtain ⟨A, c, rfl, hcl, hcm⟩ := h.form
  refine (callsIn_wide (n := 3)).1 ?_
  refine callsIn_of_wp_marks Try.func48 rfl trivial ?_ rfl
  simp only [Try.ntmps48, List.size_toArray, List.length_cons, List.length_nil, Nat.reduceAdd, Nat.reduceSub, Array.replicate_succ, Array.replicate_zero, List.push_toArray, List.append_toArray, List.nil_append, List.cons_append]
  gi_wp2_with (refine ⟨trivial, ?_⟩; gi_at_call 51; refine (words_in _ _ _ _ _).mono ?_; rintro e w' ⟨rfl, rfl⟩)
  have bS := Boxed.new w 3 (.int .i64 0)
  have bN := Boxed.new (w.alloc (.cells #[.int .i64 0] 3)) 24 (.slice A l.length c)
  rw [World.size_alloc] at bN
  have hB0 : Below w.heap.size w ((w.alloc (.cells #[.int .i64 0] 3)).alloc (.cells #[.slice A l.length c] 24)) := ((Below.refl _ w).alloc (Nat.le_refl _) _).alloc (by simp) _
  have h1 : 1 ≤ 3 := by omega
  refine wpIn_rangeFunc_ownG rfl h1 (gf := 55) (lb := #[.pointer (some ⟨w.heap.size + 1, 0, none⟩)]) rfl trivial (enters_of Try.func55 (by kernel_rfl) rfl)
    (words_stops (3 - 1) (by omega) (w.heap.size + 1) w.heap.size _ l hl _ (by simp) (by simp; omega) w rfl hB0 h bN.cell) (fun h k => h.trans k) ?hKb (Below.refl _ _) ?hps
    (fun pre W => (W.cell? ⟨w.heap.size, 0, none⟩ = some (.int .i64 (sumW pre : Nat)) ∧ W.frozen? ⟨w.heap.size, 0, none⟩ = false) ∧ Below w.heap.size w W)
    (fun _ _ _ => False)
    (OwnFrom.and (Own.from (fun s A B row hs hg hr => ⟨cell_kept hs.1 hg hr, (frozen_kept hs.1 hg hr).trans hs.2⟩) _) (ownFrom_below (Nat.le_refl _) (by simp; omega)))
    (fun _ _ _ _ _ hs _ _ => hs)
    ⟨⟨(bS.alloc _).cell, (bS.alloc _).frozen⟩, hB0⟩
    (fun x => { tmps := #[.slice A l.length c, undef, .int .i64 0, .pointer (some ⟨w.heap.size, 0, none⟩), .int .i64 (x.1 : Int), .slice A l.length c, .func (.func 55) #[] #[.pointer (some ⟨w.heap.size + 1, 0, none⟩)], .int .i64 (x.1 : Int), undef, undef, undef, undef], defers := [] }) ?assign ?body ?done ?stop
  case hps => intro x; rfl
  case hKb =>
    intro W l' o o' hle ho h1 h2
    have hlt : w.heap.size + 1 < l' := by simp at hle; omega
    exact ⟨belowK_b (w := w) (Nat.le_refl _) W l' o o' (by omega) ho h1 h2, (belowK_b (Nat.le_refl _) W l' o o' hle ho h1 h2).cell (p := ⟨w.heap.size + 1, 0, none⟩) (by simp)⟩
  case assign =>
    intro l x W K hK
    gi_wp2
    exact hK
  case body =>
    rintro l pre x W ⟨⟨hc, hf⟩, hB⟩ _
    have k0 := low_nat (sumW_lt pre)
    have k1 := low_nat x.2
    have hn1 : 1 ≤ 3 - 1 - 1 := by omega
    gi_wp2_with (refine ⟨trivial, ?_⟩; gi_at_call 52; refine (CallsIn.inRound l (callsIn_wide.2 (Add_any _ _ _))).mono ?_; rintro e w' ⟨rfl, rfl⟩)
    exact ⟨(KeepsOthers.setCell _ _ _).from _, ⟨(Below.refl w.heap.size W).setCell (p := ⟨w.heap.size, 0, none⟩) (Nat.le_refl _) _, World.cell?_setCell_other _ _ _ _ (by simp)⟩, ⟨by rw [sumW_snoc]; exact World.cell?_setCell_same' _ _ _ (by rw [hc]; rfl), by rw [World.frozen?_setCell]; exact hf⟩, hB.setCell (p := ⟨w.heap.size, 0, none⟩) (Nat.le_refl _) _⟩
  case done =>
    rintro D ys W hD rfl ⟨⟨hc, _⟩, hB⟩ hK
    rw [sumW_all] at hc
    gi_wp2
    refine ⟨by simp, .inl ⟨_, _, rfl, run_takeDeferred hK, ?_⟩⟩
    exact ⟨_, results_tmp rfl _ _ _, rfl, hB.trans (belowK_b (w := w) (Nat.le_refl _) W D _ _ (by simp at hD; omega) hK rfl rfl)⟩
  case stop =>
    rintro D c pre W _ _ h _
    exact h.elim
end Go.Proofs.Ytbhdpobmooncpaa
