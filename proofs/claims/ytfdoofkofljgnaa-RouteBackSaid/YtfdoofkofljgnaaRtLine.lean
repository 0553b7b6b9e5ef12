/- Contracts: line, the nodes on the way to an address. -/
import Derived.Test.YtfdoofkofljgnaaTrie
namespace Go.Proofs.Ytfdoofkofljgnaa
set_option linter.unusedVariables false
set_option linter.unusedSimpArgs false
open Go.ChangeShapes Go.WideShapes Go.ChangeAt Go.RowKit

theorem infoNode : (Try.prog.info? 57).map (fun i => (i.zero, i.size, i.bytes)) = some (some (.pointer none), 1, 8) := by kernel_rfl

/-- The nodes on the way to an address, as pointers. -/
def lineV (M : Net) (a : Int) (m : Nat) : List Value := (List.range m).map fun j => ptrOf (M j (netOf a (j : Int)))
theorem lineV_length (M : Net) (a : Int) (m : Nat) : (lineV M a m).length = m := by simp [lineV]
theorem lineV_succ (M : Net) (a : Int) (m : Nat) : lineV M a (m + 1) = lineV M a m ++ [ptrOf (M m (netOf a (m : Int)))] := by simp [lineV, List.range_succ]
theorem lineV_one (M : Net) (a : Int) (m : Nat) : ∀ y ∈ lineV M a m, y.oneCell' = true := by
  intro y hy
  simp only [lineV, List.mem_map] at hy
  obtain ⟨j, _, rfl⟩ := hy
  exact ptrOf_one _

theorem line_row {w : World} {B : Nat} {v : Value} {M : Net} {x : Int} {m : Nat} (h : w.ownsRow B 57 1 v m (lineV M x m)) (hm : 1 ≤ m) : ∃ b cap, v = .slice (some ⟨b, 0, none⟩) m cap ∧ B ≤ b ∧ b < w.heap.size ∧ m ≤ cap ∧ cap ≤ maxLen ∧
    ∀ j, j < m → w.cell? ⟨b, j, none⟩ = some (ptrOf (M j (netOf x (j : Int)))) := by
  obtain ⟨h1, h2⟩ := id h
  rcases h2 with ⟨_, h0⟩ | ⟨g, cap, cur, rfl, hbg, hh, hnc, hcm, hcs, ht⟩
  · omega
  · refine ⟨g, cap, rfl, hbg, (Array.getElem?_eq_some_iff.1 hh).1, hnc, hcm, fun j hj => ?_⟩
    have := World.ownsRow.cells h (g := g) rfl j (ptrOf (M j (netOf x (j : Int)))) (by simp [lineV, hj])
    rw [add_at] at this
    simpa using this

set_option maxRecDepth 10000 in
set_option maxHeartbeats 2000000 in
theorem line_any (w : World) (base tb : Nat) (n : Int) (M : Net) (role : Nat → Role) (h : Trie w base tb n M role) (a : Int) (ha : 0 ≤ a ∧ a ≤ 4294967295) :
    Calls Try.prog 28 #[.pointer (some ⟨tb, 0, none⟩), .int .u32 a] w fun e w' => ∃ v m, e = .returned v ∧ 1 ≤ m ∧ m ≤ 33 ∧ (∀ j, j < m → ∃ d, M j (netOf a j) = some d) ∧ (∀ j, m ≤ j → M j (netOf a j) = none) ∧
      w'.ownsRow w.heap.size 57 1 v m (lineV M a m) ∧ Grow w w' := by
  obtain ⟨m, hm1, hm33, hsome, hnone⟩ := h.depth ha
  have HS : Aside ((∀ j, j < m → ∃ d, M j (netOf a j) = some d) ∧ (∀ j, m ≤ j → M j (netOf a j) = none)) := ⟨hsome, hnone⟩
  have HT : Aside (Trie w base tb n M role) := h
  have h0 : ptrOf (M 0 (netOf a ((0 : Nat) : Int))) = .pointer (some ⟨tb, 0, none⟩) := by
    obtain ⟨d, hd, rfl⟩ := h.top
    rw [show netOf a ((0 : Nat) : Int) = 0 from netOf_zero ha, hd]
    rfl
  have H0 : Aside (ptrOf (M 0 (netOf a ((0 : Nat) : Int))) = .pointer (some ⟨tb, 0, none⟩)) := h0
  clear h0 hsome hnone h
  go_enter Try.func28, Try.ntmps28
  go_wp2_with fail
  go_loopg [5, 6] (m - 0) (fun g s5 s6 wr => ∃ (k : Nat) (ao : Option Addr) (cap : Nat), k ≤ m ∧ g = m - k ∧ s6 = ptrOf (M k (netOf a (k : Int))) ∧ s5 = .slice ao k cap ∧ wr.ownsRow w.heap.size 57 1 s5 k (lineV M a k) ∧ Grow w wr)
  case atStart => exact ⟨0, none, 0, Nat.zero_le _, rfl, H0.out.symm, rfl, World.ownsRow_nil _ _ _ _, Grow.refl _⟩
  case round =>
    obtain ⟨k, ao, cap, hk, rfl, hs6, rfl, hown, hgr⟩ := hrel
    rcases Nat.lt_or_ge k m with hlt | hge
    · obtain ⟨d, hd⟩ := HS.out.1 k hlt
      have hbit := fun w => bit_any a k ha (by omega) w
      have hch := HT.out.child hd
      have hblt : d.blk < w.heap.size := HT.out.lt _ (by rw [(HT.out.node _ _ _ hd).2.2.blk]; simp)
      rw [hd, show ptrOf (some d) = .pointer (some ⟨d.blk, 0, none⟩) from rfl] at hs6
      subst hs6
      have hnx : Aside (ptrOf (M (k + 1) (netOf a ((k + 1 : Nat) : Int))) = ptrOf (M (k + 1) (netOf a ((k + 1 : Nat) : Int)))) := rfl
      have hls : lineV M a (k + 1) = lineV M a k ++ [.pointer (some ⟨d.blk, 0, none⟩)] := by rw [lineV_succ, hd]; rfl
      have A1 : Aside (Grow w wr ∧ lineV M a (k + 1) = lineV M a k ++ [.pointer (some ⟨d.blk, 0, none⟩)]) := ⟨hgr, hls⟩
      have hsz := hgr.size
      have hrow : Aside (∀ g, (Value.slice ao k cap).ownBlock = some g → w.heap.size ≤ g ∧ g < wr.heap.size) := hown.lt
      clear hls hd
      generalize hX : ptrOf (M (k + 1) (netOf a ((k + 1 : Nat) : Int))) = X at *
      have HX := Lib.hid hX
      clear hX hnx
      have hown2 : (wr.alloc (.cells #[.pointer (some ⟨d.blk, 0, none⟩)] 57)).ownsRow w.heap.size 57 1 (.slice ao k cap) k (lineV M a k) := hown.alloc _
      have hsrc : Rd (wr.alloc (.cells #[.pointer (some ⟨d.blk, 0, none⟩)] 57)) (.slice (some ⟨wr.heap.size, 0, none⟩) 1 1) [.pointer (some ⟨d.blk, 0, none⟩)] :=
        Rd.block (cs := #[.pointer (some ⟨d.blk, 0, none⟩)]) (heap_alloc_new wr _) (Nat.le_refl _) (Nat.le_refl _) (by unfold maxLen; decide)
      have hm1' : Hid (([.pointer (some ⟨d.blk, 0, none⟩)] : List Value).length = 1) := rfl
      have hone : ∀ y ∈ ([.pointer (some ⟨d.blk, 0, none⟩)] : List Value), y.oneCell' = true := fun y hy => by rw [List.mem_singleton.1 hy]; rfl
      have hbx : w.heap.size ≤ (wr.alloc (.cells #[.pointer (some ⟨d.blk, 0, none⟩)] 57)).heap.size := by simp; omega
      have hch' : ∀ w1, Grow w w1 → w1.cell? ⟨d.blk, (bitOf a k).toNat, none⟩ = some X := fun w1 hg => (hg.cell (p := ⟨d.blk, (bitOf a k).toNat, none⟩) hblt).trans hch
      have A2 : Aside (∀ w1, Grow w w1 → w1.cell? ⟨d.blk, (bitOf a k).toNat, none⟩ = some X) := hch'
      clear hgr hown hch hch'
      rcases bitOf_two a k with hb | hb
      all_goals
        rw [hb] at hbit
        have A3 := A2.out
        rw [hb] at A3
        simp only [Int.toNat_zero, Int.toNat_one] at A3
        have A4 := Lib.hid A3
        clear A2 A3
        go_wp2_with (first | (go_at_call 39; refine (hbit _).mono ?_; rintro e w' ⟨rfl, rfl⟩) | (at_builtin; refine wpList_append_rd _ rfl _ _ 67 rfl w.heap.size 57 (.pointer none) 8 Try.underlying67 infoNode rfl _ k 1 _ rfl hown2 _ _ rfl hsrc hm1' hone (by omega) (by unfold maxLen; omega) hbx ?_; intro v1 w1 hown1 hgrow1 hat1; have hg1 : Grow w w1 := ((Below.alloc (A1.out.1 : Below w.heap.size w wr) hsz _).grown hgrow1 hbx (fun g hg => (hrow.out g hg).1)); have c1 := A4.out _ hg1; have G1 : Aside (Grow w w1) := hg1; clear hg1 hgrow1 hat1))
        obtain ⟨ao1, cap1, rfl⟩ : ∃ ao cap, v1 = .slice ao (k + 1) cap := by
          rcases hown1.2 with ⟨hv, h0⟩ | ⟨g, cap, cur, hv, _⟩
          · exact absurd h0 (by omega)
          · exact ⟨_, _, hv⟩
        go_roundg (m - (k + 1))
        case measure => omega
        case rel => exact ⟨k + 1, ao1, cap1, by omega, rfl, HX.out.symm, rfl, by rw [A1.out.2]; exact hown1, G1.out⟩
    · obtain rfl : k = m := by omega
      have hkn := HS.out.2 k (Nat.le_refl _)
      rw [hkn, show ptrOf none = .pointer none from rfl] at hs6
      subst hs6
      have A1 : Aside (wr.ownsRow w.heap.size 57 1 (.slice ao k cap) k (lineV M a k) ∧ Grow w wr) := ⟨hown, hgr⟩
      clear hown hgr hkn
      go_wp2_with fail
      go_ret
      exact ⟨_, k, rfl, hm1, hm33, HS.out.1, HS.out.2, A1.out.1, A1.out.2⟩
end Go.Proofs.Ytfdoofkofljgnaa
