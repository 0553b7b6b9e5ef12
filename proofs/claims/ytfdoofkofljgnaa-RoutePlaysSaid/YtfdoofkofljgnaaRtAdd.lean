/- Contract: Add, on a table. -/
import Derived.Test.YtfdoofkofljgnaaRtTells
import Derived.Test.YtfdoofkofljgnaaRtDel
namespace Go.Proofs.Ytfdoofkofljgnaa
set_option linter.unusedVariables false
set_option linter.unusedSimpArgs false
open Go.ChangeShapes Go.WideShapes Go.ChangeAt Go.RowKit Go.Shelf

theorem cells5_set : ∀ (l : List Rt) (p : Nat) (x : Rt), p < l.length → cells5 (l.set p x) = (((((cells5 l).set (p * 5) (.int .u32 x.net)).set (p * 5 + 1) (.int .i64 x.bits)).set (p * 5 + 2) (.int .u32 x.via)).set (p * 5 + 3) (.int .i64 x.iface)).set (p * 5 + 4) (.int .i64 x.cost)
  | [], p, x, h => absurd h (by simp)
  | y :: r, 0, x, _ => by simp [cells5, rc]
  | y :: r, p + 1, x, h => by
    have ih := cells5_set r p x (by simpa using h)
    have e : ∀ (z : Rt) (m : List Rt), cells5 (z :: m) = .int .u32 z.net :: .int .i64 z.bits :: .int .u32 z.via :: .int .i64 z.iface :: .int .i64 z.cost :: cells5 m := fun z m => by simp [cells5, rc]
    rw [List.set_cons_succ, e, e, ih, show (p + 1) * 5 = p * 5 + 1 + 1 + 1 + 1 + 1 from by omega]
    simp [Nat.add_assoc]
/-- A route laid over five cells. -/
def set5 (w : World) (g o : Nat) (x : Rt) : World :=
  ((((w.setCell ⟨g, o, none⟩ (.int .u32 x.net)).setCell ⟨g, o + 1, none⟩ (.int .i64 x.bits)).setCell ⟨g, o + 2, none⟩ (.int .u32 x.via)).setCell ⟨g, o + 3, none⟩ (.int .i64 x.iface)).setCell ⟨g, o + 4, none⟩ (.int .i64 x.cost)
theorem Orow.set5 {e : TypeId} {w : World} {base g cap : Nat} {l : List Rt} (h : Orow e w base (.slice (some ⟨g, 0, none⟩) l.length cap) l) {p : Nat} (hp : p < l.length) (x : Rt) :
    Orow e (set5 w g (p * 5) x) base (.slice (some ⟨g, 0, none⟩) l.length cap) (l.set p x) ∧ w.grownBy (set5 w g (p * 5) x) (some g) := by
  have s1 := World.ownsRow.stored h (p * 5) (.int .u32 x.net)
  have s2 := World.ownsRow.stored s1.1 (p * 5 + 1) (.int .i64 x.bits)
  have s3 := World.ownsRow.stored s2.1 (p * 5 + 2) (.int .u32 x.via)
  have s4 := World.ownsRow.stored s3.1 (p * 5 + 3) (.int .i64 x.iface)
  have s5 := World.ownsRow.stored s4.1 (p * 5 + 4) (.int .i64 x.cost)
  refine ⟨?_, Grown.trans (Grown.trans (Grown.trans (Grown.trans s1.2 s2.2) s3.2) s4.2) s5.2⟩
  unfold Orow
  rw [List.length_set, cells5_set l p x hp]
  exact s5.1

set_option maxRecDepth 10000 in
set_option maxHeartbeats 2000000 in
theorem Add_bad (w : World) (base tb : Nat) (r : List Rt) (M : Net) (role : Nat → Role) (h : Trie w base tb (r.length : Int) M role) (hM : Tells M r) (hF : Fine r) (x : Rt) (hx : x.Ok) (hbase : base ≤ w.heap.size) (hgd : x.good = false) :
    Calls Try.prog 16 #[.pointer (some ⟨tb, 0, none⟩), rtV x] w fun e w' => e = .returned (.int .i64 (raddE r x)) ∧ ∃ (M' : Net) (role' : Nat → Role), Trie w' base tb ((raddL r x).length : Int) M' role' ∧ Tells M' (raddL r x) ∧ Moves role w role' w' := by
  have e1 : raddE r x = 1 := by unfold raddE; rw [if_neg (by rw [hgd]; simp)]
  have e2 : raddL r x = r := by unfold raddL; rw [if_neg (by rw [hgd]; simp)]
  rw [e1, e2]
  have HT := Lib.hid (And.intro h hM)
  clear h hM hF e1 e2
  have cA := fun w => allowed_any x hx w
  obtain ⟨xn, xb, xv, xi, xc⟩ := x
  unfold rtV at *
  go_enter Try.func16, Try.ntmps16
  go_wp2_with fail
  generalize hW : w.alloc (.cells #[.int .u32 xn, .int .i64 xb, .int .u32 xv, .int .i64 xi, .int .i64 xc] 32) = W
  have hG : Grow w W := by rw [← hW]; exact Grow.alloc _ _
  have hsz : W.heap.size = w.heap.size + 1 := by rw [← hW]; simp
  have b0 : W.cell? ⟨w.heap.size, 0, none⟩ = some (.int .u32 xn) := by rw [← hW]; simp [World.cell?_alloc_new]
  have b1 : W.cell? ⟨w.heap.size, 1, none⟩ = some (.int .i64 xb) := by rw [← hW]; simp [World.cell?_alloc_new]
  have b2 : W.cell? ⟨w.heap.size, 2, none⟩ = some (.int .u32 xv) := by rw [← hW]; simp [World.cell?_alloc_new]
  have b3 : W.cell? ⟨w.heap.size, 3, none⟩ = some (.int .i64 xi) := by rw [← hW]; simp [World.cell?_alloc_new]
  have b4 : W.cell? ⟨w.heap.size, 4, none⟩ = some (.int .i64 xc) := by rw [← hW]; simp [World.cell?_alloc_new]
  have HBX : Hid (∀ w1, Grow W w1 → w1.cell? ⟨w.heap.size, 0, none⟩ = some (.int .u32 xn) ∧ w1.cell? ⟨w.heap.size, 1, none⟩ = some (.int .i64 xb) ∧ w1.cell? ⟨w.heap.size, 2, none⟩ = some (.int .u32 xv) ∧ w1.cell? ⟨w.heap.size, 3, none⟩ = some (.int .i64 xi) ∧ w1.cell? ⟨w.heap.size, 4, none⟩ = some (.int .i64 xc)) :=
    fun w1 hg => ⟨(hg.cell (p := ⟨w.heap.size, 0, none⟩) (by show w.heap.size < _; omega)).trans b0, (hg.cell (p := ⟨w.heap.size, 1, none⟩) (by show w.heap.size < _; omega)).trans b1, (hg.cell (p := ⟨w.heap.size, 2, none⟩) (by show w.heap.size < _; omega)).trans b2, (hg.cell (p := ⟨w.heap.size, 3, none⟩) (by show w.heap.size < _; omega)).trans b3, (hg.cell (p := ⟨w.heap.size, 4, none⟩) (by show w.heap.size < _; omega)).trans b4⟩
  have HG := Lib.hid (And.intro hG hsz)
  clear hW hG hsz
  rw [hgd] at cA
  clear hgd hx
  go_wp2_with (go_at_call 30; refine (cA _).mono ?_; rintro e w1 ⟨rfl, hg1⟩)
  go_ret
  exact ⟨rfl, M, role, HT.out.1.grow (HG.out.1.trans hg1), HT.out.2, Moves.grow (HG.out.1.trans hg1)⟩
end Go.Proofs.Ytfdoofkofljgnaa
