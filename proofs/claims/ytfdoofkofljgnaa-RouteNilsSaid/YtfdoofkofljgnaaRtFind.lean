/- Contracts: Ways and Find, held against the document's list. -/
import Derived.Test.YtfdoofkofljgnaaRtWays
import Derived.Test.YtfdoofkofljgnaaRtAdd
namespace Go.Proofs.Ytfdoofkofljgnaa
set_option linter.unusedVariables false
set_option linter.unusedSimpArgs false
open Go.ChangeShapes Go.WideShapes Go.ChangeAt Go.RowKit Go.Shelf

theorem Ways_any (w : World) (base tb : Nat) (r : List Rt) (M : Net) (role : Nat → Role) (h : Trie w base tb (r.length : Int) M role) (hM : Tells M r) (hF : Fine r) (a : Int) (ha : 0 ≤ a ∧ a ≤ 4294967295) :
    Calls Try.prog 14 #[.pointer (some ⟨tb, 0, none⟩), .int .u32 a] w fun e w' => ∃ v, e = .returned v ∧ Orow 32 w' w.heap.size v (rwaysL r a) ∧ Grow w w' :=
  (Ways_walk w base tb _ M role h (fun k x d hd => hM.few hF hd) a ha).mono fun _ _ ⟨v, m, he, hs, hn, ho, hg⟩ => ⟨v, he, by rw [← downOf_ways hM hF hs hn]; exact ho, hg⟩

/-- What Find answers, of the routes to an address. -/
def findR : List Rt → Rt
  | [] => ⟨0, 0, 0, 0, 0⟩
  | y :: _ => y
def findE : List Rt → Int
  | [] => 6
  | _ :: _ => 0
theorem RtAt.set5 (w : World) (g : Nat) (r : Rt) (h0 : (w.cell? ⟨g, 0, none⟩).isSome = true) (h1 : (w.cell? ⟨g, 1, none⟩).isSome = true) (h2 : (w.cell? ⟨g, 2, none⟩).isSome = true) (h3 : (w.cell? ⟨g, 3, none⟩).isSome = true) (h4 : (w.cell? ⟨g, 4, none⟩).isSome = true) : RtAt (set5 w g 0 r) g 0 r := by
  unfold Go.Proofs.Ytfdoofkofljgnaa.set5 RtAt
  simp only [Nat.zero_add]
  have ne : ∀ i j : Nat, i ≠ j → (⟨g, i, none⟩ : Addr) ≠ ⟨g, j, none⟩ := fun i j h e => by injection e with _ e; exact h e
  refine ⟨?_, ?_, ?_, ?_, ?_⟩
  · rw [World.cell?_setCell_other _ _ _ _ (ne 4 0 (by decide)), World.cell?_setCell_other _ _ _ _ (ne 3 0 (by decide)), World.cell?_setCell_other _ _ _ _ (ne 2 0 (by decide)), World.cell?_setCell_other _ _ _ _ (ne 1 0 (by decide))]
    exact World.cell?_setCell_same' _ _ _ h0
  · rw [World.cell?_setCell_other _ _ _ _ (ne 4 1 (by decide)), World.cell?_setCell_other _ _ _ _ (ne 3 1 (by decide)), World.cell?_setCell_other _ _ _ _ (ne 2 1 (by decide))]
    refine World.cell?_setCell_same' _ _ _ ?_
    rw [World.cell?_setCell_other _ _ _ _ (ne 0 1 (by decide))]; exact h1
  · rw [World.cell?_setCell_other _ _ _ _ (ne 4 2 (by decide)), World.cell?_setCell_other _ _ _ _ (ne 3 2 (by decide))]
    refine World.cell?_setCell_same' _ _ _ ?_
    rw [World.cell?_setCell_other _ _ _ _ (ne 1 2 (by decide)), World.cell?_setCell_other _ _ _ _ (ne 0 2 (by decide))]; exact h2
  · rw [World.cell?_setCell_other _ _ _ _ (ne 4 3 (by decide))]
    refine World.cell?_setCell_same' _ _ _ ?_
    rw [World.cell?_setCell_other _ _ _ _ (ne 2 3 (by decide)), World.cell?_setCell_other _ _ _ _ (ne 1 3 (by decide)), World.cell?_setCell_other _ _ _ _ (ne 0 3 (by decide))]; exact h3
  · refine World.cell?_setCell_same' _ _ _ ?_
    rw [World.cell?_setCell_other _ _ _ _ (ne 3 4 (by decide)), World.cell?_setCell_other _ _ _ _ (ne 2 4 (by decide)), World.cell?_setCell_other _ _ _ _ (ne 1 4 (by decide)), World.cell?_setCell_other _ _ _ _ (ne 0 4 (by decide))]; exact h4
theorem below_set5 {B : Nat} {w0 w : World} (h : Below B w0 w) {g : Nat} (hg : B ≤ g) (o : Nat) (r : Rt) : Below B w0 (set5 w g o r) := by
  unfold Go.Proofs.Ytfdoofkofljgnaa.set5
  exact ((((h.setCell hg _).setCell hg _).setCell hg _).setCell hg _).setCell hg _

set_option maxRecDepth 10000 in
set_option maxHeartbeats 2000000 in
theorem Find_any (w : World) (base tb : Nat) (r : List Rt) (M : Net) (role : Nat → Role) (h : Trie w base tb (r.length : Int) M role) (hM : Tells M r) (hF : Fine r) (a : Int) (ha : 0 ≤ a ∧ a ≤ 4294967295) :
    Calls Try.prog 10 #[.pointer (some ⟨tb, 0, none⟩), .int .u32 a] w fun e w' => e = .returned (.tuple #[rtV (findR (rwaysL r a)), .int .i64 (findE (rwaysL r a))]) ∧ Grow w w' := by
  have cW := fun w1 (hg : Grow w w1) => Ways_any w1 base tb r M role (h.grow hg) hM hF a ha
  clear h hM hF
  generalize rwaysL r a = l at *
  go_enter Try.func10, Try.ntmps10
  go_wp2_with fail
  refine (cW _ (Grow.alloc _ _)).mono ?_
  clear cW
  rintro e w2 ⟨v, rfl, ho, hg⟩
  have z := RtAt.new w ⟨0, 0, 0, 0, 0⟩ 32
  have hlt : w.heap.size < (w.alloc (.cells #[.int .u32 0, .int .i64 0, .int .u32 0, .int .i64 0, .int .i64 0] 32)).heap.size := by simp
  obtain ⟨z0, z1, z2, z3, z4⟩ := z.grow hg hlt
  simp only [Nat.zero_add] at z1 z2 z3 z4
  have hf : ∀ i, w2.frozen? ⟨w.heap.size, i, none⟩ = false := fun i => by
    rw [hg.frozen (p := ⟨w.heap.size, i, none⟩) hlt]
    unfold World.frozen?
    rw [heap_alloc_new w (.cells #[.int .u32 0, .int .i64 0, .int .u32 0, .int .i64 0, .int .i64 0] 32)]
    simp
  have HGw : Hid (Grow w w2) := (Grow.alloc w _).trans hg
  have hS := fun r => RtAt.set5 w2 w.heap.size r (by rw [z0]; rfl) (by rw [z1]; rfl) (by rw [z2]; rfl) (by rw [z3]; rfl) (by rw [z4]; rfl)
  have HS := Lib.hid hS
  obtain ⟨A, c, rfl, hlc, hcm⟩ := ho.rts.form
  rcases l with _ | ⟨y, t⟩
  · clear ho hg hS hlt
    rw [show ([] : List Rt).length = 0 from rfl] at *
    go_wp2_with fail
    refine bodyPost_ret (results_rt rfl _ _ w.heap.size ⟨0, 0, 0, 0, 0⟩ rfl (HS.out ⟨0, 0, 0, 0, 0⟩)) rfl ?_
    exact ⟨rfl, below_set5 HGw.out (Nat.le_refl _) 0 ⟨0, 0, 0, 0, 0⟩⟩
  · obtain ⟨b, off, rfl, hb, hcell⟩ := ho.rts.at_ (by simp)
    obtain ⟨x0, x1, x2, x3, x4⟩ := hcell 0 (by simp)
    simp only [List.getElem_cons_zero, Nat.zero_mul, Nat.add_zero] at x0 x1 x2 x3 x4
    clear ho hg hS hlt hcell hb
    obtain ⟨yn, yb, yv, yi, yc⟩ := y
    rw [show (((⟨yn, yb, yv, yi, yc⟩ : Rt) :: t).length) = t.length + 1 from rfl] at *
    generalize t.length = L at *
    have hL : (((L + 1 : Nat) : Int) == 0) = false := by simp; omega
    go_wp2_with fail
    refine bodyPost_ret (results_rt rfl _ _ w.heap.size ⟨yn, yb, yv, yi, yc⟩ rfl (HS.out ⟨yn, yb, yv, yi, yc⟩)) rfl ?_
    exact ⟨rfl, below_set5 HGw.out (Nat.le_refl _) 0 ⟨yn, yb, yv, yi, yc⟩⟩
end Go.Proofs.Ytfdoofkofljgnaa
