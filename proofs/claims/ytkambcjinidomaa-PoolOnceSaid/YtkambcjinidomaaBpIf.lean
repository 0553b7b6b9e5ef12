/- What the laws' walks of pool ask of the program's pool, as one structure: the walks take it as given; the program's contracts (a later text) give it. -/
import Derived.Test.YtkambcjinidomaaBpRef6
import Derived.Test.YtkambcjinidomaaBpOpen
namespace Go.Proofs.Ytkambcjinidomaa
set_option linter.unusedVariables false
set_option linter.unusedSimpArgs false
open Go.ChangeShapes Go.WideShapes Go.ChangeAt Go.RowKit

/-- What the program's calls may touch: blocks of other types than the law's and the reference's own. -/
def Zp (_ : Nat) (T : TypeId) : Prop := T ≠ 54 ∧ T ≠ 30 ∧ T ≠ 32 ∧ T ≠ 57
/-- A row of numbers. -/
def Nrw (w : World) (base : Nat) (v : Value) (l : List Int) : Prop := w.ownsRow base 3 1 v l.length (l.map fun n => Value.int .i64 n)
/-- The pool behind the pointer to block pb, its blocks from base on: what it holds. -/
abbrev BpT := World → Nat → Nat → Pls → Prop
structure BIf (Pp : BpT) : Prop where
  ok : ∀ {w : World} {base pb : Nat} {p : Pls}, Pp w base pb p → POk p
  keep : ∀ {w w' : World} {base pb : Nat} {p : Pls}, Pp w base pb p → (∀ b o T, w.heap[b]? = some o → objT o = some T → Zp b T → w'.heap[b]? = some o) → Pp w' base pb p
  new : ∀ w : World, Calls Try.prog 7 #[] w fun e w' => ∃ pb, e = .returned (.pointer (some ⟨pb, 0, none⟩)) ∧ Pp w' w.heap.size pb noneP ∧ Grow w w'
  prov : ∀ {w : World} {base pb : Nat} {p : Pls}, Pp w base pb p → base ≤ w.heap.size → ∀ g a n s : Int, AI64 g → AI64 a → AI64 n → AI64 s →
    Calls Try.prog 9 #[.pointer (some ⟨pb, 0, none⟩), .int .i64 g, .int .i64 a, .int .i64 n, .int .i64 s] w fun e w' => e = .returned (.int .i64 (pvE p g a n s)) ∧ Pp w' base pb (pvP p g a n s) ∧ Only base Zp w w'
  take : ∀ {w : World} {base pb : Nat} {p : Pls}, Pp w base pb p → base ≤ w.heap.size → ∀ g : Int, AI64 g →
    Calls Try.prog 11 #[.pointer (some ⟨pb, 0, none⟩), .int .i64 g] w fun e w' => e = .returned (.tuple #[.int .i64 (tkI p g), .int .i64 (tkS p g), .int .i64 (tkE p g)]) ∧ Pp w' base pb (tkP p g) ∧ Only base Zp w w'
  give : ∀ {w : World} {base pb : Nat} {p : Pls}, Pp w base pb p → base ≤ w.heap.size → ∀ g x : Int, AI64 g → AI64 x →
    Calls Try.prog 13 #[.pointer (some ⟨pb, 0, none⟩), .int .i64 g, .int .i64 x] w fun e w' => e = .returned (.int .i64 (gvE p g x)) ∧ Pp w' base pb (gvP p g x) ∧ Only base Zp w w'
  rem : ∀ {w : World} {base pb : Nat} {p : Pls}, Pp w base pb p → base ≤ w.heap.size → ∀ g n : Int, AI64 g → AI64 n →
    Calls Try.prog 15 #[.pointer (some ⟨pb, 0, none⟩), .int .i64 g, .int .i64 n] w fun e w' => e = .returned (.tuple #[.int .i64 (rmI p g n), .int .i64 (rmE g n)]) ∧ Pp w' base pb (rmP p g n) ∧ Only base Zp w w'
  state : ∀ {w : World} {base pb : Nat} {p : Pls}, Pp w base pb p → ∀ g x : Int, AI64 g → AI64 x →
    Calls Try.prog 17 #[.pointer (some ⟨pb, 0, none⟩), .int .i64 g, .int .i64 x] w fun e w' => e = .returned (.int .i64 (stS p g x)) ∧ Grow w w'
  free : ∀ {w : World} {base pb : Nat} {p : Pls}, Pp w base pb p → ∀ g : Int, AI64 g →
    Calls Try.prog 19 #[.pointer (some ⟨pb, 0, none⟩), .int .i64 g] w fun e w' => ∃ v, e = .returned v ∧ Nrw w' w.heap.size v (frL p g) ∧ Grow w w'
  out : ∀ {w : World} {base pb : Nat} {p : Pls}, Pp w base pb p → ∀ g : Int, AI64 g →
    Calls Try.prog 20 #[.pointer (some ⟨pb, 0, none⟩), .int .i64 g] w fun e w' => e = .returned (.int .i64 (ouN p g : Int)) ∧ Grow w w'
  provNil : ∀ (w : World) (g a n s : Int), Calls Try.prog 9 #[.pointer none, .int .i64 g, .int .i64 a, .int .i64 n, .int .i64 s] w fun e w' => e = .returned (.int .i64 7) ∧ Grow w w'
  takeNil : ∀ (w : World) (g : Int), Calls Try.prog 11 #[.pointer none, .int .i64 g] w fun e w' => e = .returned (.tuple #[.int .i64 0, .int .i64 0, .int .i64 7]) ∧ Grow w w'
  giveNil : ∀ (w : World) (g x : Int), Calls Try.prog 13 #[.pointer none, .int .i64 g, .int .i64 x] w fun e w' => e = .returned (.int .i64 7) ∧ Grow w w'
  remNil : ∀ (w : World) (g n : Int), Calls Try.prog 15 #[.pointer none, .int .i64 g, .int .i64 n] w fun e w' => e = .returned (.tuple #[.int .i64 0, .int .i64 7]) ∧ Grow w w'
  stateNil : ∀ (w : World) (g x : Int), Calls Try.prog 17 #[.pointer none, .int .i64 g, .int .i64 x] w fun e w' => e = .returned (.int .i64 0) ∧ Grow w w'
  freeNil : ∀ (w : World) (g : Int), Calls Try.prog 19 #[.pointer none, .int .i64 g] w fun e w' => e = .returned (.slice none 0 0) ∧ Grow w w'
  outNil : ∀ (w : World) (g : Int), Calls Try.prog 20 #[.pointer none, .int .i64 g] w fun e w' => e = .returned (.int .i64 0) ∧ Grow w w'
theorem bcode_any (x : Int) (w : World) : Calls Try.prog 8 #[.int .i64 x] w fun e w' => e = .returned (.int .i64 x) ∧ w' = w := by
  go_enter Try.func8, Try.ntmps8
  go_wp2_with fail
  go_ret
  exact ⟨rfl, rfl⟩
theorem bcode_grow (x : Int) (w : World) : Calls Try.prog 8 #[.int .i64 x] w fun e w' => e = .returned (.int .i64 x) ∧ Grow w w' := (bcode_any x w).mono fun _ _ ⟨h1, h2⟩ => ⟨h1, by rw [h2]; exact Grow.refl _⟩
section
variable {Pp : BpT} {w w' : World} {base pb : Nat} {p : Pls}
theorem BIf.grow (I : BIf Pp) (h : Pp w base pb p) (g : Grow w w') : Pp w' base pb p := I.keep h fun b o T ho _ _ => (g.block b (Array.getElem?_eq_some_iff.1 ho).1).trans ho
end
/-- The page's example, pool by pool. -/
def lv1 : Pls := pvP noneP 1 5 2 64
def lv2 : Pls := tkP lv1 1
def lv3 : Pls := tkP lv2 1
def lv4 : Pls := tkP lv3 1
def lv5 : Pls := gvP lv4 1 6
theorem lv_facts : pvE noneP 1 5 2 64 = 0 ∧ tkI lv1 1 = 5 ∧ tkS lv1 1 = 64 ∧ tkE lv1 1 = 0 ∧ tkI lv2 1 = 6 ∧ tkE lv2 1 = 0 ∧ tkE lv3 1 = 6 ∧ gvE lv4 1 6 = 0 ∧ tkI lv5 1 = 6 ∧ tkE lv5 1 = 0 := by
  refine ⟨?_, ?_, ?_, ?_, ?_, ?_, ?_, ?_, ?_, ?_⟩ <;> decide
set_option maxRecDepth 10000 in
set_option maxHeartbeats 1000000 in
theorem blive_any {Pp : BpT} (I : BIf Pp) (w : World) : Calls Try.prog 6 #[] w fun e w' => e = .returned (.bool true) ∧ Grow w w' := by
  have c0 := I.new w
  have HC := Lib.hid (fun x w => bcode_any x w)
  obtain ⟨z1, z2, z3, z4, z5, z6, z7, z8, z9, z10⟩ := lv_facts
  go_enter Try.func6, Try.ntmps6
  go_wp2_with fail
  refine c0.mono ?_
  rintro e w1 ⟨pb, rfl, h1, g1⟩
  have o0 : ∀ n : Int, -1000 ≤ n ∧ n ≤ 1000 → AI64 n := fun n hn => by unfold AI64; omega
  have c1 := I.prov h1 g1.size 1 5 2 64 (o0 _ (by omega)) (o0 _ (by omega)) (o0 _ (by omega)) (o0 _ (by omega))
  rw [z1] at c1
  have O1 := Lib.hid (Only.grow g1 (Nat.le_refl _) Zp)
  clear c0 h1 g1
  go_wp2_with fail
  refine c1.mono ?_
  rintro e w2 ⟨rfl, h2, o2⟩
  have O2 := Lib.hid (Only.trans O1.out o2)
  have c2 := I.take h2 O2.out.size 1 (o0 _ (by omega))
  rw [show pvP noneP 1 5 2 64 = lv1 from rfl, z2, z3, z4, show tkP lv1 1 = lv2 from rfl] at c2
  clear c1 h2 o2 O1
  go_wp2_with fail
  refine c2.mono ?_
  rintro e w3 ⟨rfl, h3, o3⟩
  have O3 := Lib.hid (Only.trans O2.out o3)
  have c3 := I.take h3 O3.out.size 1 (o0 _ (by omega))
  rw [z5, z6, show tkP lv2 1 = lv3 from rfl] at c3
  clear c2 h3 o3 O2
  generalize tkS lv2 1 = s2 at c3
  go_wp2_with fail
  refine c3.mono ?_
  rintro e w4 ⟨rfl, h4, o4⟩
  have O4 := Lib.hid (Only.trans O3.out o4)
  have c4 := I.take h4 O4.out.size 1 (o0 _ (by omega))
  rw [z7, show tkP lv3 1 = lv4 from rfl] at c4
  clear c3 h4 o4 O3
  generalize tkI lv3 1 = i3 at c4
  generalize tkS lv3 1 = s3 at c4
  go_wp2_with fail
  refine c4.mono ?_
  rintro e w5 ⟨rfl, h5, o5⟩
  have O5 := Lib.hid (Only.trans O4.out o5)
  have c5 := I.give h5 O5.out.size 1 6 (o0 _ (by omega)) (o0 _ (by omega))
  rw [z8, show gvP lv4 1 6 = lv5 from rfl] at c5
  clear c4 h5 o5 O4
  go_wp2_with fail
  refine c5.mono ?_
  rintro e w6 ⟨rfl, h6, o6⟩
  have O6 := Lib.hid (Only.trans O5.out o6)
  have c6 := I.take h6 O6.out.size 1 (o0 _ (by omega))
  rw [z9, z10] at c6
  clear c5 h6 o6 O5
  generalize tkS lv5 1 = s5 at c6
  go_wp2_with fail
  refine c6.mono ?_
  rintro e w7 ⟨rfl, h7, o7⟩
  have O7 := Lib.hid (Only.trans O6.out o7)
  clear c6 h7 o7 O6 z1 z2 z3 z4 z5 z6 z7 z8 z9 z10 o0
  iterate 6 (go_wp2_with fail; refine (HC.out _ _).mono ?_; rintro e w' ⟨rfl, hw⟩; subst w')
  go_wp2_with fail
  go_ret
  exact ⟨rfl, O7.out.low⟩
end Go.Proofs.Ytkambcjinidomaa
