/- What the laws' walks of rto ask of the program, as one structure: the walks take it as given; the program's contracts (a later text) give it. -/
import Derived.Test.YtpbnpkbmefjiaaaRoRef2
import Derived.Test.YtpbnpkbmefjiaaaRoOpen
namespace Go.Proofs.Ytpbnpkbmefjiaaa
set_option linter.unusedVariables false
set_option linter.unusedSimpArgs false
open Go.ChangeShapes Go.WideShapes Go.ChangeAt Go.RowKit

/-- What the program's calls may touch: blocks of other types than the law's and the reference's own. -/
def Zr (_ : Nat) (T : TypeId) : Prop := T ≠ 33
/-- What is waited behind the pointer to block pb, its blocks from base on. -/
abbrev RoT := World → Nat → Nat → Ro → Prop
structure RIf (Rp : RoT) : Prop where
  ok : ∀ {w : World} {base pb : Nat} {r : Ro}, Rp w base pb r → RoOk r
  keep : ∀ {w w' : World} {base pb : Nat} {r : Ro}, Rp w base pb r → (∀ b o T, base ≤ b → w.heap[b]? = some o → objT o = some T → Zr b T → w'.heap[b]? = some o) → Rp w' base pb r
  new : ∀ (w : World) (l h f : Nat), RoRight (l : Int) (h : Int) (f : Int) → Calls Try.prog 6 #[.int .i64 (l : Int), .int .i64 (h : Int), .int .i64 (f : Int)] w fun e w' => ∃ pb, e = .returned (.tuple #[.pointer (some ⟨pb, 0, none⟩), .int .i64 0]) ∧ Rp w' w.heap.size pb (noneRo l h f) ∧ Grow w w'
  newNot : ∀ (w : World) (l h f : Int), In64 l → In64 h → In64 f → ¬ RoRight l h f → Calls Try.prog 6 #[.int .i64 l, .int .i64 h, .int .i64 f] w fun e w' => e = .returned (.tuple #[.pointer none, .int .i64 1]) ∧ Grow w w'
  sample : ∀ {w : World} {base pb : Nat} {r : Ro}, Rp w base pb r → base ≤ w.heap.size → ∀ t : Int, In64 t → Calls Try.prog 12 #[.pointer (some ⟨pb, 0, none⟩), .int .i64 t] w fun x w' => x = .returned (.tuple #[]) ∧ Rp w' base pb (roSp r (clipT t)) ∧ Only base Zr w w'
  back : ∀ {w : World} {base pb : Nat} {r : Ro}, Rp w base pb r → base ≤ w.heap.size → r.backs < 4611686018427387904 → Calls Try.prog 10 #[.pointer (some ⟨pb, 0, none⟩)] w fun x w' => x = .returned (.tuple #[]) ∧ Rp w' base pb (roBk r) ∧ Only base Zr w w'
  now : ∀ {w : World} {base pb : Nat} {r : Ro}, Rp w base pb r → Calls Try.prog 9 #[.pointer (some ⟨pb, 0, none⟩)] w fun x w' => x = .returned (.int .i64 (r.now : Int)) ∧ Grow w w'
  smooth : ∀ {w : World} {base pb : Nat} {r : Ro}, Rp w base pb r → Calls Try.prog 14 #[.pointer (some ⟨pb, 0, none⟩)] w fun x w' => x = .returned (.tuple #[.int .i64 ((r.m / 8 : Nat) : Int), .int .i64 ((r.v / 4 : Nat) : Int)]) ∧ Grow w w'
  backs : ∀ {w : World} {base pb : Nat} {r : Ro}, Rp w base pb r → Calls Try.prog 15 #[.pointer (some ⟨pb, 0, none⟩)] w fun x w' => x = .returned (.int .i64 (r.backs : Int)) ∧ Grow w w'
  sampleNil : ∀ (w : World) (t : Int), In64 t → Calls Try.prog 12 #[.pointer none, .int .i64 t] w fun x w' => x = .returned (.tuple #[]) ∧ Grow w w'
  backNil : ∀ w : World, Calls Try.prog 10 #[.pointer none] w fun x w' => x = .returned (.tuple #[]) ∧ Grow w w'
  nowNil : ∀ w : World, Calls Try.prog 9 #[.pointer none] w fun x w' => x = .returned (.int .i64 0) ∧ Grow w w'
  smoothNil : ∀ w : World, Calls Try.prog 14 #[.pointer none] w fun x w' => x = .returned (.tuple #[.int .i64 0, .int .i64 0]) ∧ Grow w w'
  backsNil : ∀ w : World, Calls Try.prog 15 #[.pointer none] w fun x w' => x = .returned (.int .i64 0) ∧ Grow w w'
theorem rcode_any (x : Int) (w : World) : Calls Try.prog 8 #[.int .i64 x] w fun e w' => e = .returned (.int .i64 x) ∧ w' = w := by
  go_enter Try.func8, Try.ntmps8
  go_wp2_with fail
  go_ret
  exact ⟨rfl, rfl⟩
section
variable {Rp : RoT} {w w' : World} {base pb : Nat} {r : Ro}
theorem RIf.grow (I : RIf Rp) (h : Rp w base pb r) (g : Grow w w') : Rp w' base pb r := I.keep h fun b o T _ ho _ _ => (g.block b (Array.getElem?_eq_some_iff.1 ho).1).trans ho
end
def ro1 : Ro := noneRo 2 100 10
def ro2 : Ro := roSp ro1 (clipT 8)
def ro3 : Ro := roBk ro2
theorem ro_facts : ro2.now = 24 ∧ ro3.now = 48 ∧ ro2.backs = 0 := by
  refine ⟨?_, ?_, ?_⟩ <;> decide
set_option maxRecDepth 10000 in
set_option maxHeartbeats 1000000 in
theorem rlive_any {Rp : RoT} (I : RIf Rp) (w : World) : Calls Try.prog 5 #[] w fun e w' => e = .returned (.bool true) ∧ Grow w w' := by
  have c0 := I.new w 2 100 10 (by unfold RoRight; omega)
  have HC := Lib.hid (fun x w => rcode_any x w)
  have HI := Lib.hid I
  have HB : Hid (In64 8) := by unfold Hid In64; omega
  obtain ⟨z1, z2, z3⟩ := ro_facts
  have HZ := Lib.hid (And.intro z1 (And.intro z2 z3))
  clear z1 z2 z3
  go_enter Try.func5, Try.ntmps5
  go_wp2_with fail
  refine c0.mono ?_
  rintro e w1 ⟨pb, rfl, h1, g1⟩
  have O1 := Lib.hid (Only.grow g1 (Nat.le_refl _) Zr)
  have c1 := HI.out.sample h1 g1.size 8 HB.out
  rw [show noneRo 2 100 10 = ro1 from rfl, show roSp ro1 (clipT 8) = ro2 from rfl] at c1
  clear c0 h1 g1
  go_wp2_with fail
  refine (HC.out _ _).mono ?_
  rintro e w' ⟨rfl, hw⟩
  subst w'
  go_wp2_with fail
  refine c1.mono ?_
  rintro e w2 ⟨rfl, h2, o2⟩
  have O2 := Lib.hid (Only.trans O1.out o2)
  have c2 := HI.out.now h2
  rw [HZ.out.1] at c2
  have H2 := Lib.hid h2
  clear c1 h2 o2 O1
  go_wp2_with fail
  refine c2.mono ?_
  rintro e w3 ⟨rfl, g3⟩
  have h3 := HI.out.grow H2.out g3
  have O3 := Lib.hid (Only.trans O2.out (Only.grow g3 O2.out.size Zr))
  have c3 := HI.out.back h3 O3.out.size (by rw [HZ.out.2.2]; decide)
  rw [show roBk ro2 = ro3 from rfl] at c3
  clear c2 h3 g3 O2 H2
  go_wp2_with fail
  refine c3.mono ?_
  rintro e w4 ⟨rfl, h4, o4⟩
  have O4 := Lib.hid (Only.trans O3.out o4)
  have c4 := HI.out.now h4
  rw [HZ.out.2.1] at c4
  clear c3 h4 o4 O3
  go_wp2_with fail
  refine c4.mono ?_
  rintro e w5 ⟨rfl, g5⟩
  have O5 := Lib.hid (Only.trans O4.out (Only.grow g5 O4.out.size Zr))
  clear c4 g5 O4
  go_wp2_with fail
  go_ret
  exact ⟨rfl, O5.out.low⟩
end Go.Proofs.Ytpbnpkbmefjiaaa
