/- What the laws' walks of port ask of the program's table, as one structure: the walks take it as given; the program's contracts (a later text) give it. -/
import Derived.Test.YtkilfdhofbjkgaaPoRef8
import Derived.Test.YtkilfdhofbjkgaaPoOpen
namespace Go.Proofs.Ytkilfdhofbjkgaa
set_option linter.unusedVariables false
set_option linter.unusedSimpArgs false
open Go.ChangeShapes Go.WideShapes Go.ChangeAt Go.RowKit

/-- What the program's calls may touch: blocks of other types than the law's and the reference's own. -/
def Zo (_ : Nat) (T : TypeId) : Prop := T ≠ 74 ∧ T ≠ 76 ∧ T ≠ 32 ∧ T ≠ 44
/-- The table behind the pointer to block pb, its blocks from base on: what it holds. -/
abbrev PoT := World → Nat → Nat → Prt → Prop
structure OIf (Pp : PoT) : Prop where
  ok : ∀ {w : World} {base pb : Nat} {t : Prt}, Pp w base pb t → TOk t
  keep : ∀ {w w' : World} {base pb : Nat} {t : Prt}, Pp w base pb t → (∀ b o T, base ≤ b → w.heap[b]? = some o → objT o = some T → Zo b T → w'.heap[b]? = some o) → Pp w' base pb t
  new : ∀ (w : World) (lo hi : Int), In64 lo → In64 hi → 1 ≤ lo ∧ lo ≤ hi ∧ hi ≤ 65535 → Calls Try.prog 7 #[.int .i64 lo, .int .i64 hi] w fun e w' => ∃ pb, e = .returned (.tuple #[.pointer (some ⟨pb, 0, none⟩), .int .i64 0]) ∧ Pp w' w.heap.size pb (noneT lo hi) ∧ Grow w w'
  newNot : ∀ (w : World) (lo hi : Int), In64 lo → In64 hi → ¬ (1 ≤ lo ∧ lo ≤ hi ∧ hi ≤ 65535) → Calls Try.prog 7 #[.int .i64 lo, .int .i64 hi] w fun e w' => e = .returned (.tuple #[.pointer none, .int .i64 1]) ∧ Grow w w'
  bind : ∀ {w : World} {base pb : Nat} {t : Prt}, Pp w base pb t → base ≤ w.heap.size → ∀ (e : Ed) (o : Int), e.Ok → In64 o →
    Calls Try.prog 17 #[.pointer (some ⟨pb, 0, none⟩), .agg #[.int .u32 e.ad, .int .u16 e.po], .int .i64 o] w fun x w' => x = .returned (.int .i64 (bdE t e)) ∧ Pp w' base pb (bdT t e o) ∧ Only base Zo w w'
  unbind : ∀ {w : World} {base pb : Nat} {t : Prt}, Pp w base pb t → base ≤ w.heap.size → ∀ (e : Ed) (o : Int), e.Ok → In64 o →
    Calls Try.prog 20 #[.pointer (some ⟨pb, 0, none⟩), .agg #[.int .u32 e.ad, .int .u16 e.po], .int .i64 o] w fun x w' => x = .returned (.int .i64 (ubE t e o)) ∧ Pp w' base pb (ubT t e o) ∧ Only base Zo w w'
  pick : ∀ {w : World} {base pb : Nat} {t : Prt}, Pp w base pb t → base ≤ w.heap.size → ∀ a : Int, In32 a →
    Calls Try.prog 16 #[.pointer (some ⟨pb, 0, none⟩), .int .u32 a] w fun x w' => x = .returned (.tuple #[.int .u16 (pkP t a), .int .i64 (pkE t a)]) ∧ Pp w' base pb (pkT t a) ∧ Only base Zo w w'
  join : ∀ {w : World} {base pb : Nat} {t : Prt}, Pp w base pb t → base ≤ w.heap.size → ∀ (q : Qd) (o : Int), q.Ok → In64 o →
    Calls Try.prog 18 #[.pointer (some ⟨pb, 0, none⟩), .agg #[.int .u32 q.l.ad, .int .u16 q.l.po, .int .u32 q.r.ad, .int .u16 q.r.po], .int .i64 o] w fun x w' => x = .returned (.int .i64 (joE t q)) ∧ Pp w' base pb (joT t q o) ∧ Only base Zo w w'
  part : ∀ {w : World} {base pb : Nat} {t : Prt}, Pp w base pb t → base ≤ w.heap.size → ∀ q : Qd, q.Ok →
    Calls Try.prog 21 #[.pointer (some ⟨pb, 0, none⟩), .agg #[.int .u32 q.l.ad, .int .u16 q.l.po, .int .u32 q.r.ad, .int .u16 q.r.po]] w fun x w' => x = .returned (.int .i64 (paE t q)) ∧ Pp w' base pb (paT t q) ∧ Only base Zo w w'
  owner : ∀ {w : World} {base pb : Nat} {t : Prt}, Pp w base pb t → ∀ e : Ed, e.Ok →
    Calls Try.prog 11 #[.pointer (some ⟨pb, 0, none⟩), .agg #[.int .u32 e.ad, .int .u16 e.po]] w fun x w' => x = .returned (.tuple #[.int .i64 (owS t.B e).1, .bool (owS t.B e).2]) ∧ Grow w w'
  talks : ∀ {w : World} {base pb : Nat} {t : Prt}, Pp w base pb t → ∀ q : Qd, q.Ok →
    Calls Try.prog 13 #[.pointer (some ⟨pb, 0, none⟩), .agg #[.int .u32 q.l.ad, .int .u16 q.l.po, .int .u32 q.r.ad, .int .u16 q.r.po]] w fun x w' => x = .returned (.tuple #[.int .i64 (tlS t.J q).1, .bool (tlS t.J q).2]) ∧ Grow w w'
  find : ∀ {w : World} {base pb : Nat} {t : Prt}, Pp w base pb t → ∀ q : Qd, q.Ok →
    Calls Try.prog 15 #[.pointer (some ⟨pb, 0, none⟩), .agg #[.int .u32 q.l.ad, .int .u16 q.l.po, .int .u32 q.r.ad, .int .u16 q.r.po]] w fun x w' => x = .returned (.tuple #[.int .i64 (fdS t q).1, .bool (fdS t q).2.1, .bool (fdS t q).2.2]) ∧ Grow w w'
  len : ∀ {w : World} {base pb : Nat} {t : Prt}, Pp w base pb t →
    Calls Try.prog 19 #[.pointer (some ⟨pb, 0, none⟩)] w fun x w' => x = .returned (.tuple #[.int .i64 (t.B.length : Int), .int .i64 (t.J.length : Int)]) ∧ Grow w w'
  bindNil : ∀ (w : World) (e : Ed) (o : Int), Calls Try.prog 17 #[.pointer none, .agg #[.int .u32 e.ad, .int .u16 e.po], .int .i64 o] w fun x w' => x = .returned (.int .i64 7) ∧ Grow w w'
  unbindNil : ∀ (w : World) (e : Ed) (o : Int), Calls Try.prog 20 #[.pointer none, .agg #[.int .u32 e.ad, .int .u16 e.po], .int .i64 o] w fun x w' => x = .returned (.int .i64 7) ∧ Grow w w'
  pickNil : ∀ (w : World) (a : Int), Calls Try.prog 16 #[.pointer none, .int .u32 a] w fun x w' => x = .returned (.tuple #[.int .u16 0, .int .i64 7]) ∧ Grow w w'
  joinNil : ∀ (w : World) (q : Qd) (o : Int), Calls Try.prog 18 #[.pointer none, .agg #[.int .u32 q.l.ad, .int .u16 q.l.po, .int .u32 q.r.ad, .int .u16 q.r.po], .int .i64 o] w fun x w' => x = .returned (.int .i64 7) ∧ Grow w w'
  partNil : ∀ (w : World) (q : Qd), Calls Try.prog 21 #[.pointer none, .agg #[.int .u32 q.l.ad, .int .u16 q.l.po, .int .u32 q.r.ad, .int .u16 q.r.po]] w fun x w' => x = .returned (.int .i64 7) ∧ Grow w w'
  ownerNil : ∀ (w : World) (e : Ed), Calls Try.prog 11 #[.pointer none, .agg #[.int .u32 e.ad, .int .u16 e.po]] w fun x w' => x = .returned (.tuple #[.int .i64 0, .bool false]) ∧ Grow w w'
  talksNil : ∀ (w : World) (q : Qd), Calls Try.prog 13 #[.pointer none, .agg #[.int .u32 q.l.ad, .int .u16 q.l.po, .int .u32 q.r.ad, .int .u16 q.r.po]] w fun x w' => x = .returned (.tuple #[.int .i64 0, .bool false]) ∧ Grow w w'
  findNil : ∀ (w : World) (q : Qd), Calls Try.prog 15 #[.pointer none, .agg #[.int .u32 q.l.ad, .int .u16 q.l.po, .int .u32 q.r.ad, .int .u16 q.r.po]] w fun x w' => x = .returned (.tuple #[.int .i64 0, .bool false, .bool false]) ∧ Grow w w'
  lenNil : ∀ w : World, Calls Try.prog 19 #[.pointer none] w fun x w' => x = .returned (.tuple #[.int .i64 0, .int .i64 0]) ∧ Grow w w'
theorem ocode_any (x : Int) (w : World) : Calls Try.prog 8 #[.int .i64 x] w fun e w' => e = .returned (.int .i64 x) ∧ w' = w := by
  go_enter Try.func8, Try.ntmps8
  go_wp2_with fail
  go_ret
  exact ⟨rfl, rfl⟩
theorem ocode_grow (x : Int) (w : World) : Calls Try.prog 8 #[.int .i64 x] w fun e w' => e = .returned (.int .i64 x) ∧ Grow w w' := (ocode_any x w).mono fun _ _ ⟨h1, h2⟩ => ⟨h1, by rw [h2]; exact Grow.refl _⟩
section
variable {Pp : PoT} {w w' : World} {base pb : Nat} {t : Prt}
theorem OIf.grow (I : OIf Pp) (h : Pp w base pb t) (g : Grow w w') : Pp w' base pb t := I.keep h fun b o T _ ho _ _ => (g.block b (Array.getElem?_eq_some_iff.1 ho).1).trans ho
end
/-- The page's example, table by table. -/
def ot1 : Prt := noneT 10 11
def ot2 : Prt := pkT ot1 5
def ot3 : Prt := bdT ot2 ⟨5, 10⟩ 1
def ot4 : Prt := pkT ot3 5
theorem ot_facts : pkP ot1 5 = 10 ∧ pkE ot1 5 = 0 ∧ bdE ot2 ⟨5, 10⟩ = 0 ∧ pkP ot3 5 = 11 ∧ pkE ot3 5 = 0 ∧ pkP ot4 5 = 11 ∧ pkE ot4 5 = 0 := by
  refine ⟨?_, ?_, ?_, ?_, ?_, ?_, ?_⟩ <;> decide
set_option maxRecDepth 10000 in
set_option maxHeartbeats 1000000 in
theorem olive_any {Pp : PoT} (I : OIf Pp) (w : World) : Calls Try.prog 6 #[] w fun e w' => e = .returned (.bool true) ∧ Grow w w' := by
  have c0 := I.new w 10 11 (by unfold In64; omega) (by unfold In64; omega) (by omega)
  have HC := Lib.hid (fun x w => ocode_any x w)
  have HO : Hid (In64 1 ∧ In32 5 ∧ Ed.Ok ⟨5, 10⟩) := ⟨by unfold In64; omega, by unfold In32; omega, by show (0 : Int) ≤ 5 ∧ (5 : Int) ≤ 4294967295; omega, by show (0 : Int) ≤ 10 ∧ (10 : Int) ≤ 65535; omega⟩
  obtain ⟨z1, z2, z3, z4, z5, z6, z7⟩ := ot_facts
  go_enter Try.func6, Try.ntmps6
  go_wp2_with fail
  refine c0.mono ?_
  rintro e w1 ⟨pb, rfl, h1, g1⟩
  have O1 := Lib.hid (Only.grow g1 (Nat.le_refl _) Zo)
  have c1 := I.pick h1 g1.size 5 HO.out.2.1
  rw [show noneT 10 11 = ot1 from rfl, z1, z2, show pkT ot1 5 = ot2 from rfl] at c1
  clear c0 h1 g1
  go_wp2_with fail
  refine (HC.out _ _).mono ?_
  rintro e w' ⟨rfl, hw⟩
  subst w'
  go_wp2_with fail
  refine c1.mono ?_
  rintro e w2 ⟨rfl, h2, o2⟩
  have O2 := Lib.hid (Only.trans O1.out o2)
  have c2 := I.bind h2 O2.out.size ⟨5, 10⟩ 1 HO.out.2.2 HO.out.1
  rw [z3, show bdT ot2 ⟨5, 10⟩ 1 = ot3 from rfl] at c2
  clear c1 h2 o2 O1
  go_wp2_with fail
  refine c2.mono ?_
  rintro e w3 ⟨rfl, h3, o3⟩
  have O3 := Lib.hid (Only.trans O2.out o3)
  have c3 := I.pick h3 O3.out.size 5 HO.out.2.1
  rw [z4, z5, show pkT ot3 5 = ot4 from rfl] at c3
  clear c2 h3 o3 O2
  go_wp2_with fail
  refine c3.mono ?_
  rintro e w4 ⟨rfl, h4, o4⟩
  have O4 := Lib.hid (Only.trans O3.out o4)
  have c4 := I.pick h4 O4.out.size 5 HO.out.2.1
  rw [z6, z7] at c4
  clear c3 h4 o4 O3
  go_wp2_with fail
  refine c4.mono ?_
  rintro e w5 ⟨rfl, h5, o5⟩
  have O5 := Lib.hid (Only.trans O4.out o5)
  clear c4 h5 o5 O4 z1 z2 z3 z4 z5 z6 z7
  iterate 4 (go_wp2_with fail; refine (HC.out _ _).mono ?_; rintro e w' ⟨rfl, hw⟩; subst w')
  go_wp2_with fail
  go_ret
  exact ⟨rfl, O5.out.low⟩
end Go.Proofs.Ytkilfdhofbjkgaa
