/- UdpNils: its walk. -/
import Derived.Test.YtkblgigpgpjjlaaUdMuch
namespace Go.Proofs.Ytkblgigpgpjjlaa
set_option linter.unusedVariables false
set_option linter.unusedSimpArgs false
open Go.ChangeShapes Go.WideShapes Go.ChangeAt Go.RowKit

/-- What the law holds: the call that came in, the datagram and the end that were handed back. -/
structure NlU (W : World) (a b c : Nat) (x : Ua) : Prop where
  act : W.heap[a]? = some (.cells #[.int .i64 x.d, .int .i64 x.n, .int .u32 x.m.f.ad, .int .u16 x.m.f.po, .slice x.m.A x.m.n x.m.c] 42 (0, 0))
  ml : MlB W b 0 0 (.slice none 0 0)
  en : W.heap[c]? = some (.cells #[.int .u32 0, .int .u16 0] 34 (0, 0))
  byt : Byt W x.m.v x.m.d
theorem NlU.grow {W W' : World} {a b c : Nat} {x : Ua} (h : NlU W a b c x) (g : Grow W W') : NlU W' a b c x := ⟨(g.block _ (Array.getElem?_eq_some_iff.1 h.act).1).trans h.act, h.ml.grow g, (g.block _ (Array.getElem?_eq_some_iff.1 h.en).1).trans h.en, h.byt.grow g⟩
set_option maxRecDepth 100000 in
set_option maxHeartbeats 2000000 in
theorem udpNils_if {Up : UbT} (I : UIf Up) (w : World) {v : Value} {x : Ua} (hx : v = uaV x ∧ x.Ok w) : Calls Try.prog 5 #[v] w fun e w' => e = .returned (.bool true) ∧ Below w.heap.size w w' := by
  obtain ⟨rfl, hok⟩ := hx
  obtain ⟨W, hW⟩ : ∃ W, W = w.alloc (.cells #[.int .i64 x.d, .int .i64 x.n, .int .u32 x.m.f.ad, .int .u16 x.m.f.po, .slice x.m.A x.m.n x.m.c] 42) := ⟨_, rfl⟩
  have hg : Grow w W := by rw [hW]; exact Grow.alloc _ _
  have hh : W.heap[w.heap.size]? = some (.cells #[.int .i64 x.d, .int .i64 x.n, .int .u32 x.m.f.ad, .int .u16 x.m.f.po, .slice x.m.A x.m.n x.m.c] 42 (0, 0)) := by rw [hW]; exact heap_alloc_new w _
  have y1 : W.cell? ⟨w.heap.size, 1, none⟩ = some (.int .i64 x.n) := (cell_of_row W _ 1 _ _ _ hh).trans rfl
  have HB := Lib.hid (And.intro hg (And.intro hh (hok.2.2.2.1.grow hg)))
  have HC := Lib.hid (fun x w => ucode_any x w)
  have HI := Lib.hid I
  obtain ⟨d, n, ⟨⟨ea, ep⟩, A, k, c, bs⟩⟩ := x
  unfold uaV
  simp only at y1 hW HB
  have c1 := I.takeNil W n
  clear hok hg hh I
  go_enter Try.func5, Try.ntmps5
  go_upto_region 2 with fail
  rw [← hW]
  have HW := Lib.hid hW
  clear hW
  go_wp2_with fail
  refine c1.mono ?_
  rintro e W1 ⟨rfl, g1⟩
  have G1 := Lib.hid g1
  have c2 := HI.out.peerNil (W1.alloc (.cells #[.int .u32 0, .int .u16 0, .slice none 0 0] 40))
  clear c1 y1 g1
  go_wp2_with fail
  refine c2.mono ?_
  rintro e W2 ⟨rfl, g2⟩
  obtain ⟨W3, hW3⟩ : ∃ W3, W3 = W2.alloc (.cells #[.int .u32 0, .int .u16 0] 34) := ⟨_, rfl⟩
  have g3 : Grow W2 W3 := by rw [hW3]; exact Grow.alloc _ _
  have HN3 : Hid (NlU W3 w.heap.size W1.heap.size W2.heap.size ⟨d, n, ⟨⟨ea, ep⟩, A, k, c, bs⟩⟩ ∧ Grow w W3) := by
    have ga := Grow.alloc W1 (.cells #[.int .u32 0, .int .u16 0, .slice none 0 0] 40)
    have gAll := (G1.out.trans ga).trans (g2.trans g3)
    refine ⟨⟨(gAll.block _ (Array.getElem?_eq_some_iff.1 HB.out.2.1).1).trans HB.out.2.1, MlB.grow (w := W1.alloc (.cells #[.int .u32 0, .int .u16 0, .slice none 0 0] 40)) (heap_alloc_new W1 _) (g2.trans g3), by rw [hW3]; exact heap_alloc_new W2 _, HB.out.2.2.grow gAll⟩, HB.out.1.trans gAll⟩
  have y1 : W3.cell? ⟨w.heap.size, 1, none⟩ = some (.int .i64 n) := (cell_of_row W3 _ 1 _ _ _ HN3.out.1.act).trans rfl
  have c3 := HI.out.tellNil W3 n
  clear c2 g2 g3 G1
  go_upto_region 4 with fail
  rw [← hW3]
  have HW3 := Lib.hid hW3
  clear hW3
  go_wp2_with fail
  refine c3.mono ?_
  rintro e W4 ⟨rfl, g4⟩
  have HN4 := Lib.hid (And.intro (HN3.out.1.grow g4) (HN3.out.2.trans g4))
  clear c3 g4 y1
  have x0 := HN4.out.1.ml.c0
  have x1 := HN4.out.1.ml.c1
  have x2 := HN4.out.1.ml.c2
  have e0 : W4.cell? ⟨W2.heap.size, 0, none⟩ = some (.int .u32 0) := (cell_of_row W4 _ 0 _ _ _ HN4.out.1.en).trans rfl
  have e1 : W4.cell? ⟨W2.heap.size, 1, none⟩ = some (.int .u16 0) := (cell_of_row W4 _ 1 _ _ _ HN4.out.1.en).trans rfl
  have a2 : W4.cell? ⟨w.heap.size, 2, none⟩ = some (.int .u32 ea) := (cell_of_row W4 _ 2 _ _ _ HN4.out.1.act).trans rfl
  have a3 : W4.cell? ⟨w.heap.size, 3, none⟩ = some (.int .u16 ep) := (cell_of_row W4 _ 3 _ _ _ HN4.out.1.act).trans rfl
  have a4 : W4.cell? ⟨w.heap.size, 4, none⟩ = some (.slice A k c) := (cell_of_row W4 _ 4 _ _ _ HN4.out.1.act).trans rfl
  have c4 := rSameU W4 noE _ _ [] (Byt.nil W4) (Byt.nil W4)
  have c4' : Calls Try.prog 14 #[.agg #[.int .u32 0, .int .u16 0, .slice none 0 0], .agg #[.int .u32 0, .int .u16 0, .slice none 0 0]] W4 fun e w' => e = .returned (.bool true) ∧ Grow W4 w' := c4
  clear c4
  have c4 := c4'
  clear c4'
  go_wp2_with fail
  refine c4.mono ?_
  rintro e W5 ⟨rfl, g⟩
  have HN5 := Lib.hid (And.intro (HN4.out.1.grow g) (HN4.out.2.trans g))
  clear c4 g x0 x1 x2 e0 e1 a2 a3 a4
  have x0 := HN5.out.1.ml.c0
  have x1 := HN5.out.1.ml.c1
  have x2 := HN5.out.1.ml.c2
  have e0 : W5.cell? ⟨W2.heap.size, 0, none⟩ = some (.int .u32 0) := (cell_of_row W5 _ 0 _ _ _ HN5.out.1.en).trans rfl
  have e1 : W5.cell? ⟨W2.heap.size, 1, none⟩ = some (.int .u16 0) := (cell_of_row W5 _ 1 _ _ _ HN5.out.1.en).trans rfl
  have a2 : W5.cell? ⟨w.heap.size, 2, none⟩ = some (.int .u32 ea) := (cell_of_row W5 _ 2 _ _ _ HN5.out.1.act).trans rfl
  have a3 : W5.cell? ⟨w.heap.size, 3, none⟩ = some (.int .u16 ep) := (cell_of_row W5 _ 3 _ _ _ HN5.out.1.act).trans rfl
  have a4 : W5.cell? ⟨w.heap.size, 4, none⟩ = some (.slice A k c) := (cell_of_row W5 _ 4 _ _ _ HN5.out.1.act).trans rfl
  have c4 := HI.out.readyNil W5
  go_wp2_with fail
  refine c4.mono ?_
  rintro e W6 ⟨rfl, g⟩
  have HN6 := Lib.hid (And.intro (HN5.out.1.grow g) (HN5.out.2.trans g))
  clear c4 g x0 x1 x2 e0 e1 a2 a3 a4
  have x0 := HN6.out.1.ml.c0
  have x1 := HN6.out.1.ml.c1
  have x2 := HN6.out.1.ml.c2
  have e0 : W6.cell? ⟨W2.heap.size, 0, none⟩ = some (.int .u32 0) := (cell_of_row W6 _ 0 _ _ _ HN6.out.1.en).trans rfl
  have e1 : W6.cell? ⟨W2.heap.size, 1, none⟩ = some (.int .u16 0) := (cell_of_row W6 _ 1 _ _ _ HN6.out.1.en).trans rfl
  have a2 : W6.cell? ⟨w.heap.size, 2, none⟩ = some (.int .u32 ea) := (cell_of_row W6 _ 2 _ _ _ HN6.out.1.act).trans rfl
  have a3 : W6.cell? ⟨w.heap.size, 3, none⟩ = some (.int .u16 ep) := (cell_of_row W6 _ 3 _ _ _ HN6.out.1.act).trans rfl
  have a4 : W6.cell? ⟨w.heap.size, 4, none⟩ = some (.slice A k c) := (cell_of_row W6 _ 4 _ _ _ HN6.out.1.act).trans rfl
  have c4 := HI.out.lenNil W6
  go_wp2_with fail
  refine c4.mono ?_
  rintro e W7 ⟨rfl, g⟩
  have HN7 := Lib.hid (And.intro (HN6.out.1.grow g) (HN6.out.2.trans g))
  clear c4 g x0 x1 x2 e0 e1 a2 a3 a4
  have x0 := HN7.out.1.ml.c0
  have x1 := HN7.out.1.ml.c1
  have x2 := HN7.out.1.ml.c2
  have e0 : W7.cell? ⟨W2.heap.size, 0, none⟩ = some (.int .u32 0) := (cell_of_row W7 _ 0 _ _ _ HN7.out.1.en).trans rfl
  have e1 : W7.cell? ⟨W2.heap.size, 1, none⟩ = some (.int .u16 0) := (cell_of_row W7 _ 1 _ _ _ HN7.out.1.en).trans rfl
  have a2 : W7.cell? ⟨w.heap.size, 2, none⟩ = some (.int .u32 ea) := (cell_of_row W7 _ 2 _ _ _ HN7.out.1.act).trans rfl
  have a3 : W7.cell? ⟨w.heap.size, 3, none⟩ = some (.int .u16 ep) := (cell_of_row W7 _ 3 _ _ _ HN7.out.1.act).trans rfl
  have a4 : W7.cell? ⟨w.heap.size, 4, none⟩ = some (.slice A k c) := (cell_of_row W7 _ 4 _ _ _ HN7.out.1.act).trans rfl
  have c4 := HI.out.heldNil W7
  go_wp2_with fail
  refine c4.mono ?_
  rintro e W8 ⟨rfl, g⟩
  have HN8 := Lib.hid (And.intro (HN7.out.1.grow g) (HN7.out.2.trans g))
  clear c4 g x0 x1 x2 e0 e1 a2 a3 a4
  have x0 := HN8.out.1.ml.c0
  have x1 := HN8.out.1.ml.c1
  have x2 := HN8.out.1.ml.c2
  have e0 : W8.cell? ⟨W2.heap.size, 0, none⟩ = some (.int .u32 0) := (cell_of_row W8 _ 0 _ _ _ HN8.out.1.en).trans rfl
  have e1 : W8.cell? ⟨W2.heap.size, 1, none⟩ = some (.int .u16 0) := (cell_of_row W8 _ 1 _ _ _ HN8.out.1.en).trans rfl
  have a2 : W8.cell? ⟨w.heap.size, 2, none⟩ = some (.int .u32 ea) := (cell_of_row W8 _ 2 _ _ _ HN8.out.1.act).trans rfl
  have a3 : W8.cell? ⟨w.heap.size, 3, none⟩ = some (.int .u16 ep) := (cell_of_row W8 _ 3 _ _ _ HN8.out.1.act).trans rfl
  have a4 : W8.cell? ⟨w.heap.size, 4, none⟩ = some (.slice A k c) := (cell_of_row W8 _ 4 _ _ _ HN8.out.1.act).trans rfl
  have c4 := HI.out.lostNil W8
  go_wp2_with fail
  refine c4.mono ?_
  rintro e W9 ⟨rfl, g⟩
  have HN9 := Lib.hid (And.intro (HN8.out.1.grow g) (HN8.out.2.trans g))
  clear c4 g x0 x1 x2 e0 e1 a2 a3 a4
  go_wp2_with fail
  refine (HC.out _ _).mono ?_
  rintro e w' ⟨rfl, hw⟩
  subst w'
  have x0 := HN9.out.1.ml.c0
  have x1 := HN9.out.1.ml.c1
  have x2 := HN9.out.1.ml.c2
  have e0 : W9.cell? ⟨W2.heap.size, 0, none⟩ = some (.int .u32 0) := (cell_of_row W9 _ 0 _ _ _ HN9.out.1.en).trans rfl
  have e1 : W9.cell? ⟨W2.heap.size, 1, none⟩ = some (.int .u16 0) := (cell_of_row W9 _ 1 _ _ _ HN9.out.1.en).trans rfl
  have a2 : W9.cell? ⟨w.heap.size, 2, none⟩ = some (.int .u32 ea) := (cell_of_row W9 _ 2 _ _ _ HN9.out.1.act).trans rfl
  have a3 : W9.cell? ⟨w.heap.size, 3, none⟩ = some (.int .u16 ep) := (cell_of_row W9 _ 3 _ _ _ HN9.out.1.act).trans rfl
  have a4 : W9.cell? ⟨w.heap.size, 4, none⟩ = some (.slice A k c) := (cell_of_row W9 _ 4 _ _ _ HN9.out.1.act).trans rfl
  have c4 := HI.out.putNil W9 ⟨ea, ep⟩ (.slice A k c) bs HN9.out.1.byt
  go_wp2_with fail
  refine c4.mono ?_
  rintro e W10 ⟨rfl, g⟩
  have HN10 := Lib.hid (And.intro (HN9.out.1.grow g) (HN9.out.2.trans g))
  clear c4 g x0 x1 x2 e0 e1 a2 a3 a4
  go_wp2_with fail
  refine (HC.out _ _).mono ?_
  rintro e w' ⟨rfl, hw⟩
  subst w'
  have x0 := HN10.out.1.ml.c0
  have x1 := HN10.out.1.ml.c1
  have x2 := HN10.out.1.ml.c2
  have e0 : W10.cell? ⟨W2.heap.size, 0, none⟩ = some (.int .u32 0) := (cell_of_row W10 _ 0 _ _ _ HN10.out.1.en).trans rfl
  have e1 : W10.cell? ⟨W2.heap.size, 1, none⟩ = some (.int .u16 0) := (cell_of_row W10 _ 1 _ _ _ HN10.out.1.en).trans rfl
  have a2 : W10.cell? ⟨w.heap.size, 2, none⟩ = some (.int .u32 ea) := (cell_of_row W10 _ 2 _ _ _ HN10.out.1.act).trans rfl
  have a3 : W10.cell? ⟨w.heap.size, 3, none⟩ = some (.int .u16 ep) := (cell_of_row W10 _ 3 _ _ _ HN10.out.1.act).trans rfl
  have a4 : W10.cell? ⟨w.heap.size, 4, none⟩ = some (.slice A k c) := (cell_of_row W10 _ 4 _ _ _ HN10.out.1.act).trans rfl
  have c4 := HI.out.meetNil W10 ⟨ea, ep⟩
  go_wp2_with fail
  refine c4.mono ?_
  rintro e W11 ⟨rfl, g⟩
  have HN11 := Lib.hid (And.intro (HN10.out.1.grow g) (HN10.out.2.trans g))
  clear c4 g x0 x1 x2 e0 e1 a2 a3 a4
  go_wp2_with fail
  refine (HC.out _ _).mono ?_
  rintro e w' ⟨rfl, hw⟩
  subst w'
  have x0 := HN11.out.1.ml.c0
  have x1 := HN11.out.1.ml.c1
  have x2 := HN11.out.1.ml.c2
  have e0 : W11.cell? ⟨W2.heap.size, 0, none⟩ = some (.int .u32 0) := (cell_of_row W11 _ 0 _ _ _ HN11.out.1.en).trans rfl
  have e1 : W11.cell? ⟨W2.heap.size, 1, none⟩ = some (.int .u16 0) := (cell_of_row W11 _ 1 _ _ _ HN11.out.1.en).trans rfl
  have a2 : W11.cell? ⟨w.heap.size, 2, none⟩ = some (.int .u32 ea) := (cell_of_row W11 _ 2 _ _ _ HN11.out.1.act).trans rfl
  have a3 : W11.cell? ⟨w.heap.size, 3, none⟩ = some (.int .u16 ep) := (cell_of_row W11 _ 3 _ _ _ HN11.out.1.act).trans rfl
  have a4 : W11.cell? ⟨w.heap.size, 4, none⟩ = some (.slice A k c) := (cell_of_row W11 _ 4 _ _ _ HN11.out.1.act).trans rfl
  have c4 := ulive_any HI.out W11
  go_wp2_with fail
  refine c4.mono ?_
  rintro e W12 ⟨rfl, g⟩
  have HN12 := Lib.hid (And.intro (HN11.out.1.grow g) (HN11.out.2.trans g))
  clear c4 g x0 x1 x2 e0 e1 a2 a3 a4
  go_wp2_with fail
  go_ret
  exact ⟨rfl, HN12.out.2⟩
end Go.Proofs.Ytkblgigpgpjjlaa
