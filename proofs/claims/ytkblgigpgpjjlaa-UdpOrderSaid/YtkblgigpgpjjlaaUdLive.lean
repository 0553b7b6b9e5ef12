/- The page's example; whether more is asked than a statement asks. -/
import Derived.Test.YtkblgigpgpjjlaaUdIf
namespace Go.Proofs.Ytkblgigpgpjjlaa
set_option linter.unusedVariables false
set_option linter.unusedSimpArgs false
open Go.ChangeShapes Go.WideShapes Go.ChangeAt Go.RowKit

def lvU0 : Ub := noneU 9 4
def lvU1 : Ub := ⟨9, 4, noE, [⟨noE, [1, 2, 3]⟩], 0, 0⟩
def lvU2 : Ub := ⟨9, 4, noE, [⟨noE, [1, 2, 3]⟩], 1, 0⟩
def lvU3 : Ub := ⟨9, 4, noE, [], 1, 0⟩
theorem lvU_facts : puE lvU0 ⟨noE, [1, 2, 3]⟩ = 0 ∧ puU lvU0 ⟨noE, [1, 2, 3]⟩ = lvU1 ∧ puE lvU1 ⟨noE, [4, 5]⟩ = 5 ∧ puU lvU1 ⟨noE, [4, 5]⟩ = lvU2 ∧ tkuE lvU2 2 = 0 ∧ tkuM lvU2 2 = ⟨noE, [1, 2]⟩ ∧ tkuN lvU2 2 = 3 ∧ tkuU lvU2 2 = lvU3 := by
  refine ⟨by decide, ?_, by decide, ?_, by decide, ?_, by decide, ?_⟩ <;> rfl
section
variable {Up : UbT} {w w' : World} {S : Nat → Prop} {pb : Nat} {u : Ub}
/-- A box between calls: its blocks lie from w's size on. -/
def UpL (Up : UbT) (w0 w : World) (pb : Nat) (u : Ub) : Prop := (∃ S, Up w S pb u ∧ ∀ b, S b → w0.heap.size ≤ b) ∧ Grow w0 w
theorem UpL.grow {w0 : World} (I : UIf Up) (h : UpL Up w0 w pb u) (g : Grow w w') : UpL Up w0 w' pb u := by
  obtain ⟨⟨S, h1, h2⟩, h3⟩ := h
  exact ⟨⟨S, I.grow h1 g, h2⟩, h3.trans g⟩
theorem UpL.post {w0 : World} {u' : Ub} (h : Up w S pb u) (hS : ∀ b, S b → w0.heap.size ≤ b) (g : Grow w0 w) (p : UPost Up w w' S pb u') : UpL Up w0 w' pb u' := by
  obtain ⟨k, S', h1, h2⟩ := p
  refine ⟨⟨S', h1, fun b hb => ?_⟩, Below.trans g (k.low hS g.size)⟩
  rcases h2 b hb with q | q
  · exact hS b q
  · exact Nat.le_trans g.size q
end
theorem noE_ok : noE.Ok := ⟨⟨by decide, by decide⟩, ⟨by decide, by decide⟩⟩
/-- Put of a datagram whose bytes are no block of the box's. -/
theorem ul_put {Up : UbT} (I : UIf Up) {w0 w w' : World} {pb : Nat} {u : Ub} (h : UpL Up w0 w pb u) (hg : Grow w w') (hf : FewU u) (f : Ed) (hfo : f.Ok) (v : Value) (d : List UInt8) (hv : Byt w' v d) (hd : ∀ k, v.ownBlock = some k → w.heap.size ≤ k ∨ k < w0.heap.size) (hl : d.length ≤ 100000) :
    Calls Try.prog 10 #[.pointer (some ⟨pb, 0, none⟩), .agg #[.int .u32 f.ad, .int .u16 f.po, v]] w' fun e' w2 => e' = .returned (.int .i64 (puE u ⟨f, d⟩)) ∧ UpL Up w0 w2 pb (puU u ⟨f, d⟩) := by
  obtain ⟨⟨S, h1, h2⟩, h3⟩ := h
  refine (I.put (I.grow h1 hg) hf f v d hfo hv (fun _ k hk q => ?_) hl).mono ?_
  · have := I.lt h1 k q
    have := h2 k q
    rcases hd k hk with a | a <;> omega
  rintro e w2 ⟨rfl, p⟩
  exact ⟨rfl, UpL.post (I.grow h1 hg) h2 (h3.trans hg) p⟩
theorem ul_take {Up : UbT} (I : UIf Up) {w0 w : World} {pb : Nat} {u : Ub} (h : UpL Up w0 w pb u) (n : Int) (hn : In64 n) :
    Calls Try.prog 12 #[.pointer (some ⟨pb, 0, none⟩), .int .i64 n] w fun e' w2 => ∃ v, e' = .returned (.tuple #[.agg #[.int .u32 (tkuM u n).f.ad, .int .u16 (tkuM u n).f.po, v], .int .i64 (tkuN u n), .int .i64 (tkuE u n)]) ∧ Byt w2 v (tkuM u n).d ∧ UpL Up w0 w2 pb (tkuU u n) := by
  obtain ⟨⟨S, h1, h2⟩, h3⟩ := h
  refine (I.take h1 n hn).mono ?_
  rintro e w2 ⟨v, rfl, hb, p⟩
  exact ⟨v, rfl, hb, UpL.post h1 h2 h3 p⟩
theorem ul_lost {Up : UbT} (I : UIf Up) {w0 w : World} {pb : Nat} {u : Ub} (h : UpL Up w0 w pb u) : Calls Try.prog 22 #[.pointer (some ⟨pb, 0, none⟩)] w fun e' w' => e' = .returned (.int .i64 u.lost) ∧ Grow w w' := by
  obtain ⟨⟨S, h1, h2⟩, h3⟩ := h
  exact I.lost h1
theorem ul_len {Up : UbT} (I : UIf Up) {w0 w : World} {pb : Nat} {u : Ub} (h : UpL Up w0 w pb u) : Calls Try.prog 19 #[.pointer (some ⟨pb, 0, none⟩)] w fun e' w' => e' = .returned (.int .i64 (u.L.length : Int)) ∧ Grow w w' := by
  obtain ⟨⟨S, h1, h2⟩, h3⟩ := h
  exact I.len h1
theorem i64_small {n : Int} (h : -1000000 ≤ n ∧ n ≤ 1000000) : In64 n := by unfold In64; omega
set_option maxRecDepth 10000 in
set_option maxHeartbeats 1000000 in
theorem ulive_any {Up : UbT} (I : UIf Up) (w : World) : Calls Try.prog 7 #[] w fun e w' => e = .returned (.bool true) ∧ Grow w w' := by
  have c0 := I.new w 9 4 (by omega) (by omega)
  have HC := Lib.hid (fun x w => ucode_any x w)
  obtain ⟨z1, z2, z3, z4, z5, z6, z7, z8⟩ := lvU_facts
  have HZ := Lib.hid (And.intro z2 (And.intro z4 z8))
  go_enter Try.func7, Try.ntmps7
  go_wp2_with fail
  refine c0.mono ?_
  rintro e w1 ⟨pb, S1, rfl, h1, l1, g1⟩
  have H1 : Hid (UpL Up w w1 pb lvU0) := ⟨⟨S1, h1, l1⟩, g1⟩
  clear c0 h1 l1 g1
  go_wp2_with fail
  refine (HC.out _ _).mono ?_
  rintro e w' ⟨rfl, hw⟩
  subst w'
  have c1 := ul_put I H1.out (Grow.alloc w1 (.cells #[.int .u8 1, .int .u8 2, .int .u8 3] 5)) ⟨by decide, by decide⟩ noE noE_ok _ [1, 2, 3] (litB w1 [1, 2, 3] (by simp)) (fun k hk => .inl (by have e := Option.some.inj hk; simp only at e; omega)) (by simp)
  rw [z1, HZ.out.1] at c1
  have c1' : Calls Try.prog 10 #[.pointer (some ⟨pb, 0, none⟩), .agg #[.int .u32 0, .int .u16 0, .slice (some ⟨w1.heap.size, 0, none⟩) 3 3]] (w1.alloc (.cells #[.int .u8 1, .int .u8 2, .int .u8 3] 5)) fun e' w2 => e' = .returned (.int .i64 0) ∧ UpL Up w w2 pb lvU1 := c1
  clear c1 z1
  go_wp2_with fail
  refine c1'.mono ?_
  rintro e w2 ⟨rfl, h2⟩
  have H2 := Lib.hid h2
  clear c1' h2
  have c2 := ul_put I H2.out (Grow.alloc w2 (.cells #[.int .u8 4, .int .u8 5] 5)) ⟨by decide, by decide⟩ noE noE_ok _ [4, 5] (litB w2 [4, 5] (by simp)) (fun k hk => .inl (by have e := Option.some.inj hk; simp only at e; omega)) (by simp)
  rw [z3, HZ.out.2.1] at c2
  have c2' : Calls Try.prog 10 #[.pointer (some ⟨pb, 0, none⟩), .agg #[.int .u32 0, .int .u16 0, .slice (some ⟨w2.heap.size, 0, none⟩) 2 2]] (w2.alloc (.cells #[.int .u8 4, .int .u8 5] 5)) fun e' w3 => e' = .returned (.int .i64 5) ∧ UpL Up w w3 pb lvU2 := c2
  clear c2 z3
  go_wp2_with fail
  refine c2'.mono ?_
  rintro e w3 ⟨rfl, h3⟩
  have c3 := ul_take I h3 2 (i64_small (by omega))
  rw [z5, z6, z7, HZ.out.2.2] at c3
  have c3' : Calls Try.prog 12 #[.pointer (some ⟨pb, 0, none⟩), .int .i64 2] w3 fun e' w4 => ∃ v, e' = .returned (.tuple #[.agg #[.int .u32 0, .int .u16 0, v], .int .i64 3, .int .i64 0]) ∧ Byt w4 v [1, 2] ∧ UpL Up w w4 pb lvU3 := c3
  clear c2' c3 h3 z5 z6 z7 z2 z4 z8
  go_wp2_with fail
  refine c3'.mono ?_
  rintro e w4 ⟨v, rfl, hb, h4⟩
  obtain ⟨A, c, hv, -⟩ := hb.form
  have hv : v = .slice A 2 c := hv
  subst hv
  obtain ⟨W5, hW5⟩ : ∃ W5, W5 = w4.alloc (.cells #[.int .u32 0, .int .u16 0, .slice A 2 c] 40) := ⟨_, rfl⟩
  have g5 : Grow w4 W5 := by rw [hW5]; exact Grow.alloc _ _
  have hh5 : W5.heap[w4.heap.size]? = some (.cells #[.int .u32 0, .int .u16 0, .slice A 2 c] 40 (0, 0)) := by rw [hW5]; exact heap_alloc_new w4 _
  have y2 : W5.cell? ⟨w4.heap.size, 2, none⟩ = some (.slice A 2 c) := (cell_of_row W5 _ 2 _ _ _ hh5).trans rfl
  have s5 := str1 (hb.grow g5)
  unfold strV at s5
  have c5 : Calls Try.prog 22 #[.pointer (some ⟨pb, 0, none⟩)] W5 fun e' w' => e' = .returned (.int .i64 1) ∧ Grow W5 w' := ul_lost I (h4.grow I g5)
  have H5 := Lib.hid (h4.grow I g5)
  clear c3' hb h4 hh5 g5
  go_upto_region 6 with fail
  rw [← hW5]
  have HW5 := Lib.hid hW5
  clear hW5
  iterate 3 (go_wp2_with fail; refine (HC.out _ _).mono ?_; rintro e w' ⟨rfl, hw⟩; subst w')
  go_wp2_with fail
  refine c5.mono ?_
  rintro e w6 ⟨rfl, g6⟩
  have G6 := Lib.hid (H5.out.2.trans g6)
  clear c5 g6
  go_wp2_with fail
  go_ret
  exact ⟨rfl, G6.out⟩

end Go.Proofs.Ytkblgigpgpjjlaa
