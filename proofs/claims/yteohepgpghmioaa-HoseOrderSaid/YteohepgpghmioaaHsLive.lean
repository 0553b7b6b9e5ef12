/- The page's example. -/
import Derived.Test.YteohepgpghmioaaHsOpen
namespace Go.Proofs.Yteohepgpghmioaa
set_option linter.unusedVariables false
set_option linter.unusedSimpArgs false
open Go.ChangeShapes Go.WideShapes Go.ChangeAt Go.RowKit

def strV (l : List UInt8) : Value := .string ⟨l.toArray⟩
theorem str1 {w : World} {v : Value} {l : List UInt8} (h : Byt w v l) : (convert 30 9 v).run Try.prog w = .ok (strV l) w := h.str _ _ 5 Try.underlying30 Try.underlying5 Try.underlying9
/-- A literal of three bytes. -/
theorem lit3 (w : World) (a b c : UInt8) : Byt (w.alloc (.cells #[bv a, bv b, bv c] 5)) (.slice (some ⟨w.heap.size, 0, none⟩) 3 3) [a, b, c] :=
  Byt.of_own (World.ownsRow_lit (base := 0) (e := 5) (size := 1) w #[bv a, bv b, bv c] 3 (Nat.zero_le _) (by unfold maxLen; omega) rfl)
set_option maxRecDepth 10000 in
set_option maxHeartbeats 4000000 in
theorem hlive_any (w : World) : Calls Try.prog 7 #[] w fun e w' => e = .returned (.bool true) ∧ Grow w w' := by
  have c0 := hNew_any w 4 (by omega) (by omega)
  have HC := Lib.hid (fun x w => code_any x w)
  go_enter Try.func7, Try.ntmps7
  go_wp2_with fail
  refine c0.mono ?_
  rintro e w1 ⟨rfl, h1, g1⟩
  have H1 := Lib.hid (And.intro h1 g1)
  clear c0 h1 g1
  go_wp2_with fail
  refine (HC.out _ _).mono ?_
  rintro e w' ⟨rfl, hw⟩
  subst w'
  have ga := Grow.alloc w1 (.cells #[.int .u8 1, .int .u8 2, .int .u8 3] 5)
  have hlt := H1.out.1.lt
  have c1 : Calls Try.prog 11 #[.pointer (some ⟨w.heap.size + 1, 0, none⟩), .slice (some ⟨w1.heap.size, 0, none⟩) 3 3] (w1.alloc (.cells #[.int .u8 1, .int .u8 2, .int .u8 3] 5)) (WritePost (w1.alloc (.cells #[.int .u8 1, .int .u8 2, .int .u8 3] 5)) w.heap.size (w.heap.size + 1) w.heap.size 4 0 0 [] [1, 2, 3] 3) :=
    hWrite_any (H1.out.1.grow ga) _ [1, 2, 3] (lit3 w1 1 2 3) (fun _ e => by injection e with e; have := hlt.2.1; simp only at e; omega) (by decide)
  have GA := Lib.hid ga
  clear hlt ga
  go_wp2_with fail
  refine c1.mono ?_
  rintro e w2 ⟨rfl, h2, k2⟩
  have h2' : Hs w2 w.heap.size (w.heap.size + 1) w.heap.size 4 3 0 [1, 2, 3] := h2
  have H2 := Lib.hid (And.intro h2' (show Below w.heap.size w w2 from Below.trans H1.out.2 (Below.trans (GA.out.mono H1.out.2.size) (k2.low (by omega) (by omega) (Nat.le_trans H1.out.2.size GA.out.size)))))
  clear c1 h2 h2' k2
  have c2 := hRead_any H2.out.1 2
  go_wp2_with fail
  refine c2.mono ?_
  rintro e w3 ⟨v3, rfl, o3, h3, k3⟩
  have o3' : Own w3 w2.heap.size v3 [1, 2] := o3
  have h3' : Hs w3 w.heap.size (w.heap.size + 1) w.heap.size 4 3 2 [3] := h3
  have H3 := Lib.hid (And.intro o3' (And.intro h3' (show Below w.heap.size w w3 from Below.trans H2.out.2 (k3.low (by omega) (by omega) H2.out.2.size))))
  have hlt := H2.out.1.lt
  have hap : v3.ownBlock ≠ some (w.heap.size + 1) ∧ v3.ownBlock ≠ some w.heap.size := ⟨fun e => by have := (o3'.lt e).2; omega, fun e => by have := (o3'.lt e).2; omega⟩
  have HA := Lib.hid hap
  obtain ⟨A3, c3, hf3 : v3 = .slice A3 2 c3, _⟩ := o3'.byt.form
  clear c2 o3 h3 o3' h3' k3 hlt hap
  subst hf3
  have ga := Grow.alloc w3 (.cells #[.int .u8 4, .int .u8 5, .int .u8 6] 5)
  have hlt := H3.out.2.1.lt
  have c3' : Calls Try.prog 11 #[.pointer (some ⟨w.heap.size + 1, 0, none⟩), .slice (some ⟨w3.heap.size, 0, none⟩) 3 3] (w3.alloc (.cells #[.int .u8 4, .int .u8 5, .int .u8 6] 5)) (WritePost (w3.alloc (.cells #[.int .u8 4, .int .u8 5, .int .u8 6] 5)) w.heap.size (w.heap.size + 1) w.heap.size 4 3 2 [3] [4, 5, 6] 3) :=
    hWrite_any (H3.out.2.1.grow ga) _ [4, 5, 6] (lit3 w3 4 5 6) (fun _ e => by injection e with e; have := hlt.2.1; simp only at e; omega) (by decide)
  have GA3 := Lib.hid ga
  clear hlt ga
  go_wp2_with fail
  refine c3'.mono ?_
  rintro e w4 ⟨rfl, h4, k4⟩
  have h4' : Hs w4 w.heap.size (w.heap.size + 1) w.heap.size 4 6 2 [3, 4, 5, 6] := h4
  have s4 := str1 (k4.byt (H3.out.1.byt.grow GA3.out) HA.out.1 HA.out.2)
  have H4 := Lib.hid (And.intro h4' (show Below w.heap.size w w4 from Below.trans H3.out.2.2 (Below.trans (GA3.out.mono H3.out.2.2.size) (k4.low (by omega) (by omega) (Nat.le_trans H3.out.2.2.size GA3.out.size)))))
  clear c3' h4 h4' k4
  have c4 := hRead_any H4.out.1 9
  unfold strV at s4
  go_wp2_with fail
  refine c4.mono ?_
  rintro e w5 ⟨v5, rfl, o5, h5, k5⟩
  have o5' : Own w5 w4.heap.size v5 [3, 4, 5, 6] := o5
  obtain ⟨A5, c5, hf5 : v5 = .slice A5 4 c5, _⟩ := o5'.byt.form
  subst hf5
  have s5 := str1 o5'.byt
  have H5 := Lib.hid (show Below w.heap.size w w5 from Below.trans H4.out.2 (k5.low (by omega) (by omega) H4.out.2.size))
  clear c4 o5 h5 o5' k5 s4
  unfold strV at s5
  go_wp2_with fail
  go_ret
  exact ⟨rfl, H5.out⟩
end Go.Proofs.Yteohepgpghmioaa
