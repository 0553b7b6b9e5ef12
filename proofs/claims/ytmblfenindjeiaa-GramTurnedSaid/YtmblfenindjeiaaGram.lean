/- Datagrams: the contracts of the small functions; a method value that appends a number; Bare. -/
import Derived.Test.YtmblfenindjeiaaGramNum
import Derived.Test.YtmblfenindjeiaaIpRead
import Derived.Test.YtmblfenindjeiaaIpGet
import Derived.OneCell
import Derived.OwnWalk
namespace Go.Proofs.Ytmblfenindjeiaa
set_option linter.unusedVariables false
set_option linter.unusedSimpArgs false
open Go.ChangeShapes Go.WideShapes Go.ChangeAt Go.RowKit

theorem gramCode_any (n : Int) (w : World) (h1 : -9223372036854775808 ≤ n) (h2 : n ≤ 9223372036854775807) :
    Calls Try.prog 9 #[.int .i64 n] w fun e w' => e = .returned (.int .i64 n) ∧ w = w' := by
  go_enter Try.func9, Try.ntmps9
  go_wp2_with fail
  go_ret
  exact ⟨rfl, rfl⟩

set_option maxHeartbeats 400000 in
theorem gget16_any (v : Value) (k : Nat) (l : List UInt8) (w : World) (h : Byt w v l) (hk : k + 2 ≤ l.length) (hs : k ≤ 1000) :
    Calls Try.prog 25 #[v, .int .i64 (k : Int)] w fun e w' => e = .returned (.int .i64 (num l k : Nat)) ∧ w = w' := by
  have h1 := num_lt l k
  have e1 : numAt l (k : Int) 2 = (((num l k : Nat) : Int), 0) := by rw [numAt_ok hk, numOf_2 hk]
  go_enter Try.func25, Try.ntmps25
  go_wp2_with fail
  refine (Get16_any _ _ _ _ h (by omega) (by omega)).mono ?_
  rw [e1]
  rintro e w' ⟨rfl, rfl⟩
  go_wp2_with fail
  go_ret
  exact ⟨rfl, rfl⟩

/-- The bytes of the datagram, or why there is none. -/
def gmcode (l : List UInt8) : Int := if l.length < 8 then 2 else if num l 4 < 8 then 3 else if l.length < num l 4 then 2 else 0
def gall (l : List UInt8) : Nat := if gmcode l = 0 then num l 4 else 0
theorem gall_bad {l : List UInt8} {n : Int} (h : gmcode l = n) (h0 : n ≠ 0) : gall l = 0 := by unfold gall; rw [h, if_neg h0]

set_option maxHeartbeats 1000000 in
theorem gmeasure_any (v : Value) (l : List UInt8) (w : World) (h : Byt w v l) (hl : l.length ≤ 1000000) :
    Calls Try.prog 24 #[v] w fun e w' => e = .returned (.tuple #[.int .i64 (gall l : Nat), .int .i64 (gmcode l)]) ∧ w = w' := by
  obtain ⟨A, c, rfl, hcl, hcm⟩ := h.form
  have n4 := num_lt l 4
  by_cases h1 : l.length < 8
  · have e1 : gmcode l = 2 := by unfold gmcode; rw [if_pos h1]
    have e3 := gall_bad e1 (by decide)
    go_enter Try.func24, Try.ntmps24
    go_wp2_with fail
    go_ret2
    exact ⟨by first | rfl | (rw [e1, e3]; rfl), rfl⟩
  go_enter Try.func24, Try.ntmps24
  go_wp2_with fail
  refine (gget16_any _ 4 l _ h (by omega) (by omega)).mono ?_
  rintro e w' ⟨rfl, rfl⟩
  by_cases h2 : num l 4 < 8
  · have e1 : gmcode l = 3 := by unfold gmcode; rw [if_neg h1, if_pos h2]
    have e3 := gall_bad e1 (by decide)
    generalize num l 4 = x at *
    go_wp2_with fail
    go_ret2
    exact ⟨by first | rfl | (rw [e1, e3]; rfl), rfl⟩
  by_cases h3 : l.length < num l 4
  · have e1 : gmcode l = 2 := by unfold gmcode; rw [if_neg h1, if_neg h2, if_pos h3]
    have e3 := gall_bad e1 (by decide)
    generalize num l 4 = x at *
    go_wp2_with fail
    go_ret2
    exact ⟨by first | rfl | (rw [e1, e3]; rfl), rfl⟩
  · have e1 : gmcode l = 0 := by unfold gmcode; rw [if_neg h1, if_neg h2, if_neg h3]
    have e3 : gall l = num l 4 := by unfold gall; rw [if_pos e1]
    generalize num l 4 = x at *
    go_wp2_with fail
    go_ret2
    exact ⟨by first | rfl | (rw [e1, e3]; rfl), rfl⟩

set_option maxHeartbeats 1000000 in
theorem gright_any (s d : Nat) (v : Value) (l : List UInt8) (w : World) (hs : s < 4294967296) (hd : d < 4294967296) (h : Byt w v l) (hl : l.length ≤ 1000000) :
    Calls Try.prog 26 #[.int .u32 (s : Int), .int .u32 (d : Int), v] w fun e w' => e = .returned (.bool ((psum s d l : Int) == 65535)) ∧ Grow w w' := by
  obtain ⟨A, c, rfl, hc, hcm⟩ := h.form
  have e4 : [headOf s d 17 l.length, l].flatten = headOf s d 17 l.length ++ l := by simp
  have f4 : lens [headOf s d 17 l.length, l] ≤ 281474976710656 := by simp [lens, headOf_length]; omega
  have f0 : 0 < [headOf s d 17 l.length, l].length := by simp
  have f5 : (2 : Nat) ≤ maxLen := by simp [maxLen]
  have f6 : (headOf s d 17 l.length ++ l).length ≤ 281474976710656 := by rw [List.length_append, headOf_length]; omega
  go_enter Try.func26, Try.ntmps26
  go_wp2_with fail
  refine (Head_any s d 17 _ w hs hd (by decide)).mono ?_
  rintro e w1 ⟨v1, rfl, ho1, hg1⟩
  obtain ⟨A2, m2, c2, rfl, _⟩ := ho1.byt.form2
  go_wp2_with fail
  refine (Join_lit_at w _ hg1 _ 2 _ rfl [headOf s d 17 l.length, l] rfl rfl f0 f5 f4 (byt_two ho1.byt (h.grow hg1))).mono ?_
  rw [e4]
  rintro e w2 ⟨v2, rfl, ho2, hg2⟩
  go_wp2_with fail
  refine (Right_any _ _ _ ho2.byt f6).mono ?_
  rintro e w3 ⟨rfl, hg3⟩
  go_wp2_with fail
  go_ret
  exact ⟨by unfold psum; rfl, hg2.trans hg3⟩

set_option maxHeartbeats 1000000 in
theorem gPorts_short (v : Value) (l : List UInt8) (w : World) (h : Byt w v l) (hl : l.length < 4) :
    Calls Try.prog 16 #[v] w fun e w' => e = .returned (.tuple #[.int .u16 0, .int .u16 0, .int .i64 2]) ∧ w = w' := by
  obtain ⟨A, c, rfl, hcl, hcm⟩ := h.form
  go_enter Try.func16, Try.ntmps16
  go_wp2_with fail
  refine bodyPost_ret (results_tmp3 rfl _ _ _) rfl ?_
  exact ⟨rfl, rfl⟩

set_option maxHeartbeats 1000000 in
theorem gPorts_ok (v : Value) (l : List UInt8) (w : World) (h : Byt w v l) (hl4 : 4 ≤ l.length) (hl : l.length ≤ 1000000) :
    Calls Try.prog 16 #[v] w fun e w' => e = .returned (.tuple #[.int .u16 (num l 0 : Nat), .int .u16 (num l 2 : Nat), .int .i64 0]) ∧ w = w' := by
  obtain ⟨A, c, rfl, hcl, hcm⟩ := h.form
  have n0 := num_lt l 0
  have n2 := num_lt l 2
  have G0 := gget16_any _ 0 l _ h (by omega) (by omega)
  have G2 := gget16_any _ 2 l _ h (by omega) (by omega)
  obtain ⟨x0, hx0⟩ : ∃ x, x = num l 0 := ⟨_, rfl⟩
  obtain ⟨x2, hx2⟩ : ∃ x, x = num l 2 := ⟨_, rfl⟩
  rw [← hx0] at G0 n0 ⊢
  rw [← hx2] at G2 n2 ⊢
  clear hx0 hx2
  go_enter Try.func16, Try.ntmps16
  go_wp2_with fail
  refine G0.mono ?_
  rintro e w' ⟨rfl, rfl⟩
  go_wp2_with fail
  refine G2.mono ?_
  rintro e w' ⟨rfl, rfl⟩
  go_wp2_with fail
  refine bodyPost_ret (results_tmp3 rfl _ _ _) rfl ?_
  exact ⟨rfl, rfl⟩

/-- What a call does that writes one block: all others stay. -/
def Past (hb : Nat) (w w' : World) : Prop := w.heap.size ≤ w'.heap.size ∧ (∀ b, b < w.heap.size → b ≠ hb → w'.heap[b]? = w.heap[b]?) ∧ ∀ w₀ : World, Grow w₀ w → w₀.heap.size ≤ hb → Grow w₀ w'
theorem Past.of_grow {hb : Nat} {w w' : World} (h : Grow w w') : Past hb w w' := ⟨h.size, fun b hlt _ => Below.block h b hlt, fun _ hg _ => hg.trans h⟩
theorem Past.set {hb : Nat} (w : World) (u : Value) : Past hb w (w.setCell ⟨hb, 0, none⟩ u) := ⟨by simp, fun b _ hne => Below.heap_setCell _ _ _ _ hne, fun _ hg hle => Below.setCell (p := ⟨hb, 0, none⟩) hg hle _⟩
theorem Past.trans {hb : Nat} {a b c : World} (h : Past hb a b) (k : Past hb b c) : Past hb a c := ⟨Nat.le_trans h.1 k.1, fun i hi hne => (k.2.1 i (by have := h.1; omega) hne).trans (h.2.1 i hi hne), fun w₀ hg hle => k.2.2 w₀ (h.2.2 w₀ hg hle) hle⟩
theorem Gramblk.past {w w' : World} {g hb : Nat} {k : Gram} {v : Value} (h : Gramblk w g k v) (hp : Past hb w w') (hne : g ≠ hb) : Gramblk w' g k v := (hp.2.1 g h.lt hne).trans h

set_option maxHeartbeats 1000000 in
/-- The method value: a number appended to what lies in its block. -/
theorem gnum_any (hb : Nat) (v : Value) (l : List UInt8) (n : Int) (w : World) (hx : w.heap[hb]? = some (.cells #[v] 49 (0, 0))) (h : Byt w v l) (hl : l.length ≤ 1000) :
    Calls Try.prog 20 #[.pointer (some ⟨hb, 0, none⟩), .int .i64 n] w fun e w' => e = .returned (.tuple #[]) ∧ ∃ u, w'.heap[hb]? = some (.cells #[u] 49 (0, 0)) ∧ Own w' w.heap.size u (l ++ two n) ∧ Past hb w w' := by
  have hlt := lt_of_block hx
  have c0 := cell_of_one hx
  go_enter Try.func20, Try.ntmps20
  go_wp2_with fail
  refine (Put16_any _ l n _ h (by omega)).mono ?_
  rintro e w1 ⟨u, rfl, ho, hg⟩
  have hx1 := (Below.block hg hb hlt).trans hx
  have c1 := cell_of_one hx1
  have f1 := free_of_one hx1
  obtain ⟨A, m, c, rfl, _⟩ := ho.byt.form2
  go_wp2_with fail
  refine bodyPost_end (results_none rfl _ _ _) rfl ?_
  exact ⟨rfl, _, one_setCell hx1, Own.but ho ⟨by simp, fun b hne => Below.heap_setCell _ _ _ _ hne⟩ hlt, (Past.of_grow hg).trans (Past.set _ _)⟩

set_option maxHeartbeats 2000000 in
/-- A header told to the method value. -/
theorem gtell_any (hb : Nat) (v : Value) (g : Gram) (w : World) (hx : w.heap[hb]? = some (.cells #[.slice none 0 0] 49 (0, 0))) (h : isGram w v g) (hs : g.data.length ≤ 1000000) :
    Calls Try.prog 19 #[v, .func (.func 20) #[.pointer (some ⟨hb, 0, none⟩)] #[]] w fun e w' => e = .returned (.tuple #[]) ∧ ∃ u, w'.heap[hb]? = some (.cells #[u] 49 (0, 0)) ∧ Own w' w.heap.size u (g.top ++ two 0) ∧ Past hb w w' := by
  obtain ⟨A, c, rfl, hd, hk⟩ := h.form
  have hlt := lt_of_block hx
  obtain ⟨_, k1, k2⟩ := hk
  obtain ⟨W1, hW1⟩ : ∃ W1, W1 = w.alloc (.cells #[.int .u16 (g.src : Int), .int .u16 (g.dst : Int), .slice A g.data.length c] 26) := ⟨_, rfl⟩
  have hg1 : Grow w W1 := by rw [hW1]; exact Grow.alloc w _
  have hB1 : Gramblk W1 w.heap.size g (.slice A g.data.length c) := by rw [hW1]; exact Gramblk.new _ _ _
  have hne : w.heap.size ≠ hb := by omega
  have hx1 := (Below.block hg1 hb hlt).trans hx
  have hp1 : Past hb w W1 := Past.of_grow hg1
  obtain ⟨b0, b1, b2⟩ := hB1.boxd
  go_enter Try.func19, Try.ntmps19
  go_wp2_with fail
  rw [← hW1]
  clear hW1
  refine (gnum_any hb _ [] _ _ hx1 (Byt.nil _) (by simp)).mono ?_
  rintro e w2 ⟨rfl, u2, hx2, ho2, hp2⟩
  have hp12 := hp1.trans hp2
  clear b0 b1 b2
  obtain ⟨b0, b1, b2⟩ := (hB1.past hp2 hne).boxd
  go_wp2_with fail
  refine (gnum_any hb _ _ _ _ hx2 ho2.byt (by simp [two_length])).mono ?_
  rintro e w3 ⟨rfl, u3, hx3, ho3, hp3⟩
  clear b0 b1 b2
  obtain ⟨b0, b1, b2⟩ := ((hB1.past hp2 hne).past hp3 hne).boxd
  go_wp2_with fail
  refine (gnum_any hb _ _ _ _ hx3 ho3.byt (by simp [two_length])).mono ?_
  rintro e w4 ⟨rfl, u4, hx4, ho4, hp4⟩
  go_wp2_with fail
  refine (gnum_any hb _ _ _ _ hx4 ho4.byt (by simp [two_length])).mono ?_
  rintro e w5 ⟨rfl, u5, hx5, ho5, hp5⟩
  go_wp2_with fail
  refine bodyPost_end (results_none rfl _ _ _) rfl ?_
  have hp24 := (hp12.trans hp3).trans hp4
  exact ⟨rfl, u5, hx5, by simpa [Gram.top] using ho5.base hp24.1, hp24.trans hp5⟩

set_option maxHeartbeats 400000 in
theorem gBare_long (v : Value) (g : Gram) (w : World) (h : isGram w v g) (hs : g.data.length ≤ 1000000) (hl : 65507 < g.data.length) :
    Calls Try.prog 8 #[v] w fun e w' => e = .returned (.tuple #[.slice none 0 0, .int .i64 9]) ∧ Grow w w' := by
  obtain ⟨A, c, rfl, hd, hk⟩ := h.form
  go_enter Try.func8, Try.ntmps8
  go_wp2_with fail
  go_ret2
  exact ⟨rfl, Grow.alloc _ _⟩

set_option maxHeartbeats 2000000 in
theorem gBare_good (v : Value) (g : Gram) (w : World) (h : isGram w v g) (hl : g.data.length ≤ 65507) :
    Calls Try.prog 8 #[v] w fun e w' => ∃ u, e = .returned (.tuple #[u, .int .i64 0]) ∧ Own w' w.heap.size u (g.bytes 0) ∧ Grow w w' := by
  have hmf : ∀ (fn : Fn) (first cap : Array Value) (w : World), (Instr.makeFunc fn first cap).run Try.prog w = .ok (.func fn first cap) w := fun _ _ _ _ => rfl
  obtain ⟨A, c, rfl, hd, hk⟩ := h.form
  obtain ⟨W1, hW1⟩ : ∃ W1, W1 = w.alloc (.cells #[.int .u16 (g.src : Int), .int .u16 (g.dst : Int), .slice A g.data.length c] 26) := ⟨_, rfl⟩
  have hg1 : Grow w W1 := by rw [hW1]; exact Grow.alloc w _
  have hB1 : Gramblk W1 w.heap.size g (.slice A g.data.length c) := by rw [hW1]; exact Gramblk.new _ _ _
  have hs1 : W1.heap.size = w.heap.size + 1 := by rw [hW1]; simp
  obtain ⟨W2, hW2⟩ : ∃ W2, W2 = W1.alloc (.cells #[.slice none 0 0] 49) := ⟨_, rfl⟩
  have hg2 : Grow W1 W2 := by rw [hW2]; exact Grow.alloc _ _
  have hx2 : W2.heap[w.heap.size + 1]? = some (.cells #[.slice none 0 0] 49 (0, 0)) := by rw [hW2, ← hs1]; exact heap_alloc_new _ _
  have hB2 := hB1.grow hg2
  have hg02 := hg1.trans hg2
  have hip := h.grow hg02
  have hne : w.heap.size ≠ w.heap.size + 1 := by omega
  obtain ⟨b0, b1, b2⟩ := hB2.boxd
  obtain ⟨d0, d1, d2⟩ := hB1.boxd
  go_enter Try.func8, Try.ntmps8
  go_wp2_with fail
  rw [← hW1, ← hW2]
  clear hW1 hW2
  refine (gtell_any _ _ g _ hx2 hip (by omega)).mono ?_
  rintro e w3 ⟨rfl, u, hx3, ho3, hp3⟩
  have hg3 : Grow w w3 := hp3.2.2 w hg02 (by omega)
  have c3 := cell_of_one hx3
  clear b0 b1 b2 d0 d1 d2
  obtain ⟨b0, b1, b2⟩ := (hB2.past hp3 hne).boxd
  obtain ⟨A3, m3, c3', rfl, _⟩ := ho3.byt.form2
  have n3 : 0 < [g.top ++ two 0, g.data].length := by simp
  have n4 : [g.top ++ two 0, g.data].length ≤ maxLen := by simp [maxLen]
  have n5 : lens [g.top ++ two 0, g.data] ≤ 281474976710656 := by simp [lens, gtop_length, two_length]; omega
  go_wp2_with fail
  refine (Join_lit_at w _ hg3 _ 2 _ rfl [g.top ++ two 0, g.data] rfl rfl n3 n4 n5 (byt_two ho3.byt (hd.grow hg3))).mono ?_
  rintro e w4 ⟨v4, rfl, ho4, hg4⟩
  have e4 : [g.top ++ two 0, g.data].flatten = g.bytes 0 := by simp [Gram.bytes]
  rw [e4] at ho4
  go_wp2_with fail
  go_ret2
  exact ⟨_, rfl, ho4, hg4⟩
end Go.Proofs.Ytmblfenindjeiaa
