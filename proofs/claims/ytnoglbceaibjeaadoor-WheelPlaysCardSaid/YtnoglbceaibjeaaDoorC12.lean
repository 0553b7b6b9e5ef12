/- WheelPlays: what a round keeps; its contracts in one form. -/
import Derived.Test.YtnoglbceaibjeaaDoorC09
import Derived.Test.YtnoglbceaibjeaaDoorC07
import Derived.Deep.CutBlock
import Derived.Test.YtnoglbceaibjeaaDoorRows
import Derived.Test.YtnoglbceaibjeaaDoorCards
import Derived.Test.YtnoglbceaibjeaaDoorTie
import Derived.Test.YtnoglbceaibjeaaDoorC01
import Derived.ProofKit
import Derived.OpenShut
import Derived.ShutString
import Derived.ChangeOld
import Derived.SizedLaws
import Derived.LaidMore
import Derived.Stop.Joined
import Derived.SevenTiedAt
import Derived.Deep.SlicePairs
namespace Go.Proofs.YtnoglbceaibjeaaDoor
set_option linter.unusedVariables false
set_option linter.unusedSimpArgs false
open Go.ChangeShapes Go.WideShapes Go.ChangeAt Go.RowKit Go.Shelf

/-- The wheel and the reference's row stand for the same timers. -/
structure PlayAt (w w' : World) (base wb mb now : Nat) (L : List Tm) (v : Value) : Prop where
  st : ∃ U, Wst w' base wb mb now L U
  row : RTm w' base v L
  len : L.length ≤ 200
  low : Below base w w'
  tab : DbB w'
theorem PlayAt.grow {w w1 w2 : World} {base wb mb now : Nat} {L : List Tm} {v : Value} (h : PlayAt w w1 base wb mb now L v) (g : Grow w1 w2) : PlayAt w w2 base wb mb now L v := by
  obtain ⟨U, hU⟩ := h.st
  have hb := hU.whl.bas
  refine ⟨⟨U, ⟨hU.whl.keep fun b T cs hh => g.block b (Array.getElem?_eq_some_iff.1 hh).1, hU.uLt, hU.uBit, hU.map.keep ?_, hU.lowM, hU.nod, hU.tks, hU.nowM⟩⟩, h.row.grow g, h.len, Below.trans h.low (g.mono hb), h.tab.grow g⟩
  obtain ⟨es, ck, e, _⟩ := hU.map
  exact g.block mb (Array.getElem?_eq_some_iff.1 e).1
theorem PlayAt.bas {w w1 : World} {base wb mb now : Nat} {L : List Tm} {v : Value} (h : PlayAt w w1 base wb mb now L v) : base ≤ w1.heap.size := by
  obtain ⟨U, hU⟩ := h.st
  exact hU.whl.bas
theorem DbB.only {w w' : World} {base : Nat} {Z : Nat → TypeId → Prop} (h : DbB w) (o : Only base Z w w') (hb : 0 < base) : DbB w' := TabAt.only h o hb
/-- Next, both. -/
theorem next_parts (L : List Tm) : ∃ (m : Int) (b : Bool), NextV L = .tuple #[.int .i64 m, .bool b] := by
  unfold NextV
  split
  · exact ⟨_, _, rfl⟩
  · exact ⟨_, _, rfl⟩
theorem rNext_all (w : World) (base : Nat) (v : Value) (l : List Tm) (h : RTm w base v l) (hn : l.length ≤ 1000000) : Calls Tryd.prog 19 #[v] w fun e w' => e = .returned (NextV l) ∧ w' = w := by
  unfold NextV
  split <;> rename_i hl
  · subst hl
    obtain ⟨A, c, rfl, _⟩ := h.form
    exact rNext_nil w A c
  · exact rNext_any w v l h.rd hn hl
/-- Due, both. -/
theorem due_both {w0 w : World} {base wb mb now : Nat} {L : List Tm} {v : Value} (h : PlayAt w0 w base wb mb now L v) (x : Int) : ∃ (p : Int) (b : Bool), ∀ w1, Grow w w1 →
    (Calls Tryd.prog 20 #[.pointer (some ⟨wb, 0, none⟩), .int .i64 x] w1 fun e w' => e = .returned (.tuple #[.int .i64 p, .bool b]) ∧ w' = w1) ∧
    (Calls Tryd.prog 21 #[v, .int .i64 x] w1 fun e w' => e = .returned (.tuple #[.int .i64 p, .bool b]) ∧ w' = w1) := by
  obtain ⟨U, hU⟩ := h.st
  have hn : L.length ≤ 1000000 := by have := h.len; omega
  by_cases hx : ∃ t ∈ L, t.id = x
  · obtain ⟨t, ht, rfl⟩ := hx
    obtain ⟨i, hi, hf, _⟩ := first_at hU.nod ht
    refine ⟨(t.tk : Int), true, fun w1 g => ?_⟩
    obtain ⟨U1, hU1⟩ := (h.grow g).st
    exact ⟨wDue_some w1 base wb mb now L U1 hU1 t ht, rDue_some w1 v L (h.row.grow g).rd hn i t hi hf⟩
  · have hx' : ∀ t ∈ L, t.id ≠ x := fun t ht e => hx ⟨t, ht, e⟩
    refine ⟨0, false, fun w1 g => ?_⟩
    obtain ⟨U1, hU1⟩ := (h.grow g).st
    exact ⟨wDue_none w1 base wb mb now L U1 hU1 x hx', rDue_none w1 v L (h.row.grow g).rd hn x hx'⟩
/-- Set, both. -/
theorem set_both {w w1 : World} {base wb mb now : Nat} {L : List Tm} {v : Value} (h : PlayAt w w1 base wb mb now L v) (hb : 0 < base) (hl : L.length < 200) (x y : Int) : ∃ (f : Int), 
    (Calls Tryd.prog 11 #[.pointer (some ⟨wb, 0, none⟩), .int .i64 x, .int .i64 y] w1 fun e w2 => e = .returned (.int .i64 f) ∧ Only base Zm w1 w2 ∧ RTm w2 base v L ∧
      Calls Tryd.prog 12 #[v, .int .i64 x, .int .i64 y] w2 fun e w3 => ∃ A n c, e = .returned (.tuple #[.slice A n c, .int .i64 f]) ∧ ∃ L', L'.length ≤ L.length + 1 ∧ (∃ U, Wst w3 base wb mb now L' U) ∧ RTm w3 base (.slice A n c) L' ∧ Grow w2 w3) := by
  obtain ⟨U, hU⟩ := h.st
  have hb1 := hU.whl.bas
  by_cases hy : y < 0 ∨ 1099511627776 < y
  · refine ⟨8, (wSet_range w1 base wb mb now L U hU x y hy).mono ?_⟩
    rintro e w2 ⟨rfl, rfl⟩
    refine ⟨rfl, Only.refl _ _ _, h.row, ?_⟩
    obtain ⟨A, c, hv, _⟩ := h.row.form
    have hr := h.row
    rw [hv] at hr
    refine (rSet_range w2 v x y hy A _ c hv).mono ?_
    rintro e w3 ⟨rfl, rfl⟩
    exact ⟨A, _, c, by rw [hv], L, by omega, ⟨U, hU⟩, hr, Grow.refl _⟩
  · obtain ⟨z, rfl⟩ := Int.eq_ofNat_of_zero_le (show 0 ≤ y by omega)
    have hz : z ≤ maxT := by unfold maxT; omega
    refine ⟨0, (wSet_ok w1 base wb mb now L U hU x z hz (.inr (by omega))).mono ?_⟩
    rintro e w2 ⟨rfl, b, U2, h2, o2⟩
    have hr2 := h.row.only o2 zm_timer
    refine ⟨rfl, o2, hr2, ?_⟩
    refine (rSet_ok w2 base v L hr2 (Nat.le_trans hb1 o2.size) (by omega) hU.nod x z hz (.inr (by omega))).mono ?_
    rintro e w3 ⟨v', rfl, h3, g3⟩
    obtain ⟨A, c, hv, _⟩ := (h3 b).form
    refine ⟨A, _, c, by rw [hv], _, ?_, ?_, by rw [← hv]; exact h3 b, g3⟩
    · rw [List.length_append]
      have := List.length_filter_le (fun u : Tm => decide (u.id ≠ x)) L
      simp only [List.length_singleton]
      omega
    · refine ⟨U2, ⟨h2.whl.keep fun b T cs hh => g3.block b (Array.getElem?_eq_some_iff.1 hh).1, h2.uLt, h2.uBit, h2.map.keep ?_, h2.lowM, h2.nod, h2.tks, h2.nowM⟩⟩
      obtain ⟨es, ck, e, _⟩ := h2.map
      exact g3.block mb (Array.getElem?_eq_some_iff.1 e).1
theorem Wst.grow {w w' : World} {base wb mb now : Nat} {L : List Tm} {U : Nat → Nat} (h : Wst w base wb mb now L U) (g : Grow w w') : Wst w' base wb mb now L U := by
  refine ⟨h.whl.keep fun b T cs hh => g.block b (Array.getElem?_eq_some_iff.1 hh).1, h.uLt, h.uBit, h.map.keep ?_, h.lowM, h.nod, h.tks, h.nowM⟩
  obtain ⟨es, ck, e, _⟩ := h.map
  exact g.block mb (Array.getElem?_eq_some_iff.1 e).1
/-- Stop, both. -/
theorem stop_both {w w1 : World} {base wb mb now : Nat} {L : List Tm} {v : Value} (h : PlayAt w w1 base wb mb now L v) (x : Int) : ∃ b : Bool,
    (Calls Tryd.prog 13 #[.pointer (some ⟨wb, 0, none⟩), .int .i64 x] w1 fun e w2 => e = .returned (.bool b) ∧ Only base Zm w1 w2 ∧
      Calls Tryd.prog 14 #[v, .int .i64 x] w2 fun e w3 => ∃ A n c, e = .returned (.tuple #[.slice A n c, .bool b]) ∧ ∃ L', L'.length ≤ L.length ∧ (∃ U, Wst w3 base wb mb now L' U) ∧ RTm w3 base (.slice A n c) L' ∧ Grow w2 w3) := by
  obtain ⟨U, hU⟩ := h.st
  have hb1 := hU.whl.bas
  refine ⟨decide (∃ t ∈ L, t.id = x), (wStop_any w1 base wb mb now L U hU x).mono ?_⟩
  rintro e w2 ⟨rfl, U2, h2, o2⟩
  refine ⟨rfl, o2, ?_⟩
  refine (rStop_any w2 base v L (h.row.only o2 zm_timer) (Nat.le_trans hb1 o2.size) (by have := h.len; omega) hU.nod x).mono ?_
  rintro e w3 ⟨v', rfl, h3, g3⟩
  obtain ⟨A, c, hv, _⟩ := h3.form
  exact ⟨A, _, c, by rw [hv], _, List.length_filter_le _ _, ⟨U2, h2.grow g3⟩, by rw [← hv]; exact h3, g3⟩
/-- Tick, both, of a tick that may be. -/
theorem tick_both {w w1 : World} {base wb mb now : Nat} {L : List Tm} {v : Value} (h : PlayAt w w1 base wb mb now L v) (hb : 0 < base) (now' : Nat) (h1 : now ≤ now') (h2 : now' ≤ maxT) :
    Calls Tryd.prog 15 #[.pointer (some ⟨wb, 0, none⟩), .int .i64 (now' : Int)] w1 fun e w2 => ∃ (A : Option Addr) (n c : Nat) (D : List Tm), e = .returned (.tuple #[.slice A n c, .int .i64 0]) ∧ Only base Zt w1 w2 ∧
      Calls Tryd.prog 16 #[v, .int .i64 (now' : Int)] w2 fun e w3 => ∃ (A1 : Option Addr) (n1 c1 : Nat) (A2 : Option Addr) (n2 c2 : Nat), e = .returned (.tuple #[.slice A1 n1 c1, .slice A2 n2 c2]) ∧ ∃ L', L'.length ≤ L.length ∧ (∃ U, Wst w3 base wb mb now' L' U) ∧ RTm w3 base (.slice A1 n1 c1) L' ∧ Grow w2 w3 ∧
        (Calls Tryd.prog 17 #[.slice A n c, .slice A2 n2 c2] w3 fun e w4 => e = .returned (.bool true) ∧ Grow w3 w4) := by
  obtain ⟨U, hU⟩ := h.st
  have hb1 := hU.whl.bas
  refine (wTick_any w1 base wb mb now now' L U ⟨hU, h1, h2, by have := h.len; omega⟩ h.tab hb).mono ?_
  rintro e w2 ⟨D, v2, V, rfl, hi, hs, hst, hW, o2⟩
  obtain ⟨A, c, hv⟩ := hi.form
  refine ⟨A, _, c, D, by rw [hv], o2, ?_⟩
  refine (rTick_any w2 base v L now' (h.row.only o2 zt_timer) (Nat.le_trans hb1 o2.size) (by have := h.len; omega)).mono ?_
  rintro e w3 ⟨v3, v4, D2, rfl, hr, hi2, hs2, hst2, g3⟩
  obtain ⟨A1, c1, hv3, _⟩ := hr.form
  obtain ⟨A2, c2, hv4⟩ := hi2.form
  have hD : D = D2 := srt_uniq D D2 hs hs2 (hst.trans hst2.symm)
  subst hD
  have hDl : D.length ≤ 1000000 := by
    have e1 := hst.len
    have e2 := List.length_filter_le (fun t : Tm => decide (t.tk ≤ now')) L
    have := h.len
    omega
  refine ⟨A1, _, c1, A2, _, c2, by rw [hv3, hv4], _, List.length_filter_le _ _, ⟨V, hW.grow g3⟩, by rw [← hv3]; exact hr, g3, ?_⟩
  have cS := wSame_any w3 v2 v4 (D.map Tm.id) (D.map Tm.id) (RdI.grow hi.rd g3) hi2.rd (by rw [List.length_map]; exact hDl)
  rw [hv, hv4, decide_eq_true rfl] at cS
  exact cS
end Go.Proofs.YtnoglbceaibjeaaDoor
/- WheelPlays: its walk. -/
namespace Go.Proofs.YtnoglbceaibjeaaDoor
set_option linter.unusedVariables false
set_option linter.unusedSimpArgs false
open Go.ChangeShapes Go.WideShapes Go.ChangeAt Go.RowKit Go.Shelf

theorem zt_act (b : Nat) : ¬ Zt b 31 := fun e => by rcases e with ((e | e) | e) | e <;> exact absurd e (by decide)
theorem zm_act (b : Nat) : ¬ Zm b 31 := fun e => by rcases e with (e | e) | e <;> exact absurd e (by decide)
/-- A call's block. -/
def ActAt (w : World) (g : Nat) (x : Ac) : Prop := w.heap[g]? = some (.cells #[.int .i64 x.d, .int .i64 x.i, .int .i64 x.a] 31 (0, 0))
theorem ActAt.c0 {w : World} {g : Nat} {x : Ac} (h : ActAt w g x) : w.cell? ⟨g, 0, none⟩ = some (.int .i64 x.d) := (cell_of_row w g 0 _ _ _ h).trans rfl
theorem ActAt.c1 {w : World} {g : Nat} {x : Ac} (h : ActAt w g x) : w.cell? ⟨g, 1, none⟩ = some (.int .i64 x.i) := (cell_of_row w g 1 _ _ _ h).trans rfl
theorem ActAt.c2 {w : World} {g : Nat} {x : Ac} (h : ActAt w g x) : w.cell? ⟨g, 2, none⟩ = some (.int .i64 x.a) := (cell_of_row w g 2 _ _ _ h).trans rfl
theorem ActAt.grow {w w' : World} {g : Nat} {x : Ac} (h : ActAt w g x) (k : Grow w w') : ActAt w' g x := (k.block g (Array.getElem?_eq_some_iff.1 h).1).trans h
theorem ActAt.only {w w' : World} {g base : Nat} {x : Ac} {Z : Nat → TypeId → Prop} (h : ActAt w g x) (o : Only base Z w w') (hz : ∀ b, ¬ Z b 31) : ActAt w' g x := o.cells h (hz _)

set_option maxRecDepth 100000 in
set_option maxHeartbeats 4000000 in
theorem plays_long (w : World) (now : Int) {v : Value} {l : List Ac} (hl : Acs w v l) (hB : DbB w) (h200 : 200 < l.length) : Calls Tryd.prog 3 #[.int .i64 now, v] w fun e w' => e = .returned (.bool true) ∧ Below w.heap.size w w' := by
  obtain ⟨A, c, rfl, _⟩ := hl
  have c0 := wlive_any w hB
  have i0 : (200 : Int) < (l.length : Int) := by omega
  generalize l.length = n at *
  clear hB
  go_enter Tryd.func3, Tryd.ntmps3
  go_wp2_with fail
  refine c0.mono ?_
  rintro e w' ⟨rfl, hg⟩
  have HG := Lib.hid hg
  clear c0 hg
  go_wp2_with fail
  go_ret
  exact ⟨rfl, HG.out⟩
set_option maxRecDepth 100000 in
set_option maxHeartbeats 4000000 in
theorem plays_out (w : World) (now : Int) {v : Value} {l : List Ac} (hl : Acs w v l) (hB : DbB w) (h200 : l.length ≤ 200) (hn : now < 0 ∨ 1099511627776 < now) : Calls Tryd.prog 3 #[.int .i64 now, v] w fun e w' => e = .returned (.bool true) ∧ Below w.heap.size w w' := by
  obtain ⟨A, c, rfl, _⟩ := hl
  have c0 := wlive_any w hB
  have c1 := wNew_not w now hn
  have i0 : ¬ ((200 : Int) < (l.length : Int)) := by omega
  have HC := Lib.hid (fun x w => wcode_any x w)
  generalize l.length = n at *
  have hn' := Lib.hid hn
  by_cases q : now < 0
  · have d1 : decide (now < 0) = true := decide_eq_true q
    clear hB hn q h200
    go_enter Tryd.func3, Tryd.ntmps3
    go_wp2_with fail
    refine c1.mono ?_
    rintro e w' ⟨rfl, hw⟩
    subst w'
    clear c1
    go_wp2_with fail
    refine (HC.out _ _).mono ?_
    rintro e w' ⟨rfl, hw⟩
    subst w'
    go_wp2_with fail
    refine c0.mono ?_
    rintro e w' ⟨rfl, hg⟩
    have HG := Lib.hid hg
    clear c0 hg
    go_wp2_with fail
    go_ret
    exact ⟨rfl, HG.out⟩
  · have d1 : decide (now < 0) = false := decide_eq_false q
    have d2 : 1099511627776 < now := by omega
    clear hB hn q h200
    go_enter Tryd.func3, Tryd.ntmps3
    go_wp2_with fail
    refine c1.mono ?_
    rintro e w' ⟨rfl, hw⟩
    subst w'
    clear c1
    go_wp2_with fail
    refine (HC.out _ _).mono ?_
    rintro e w' ⟨rfl, hw⟩
    subst w'
    go_wp2_with fail
    refine c0.mono ?_
    rintro e w' ⟨rfl, hg⟩
    have HG := Lib.hid hg
    clear c0 hg
    go_wp2_with fail
    go_ret
    exact ⟨rfl, HG.out⟩
end Go.Proofs.YtnoglbceaibjeaaDoor
/- WheelPlays: the calls played. -/
namespace Go.Proofs.YtnoglbceaibjeaaDoor
set_option linter.unusedVariables false
set_option linter.unusedSimpArgs false
open Go.ChangeShapes Go.WideShapes Go.ChangeAt Go.RowKit Go.Shelf

theorem RTm.len {w : World} {base n c : Nat} {A : Option Addr} {l : List Tm} (h : RTm w base (.slice A n c) l) : n = l.length := by
  obtain ⟨A9, c9, e9, _⟩ := h.form
  cases e9
  rfl

set_option maxRecDepth 100000 in
set_option maxHeartbeats 8000000 in
theorem plays_main (w : World) (now : Nat) {v : Value} {l : List Ac} (hl : Acs w v l) (hB : DbB w) (h200 : l.length ≤ 200) (hn : now ≤ maxT) : Calls Tryd.prog 3 #[.int .i64 (now : Int), v] w fun e w' => e = .returned (.bool true) ∧ Below w.heap.size w w' := by
  have HL0 := Lib.hid hl
  obtain ⟨A, c, rfl, _⟩ := hl
  have c0 := wNew_any w w.heap.size (Nat.le_refl _) now hn
  have i0 : ¬ ((200 : Int) < (l.length : Int)) := by omega
  have i1 : ¬ (1099511627776 < (now : Int)) := by unfold maxT at hn; omega
  have i2 : ¬ ((now : Int) < 0) := by omega
  have HC := Lib.hid (fun x w => wcode_any x w)
  obtain ⟨n, hnl⟩ : ∃ n, n = l.length := ⟨_, rfl⟩
  rw [← hnl] at i0 HL0 ⊢
  have HB := Lib.hid (And.intro hB (And.intro hB.pos (And.intro hnl h200)))
  clear hB hn hnl h200
  go_enter Tryd.func3, Tryd.ntmps3
  go_wp2_with fail
  refine c0.mono ?_
  rintro e w1 ⟨rfl, h1, g1⟩
  have H1 : Hid (PlayAt w w1 w.heap.size (w.heap.size + 1) w.heap.size now [] (.slice none 0 0)) := ⟨⟨_, h1⟩, RTm.nil _ _, by simp, g1, HB.out.1.grow g1⟩
  clear c0 h1 g1
  go_wp2_with fail
  refine (HC.out _ _).mono ?_
  rintro e w' ⟨rfl, hw⟩
  subst w'
  go_wp2_with fail
  clear i0 i1 i2
  go_loopg [0, 7, 8] n (fun gk s0 s7 s8 wr => ∃ (i m : Nat) (A7 : Option Addr) (n7 c7 : Nat) (L : List Tm), gk = n - i ∧ s8 = .int .i64 (i : Int) ∧ s0 = .int .i64 (m : Int) ∧ s7 = .slice A7 n7 c7 ∧ Hid (i ≤ n ∧ L.length ≤ i ∧ n7 = L.length ∧ PlayAt w wr w.heap.size (w.heap.size + 1) w.heap.size m L (.slice A7 n7 c7)))
  case atStart => exact ⟨0, now, none, 0, 0, [], rfl, rfl, rfl, rfl, Nat.zero_le _, Nat.le_refl _, rfl, H1.out⟩
  case round =>
    obtain ⟨i, m, A7, n7, c7, L, rfl, rfl, rfl, rfl, HR⟩ := hrel
    rename World => wo
    rcases Nat.lt_or_ge i n with hlt | hge
    · obtain ⟨x, hx⟩ : ∃ x, l[i]? = some x := ⟨_, List.getElem?_eq_getElem (by have := HB.out.2.2.1; omega)⟩
      obtain ⟨A', c', e1, _, _, _, h4⟩ := HL0.out.grow HR.out.2.2.2.low
      obtain ⟨b, off, hg, hbl, hc⟩ := h4 (by have := HB.out.2.2.1; omega)
      have e2 : A = some ⟨b, off, none⟩ := by
        rw [hg] at e1
        injection e1
      obtain ⟨k0, k1, k2⟩ := hc i x hx
      have t0 : (i : Int) < (n : Int) := by omega
      obtain ⟨j, hj⟩ : ∃ j, j = i + 1 := ⟨_, rfl⟩
      have n1 : (i : Int) + 1 = (j : Int) := by omega
      have n2 : IntKind.i64.wrap (j : Int) = (j : Int) := IntWalk.i64_in _ (by have := HB.out; omega)
      have n3 : IntKind.i64.wrap ((i : Int) + 1) = (j : Int) := by rw [n1]; exact n2
      have HJ : Hid (j = i + 1 ∧ i < n) := ⟨hj, hlt⟩
      subst e2
      clear e1 h4 hg hbl hc hx hj hlt
      obtain ⟨d, xi, xa⟩ := x
      simp only at k0 k1 k2
      obtain ⟨ga, hga⟩ : ∃ ga, ga = wo.heap.size := ⟨_, rfl⟩
      obtain ⟨wA, hwA⟩ : ∃ wA, wA = wo.alloc (.cells #[.int .i64 d, .int .i64 xi, .int .i64 xa] 31) := ⟨_, rfl⟩
      have gA : Grow wo wA := by rw [hwA]; exact Grow.alloc _ _
      have hAct : ActAt wA ga ⟨d, xi, xa⟩ := by rw [hwA, hga]; exact heap_alloc_new wo _
      have HP : Hid (PlayAt w wA w.heap.size (w.heap.size + 1) w.heap.size m L (.slice A7 n7 c7) ∧ ActAt wA ga ⟨d, xi, xa⟩) := ⟨HR.out.2.2.2.grow gA, hAct⟩
      have HWA := Lib.hid (And.intro hwA hga)
      clear gA hAct hwA hga
      go_upto_block 2 with fail
      rw [← HWA.out.1, ← HWA.out.2]
      by_cases hcont : d = 2 ∧ (xa < (m : Int) ∨ 1099511627776 < xa)
      · obtain ⟨rfl, hxa⟩ := hcont
        obtain ⟨U, hU⟩ := HP.out.1.st
        have c1 := wTick_range wA _ _ _ _ _ U hU xa hxa
        have k1 := HP.out.2.c2
        have HX : Hid (PlayAt w wA w.heap.size (w.heap.size + 1) w.heap.size m L (.slice A7 n7 c7)) := HP.out.1
        clear hU k0 k1 k2 t0
        have k1 := HP.out.2.c2
        by_cases q : xa < (m : Int)
        · have d1 : decide (xa < (m : Int)) = true := decide_eq_true q
          clear hxa q
          go_wp2_with fail
          refine c1.mono ?_
          rintro e w' ⟨rfl, hw⟩
          subst w'
          clear c1
          go_wp2_with fail
          refine (HC.out _ _).mono ?_
          rintro e w' ⟨rfl, hw⟩
          subst w'
          go_wp2_with fail
          go_roundg (n - j)
          case measure => have := HJ.out; omega
          case rel => exact ⟨j, m, A7, n7, c7, L, rfl, rfl, rfl, rfl, by have := HJ.out; omega, by have := HJ.out; have := HR.out.2.1; omega, HR.out.2.2.1, HX.out⟩
        · have d1 : decide (xa < (m : Int)) = false := decide_eq_false q
          have d2 : 1099511627776 < xa := by omega
          clear hxa q
          go_wp2_with fail
          refine c1.mono ?_
          rintro e w' ⟨rfl, hw⟩
          subst w'
          clear c1
          go_wp2_with fail
          refine (HC.out _ _).mono ?_
          rintro e w' ⟨rfl, hw⟩
          subst w'
          go_wp2_with fail
          go_roundg (n - j)
          case measure => have := HJ.out; omega
          case rel => exact ⟨j, m, A7, n7, c7, L, rfl, rfl, rfl, rfl, by have := HJ.out; omega, by have := HJ.out; have := HR.out.2.1; omega, HR.out.2.2.1, HX.out⟩
      · have HN := Lib.hid hcont
        clear hcont k0 k1 k2 t0
        go_cut [0, 7, 10, 11, 12, 13, 14, 15, 16, 17, 18, 19] from 72 to 154 (fun s0 s7 _ _ _ _ _ _ _ _ _ _ wx => ∃ (m' : Nat) (A' : Option Addr) (n' c' : Nat) (L' : List Tm), s0 = .int .i64 (m' : Int) ∧ s7 = .slice A' n' c' ∧ Hid (L'.length ≤ j ∧ n' = L'.length ∧ PlayAt w wx w.heap.size (w.heap.size + 1) w.heap.size m' L' (.slice A' n' c') ∧ ActAt wx ga ⟨d, xi, xa⟩))
        case first =>
          have y1 := HP.out.2.c1
          have y2 := HP.out.2.c2
          by_cases q0 : d = 0
          · subst q0
            obtain ⟨f, cS⟩ := set_both HP.out.1 HB.out.2.1 (by have := HR.out.2.1; have := HJ.out; have := HB.out; omega) xi xa
            go_wp2_with fail
            refine cS.mono ?_
            rintro e w2 ⟨rfl, o2, r2, cR⟩
            have hA2 := HP.out.2.only o2 zm_act
            have y3 := hA2.c1
            have y4 := hA2.c2
            have H2 := Lib.hid (And.intro o2 hA2)
            clear cS o2 r2 hA2 y1 y2
            go_wp2_with fail
            refine cR.mono ?_
            rintro e w3 ⟨A', n', c', rfl, L', hl, hW, hr, g3⟩
            have HX : Hid (L'.length ≤ j ∧ n' = L'.length ∧ PlayAt w w3 w.heap.size (w.heap.size + 1) w.heap.size m L' (.slice A' n' c') ∧ ActAt w3 ga ⟨0, xi, xa⟩) := by
              have h1 := HR.out.2.1
              have h2 := HJ.out
              have h3 := HB.out
              exact ⟨by omega, hr.len, ⟨hW, hr, by omega, Below.trans HP.out.1.low (Below.trans H2.out.1.low (g3.mono (Nat.le_trans HP.out.1.bas H2.out.1.size))), (HP.out.1.tab.only H2.out.1 HB.out.2.1).grow g3⟩, H2.out.2.grow g3⟩
            clear cR hl hW hr g3 y3 y4
            go_wp2_with fail
            refine (HC.out _ _).mono ?_
            rintro e w' ⟨rfl, hw⟩
            subst w'
            go_wp2_with fail
            go_meet
            exact ⟨m, A', n', c', L', rfl, rfl, HX.out⟩
          · have p0 : (d == 0) = false := by rw [beq_eq_false_iff_ne]; exact q0
            by_cases q1 : d = 1
            · subst q1
              obtain ⟨f, cS⟩ := stop_both HP.out.1 xi
              clear y2
              go_wp2_with fail
              refine cS.mono ?_
              rintro e w2 ⟨rfl, o2, cR⟩
              have hA2 := HP.out.2.only o2 zm_act
              have y3 := hA2.c1
              have H2 := Lib.hid (And.intro o2 hA2)
              clear cS o2 hA2 y1
              go_wp2_with fail
              refine cR.mono ?_
              rintro e w3 ⟨A', n', c', rfl, L', hl, hW, hr, g3⟩
              have HX : Hid (L'.length ≤ j ∧ n' = L'.length ∧ PlayAt w w3 w.heap.size (w.heap.size + 1) w.heap.size m L' (.slice A' n' c') ∧ ActAt w3 ga ⟨1, xi, xa⟩) := by
                have h1 := HR.out.2.1
                have h2 := HJ.out
                have h3 := HB.out
                exact ⟨by omega, hr.len, ⟨hW, hr, by omega, Below.trans HP.out.1.low (Below.trans H2.out.1.low (g3.mono (Nat.le_trans HP.out.1.bas H2.out.1.size))), (HP.out.1.tab.only H2.out.1 HB.out.2.1).grow g3⟩, H2.out.2.grow g3⟩
              clear cR hl hW hr g3 y3
              go_wp2_with fail
              go_meet
              exact ⟨m, A', n', c', L', rfl, rfl, HX.out⟩
            · have p1 : (d == 1) = false := by rw [beq_eq_false_iff_ne]; exact q1
              by_cases q2 : d = 2
              · subst q2
                have hxa : (m : Int) ≤ xa ∧ xa ≤ 1099511627776 := by
                  have := HN.out
                  omega
                obtain ⟨z, rfl⟩ := Int.eq_ofNat_of_zero_le (show 0 ≤ xa by omega)
                have hz1 : m ≤ z := by omega
                have hz2 : z ≤ maxT := by unfold maxT; omega
                have cS := tick_both HP.out.1 HB.out.2.1 z hz1 hz2
                have d1 : decide ((z : Int) < (m : Int)) = false := decide_eq_false (by omega)
                have d1' : ¬ ((z : Int) < (m : Int)) := by omega
                have d2 : ¬ (1099511627776 < (z : Int)) := by omega
                clear y1 hxa hz1 hz2
                go_wp2_with fail
                refine cS.mono ?_
                rintro e w2 ⟨Ax, nx, cx, D, rfl, o2, cR⟩
                have hA2 := HP.out.2.only o2 zt_act
                have y4 := hA2.c2
                have H2 := Lib.hid (And.intro o2 hA2)
                clear cS o2 hA2 y2
                go_wp2_with fail
                refine cR.mono ?_
                rintro e w3 ⟨A', n', c', A2, n2', c2, rfl, L', hl, hW, hr, g3, cM⟩
                have HX : Hid (L'.length ≤ j ∧ n' = L'.length ∧ PlayAt w w3 w.heap.size (w.heap.size + 1) w.heap.size z L' (.slice A' n' c') ∧ ActAt w3 ga ⟨2, xi, (z : Int)⟩) := by
                  have h1 := HR.out.2.1
                  have h2 := HJ.out
                  have h3 := HB.out
                  exact ⟨by omega, hr.len, ⟨hW, hr, by omega, Below.trans HP.out.1.low (Below.trans H2.out.1.low (g3.mono (Nat.le_trans HP.out.1.bas H2.out.1.size))), (HP.out.1.tab.only H2.out.1 HB.out.2.1).grow g3⟩, H2.out.2.grow g3⟩
                clear cR hl hW hr g3 y4 d1 d1' d2
                go_wp2_with fail
                refine cM.mono ?_
                rintro e w4 ⟨rfl, g4⟩
                have HY : Hid (L'.length ≤ j ∧ n' = L'.length ∧ PlayAt w w4 w.heap.size (w.heap.size + 1) w.heap.size z L' (.slice A' n' c') ∧ ActAt w4 ga ⟨2, xi, (z : Int)⟩) := ⟨HX.out.1, HX.out.2.1, HX.out.2.2.1.grow g4, HX.out.2.2.2.grow g4⟩
                clear cM g4
                go_wp2_with fail
                refine (HC.out _ _).mono ?_
                rintro e w' ⟨rfl, hw⟩
                subst w'
                go_wp2_with fail
                go_meet
                exact ⟨z, A', n', c', L', rfl, rfl, HY.out⟩
              · have p2 : (d == 2) = false := by rw [beq_eq_false_iff_ne]; exact q2
                clear y1 y2 q0 q1 q2
                go_wp2_with fail
                go_meet
                exact ⟨m, A7, n7, c7, L, rfl, rfl, by have := HJ.out; have := HR.out.2.1; omega, HR.out.2.2.1, HP.out.1, HP.out.2⟩
        case rest =>
          obtain ⟨m', A', n', c', L', rfl, rfl, HX⟩ := hcut
          obtain ⟨U, hU⟩ := HX.out.2.2.1.st
          obtain ⟨p, bN, hN⟩ := next_parts L'
          have c1 := wNext_any wc _ _ _ _ L' U hU HX.out.2.2.1.tab
          rw [hN] at c1
          obtain ⟨p2, b2, hd⟩ := due_both HX.out.2.2.1 xi
          have HD := Lib.hid hd
          have HN2 := Lib.hid hN
          clear hU hN hd
          go_wp2_with fail
          refine c1.mono ?_
          rintro e w5 ⟨rfl, g5⟩
          have hP5 := HX.out.2.2.1.grow g5
          have c2 := rNext_all w5 _ _ L' hP5.row (by have := hP5.len; omega)
          rw [HN2.out] at c2
          obtain ⟨c3, c4⟩ := HD.out w5 g5
          obtain ⟨U5, hU5⟩ := hP5.st
          have c5 := wNow_any w5 _ _ _ _ L' U5 hU5
          have c6 := wLen_any w5 _ _ _ _ L' U5 hU5
          rw [← HX.out.2.1] at c6
          have y1 := (HX.out.2.2.2.grow g5).c1
          have H5 := Lib.hid hP5
          clear c1 g5 hP5 hU5
          go_wp2_with fail
          refine c2.mono ?_
          rintro e w' ⟨rfl, hw⟩
          subst w'
          clear c2
          go_wp2_with fail
          refine c3.mono ?_
          rintro e w' ⟨rfl, hw⟩
          subst w'
          clear c3
          go_wp2_with fail
          refine c4.mono ?_
          rintro e w' ⟨rfl, hw⟩
          subst w'
          clear c4
          go_wp2_with fail
          refine c5.mono ?_
          rintro e w' ⟨rfl, hw⟩
          subst w'
          clear c5
          go_wp2_with fail
          refine c6.mono ?_
          rintro e w' ⟨rfl, hw⟩
          subst w'
          clear c6
          go_wp2_with fail
          go_roundg (n - j)
          case measure => have := HJ.out; omega
          case rel => exact ⟨j, m', A', n', c', L', rfl, rfl, rfl, rfl, by have := HJ.out; omega, HX.out.1, HX.out.2.1, H5.out⟩
    · obtain rfl : i = n := by have := HR.out.1; omega
      have c1 := wlive_any wo HR.out.2.2.2.tab
      go_wp2_with fail
      refine c1.mono ?_
      rintro e w5 ⟨rfl, g5⟩
      have H5 := Lib.hid (show Below w.heap.size w w5 from Below.trans HR.out.2.2.2.low (g5.mono HR.out.2.2.2.bas))
      clear c1 g5
      go_wp2_with fail
      go_ret
      exact ⟨rfl, H5.out⟩
theorem wheelPlays_walk (w : World) (now : Int) (hn : -9223372036854775808 ≤ now ∧ now ≤ 9223372036854775807) {v : Value} {l : List Ac} (hl : Acs w v l) (hB : DbB w) : Calls Tryd.prog 3 #[.int .i64 now, v] w fun e w' => e = .returned (.bool true) ∧ Below w.heap.size w w' := by
  rcases Nat.lt_or_ge 200 l.length with h200 | h200
  · exact plays_long w now hl hB h200
  · by_cases ho : now < 0 ∨ 1099511627776 < now
    · exact plays_out w now hl hB h200 ho
    · obtain ⟨m, rfl⟩ := Int.eq_ofNat_of_zero_le (show 0 ≤ now by omega)
      exact plays_main w m hl hB h200 (by unfold maxT; omega)
end Go.Proofs.YtnoglbceaibjeaaDoor
/- WheelPlays: for every input the law returns true, and each argument reads behind the call as it read before; what the listed package-level variables hold is tied to the text of the program. No condition. -/
namespace Go.Proofs.YtnoglbceaibjeaaDoor.wheelPlays
open Go.ChangeShapes Go.WideShapes Go.ChangeAt Go.RowKit
open Go.ChangeMaps (open_string shut_string)
set_option linter.unusedVariables false

theorem own : ownKnob Tryd.prog.godebug = none := by kernel_rfl
theorem laidOut : laidOutB Tryd.prog = true := by kernel_rfl

set_option maxRecDepth 100000 in
theorem lifted (os : Os) (started : os.Started) (H : Type) (enc : TypeId × Value → H) :
    ReturnsInHanded {} Tryd.checked os 3 .any (fun w args => (Rows.wheelPlaysSpec.pre enc Tryd.prog Tryd.f3 [] false w args ∧ laidMetH Tryd.prog laid4 w) ∧ sizedMet enc Tryd.prog Tryd.f3 (OpenSpec.ofChange Rows.wheelPlaysSpec) false w args)
      (Rows.wheelPlaysSpec.post enc Tryd.prog Tryd.f3 false true false false) := by
  refine returnsInHanded_of_change_and (C := Tryd.checked) (X := fun w _ => laidMetH Tryd.prog laid4 w) (fun _ _ _ hh h => h.of_heap hh) own started (by kernel_rfl) Tryd.func3
    (ChangeSpec.witness_shaped (enc := enc) (C := Tryd.checked) (os := os) (X := fun w _ => laidMetH Tryd.prog laid4 w) false (World.doorLaid Tryd.prog 14 os) #[.int .i64 0, .slice none 0 0] 8 rfl (World.shaped_of_RefB (by kernel_rfl) (by kernel_rfl)) (by kernel_rfl) (by kernel_rfl) (by kernel_rfl) (door_met os _)) ?_
  intro W base args ds gs before hval0 hW _ hsz0 hL _
  have hsz : (DataW.weightsEach Tryd.prog (Tryd.f3.params.toList ++ Rows.wheelPlaysSpec.plain.varTypes Tryd.prog) (ds ++ gs)).all (· ≤ reachBytes) = true := hsz0
  have hval : ∀ (j : Nat) t v, Tryd.f3.params[j]? = some t → args[j]? = some v → Value.okWide Tryd.prog W .any base t v := hval0
  have hW' := hW
  obtain ⟨p, q, hA0, hV, rfl, hfz, hnd⟩ := hW
  have hA : DataW.TrodAll enc Tryd.prog W 0 (fun _ => true) true Tryd.f3.params.toList args.toList ds p := hA0
  rw [Tryd.params3] at hA hval hsz
  obtain ⟨v0, vs0, d0, ds0, p0, q0, hargs, rfl, rfl, h0, r0⟩ := trodAll_cons hA
  obtain ⟨v1, vs1, d1, ds1, p1, q1, rfl, rfl, rfl, h1, r1⟩ := trodAll_cons r0
  obtain ⟨rfl, rfl, rfl⟩ := trodAll_nil r1
  obtain rfl : args = #[v0, v1] := by cases args; simp_all
  obtain ⟨rfl, rfl⟩ := trodVars_none hV
  have hB := base_of_laid hL
  obtain ⟨a0, rfl, rfl, rfl, w0⟩ := open_int Tryd.underlying3 (hval 0 3 v0 rfl rfl) h0
  have z0 := bounds_i64 w0
  have k1 := h1
  have lt1 : ∀ x ∈ p1, x.block < W.heap.size := by obtain ⟨m, hm⟩ := k1; exact DataW.trod_lt m _ _ _ hm
  obtain ⟨q1, w1⟩ := open_acs (hval 1 22 v1 rfl rfl) h1
  clear hA0 hval0
  refine (wheelPlays_walk W a0 z0 w1 hB).mono fun e W' ⟨he, bel⟩ => ?_
  subst he
  exact ⟨_, rfl, _, _, _, [], _, [], hW', trodAll_mk1 (shut_bool Tryd.underlying4 _), (trodAll_cons_mk (shut_int Tryd.underlying3 w0) (trodAll_cons_mk (Below.trod laidOut (by kernel_rfl) (of_decide_eq_true (by kernel_rfl)) k1 bel lt1) trodAll_mk0)), rfl, Below.frame bel _, fun h => by cases h⟩

theorem over : Rows.wheelPlaysRow.holds Tryd.pinned (OpenSpec.ofChange Rows.wheelPlaysSpec) :=
  OpenClaim.holds_of_wide 3 Tryd.f3 rfl rfl rfl rfl rfl rfl rfl ⟨rfl, rfl, rfl, rfl, rfl⟩ rfl rfl rfl rfl rfl (by kernel_rfl) Tryd.func3 (by kernel_rfl)
    (of_decide_eq_true (by kernel_rfl)) (by unfold Func.isWrapper; first | (rw [if_pos (by decide +kernel)]; kernel_rfl) | (rw [if_neg (by decide +kernel)]; exact ⟨rfl, rfl⟩))
    (fun os started H enc _ => lifted os started H enc)

/-- The statement. -/
theorem proved : Rows.WheelPlaysCardSaid :=
  Claim7.holds_tied_plain_at .later [] [.data] true Rows.wheelPlaysCard.stood.harness Rows.wheelPlaysCard.stood.looks
    over (fun _ h => by cases h) (by kernel_rfl) (fun _ h => by cases h) wheelPlays_row_tie rfl ⟨rfl, rfl⟩ (by kernel_rfl) rfl
    (fun g fn hf hfn => by
      obtain rfl : g = 3 := Option.some.inj ((show Tryd.prog.funcNamed Rows.wheelPlaysRow.func = some 3 by kernel_rfl).symm.trans hf) |>.symm
      obtain rfl : fn = Tryd.f3 := (Option.some.inj (Tryd.func3.symm.trans hfn)).symm
      exact ⟨by kernel_rfl, fun j t ht => by
        rw [Tryd.params3] at ht
        have hm : t ∈ [3, 22] := by simpa using Array.mem_of_getElem? ht
        have hall : ([3, 22].all fun u => !Tryd.prog.wantsStandIn u) = true := by kernel_rfl
        exact (show Tryd.prog.wantsStandIn t = false by simpa using List.all_eq_true.1 hall t hm)⟩)
    (by kernel_rfl)
#print axioms proved
end Go.Proofs.YtnoglbceaibjeaaDoor.wheelPlays
