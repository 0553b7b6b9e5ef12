/- WheelOnce: which timers have been told. -/
import Derived.Test.YtnoglbceaibjeaaDoorC09
import Derived.Laws.MakeOwn
import Derived.BigQuiet
import Derived.Test.YtnoglbceaibjeaaDoorRows
import Derived.Test.YtnoglbceaibjeaaDoorCards
import Derived.Test.YtnoglbceaibjeaaDoorTie
import Derived.Test.YtnoglbceaibjeaaDoorC01
import Derived.ProofKit
import Derived.OpenShut
import Derived.ShutString
import Derived.ChangeOld
import Derived.SizedLaws
import Derived.LaidMore
import Derived.Stop.Joined
import Derived.SevenTiedAt
import Derived.Deep.SlicePairs
namespace Go.Proofs.YtnoglbceaibjeaaDoor
set_option linter.unusedVariables false
set_option linter.unusedSimpArgs false
open Go.ChangeShapes Go.WideShapes Go.ChangeAt Go.RowKit Go.Shelf

theorem grow_drewN (w : World) (n : Nat) : Grow w (w.drewN n) := ⟨rfl, rfl, rfl, Nat.le_refl _, fun _ _ => rfl⟩
def toldC (n : Nat) (F : Nat → Bool) : Array Value := ((List.range n).map fun k => Value.bool (F k)).toArray
/-- The row of bools lies in memory. -/
def Told (w : World) (tb n : Nat) (F : Nat → Bool) : Prop := w.heap[tb]? = some (.cells (toldC n F) 4 (0, 0))
section
variable {w w' : World} {tb n : Nat} {F : Nat → Bool}
theorem Told.cell (h : Told w tb n F) {k : Nat} (hk : k < n) : w.cell? ⟨tb, k, none⟩ = some (.bool (F k)) := by
  refine (cell_of_row w tb k _ _ _ h).trans ?_
  unfold toldC
  rw [List.getElem?_toArray, List.getElem?_map, List.getElem?_range hk]
  rfl
theorem Told.frozen (h : Told w tb n F) (k : Nat) : w.frozen? ⟨tb, k, none⟩ = false := frozen_of h
theorem Told.only {base : Nat} {Z : Nat → TypeId → Prop} (h : Told w tb n F) (o : Only base Z w w') (hz : ∀ b, ¬ Z b 4) : Told w' tb n F := o.cells h (hz _)
theorem Told.grow (h : Told w tb n F) (g : Grow w w') : Told w' tb n F := (g.block tb (Array.getElem?_eq_some_iff.1 h).1).trans h
theorem Told.set (h : Told w tb n F) (k : Nat) : Told (w.setCell ⟨tb, k, none⟩ (.bool true)) tb n (fun x => F x || decide (x = k)) := by
  refine (heap_setCell_own h _).trans ?_
  congr 2
  refine Array.ext' (List.ext_getElem? fun i => ?_)
  unfold toldC
  simp only [Array.toList_setIfInBounds, List.getElem?_set, List.length_map, List.length_range, List.getElem?_map]
  rcases Nat.lt_or_ge i n with hi | hi
  · rw [List.getElem?_range hi]
    by_cases e : k = i
    · subst e
      simp [hi]
    · have e' : ¬ i = k := fun q => e q.symm
      simp [e, e']
  · have e : (List.range n)[i]? = none := List.getElem?_eq_none (by rw [List.length_range]; exact hi)
    rw [e]
    by_cases q : k = i
    · subst q
      simp [Nat.not_lt.2 hi]
    · simp [q]
end
def Zo (b : Nat) (T : TypeId) : Prop := T = 4
theorem zm_bool (b : Nat) : ¬ Zm b 4 := fun e => by rcases e with (e | e) | e <;> exact absurd e (by decide)
theorem zt_bool (b : Nat) : ¬ Zt b 4 := fun e => by rcases e with ((e | e) | e) | e <;> exact absurd e (by decide)
theorem Told.onlyZ {w : World} {tb n base : Nat} {F : Nat → Bool} (h : Told w tb n F) (hb : base ≤ tb) (k : Nat) : Only base Zo w (w.setCell ⟨tb, k, none⟩ (.bool true)) := Only.set h hb rfl _
theorem Wst.onlyO {w w' : World} {base b0 wb mb now : Nat} {L : List Tm} {U : Nat → Nat} (h : Wst w base wb mb now L U) (o : Only b0 Zo w w') : Wst w' base wb mb now L U :=
  ⟨h.whl.only o (fun b e => absurd (show 68 = 4 from e) (by decide)) (fun b e => absurd (show 70 = 4 from e) (by decide)), h.uLt, h.uBit, o.imap h.map (fun e => absurd (show mapT = 4 from e) (by decide)), h.lowM, h.nod, h.tks, h.nowM⟩
theorem Wst.growO {w w' : World} {base wb mb now : Nat} {L : List Tm} {U : Nat → Nat} (h : Wst w base wb mb now L U) (g : Grow w w') : Wst w' base wb mb now L U := by
  refine ⟨h.whl.keep fun b T cs hh => g.block b (Array.getElem?_eq_some_iff.1 hh).1, h.uLt, h.uBit, h.map.keep ?_, h.lowM, h.nod, h.tks, h.nowM⟩
  obtain ⟨es, ck, e, _⟩ := h.map
  exact g.block mb (Array.getElem?_eq_some_iff.1 e).1
theorem zo_int (b : Nat) : ¬ Zo b 3 := fun e => absurd (show 3 = 4 from e) (by decide)
/-- make([]bool, n). -/
theorem run_mkb (n : Nat) (hn : n ≤ 1000) (w : World) : (Instr.makeSlice 56 (.int .i64 (n : Int)) (.int .i64 (n : Int))).run Tryd.prog w = .ok (.slice (some ⟨w.heap.size, 0, none⟩) n n) (w.alloc (.cells (toldC n fun _ => false) 4)) := by
  have hinfo : (Tryd.prog.info? 4).map (fun i => (i.zero, i.size, i.bytes)) = some (some (.bool false), 1, 1) := by kernel_rfl
  cases hi : Tryd.prog.info? 4 with
  | none => rw [hi] at hinfo; cases hinfo
  | some i =>
    rw [hi] at hinfo
    simp only [Option.map_some, Option.some.injEq, Prod.mk.injEq] at hinfo
    obtain ⟨hz, hs, hb⟩ := hinfo
    have hr := run_make (P := Tryd.prog) w 56 4 i (.bool false) Tryd.underlying56 hi hz .i64 .i64 (n : Int) (n : Int) (by omega) (Int.le_refl _) (by rw [hb]; omega) (by omega)
    simp only [Int.toNat_natCast] at hr
    rw [hr]
    congr 3
    rw [hs, Nat.mul_one]
    unfold madeCells toldC
    refine Array.ext' (List.ext_getElem? fun k => ?_)
    simp [Value.cells, Nat.mod_one]

/-- What is known of the timers set, told or not. -/
structure OnceP (l : List Int) (n now : Nat) (L : List Tm) (F : Nat → Bool) : Prop where
  a : ∀ t ∈ L, ∃ k, k < n ∧ t.id = (k : Int) ∧ l[k]? = some (t.tk : Int) ∧ F k = false
  b : ∀ k, k < n → F k = false → ∃ t ∈ L, t.id = (k : Int)
  c : ∀ k, k < n → F k = true → ∀ y, l[k]? = some y → y ≤ (now : Int)
def tf (F : Nat → Bool) (D : List Tm) : Nat → Bool := fun x => F x || D.any fun t => decide (t.id = (x : Int))
theorem tf_nil (F : Nat → Bool) : tf F [] = F := by
  funext x
  simp [tf]
theorem tf_more (F : Nat → Bool) {D : List Tm} {j k : Nat} {t : Tm} (ht : D[j]? = some t) (hk : t.id = (k : Int)) : (fun x => tf F (D.take j) x || decide (x = k)) = tf F (D.take (j + 1)) := by
  funext x
  unfold tf
  rw [List.take_add_one, ht, List.any_append, Option.toList_some, List.any_cons, List.any_nil, Bool.or_false, hk, Bool.or_assoc]
  congr 2
  by_cases e : x = k
  · subst e; simp
  · rw [decide_eq_false e, decide_eq_false (by omega)]
theorem stb_once {D E : List Tm} (h : Stb tkI D E) (hE : E.Nodup) {k : Nat} {t : Tm} (ht : D[k]? = some t) : t ∉ D.take k := by
  intro hm
  have hk : k < D.length := (List.getElem?_eq_some_iff.1 ht).1
  have e : D = D.take k ++ t :: D.drop (k + 1) := by
    rw [← (List.getElem?_eq_some_iff.1 ht).2, List.getElem_cons_drop, List.take_append_drop]
  have h1 := h (tkI t)
  have h2 : (D.filter fun a => decide (tkI a = tkI t)).Nodup := by rw [h1]; exact (List.Sublist.nodup List.filter_sublist hE)
  rw [e, List.filter_append, List.filter_cons, if_pos (by simp)] at h2
  exact (List.nodup_append.1 h2).2.2 t (List.mem_filter.2 ⟨hm, by simp⟩) t (List.mem_cons_self) rfl
theorem idn {L : List Tm} (h : (L.map Tm.id).Nodup) {t u : Tm} (ht : t ∈ L) (hu : u ∈ L) (e : t.id = u.id) : t = u := by
  induction L with
  | nil => cases ht
  | cons x l ih =>
    rw [List.map_cons, List.nodup_cons] at h
    rcases List.mem_cons.1 ht with h1 | h1 <;> rcases List.mem_cons.1 hu with h2 | h2
    · exact h1.trans h2.symm
    · exact (h.1 (by rw [← h1, e]; exact List.mem_map_of_mem h2)).elim
    · exact (h.1 (by rw [← h2, ← e]; exact List.mem_map_of_mem h1)).elim
    · exact ih h.2 h1 h2
section
variable {l : List Int} {n now now' : Nat} {L D : List Tm} {F : Nat → Bool}
theorem OnceP.step (h : OnceP l n now L F) (hn : (L.map Tm.id).Nodup) (hs : Stb tkI D (L.filter fun t => decide (t.tk ≤ now'))) {j : Nat} {t : Tm} (ht : D[j]? = some t) :
    ∃ k y : Nat, k < n ∧ t.id = (k : Int) ∧ l[k]? = some (y : Int) ∧ y ≤ now' ∧ tf F (D.take j) k = false ∧ (fun x => tf F (D.take j) x || decide (x = k)) = tf F (D.take (j + 1)) := by
  have hm := List.mem_filter.1 (hs.mem (List.mem_of_getElem? ht))
  obtain ⟨k, hk, hi, hl, hF⟩ := h.a t hm.1
  refine ⟨k, t.tk, hk, hi, hl, of_decide_eq_true hm.2, ?_, tf_more F ht hi⟩
  unfold tf
  rw [hF, Bool.false_or, List.any_eq_false]
  intro u hu e
  have hu2 := List.mem_filter.1 (hs.mem (List.mem_of_mem_take hu))
  have : u = t := idn hn hu2.1 hm.1 ((of_decide_eq_true e).trans hi.symm)
  subst this
  exact stb_once hs (List.Sublist.nodup List.filter_sublist (ids_nodup hn)) ht hu
theorem OnceP.done (h : OnceP l n now L F) (hle : now ≤ now') (hn : (L.map Tm.id).Nodup) (hs : Stb tkI D (L.filter fun t => decide (t.tk ≤ now'))) :
    OnceP l n now' (left now' L) (tf F D) ∧ ∀ k, k < n → ∀ y, l[k]? = some y → tf F D k = decide (y ≤ (now' : Int)) := by
  have key : ∀ k, k < n → ∀ y, l[k]? = some y → (tf F D k = true → y ≤ (now' : Int)) ∧ (tf F D k = false → ¬ y ≤ (now' : Int)) := by
    intro k hk y hy
    constructor
    · intro e
      unfold tf at e
      rcases Bool.or_eq_true_iff.1 e with e | e
      · have := h.c k hk e y hy
        omega
      · obtain ⟨u, hu, eu⟩ := List.any_eq_true.1 e
        have hm := List.mem_filter.1 (hs.mem hu)
        obtain ⟨k2, _, hi2, hl2, _⟩ := h.a u hm.1
        have e2 : k2 = k := by have := of_decide_eq_true eu; omega
        subst e2
        rw [hl2] at hy
        injection hy with hy
        have := of_decide_eq_true hm.2
        omega
    · intro e hle2
      unfold tf at e
      obtain ⟨e1, e2⟩ := Bool.or_eq_false_iff.1 e
      obtain ⟨t, ht, hi⟩ := h.b k hk e1
      obtain ⟨k2, _, hi2, hl2, _⟩ := h.a t ht
      have e3 : k2 = k := by omega
      subst e3
      rw [hl2] at hy
      injection hy with hy
      have hmem : t ∈ L.filter fun t => decide (t.tk ≤ now') := List.mem_filter.2 ⟨ht, decide_eq_true (by omega)⟩
      have := (List.any_eq_false.1 e2) t (hs.symm.mem hmem)
      exact this (decide_eq_true hi)
  refine ⟨⟨fun t ht => ?_, fun k hk e => ?_, fun k hk e y hy => (key k hk y hy).1 e⟩, fun k hk y hy => ?_⟩
  · obtain ⟨hm, hgt⟩ := List.mem_filter.1 ht
    obtain ⟨k, hk, hi, hl, hF⟩ := h.a t hm
    refine ⟨k, hk, hi, hl, ?_⟩
    cases e : tf F D k
    · rfl
    · have := (key k hk _ hl).1 e
      have := of_decide_eq_true hgt
      omega
  · have e0 : F k = false := by
      unfold tf at e
      exact (Bool.or_eq_false_iff.1 e).1
    obtain ⟨t, ht, hi⟩ := h.b k hk e0
    obtain ⟨k2, _, hi2, hl2, _⟩ := h.a t ht
    have e3 : k2 = k := by omega
    subst e3
    have := (key k2 hk _ hl2).2 e
    exact ⟨t, List.mem_filter.2 ⟨ht, decide_eq_true (by omega)⟩, hi⟩
  · cases e : tf F D k
    · exact (decide_eq_false ((key k hk y hy).2 e)).symm
    · exact (decide_eq_true ((key k hk y hy).1 e)).symm
end
/-- The first loop: the timers 0 .. i - 1 are set. -/
structure OnceA (w w' : World) (base wb mb tb n : Nat) (l : List Int) (i : Nat) : Prop where
  st : ∃ L U, Wst w' base wb mb 0 L U ∧ L.length = i ∧ ∀ (k : Nat) (t : Tm), L[k]? = some t → t.id = (k : Int) ∧ l[k]? = some (t.tk : Int)
  told : Told w' tb n fun _ => false
  low : Below base w w'
  tab : DbB w'
/-- The second loop. -/
structure OnceB (w w' : World) (base wb mb tb n : Nat) (l : List Int) (now : Nat) : Prop where
  st : ∃ L U F, Wst w' base wb mb now L U ∧ L.length ≤ 150 ∧ OnceP l n now L F ∧ Told w' tb n F
  low : Below base w w'
  tab : DbB w'
theorem OnceB.grow {w w1 w2 : World} {base wb mb tb n now : Nat} {l : List Int} (h : OnceB w w1 base wb mb tb n l now) (g : Grow w1 w2) : OnceB w w2 base wb mb tb n l now := by
  obtain ⟨L, U, F, hU, h1, h2, h3⟩ := h.st
  exact ⟨⟨L, U, F, hU.growO g, h1, h2, h3.grow g⟩, Below.trans h.low (g.mono hU.whl.bas), h.tab.grow g⟩
theorem OnceA.more {w w1 w2 : World} {base wb mb tb n i y b : Nat} {l : List Int} {L : List Tm} {U2 : Nat → Nat} (h : OnceA w w1 base wb mb tb n l i) (hb : 0 < base)
    (hlen : L.length = i) (hat : ∀ (k : Nat) (t : Tm), L[k]? = some t → t.id = (k : Int) ∧ l[k]? = some (t.tk : Int)) (hy : l[i]? = some (y : Int))
    (h2 : Wst w2 base wb mb 0 ((L.filter fun u => decide (u.id ≠ (i : Int))) ++ [⟨(i : Int), y, b⟩]) U2) (o : Only base Zm w1 w2) : OnceA w w2 base wb mb tb n l (i + 1) := by
  have e : L.filter (fun u => decide (u.id ≠ (i : Int))) = L := List.filter_eq_self.2 fun u hu => by
    obtain ⟨k, hk⟩ := List.getElem?_of_mem hu
    have := (hat k u hk).1
    have := (List.getElem?_eq_some_iff.1 hk).1
    exact decide_eq_true (by omega)
  rw [e] at h2
  refine ⟨⟨_, U2, h2, by rw [List.length_append, hlen]; rfl, fun k t hk => ?_⟩, h.told.only o zm_bool, Below.trans h.low o.low, TabAt.only h.tab o hb⟩
  rcases Nat.lt_or_ge k L.length with q | q
  · rw [List.getElem?_append_left q] at hk
    exact hat k t hk
  · rw [List.getElem?_append_right q] at hk
    have q2 : k - L.length = 0 := by
      have := (List.getElem?_eq_some_iff.1 hk).1
      simp at this
      omega
    rw [q2] at hk
    simp at hk
    subst hk
    have : k = i := by omega
    subst this
    exact ⟨rfl, hy⟩
theorem OnceA.start2 {w w1 : World} {base wb mb tb n : Nat} {l : List Int} (h : OnceA w w1 base wb mb tb n l n) (hn : n ≤ 150) : OnceB w w1 base wb mb tb n l 0 := by
  obtain ⟨L, U, hU, hlen, hat⟩ := h.st
  refine ⟨⟨L, U, fun _ => false, hU, by omega, ⟨fun t ht => ?_, fun k hk _ => ?_, fun _ _ e => by cases e⟩, h.told⟩, h.low, h.tab⟩
  · obtain ⟨k, hk⟩ := List.getElem?_of_mem ht
    have := hat k t hk
    exact ⟨k, by have := (List.getElem?_eq_some_iff.1 hk).1; omega, this.1, this.2, rfl⟩
  · refine ⟨L[k]'(by omega), List.getElem_mem _, (hat k _ (List.getElem?_eq_getElem (by omega))).1⟩
theorem numsU_at {w : World} {A : Option Addr} {n c i : Nat} {l : List Int} (h : NumsU w (.slice A n c) l) (hi : i < n) :
    ∃ b off y : Nat, A = some ⟨b, off, none⟩ ∧ l[i]? = some (y : Int) ∧ y ≤ 4294967295 ∧ w.cell? ⟨b, off + i, none⟩ = some (.int .u32 (y : Int)) := by
  obtain ⟨A', c', e, _, _, h3, h4⟩ := h
  injection e with e1 e2 e3
  have hl : i < l.length := by omega
  obtain ⟨b, off, hg, _, hc⟩ := h4 (by omega)
  have hx : l[i]? = some l[i] := List.getElem?_eq_getElem hl
  have hr := h3 l[i] (List.getElem_mem hl)
  obtain ⟨y, hy⟩ := Int.eq_ofNat_of_zero_le hr.1
  have hx' := hx
  rw [hy] at hx'
  refine ⟨b, off, y, e1.trans hg, hx', by omega, hc i _ hx'⟩
end Go.Proofs.YtnoglbceaibjeaaDoor
/- WheelOnce: its walk. -/
namespace Go.Proofs.YtnoglbceaibjeaaDoor
set_option linter.unusedVariables false
set_option linter.unusedSimpArgs false
open Go.ChangeShapes Go.WideShapes Go.ChangeAt Go.RowKit Go.Shelf

set_option maxRecDepth 100000 in
set_option maxHeartbeats 4000000 in
theorem once_long (w : World) {v0 v1 : Value} {l s : List Int} (hl : NumsU w v0 l) (hs : NumsU w v1 s) (hB : DbB w) (h : 150 < l.length ∨ 100 < s.length) : Calls Tryd.prog 7 #[v0, v1] w fun e w' => e = .returned (.bool true) ∧ Below w.heap.size w w' := by
  obtain ⟨A, c, rfl, _⟩ := hl
  obtain ⟨B, d, rfl, _⟩ := hs
  have c0 := wlive_any w hB
  obtain ⟨n, hn⟩ : ∃ n, n = l.length := ⟨_, rfl⟩
  obtain ⟨m, hm⟩ : ∃ m, m = s.length := ⟨_, rfl⟩
  rw [← hn, ← hm] at h
  rw [← hn, ← hm]
  clear hB hn hm
  by_cases q : 150 < n
  · have i0 : (150 : Int) < (n : Int) := by omega
    clear h q
    go_enter Tryd.func7, Tryd.ntmps7
    go_wp2_with fail
    refine c0.mono ?_
    rintro e w' ⟨rfl, hg⟩
    have HG := Lib.hid hg
    clear c0 hg
    go_wp2_with fail
    go_ret
    exact ⟨rfl, HG.out⟩
  · have i0 : ¬ ((150 : Int) < (n : Int)) := by omega
    have i1 : (100 : Int) < (m : Int) := by omega
    clear h q
    go_enter Tryd.func7, Tryd.ntmps7
    go_wp2_with fail
    refine c0.mono ?_
    rintro e w' ⟨rfl, hg⟩
    have HG := Lib.hid hg
    clear c0 hg
    go_wp2_with fail
    go_ret
    exact ⟨rfl, HG.out⟩
set_option maxRecDepth 100000 in
set_option maxHeartbeats 8000000 in
theorem once_main (w : World) {v0 v1 : Value} {l s : List Int} (hl : NumsU w v0 l) (hs : NumsU w v1 s) (hB : DbB w) (h150 : l.length ≤ 150) (h100 : s.length ≤ 100) : Calls Tryd.prog 7 #[v0, v1] w fun e w' => e = .returned (.bool true) ∧ Below w.heap.size w w' := by
  have HL0 := Lib.hid hl
  have HS0 := Lib.hid hs
  obtain ⟨A, c, rfl, _⟩ := hl
  obtain ⟨B, d, rfl, _⟩ := hs
  have c0 := wNew_any w w.heap.size (Nat.le_refl _) 0 (by unfold maxT; omega)
  have i0 : ¬ ((150 : Int) < (l.length : Int)) := by omega
  have i1 : ¬ ((100 : Int) < (s.length : Int)) := by omega
  have hmk := run_mkb l.length (by omega)
  have HC := Lib.hid (fun x w => wcode_any x w)
  obtain ⟨n, hnl⟩ : ∃ n, n = l.length := ⟨_, rfl⟩
  obtain ⟨N, hNl⟩ : ∃ N, N = s.length := ⟨_, rfl⟩
  rw [← hnl] at i0 hmk HL0
  rw [← hNl] at i1 HS0
  rw [← hnl, ← hNl]
  have HB := Lib.hid (And.intro hB (And.intro hB.pos (And.intro (show n ≤ 150 by omega) (show N ≤ 100 by omega))))
  clear hB hnl hNl h150 h100
  go_enter Tryd.func7, Tryd.ntmps7
  go_wp2_with fail
  refine c0.mono ?_
  rintro e w1 ⟨rfl, h1, g1⟩
  have H1 : Hid (OnceA w (w1.alloc (.cells (toldC n fun _ => false) 4)) w.heap.size (w.heap.size + 1) w.heap.size w1.heap.size n l 0) := ⟨⟨[], _, h1.growO (Grow.alloc _ _), rfl, fun k t hk => by cases hk⟩, heap_alloc_new w1 _, Grow.trans g1 (Grow.alloc _ _), (HB.out.1.grow g1).grow (Grow.alloc _ _)⟩
  have HT : Hid (w.heap.size ≤ w1.heap.size) := g1.size
  clear c0 h1 g1
  go_wp2_with fail
  refine (HC.out _ _).mono ?_
  rintro e w' ⟨rfl, hw⟩
  subst w'
  go_wp2_with fail
  clear i0 i1 hmk
  generalize w1.heap.size = tb at H1 HT ⊢
  go_loopg [8] n (fun gk s8 wr => ∃ i : Nat, gk = n - i ∧ s8 = .int .i64 (i : Int) ∧ Hid (i ≤ n ∧ OnceA w wr w.heap.size (w.heap.size + 1) w.heap.size tb n l i))
  case atStart => exact ⟨0, rfl, rfl, Nat.zero_le _, H1.out⟩
  case round =>
    obtain ⟨i, rfl, rfl, HR⟩ := hrel
    rename World => wa
    clear H1
    rcases Nat.lt_or_ge i n with hlt | hge
    · obtain ⟨b, off, y, hA, hy, hy2, k0⟩ := numsU_at (HL0.out.grow HR.out.2.low) hlt
      subst hA
      have t0 : (i : Int) < (n : Int) := by omega
      obtain ⟨j, hj⟩ : ∃ j, j = i + 1 := ⟨_, rfl⟩
      have n1 : (i : Int) + 1 = (j : Int) := by omega
      have n2 : IntKind.i64.wrap (j : Int) = (j : Int) := IntWalk.i64_in _ (by have := HB.out; omega)
      have n3 : IntKind.i64.wrap ((i : Int) + 1) = (j : Int) := by rw [n1]; exact n2
      have n4 : IntKind.i64.wrap (y : Int) = (y : Int) := IntWalk.i64_in _ (by omega)
      obtain ⟨L, U, hU, hlen, hat⟩ := HR.out.2.st
      have c1 := wSet_ok wa _ _ _ _ L U hU (i : Int) y (by unfold maxT; omega) (.inr (by have := HB.out; omega))
      have HJ : Hid (j = i + 1 ∧ i < n ∧ L.length = i ∧ (∀ (k : Nat) (t : Tm), L[k]? = some t → t.id = (k : Int) ∧ l[k]? = some (t.tk : Int)) ∧ l[i]? = some (y : Int)) := ⟨hj, hlt, hlen, hat, hy⟩
      clear hj hlt hlen hat hy hy2 hU
      go_wp2_with fail
      refine c1.mono ?_
      rintro e w2 ⟨rfl, b2, U2, h2, o2⟩
      have H2 := Lib.hid (HR.out.2.more HB.out.2.1 HJ.out.2.2.1 HJ.out.2.2.2.1 HJ.out.2.2.2.2 h2 o2)
      clear c1 h2 o2 k0 n4
      go_wp2_with fail
      refine (HC.out _ _).mono ?_
      rintro e w' ⟨rfl, hw⟩
      subst w'
      go_wp2_with fail
      go_roundg (n - j)
      case measure => have := HJ.out; omega
      case rel => exact ⟨j, rfl, rfl, by have := HJ.out; omega, by rw [HJ.out.1]; exact H2.out⟩
    · have t0 : ¬ ((i : Int) < (n : Int)) := by omega
      have H2 : Hid (OnceB w wa w.heap.size (w.heap.size + 1) w.heap.size tb n l 0) := by
        have e : i = n := by have := HR.out.1; omega
        subst e
        exact HR.out.2.start2 HB.out.2.2.1
      clear HR hge
      go_wp2_with fail
      clear t0
      go_loopg [9, 10] N (fun gk s9 s10 wr => ∃ (now m : Nat), gk = N - m ∧ s9 = .int .i64 (now : Int) ∧ s10 = .int .i64 (m : Int) ∧ Hid (m ≤ N ∧ now ≤ m * 4294967296 ∧ OnceB w wr w.heap.size (w.heap.size + 1) w.heap.size tb n l now))
      case atStart => exact ⟨0, 0, rfl, rfl, rfl, Nat.zero_le _, Nat.zero_le _, H2.out⟩
      case round =>
        obtain ⟨now, m, rfl, rfl, rfl, HR⟩ := hrel
        rename World => wb
        clear H2
        rcases Nat.lt_or_ge m N with hlt | hge
        · obtain ⟨b, off, z, hB2, hz, hz2, k0⟩ := numsU_at (HS0.out.grow HR.out.2.2.low) hlt
          subst hB2
          have t0 : (m : Int) < (N : Int) := by omega
          obtain ⟨j, hj⟩ : ∃ j, j = m + 1 := ⟨_, rfl⟩
          obtain ⟨x, hx⟩ : ∃ x, x = now + z := ⟨_, rfl⟩
          have hxm : x ≤ j * 4294967296 := by have := HR.out.2.1; omega
          have hxx : x ≤ maxT := by unfold maxT; have := HB.out; omega
          have n1 : (m : Int) + 1 = (j : Int) := by omega
          have n2 : IntKind.i64.wrap (j : Int) = (j : Int) := IntWalk.i64_in _ (by have := HB.out; omega)
          have n3 : IntKind.i64.wrap ((m : Int) + 1) = (j : Int) := by rw [n1]; exact n2
          have n4 : IntKind.i64.wrap (z : Int) = (z : Int) := IntWalk.i64_in _ (by omega)
          have n5 : (now : Int) + (z : Int) = (x : Int) := by omega
          have n6 : IntKind.i64.wrap (x : Int) = (x : Int) := IntWalk.i64_in _ (by unfold maxT at hxx; omega)
          have n7 : IntKind.i64.wrap ((now : Int) + (z : Int)) = (x : Int) := by rw [n5]; exact n6
          obtain ⟨L, U, F, hU, hlen, hP, hT⟩ := HR.out.2.2.st
          have c1 := wTick_any wb _ _ _ _ x L U ⟨hU, by omega, hxx, by omega⟩ HR.out.2.2.tab HB.out.2.1
          have HJ : Hid (j = m + 1 ∧ m < N ∧ now ≤ x ∧ x ≤ j * 4294967296 ∧ L.length ≤ 150 ∧ OnceP l n now L F ∧ Told wb tb n F ∧ (L.map Tm.id).Nodup ∧ Below w.heap.size w wb ∧ DbB wb ∧ w.heap.size ≤ wb.heap.size) := ⟨hj, hlt, by omega, hxm, hlen, hP, hT, hU.nod, HR.out.2.2.low, HR.out.2.2.tab, hU.whl.bas⟩
          clear hj hlt hlen hP hT hU hx hxm hxx hz hz2 HR
          go_wp2_with fail
          refine c1.mono ?_
          rintro e w2 ⟨D, v2, V, rfl, hi, hs, hst, hW, o2⟩
          obtain ⟨q, hq⟩ : ∃ q, q = D.length := ⟨_, rfl⟩
          obtain ⟨A2, c2, hv⟩ := hi.form
          rw [← hq] at hv
          subst hv
          have H2 : Hid (Wst w2 w.heap.size (w.heap.size + 1) w.heap.size x (left x L) V ∧ Irow w2 wb.heap.size (.slice A2 q c2) D ∧ Told w2 tb n F ∧ Below w.heap.size w w2 ∧ DbB w2) := ⟨hW, hi, HJ.out.2.2.2.2.2.2.1.only o2 zt_bool, Below.trans HJ.out.2.2.2.2.2.2.2.2.1 o2.low, TabAt.only HJ.out.2.2.2.2.2.2.2.2.2.1 o2 HB.out.2.1⟩
          have HD : Hid (q = D.length ∧ q ≤ 150 ∧ Stb tkI D (L.filter fun t => decide (t.tk ≤ x))) := ⟨hq, by
            have e1 := hst.len
            have e2 := List.length_filter_le (fun t : Tm => decide (t.tk ≤ x)) L
            have := HJ.out.2.2.2.2.1
            omega, hst⟩
          clear c1 hi hs hst hW o2 hq k0 t0 n4 n5 n6 n7
          go_wp2_with fail
          refine (HC.out _ _).mono ?_
          rintro e w' ⟨rfl, hw⟩
          subst w'
          go_wp2_with fail
          go_loopg [13] q (fun gk s13 wr => ∃ g : Nat, gk = q - g ∧ s13 = .int .i64 (g : Int) ∧ Hid (g ≤ q ∧ Wst wr w.heap.size (w.heap.size + 1) w.heap.size x (left x L) V ∧ Irow wr wb.heap.size (.slice A2 q c2) D ∧ Told wr tb n (tf F (D.take g)) ∧ Below w.heap.size w wr ∧ DbB wr))
          case atStart => exact ⟨0, rfl, rfl, Nat.zero_le _, H2.out.1, H2.out.2.1, by rw [List.take_zero, tf_nil]; exact H2.out.2.2.1, H2.out.2.2.2.1, H2.out.2.2.2.2⟩
          case round =>
            obtain ⟨g, rfl, rfl, HR⟩ := hrel
            rename World => wc
            clear H2
            rcases Nat.lt_or_ge g q with hlt | hge
            · obtain ⟨t, ht⟩ : ∃ t, D[g]? = some t := ⟨_, List.getElem?_eq_getElem (by rw [← HD.out.1]; exact hlt)⟩
              obtain ⟨k, y, hk, hid, hly, hyx, hF, hF2⟩ := HJ.out.2.2.2.2.2.1.step HJ.out.2.2.2.2.2.2.2.1 HD.out.2.2 ht
              obtain ⟨b3, o3, y3, hA, hy, hy2, k2⟩ := numsU_at (HL0.out.grow HR.out.2.2.2.2.1) hk
              obtain rfl : y3 = y := by rw [hly] at hy; injection hy with hy; omega
              subst hA
              obtain ⟨A', cp', e1, q1, q2, q3, q4⟩ := RdK.of_own HR.out.2.2.1
              obtain ⟨gb, go, hg, hgl, hgc⟩ := q4 (by rw [← HD.out.1]; omega)
              have e2 : A2 = some ⟨gb, go, none⟩ := by
                rw [hg] at e1
                injection e1
              have k0 : wc.cell? ⟨gb, go + g, none⟩ = some (.int .i64 (k : Int)) := (hgc g (idV t) (by rw [List.getElem?_map, ht]; rfl)).trans (by unfold idV; rw [hid])
              subst e2
              have k1 := HR.out.2.2.2.1.cell hk
              rw [hF] at k1
              have f1 := HR.out.2.2.2.1.frozen k
              have t0 : (g : Int) < (q : Int) := by omega
              obtain ⟨g1, hg1⟩ : ∃ g1, g1 = g + 1 := ⟨_, rfl⟩
              have n5 : (g : Int) + 1 = (g1 : Int) := by omega
              have n6 : IntKind.i64.wrap (g1 : Int) = (g1 : Int) := IntWalk.i64_in _ (by have := HD.out; omega)
              have n7 : IntKind.i64.wrap ((g : Int) + 1) = (g1 : Int) := by rw [n5]; exact n6
              have n4 : IntKind.i64.wrap (y3 : Int) = (y3 : Int) := IntWalk.i64_in _ (by omega)
              have x0 : ¬ ((k : Int) < 0) := by omega
              have x1 : ¬ ((n : Int) ≤ (k : Int)) := by omega
              have x2 : (k : Int) < (n : Int) := by omega
              have x3 : ¬ ((x : Int) < (y3 : Int)) := by omega
              have x4 : ¬ (x < y3) := by omega
              have x5 : ¬ (n ≤ k) := by omega
              have x6 : k < n := hk
              have HG : Hid (g1 = g + 1 ∧ g < q ∧ (fun x => tf F (D.take g) x || decide (x = k)) = tf F (D.take (g + 1))) := ⟨hg1, hlt, hF2⟩
              clear e1 q1 q2 q3 q4 hg hgl hgc hid hly hyx hF hF2 hy hy2 ht hk hg1 hlt
              go_wp2_with fail
              have o4 := HR.out.2.2.2.1.onlyZ (HT.out) k
              go_roundg (q - g1)
              case measure => have := HG.out; omega
              case rel => exact ⟨g1, rfl, rfl, by have := HG.out; omega, HR.out.2.1.onlyO o4, HR.out.2.2.1.only o4 zo_int, by rw [HG.out.1, ← HG.out.2.2]; exact HR.out.2.2.2.1.set k, Below.trans HR.out.2.2.2.2.1 o4.low, TabAt.only HR.out.2.2.2.2.2 o4 HB.out.2.1⟩
            · have t0 : ¬ ((g : Int) < (q : Int)) := by omega
              obtain ⟨hP2, hE⟩ := HJ.out.2.2.2.2.2.1.done HJ.out.2.2.1 HJ.out.2.2.2.2.2.2.2.1 HD.out.2.2
              have e9 : D.take g = D := List.take_of_length_le (by have := HD.out.1; omega)
              have H3 : Hid (OnceB w wc w.heap.size (w.heap.size + 1) w.heap.size tb n l x ∧ Told wc tb n (tf F D) ∧ (∀ k, k < n → ∀ y, l[k]? = some y → tf F D k = decide (y ≤ (x : Int)))) := by
                have hT := HR.out.2.2.2.1
                rw [e9] at hT
                refine ⟨⟨⟨_, V, _, HR.out.2.1, ?_, hP2, hT⟩, HR.out.2.2.2.2.1, HR.out.2.2.2.2.2⟩, hT, hE⟩
                have := List.length_filter_le (fun t : Tm => decide (x < t.tk)) L
                have := HJ.out.2.2.2.2.1
                unfold left
                omega
              clear hP2 hE e9 HR hge
              go_wp2_with fail
              clear t0
              go_loopg [14] n (fun gk s14 wr => ∃ h : Nat, gk = n - h ∧ s14 = .int .i64 (h : Int) ∧ Hid (h ≤ n ∧ OnceB w wr w.heap.size (w.heap.size + 1) w.heap.size tb n l x ∧ Told wr tb n (tf F D)))
              case atStart => exact ⟨0, rfl, rfl, Nat.zero_le _, H3.out.1, H3.out.2.1⟩
              case round =>
                obtain ⟨h, rfl, rfl, HR⟩ := hrel
                rename World => wd
                rcases Nat.lt_or_ge h n with hlt | hge
                · obtain ⟨b3, o3, y, hA, hy, hy2, k2⟩ := numsU_at (HL0.out.grow HR.out.2.1.low) hlt
                  subst hA
                  have k1 := HR.out.2.2.cell hlt
                  rw [H3.out.2.2 h hlt _ hy] at k1
                  have t0 : (h : Int) < (n : Int) := by omega
                  obtain ⟨h1, hh1⟩ : ∃ h1, h1 = h + 1 := ⟨_, rfl⟩
                  have n5 : (h : Int) + 1 = (h1 : Int) := by omega
                  have n6 : IntKind.i64.wrap (h1 : Int) = (h1 : Int) := IntWalk.i64_in _ (by have := HB.out; omega)
                  have n7 : IntKind.i64.wrap ((h : Int) + 1) = (h1 : Int) := by rw [n5]; exact n6
                  have n4 : IntKind.i64.wrap (y : Int) = (y : Int) := IntWalk.i64_in _ (by omega)
                  have HG : Hid (h1 = h + 1 ∧ h < n) := ⟨hh1, hlt⟩
                  clear hh1 hlt hy hy2
                  by_cases hq : (y : Int) ≤ (x : Int)
                  · have d1 : decide ((y : Int) ≤ (x : Int)) = true := decide_eq_true hq
                    have d2 : y ≤ x := by omega
                    rw [d1] at k1
                    go_wp2_with fail
                    go_quiet (fail)
                    go_wp2_with fail
                    go_roundg (n - h1)
                    case measure => have := HG.out; omega
                    case rel => exact ⟨h1, rfl, rfl, by have := HG.out; omega, HR.out.2.1.grow (grow_drewN wd nq), HR.out.2.2.grow (grow_drewN wd nq)⟩
                  · have d1 : decide ((y : Int) ≤ (x : Int)) = false := decide_eq_false hq
                    have d2 : ¬ (y ≤ x) := by omega
                    rw [d1] at k1
                    go_wp2_with fail
                    go_quiet (fail)
                    go_wp2_with fail
                    go_roundg (n - h1)
                    case measure => have := HG.out; omega
                    case rel => exact ⟨h1, rfl, rfl, by have := HG.out; omega, HR.out.2.1.grow (grow_drewN wd nq), HR.out.2.2.grow (grow_drewN wd nq)⟩
                · have t0 : ¬ ((h : Int) < (n : Int)) := by omega
                  have H4 : Hid (OnceB w wd w.heap.size (w.heap.size + 1) w.heap.size tb n l x) := HR.out.2.1
                  clear HR hge
                  go_wp2_with fail
                  go_roundg (N - j)
                  case measure => have := HJ.out; omega
                  case rel => exact ⟨x, j, rfl, rfl, rfl, by have := HJ.out; omega, by have := HJ.out; omega, H4.out⟩
        · have t0 : ¬ ((m : Int) < (N : Int)) := by omega
          have c1 := wlive_any wb HR.out.2.2.tab
          go_wp2_with fail
          refine c1.mono ?_
          rintro e w5 ⟨rfl, g5⟩
          have H5 := Lib.hid (show Below w.heap.size w w5 from Below.trans HR.out.2.2.low (g5.mono (by obtain ⟨L, U, F, hU, _⟩ := HR.out.2.2.st; exact hU.whl.bas)))
          clear c1 g5
          go_wp2_with fail
          go_ret
          exact ⟨rfl, H5.out⟩
theorem wheelOnce_walk (w : World) {v0 v1 : Value} {l s : List Int} (hl : NumsU w v0 l) (hs : NumsU w v1 s) (hB : DbB w) : Calls Tryd.prog 7 #[v0, v1] w fun e w' => e = .returned (.bool true) ∧ Below w.heap.size w w' := by
  by_cases h : 150 < l.length ∨ 100 < s.length
  · exact once_long w hl hs hB h
  · exact once_main w hl hs hB (by omega) (by omega)
end Go.Proofs.YtnoglbceaibjeaaDoor
/- WheelOnce: for every input the law returns true, and each argument reads behind the call as it read before; what the listed package-level variables hold is tied to the text of the program. No condition. -/
namespace Go.Proofs.YtnoglbceaibjeaaDoor.wheelOnce
open Go.ChangeShapes Go.WideShapes Go.ChangeAt Go.RowKit
open Go.ChangeMaps (open_string shut_string)
set_option linter.unusedVariables false

theorem own : ownKnob Tryd.prog.godebug = none := by kernel_rfl
theorem laidOut : laidOutB Tryd.prog = true := by kernel_rfl

set_option maxRecDepth 100000 in
theorem lifted (os : Os) (started : os.Started) (H : Type) (enc : TypeId × Value → H) :
    ReturnsInHanded {} Tryd.checked os 7 .any (fun w args => (Rows.wheelOnceSpec.pre enc Tryd.prog Tryd.f7 [] false w args ∧ laidMetH Tryd.prog laid4 w) ∧ sizedMet enc Tryd.prog Tryd.f7 (OpenSpec.ofChange Rows.wheelOnceSpec) false w args)
      (Rows.wheelOnceSpec.post enc Tryd.prog Tryd.f7 false true false false) := by
  refine returnsInHanded_of_change_and (C := Tryd.checked) (X := fun w _ => laidMetH Tryd.prog laid4 w) (fun _ _ _ hh h => h.of_heap hh) own started (by kernel_rfl) Tryd.func7
    (ChangeSpec.witness_shaped (enc := enc) (C := Tryd.checked) (os := os) (X := fun w _ => laidMetH Tryd.prog laid4 w) false (World.doorLaid Tryd.prog 14 os) #[.slice none 0 0, .slice none 0 0] 8 rfl (World.shaped_of_RefB (by kernel_rfl) (by kernel_rfl)) (by kernel_rfl) (by kernel_rfl) (by kernel_rfl) (door_met os _)) ?_
  intro W base args ds gs before hval0 hW _ hsz0 hL _
  have hsz : (DataW.weightsEach Tryd.prog (Tryd.f7.params.toList ++ Rows.wheelOnceSpec.plain.varTypes Tryd.prog) (ds ++ gs)).all (· ≤ reachBytes) = true := hsz0
  have hval : ∀ (j : Nat) t v, Tryd.f7.params[j]? = some t → args[j]? = some v → Value.okWide Tryd.prog W .any base t v := hval0
  have hW' := hW
  obtain ⟨p, q, hA0, hV, rfl, hfz, hnd⟩ := hW
  have hA : DataW.TrodAll enc Tryd.prog W 0 (fun _ => true) true Tryd.f7.params.toList args.toList ds p := hA0
  rw [Tryd.params7] at hA hval hsz
  obtain ⟨v0, vs0, d0, ds0, p0, q0, hargs, rfl, rfl, h0, r0⟩ := trodAll_cons hA
  obtain ⟨v1, vs1, d1, ds1, p1, q1, rfl, rfl, rfl, h1, r1⟩ := trodAll_cons r0
  obtain ⟨rfl, rfl, rfl⟩ := trodAll_nil r1
  obtain rfl : args = #[v0, v1] := by cases args; simp_all
  obtain ⟨rfl, rfl⟩ := trodVars_none hV
  have hB := base_of_laid hL
  have k0 := h0
  have lt0 : ∀ x ∈ p0, x.block < W.heap.size := by obtain ⟨m, hm⟩ := k0; exact DataW.trod_lt m _ _ _ hm
  obtain ⟨q0, w0⟩ := open_numsU (hval 0 55 v0 rfl rfl) h0
  have k1 := h1
  have lt1 : ∀ x ∈ p1, x.block < W.heap.size := by obtain ⟨m, hm⟩ := k1; exact DataW.trod_lt m _ _ _ hm
  obtain ⟨q1, w1⟩ := open_numsU (hval 1 55 v1 rfl rfl) h1
  clear hA0 hval0
  refine (wheelOnce_walk W w0 w1 hB).mono fun e W' ⟨he, bel⟩ => ?_
  subst he
  exact ⟨_, rfl, _, _, _, [], _, [], hW', trodAll_mk1 (shut_bool Tryd.underlying4 _), (trodAll_cons_mk (Below.trod laidOut (by kernel_rfl) (of_decide_eq_true (by kernel_rfl)) k0 bel lt0) (trodAll_cons_mk (Below.trod laidOut (by kernel_rfl) (of_decide_eq_true (by kernel_rfl)) k1 bel lt1) trodAll_mk0)), rfl, Below.frame bel _, fun h => by cases h⟩

theorem over : Rows.wheelOnceRow.holds Tryd.pinned (OpenSpec.ofChange Rows.wheelOnceSpec) :=
  OpenClaim.holds_of_wide 7 Tryd.f7 rfl rfl rfl rfl rfl rfl rfl ⟨rfl, rfl, rfl, rfl, rfl⟩ rfl rfl rfl rfl rfl (by kernel_rfl) Tryd.func7 (by kernel_rfl)
    (of_decide_eq_true (by kernel_rfl)) (by unfold Func.isWrapper; first | (rw [if_pos (by decide +kernel)]; kernel_rfl) | (rw [if_neg (by decide +kernel)]; exact ⟨rfl, rfl⟩))
    (fun os started H enc _ => lifted os started H enc)

/-- The statement. -/
theorem proved : Rows.WheelOnceCardSaid :=
  Claim7.holds_tied_plain_at .later [] [.data] true Rows.wheelOnceCard.stood.harness Rows.wheelOnceCard.stood.looks
    over (fun _ h => by cases h) (by kernel_rfl) (fun _ h => by cases h) wheelOnce_row_tie rfl ⟨rfl, rfl⟩ (by kernel_rfl) rfl
    (fun g fn hf hfn => by
      obtain rfl : g = 7 := Option.some.inj ((show Tryd.prog.funcNamed Rows.wheelOnceRow.func = some 7 by kernel_rfl).symm.trans hf) |>.symm
      obtain rfl : fn = Tryd.f7 := (Option.some.inj (Tryd.func7.symm.trans hfn)).symm
      exact ⟨by kernel_rfl, fun j t ht => by
        rw [Tryd.params7] at ht
        have hm : t ∈ [55, 55] := by simpa using Array.mem_of_getElem? ht
        have hall : ([55, 55].all fun u => !Tryd.prog.wantsStandIn u) = true := by kernel_rfl
        exact (show Tryd.prog.wantsStandIn t = false by simpa using List.all_eq_true.1 hall t hm)⟩)
    (by kernel_rfl)
#print axioms proved
end Go.Proofs.YtnoglbceaibjeaaDoor.wheelOnce
