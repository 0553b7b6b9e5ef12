/- The program's table of ports in memory: its six cells, its three maps; what the maps' look-ups answer; one more, one less. -/
import Derived.Test.YtkilfdhofbjkgaaPqMap
import Derived.Test.YtkilfdhofbjkgaaPoIf
namespace Go.Proofs.Ytkilfdhofbjkgaa
set_option linter.unusedVariables false
set_option linter.unusedSimpArgs false
open Go.ChangeShapes Go.WideShapes Go.ChangeAt Go.RowKit

/-- At how many addresses a port is bound. -/
def cnt (B : List Bd) (p : Int) : Nat := B.countP fun b => decide (b.e.po = p)
theorem cnt_perm {B C : List Bd} (h : B.Perm C) (p : Int) : cnt B p = cnt C p := h.countP_eq _
theorem cnt_cons (b : Bd) (B : List Bd) (p : Int) : cnt (b :: B) p = cnt B p + (if b.e.po = p then 1 else 0) := by
  unfold cnt
  rw [List.countP_cons]
  by_cases h : b.e.po = p <;> simp [h]
theorem cnt_one (B : List Bd) (b : Bd) (p : Int) : cnt (B ++ [b]) p = cnt B p + (if b.e.po = p then 1 else 0) := by
  rw [← cnt_cons]
  exact cnt_perm (List.perm_append_singleton _ _) p
theorem cnt_le (B : List Bd) (p : Int) : cnt B p ≤ B.length := List.countP_le_length
theorem cnt_pos {B : List Bd} {p : Int} : 0 < cnt B p ↔ ∃ b ∈ B, b.e.po = p := by
  unfold cnt
  rw [List.countP_pos_iff]
  simp
theorem taken0 {B : List Bd} {p : Int} : takenT B ⟨0, p⟩ ↔ 0 < cnt B p := by
  rw [cnt_pos]
  unfold takenT clash
  constructor
  · rintro ⟨b, hb, h, _⟩
    exact ⟨b, hb, h⟩
  · rintro ⟨b, hb, h⟩
    exact ⟨b, hb, h, .inr (.inr rfl)⟩
def bE (B : List Bd) : List (Ed × Int) := B.map fun b => (b.e, b.o)
def jE (J : List Jd) : List (Qd × Int) := J.map fun j => (j.q, j.o)
/-- What the map of ends answers. -/
inductive OwIs (B : List Bd) (e : Ed) : Prop where
  | here (b : Bd) (hb : b ∈ B) (h1 : b.e = e) (h2 : owS B e = (b.o, true)) : OwIs B e
  | any (b : Bd) (hb : b ∈ B) (h0 : ∀ x ∈ B, x.e ≠ e) (h1 : b.e = ⟨0, e.po⟩) (h2 : owS B e = (b.o, true)) : OwIs B e
  | no (h0 : ∀ x ∈ B, x.e ≠ e) (h1 : ∀ x ∈ B, x.e ≠ ⟨0, e.po⟩) (h2 : owS B e = (0, false)) : OwIs B e
theorem owIs (B : List Bd) (e : Ed) : OwIs B e := by
  cases h1 : B.find? fun b => decide (b.e = e) with
  | some b => exact .here b (List.mem_of_find?_eq_some h1) (of_decide_eq_true (List.find?_some h1 : _ = true)) (by unfold owS; rw [h1])
  | none =>
    have hn : ∀ x ∈ B, x.e ≠ e := fun x hx q => by
      have := List.find?_eq_none.1 h1 x hx
      exact this (decide_eq_true q)
    cases h2 : B.find? fun b => decide (b.e.po = e.po ∧ b.e.ad = 0) with
    | some b =>
      have h3 : b.e.po = e.po ∧ b.e.ad = 0 := of_decide_eq_true (List.find?_some h2 : _ = true)
      refine .any b (List.mem_of_find?_eq_some h2) hn ?_ (by unfold owS; rw [h1]; show (match B.find? fun b => decide (b.e.po = e.po ∧ b.e.ad = 0) with | some b => (b.o, true) | none => (0, false)) = _; rw [h2])
      obtain ⟨q1, q2⟩ := h3
      cases hbe : b.e with
      | mk a p =>
        rw [hbe] at q1 q2
        simp only at q1 q2
        rw [q1, q2]
    | none =>
      refine .no hn (fun x hx q => ?_) (by unfold owS; rw [h1]; show (match B.find? fun b => decide (b.e.po = e.po ∧ b.e.ad = 0) with | some b => (b.o, true) | none => (0, false)) = _; rw [h2])
      have := List.find?_eq_none.1 h2 x hx
      exact this (decide_eq_true (by rw [q]; exact ⟨rfl, rfl⟩))
theorem takenE {B : List Bd} {e : Ed} (h : e.ad ≠ 0) : takenT B e ↔ (owS B e).2 = true := by
  unfold takenT clash
  rcases owIs B e with ⟨b, hb, h1, h2⟩ | ⟨b, hb, h0, h1, h2⟩ | ⟨h0, h1, h2⟩
  · rw [h2]
    exact ⟨fun _ => rfl, fun _ => ⟨b, hb, by rw [h1], .inl (by rw [h1])⟩⟩
  · rw [h2]
    exact ⟨fun _ => rfl, fun _ => ⟨b, hb, by rw [h1], .inr (.inl (by rw [h1]))⟩⟩
  · rw [h2]
    refine ⟨fun ⟨b, hb, q1, q2⟩ => ?_, fun q => by cases q⟩
    rcases q2 with q2 | q2 | q2
    · refine absurd ?_ (h0 b hb)
      cases hbe : b.e with
      | mk a p =>
        rw [hbe] at q1 q2
        simp only at q1 q2
        rw [q1, q2]
    · refine absurd ?_ (h1 b hb)
      cases hbe : b.e with
      | mk a p =>
        rw [hbe] at q1 q2
        simp only at q1 q2
        rw [q1, q2]
    · exact absurd q2 h
theorem bE_none {B : List Bd} {e : Ed} (h : ∀ x ∈ B, x.e ≠ e) : ∀ y ∈ bE B, y.1 ≠ e := by
  intro y hy
  obtain ⟨b, hb, rfl⟩ := List.mem_map.1 hy
  exact h b hb
theorem bE_some {B : List Bd} {b : Bd} (h : b ∈ B) : (b.e, b.o) ∈ bE B := List.mem_map_of_mem (f := fun b : Bd => (b.e, b.o)) h
theorem jE_none {J : List Jd} {q : Qd} (h : ∀ x ∈ J, x.q ≠ q) : ∀ y ∈ jE J, y.1 ≠ q := by
  intro y hy
  obtain ⟨b, hb, rfl⟩ := List.mem_map.1 hy
  exact h b hb
theorem jE_some {J : List Jd} {b : Jd} (h : b ∈ J) : (b.q, b.o) ∈ jE J := List.mem_map_of_mem (f := fun b : Jd => (b.q, b.o)) h
inductive TlIs (J : List Jd) (q : Qd) : Prop where
  | here (b : Jd) (hb : b ∈ J) (h1 : b.q = q) (h2 : tlS J q = (b.o, true)) : TlIs J q
  | no (h0 : ∀ x ∈ J, x.q ≠ q) (h2 : tlS J q = (0, false)) : TlIs J q
theorem tlIs (J : List Jd) (q : Qd) : TlIs J q := by
  cases h1 : J.find? fun b => decide (b.q = q) with
  | some b => exact .here b (List.mem_of_find?_eq_some h1) (of_decide_eq_true (List.find?_some h1 : _ = true)) (by unfold tlS; rw [h1])
  | none => exact .no (fun x hx k => List.find?_eq_none.1 h1 x hx (decide_eq_true k)) (by unfold tlS; rw [h1])
/-- The map of ports: how often each is bound. -/
def Uses (B : List Bd) (U : List (Int × Int)) : Prop := (∀ q c, (q, c) ∈ U → c = (cnt B q : Int)) ∧ ∀ q, (∀ y ∈ U, y.1 ≠ q) → cnt B q = 0
def UsesBut (B : List Bd) (p : Int) (R : List (Int × Int)) : Prop := (∀ q c, (q, c) ∈ R → q ≠ p ∧ c = (cnt B q : Int)) ∧ ∀ q, q ≠ p → (∀ y ∈ R, y.1 ≠ q) → cnt B q = 0
section
variable {w : World} {um : Nat} {U R : List (Int × Int)} {B C : List Bd} {p : Int}
theorem Uses.has (p : Int) (U : List (Int × Int)) : (∃ c, (p, c) ∈ U) ∨ ∀ y ∈ U, y.1 ≠ p := by
  by_cases h : ∃ c, (p, c) ∈ U
  · exact .inl h
  · exact .inr fun y hy e => h ⟨y.2, by rw [← e]; exact hy⟩
theorem Uses.look (u : Uses B U) (h : MB poV w um U) (p : Int) : (Instr.lookup 64 (.map (some um)) (.int .u16 p) false).run Try.prog w = .ok (.int .i64 (cnt B p : Int)) w := by
  rcases Uses.has p U with ⟨c, hc⟩ | hn
  · have := h.look_some poK hc false
    rw [u.1 p c hc] at this
    exact this
  · have := h.look_none poK hn false
    rw [u.2 p hn]
    exact this
theorem Uses.put (u : Uses B U) (h : MB poV w um U) (p c : Int) : ∃ w' R, (Instr.mapUpdate 64 (.map (some um)) (.int .u16 p) (.int .i64 c)).run Try.prog w = .ok () w' ∧ MB poV w' um ((p, c) :: R) ∧ UsesBut B p R ∧ w.grownBy w' (some um) := by
  rcases Uses.has p U with ⟨c', hc⟩ | hn
  · obtain ⟨j, hj⟩ := List.getElem?_of_mem hc
    have hp := permk_at hj
    have h2 := h.perm hp
    obtain ⟨w', r1, r2, r3⟩ := h2.put_old poK c
    have hnd := h2.nodup
    rw [List.map_cons, List.nodup_cons] at hnd
    refine ⟨w', _, r1, r2, ⟨fun q d hq => ⟨fun e => hnd.1 (List.mem_map.2 ⟨_, hq, e⟩), u.1 q d (hp.mem_iff.2 (List.mem_cons_of_mem _ hq))⟩, fun q hq hR => u.2 q fun y hy => ?_⟩, r3⟩
    rcases List.mem_cons.1 (hp.mem_iff.1 hy) with e | hy
    · rw [e]
      exact Ne.symm hq
    · exact hR y hy
  · obtain ⟨w', r1, r2, r3⟩ := h.put_new poK hn c
    exact ⟨w', U, r1, r2, ⟨fun q d hq => ⟨hn _ hq, u.1 q d hq⟩, fun q _ hR => u.2 q hR⟩, r3⟩
theorem UsesBut.cons (u : UsesBut B p R) {c : Int} (hp : c = (cnt C p : Int)) (hq : ∀ q, q ≠ p → cnt C q = cnt B q) : Uses C ((p, c) :: R) := by
  refine ⟨fun q d h => ?_, fun q h => ?_⟩
  · rcases List.mem_cons.1 h with e | h
    · cases e
      exact hp
    · rw [hq q (u.1 q d h).1]
      exact (u.1 q d h).2
  · have h1 : q ≠ p := fun e => h (p, c) List.mem_cons_self e.symm
    rw [hq q h1]
    exact u.2 q h1 fun y hy => h y (List.mem_cons_of_mem _ hy)
theorem UsesBut.drop (u : UsesBut B p R) (hp : cnt C p = 0) (hq : ∀ q, q ≠ p → cnt C q = cnt B q) : Uses C R := by
  refine ⟨fun q d h => ?_, fun q h => ?_⟩
  · rw [hq q (u.1 q d h).1]
    exact (u.1 q d h).2
  · by_cases e : q = p
    · rw [e]
      exact hp
    · rw [hq q e]
      exact u.2 q e h
end
/-- The table behind the pointer to block pb: its cells, its maps bm, jm, um. -/
structure PtS (w : World) (base pb bm jm um : Nat) (nx : Int) (t : Prt) : Prop where
  blk : w.heap[pb]? = some (.cells #[.int .i64 t.lo, .int .i64 t.hi, .int .i64 nx, .map (some bm), .map (some jm), .map (some um)] 66 (0, 0))
  hn : nx = if t.la = t.hi then t.lo else t.la + 1
  bp : base ≤ pb
  bb : base ≤ bm
  bj : base ≤ jm
  bu : base ≤ um
  bnd : MB edV w bm (bE t.B)
  jnd : MB qdV w jm (jE t.J)
  use : ∃ U, MB poV w um U ∧ Uses t.B U
  n1 : bm ≠ jm
  n2 : bm ≠ um
  n3 : jm ≠ um
section
variable {w w' : World} {base pb bm jm um : Nat} {nx : Int} {t : Prt}
theorem PtS.keep (h : PtS w base pb bm jm um nx t) (hk : ∀ b o T, base ≤ b → w.heap[b]? = some o → objT o = some T → Zo b T → w'.heap[b]? = some o) : PtS w' base pb bm jm um nx t := by
  obtain ⟨U, u1, u2⟩ := h.use
  have km : ∀ b, base ≤ b → (∃ es ck, w.heap[b]? = some (.map es ck)) → w'.heap[b]? = w.heap[b]? := fun b hb ⟨es, ck, e⟩ => (hk b _ _ hb e rfl (by unfold Zo; decide)).trans e.symm
  exact ⟨hk _ _ _ h.bp h.blk rfl (by unfold Zo; decide), h.hn, h.bp, h.bb, h.bj, h.bu, h.bnd.keep (km _ h.bb h.bnd.blk), h.jnd.keep (km _ h.bj h.jnd.blk), ⟨U, u1.keep (km _ h.bu u1.blk), u2⟩, h.n1, h.n2, h.n3⟩
theorem PtS.grow (h : PtS w base pb bm jm um nx t) (g : Grow w w') : PtS w' base pb bm jm um nx t := h.keep fun b o T _ ho _ _ => (g.block b (Array.getElem?_eq_some_iff.1 ho).1).trans ho
theorem PtS.c0 (h : PtS w base pb bm jm um nx t) : w.cell? ⟨pb, 0, none⟩ = some (.int .i64 t.lo) := (cell_of_row w pb 0 _ _ _ h.blk).trans rfl
theorem PtS.c1 (h : PtS w base pb bm jm um nx t) : w.cell? ⟨pb, 1, none⟩ = some (.int .i64 t.hi) := (cell_of_row w pb 1 _ _ _ h.blk).trans rfl
theorem PtS.c2 (h : PtS w base pb bm jm um nx t) : w.cell? ⟨pb, 2, none⟩ = some (.int .i64 nx) := (cell_of_row w pb 2 _ _ _ h.blk).trans rfl
theorem PtS.c3 (h : PtS w base pb bm jm um nx t) : w.cell? ⟨pb, 3, none⟩ = some (.map (some bm)) := (cell_of_row w pb 3 _ _ _ h.blk).trans rfl
theorem PtS.c4 (h : PtS w base pb bm jm um nx t) : w.cell? ⟨pb, 4, none⟩ = some (.map (some jm)) := (cell_of_row w pb 4 _ _ _ h.blk).trans rfl
theorem PtS.c5 (h : PtS w base pb bm jm um nx t) : w.cell? ⟨pb, 5, none⟩ = some (.map (some um)) := (cell_of_row w pb 5 _ _ _ h.blk).trans rfl
theorem PtS.fro (h : PtS w base pb bm jm um nx t) (o : Nat) : w.frozen? ⟨pb, o, none⟩ = false := frozen_of h.blk
theorem PtS.lt (h : PtS w base pb bm jm um nx t) : pb < w.heap.size := (Array.getElem?_eq_some_iff.1 h.blk).1
theorem PtS.mne (h : PtS w base pb bm jm um nx t) {b : Nat} (hb : ∃ es ck, w.heap[b]? = some (.map es ck)) : b ≠ pb := fun e => by
  obtain ⟨es, ck, e2⟩ := hb
  rw [e, h.blk] at e2
  cases e2
end
/-- The table as the laws' walks see it. -/
def Ppp (w : World) (base pb : Nat) (t : Prt) : Prop := TOk t ∧ ∃ bm jm um nx, PtS w base pb bm jm um nx t
theorem zo_table : Zo 0 66 := by unfold Zo; decide
theorem zo_map {a b : World} {base mb : Nat} (h : a.grownBy b (some mb)) (hm : base ≤ mb) (hb : base ≤ a.heap.size) (hq : ∃ es ck, a.heap[mb]? = some (.map es ck)) : Only base Zo a b := by
  obtain ⟨es, ck, he⟩ := hq
  exact Only.grown h (fun g e => by cases e; exact ⟨hm, fun o T ho hT => by rw [he] at ho; cases ho; cases hT; unfold Zo; decide⟩) hb
end Go.Proofs.Ytkilfdhofbjkgaa
