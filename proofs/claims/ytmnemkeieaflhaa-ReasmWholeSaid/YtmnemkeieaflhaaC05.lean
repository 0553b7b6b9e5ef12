/- Names and rows of bytes in memory; contracts: bytes.Clone, slices.Clone and slices.Delete on names. -/
import Derived.Test.YtmnemkeieaflhaaC04
import Derived.Laws.StructEq
import Derived.WalkSpells
import Derived.Maps.RangeWalk
namespace Go.Proofs.Ytmnemkeieaflhaa
set_option linter.unusedVariables false
set_option linter.unusedSimpArgs false
open Go.ChangeShapes Go.WideShapes Go.ChangeAt Go.RowKit

section
variable {α : Type} (c : α → List Value) (k : Nat) (hc : ∀ x, (c x).length = k)
include hc
theorem flat_length (l : List α) : (l.flatMap c).length = l.length * k := by
  induction l with
  | nil => simp
  | cons p r ih => rw [List.flatMap_cons, List.length_append, ih, hc, List.length_cons, Nat.add_mul]; omega
theorem flat_take : ∀ (l : List α) (i : Nat), (l.flatMap c).take (i * k) = (l.take i).flatMap c
  | [], i => by simp
  | p :: r, 0 => by simp
  | p :: r, i + 1 => by
    rw [List.take_succ_cons, List.flatMap_cons, List.flatMap_cons, ← flat_take r i, show (i + 1) * k = (c p).length + i * k from by rw [hc, Nat.add_mul]; omega, List.take_length_add_append]
theorem flat_drop : ∀ (l : List α) (i : Nat), (l.flatMap c).drop (i * k) = (l.drop i).flatMap c
  | [], i => by simp
  | p :: r, 0 => by simp
  | p :: r, i + 1 => by
    rw [List.drop_succ_cons, List.flatMap_cons, ← flat_drop r i, show (i + 1) * k = (c p).length + i * k from by rw [hc, Nat.add_mul]; omega, List.drop_length_add_append]
theorem flat_at : ∀ (l : List α) (j i : Nat) (h : j < l.length) (hi : i < k), (l.flatMap c)[j * k + i]? = (c l[j])[i]?
  | [], _, _, h, _ => absurd h (by simp)
  | p :: r, 0, i, _, hi => by
    rw [List.flatMap_cons, List.getElem?_append_left (by rw [hc]; omega), Nat.zero_mul, Nat.zero_add]
    rfl
  | p :: r, j + 1, i, h, hi => by
    have ih := flat_at r j i (by simpa using h) hi
    rw [List.flatMap_cons, List.getElem?_append_right (by rw [hc, Nat.add_mul]; omega), hc, show (j + 1) * k + i - k = j * k + i by rw [Nat.add_mul]; omega]
    simpa using ih
end

/-- What the fragments of one packet have in common. -/
structure Nm where
  src : Nat
  dst : Nat
  proto : Nat
  ident : Nat
deriving DecidableEq
def nmC (m : Nm) : List Value := [.int .u32 (m.src : Int), .int .u32 (m.dst : Int), .int .u8 (m.proto : Int), .int .u16 (m.ident : Int)]
@[reducible] def nmV (m : Nm) : Value := .agg #[.int .u32 (m.src : Int), .int .u32 (m.dst : Int), .int .u8 (m.proto : Int), .int .u16 (m.ident : Int)]
def cellsN (l : List Nm) : List Value := l.flatMap nmC
theorem nmC_length (m : Nm) : (nmC m).length = 4 := rfl
theorem cellsN_length (l : List Nm) : (cellsN l).length = l.length * 4 := flat_length nmC 4 nmC_length l
theorem cellsN_one (l : List Nm) : ∀ y ∈ cellsN l, y.oneCell' = true := by
  intro y hy
  obtain ⟨p, _, hp⟩ := List.mem_flatMap.1 hy
  simp [nmC] at hp
  rcases hp with rfl | rfl | rfl | rfl <;> rfl
/-- A row of bytes that are present. -/
structure Rw where
  at_ : Nat
  v : Value
  data : List UInt8
def rwC (r : Rw) : List Value := [.int .i64 (r.at_ : Int), r.v]
def cellsW (l : List Rw) : List Value := l.flatMap rwC
theorem rwC_length (r : Rw) : (rwC r).length = 2 := rfl
theorem cellsW_length (l : List Rw) : (cellsW l).length = l.length * 2 := flat_length rwC 2 rwC_length l

theorem infoName : (Try.prog.info? 70).map (fun i => (i.zero, i.size, i.bytes)) = some (some (.agg #[.int .u32 0, .int .u32 0, .int .u8 0, .int .u16 0]), 4, 12) := by kernel_rfl
theorem infoRow : (Try.prog.info? 99).map (fun i => (i.zero, i.size, i.bytes)) = some (some (.agg #[.int .i64 0, .slice none 0 0]), 2, 32) := by kernel_rfl

/-- A name's four cells. -/
def NmAt (w : World) (b o : Nat) (m : Nm) : Prop :=
  w.cell? ⟨b, o, none⟩ = some (.int .u32 (m.src : Int)) ∧ w.cell? ⟨b, o + 1, none⟩ = some (.int .u32 (m.dst : Int)) ∧ w.cell? ⟨b, o + 2, none⟩ = some (.int .u8 (m.proto : Int)) ∧ w.cell? ⟨b, o + 3, none⟩ = some (.int .u16 (m.ident : Int))
theorem nmAt_of {w : World} {l : List Nm} {b off : Nat} (h : ∀ j u, (cellsN l)[j]? = some u → w.cell? ⟨b, off + j, none⟩ = some u) (j : Nat) (hj : j < l.length) : NmAt w b (off + j * 4) l[j] := by
  have e : ∀ i (hi : i < 4) u, (nmC l[j])[i]? = some u → w.cell? ⟨b, off + j * 4 + i, none⟩ = some u := fun i hi u hu => by
    rw [Nat.add_assoc]
    exact h _ _ (by rw [show cellsN l = l.flatMap nmC from rfl, flat_at nmC 4 nmC_length l j i hj hi]; exact hu)
  exact ⟨e 0 (by decide) _ rfl, e 1 (by decide) _ rfl, e 2 (by decide) _ rfl, e 3 (by decide) _ rfl⟩
theorem NmAt.grow {w w' : World} {b o : Nat} {m : Nm} (h : NmAt w b o m) (g : Grow w w') (hb : b < w.heap.size) : NmAt w' b o m := by
  obtain ⟨h0, h1, h2, h3⟩ := h
  have e : ∀ i u, w.cell? ⟨b, i, none⟩ = some u → w'.cell? ⟨b, i, none⟩ = some u := fun i u hu => (g.cell (p := ⟨b, i, none⟩) hb).trans hu
  exact ⟨e _ _ h0, e _ _ h1, e _ _ h2, e _ _ h3⟩

/-! ### cuts of own rows -/
section
variable {w : World} {base : Nat} {e : TypeId} {k g n cap : Nat} {xs : List Value}
theorem ownsRow_len (h : w.ownsRow base e k (.slice (some ⟨g, 0, none⟩) n cap) n xs) : n ≤ cap ∧ cap ≤ maxLen := by
  rcases h.2 with ⟨h', _⟩ | ⟨g', cap', cur, h', _, _, hnc, hcm, _⟩
  · cases h'
  · cases h'; exact ⟨hnc, hcm⟩
theorem ownsRow_front (h : w.ownsRow base e k (.slice (some ⟨g, 0, none⟩) n cap) n xs) {i : Nat} (hi : i ≤ n) : w.ownsRow base e k (.slice (some ⟨g, 0, none⟩) i cap) i (xs.take (i * k)) := by
  obtain ⟨h1, h2⟩ := h
  have hik : i * k ≤ n * k := Nat.mul_le_mul_right _ hi
  refine ⟨by rw [List.length_take, h1]; omega, ?_⟩
  rcases h2 with ⟨h', _⟩ | ⟨g', cap', cur, h', hb, hg, hnc, hcm, hcs, htake⟩
  · cases h'
  · cases h'
    refine .inr ⟨g, cap, cur, rfl, hb, hg, by omega, hcm, hcs, ?_⟩
    rw [← htake, List.take_take, Nat.min_eq_left hik]
theorem RdK_back (h : w.ownsRow base e k (.slice (some ⟨g, 0, none⟩) n cap) n xs) {i : Nat} (hi : i ≤ n) : RdK w k (.slice (if cap = i then some ⟨g, 0, none⟩ else some ⟨g, i * k, none⟩) (n - i) (cap - i)) (n - i) (xs.drop (i * k)) := by
  have hc := h.cells (g := g) rfl
  have hlt := (h.lt g rfl).2
  obtain ⟨q1, q2⟩ := ownsRow_len h
  refine ⟨_, _, rfl, by rw [List.length_drop, h.1, Nat.sub_mul], by omega, by omega, fun hp => ?_⟩
  rw [if_neg (by omega)]
  refine ⟨g, i * k, rfl, hlt, fun j u hj => ?_⟩
  rw [List.getElem?_drop] at hj
  have := hc _ u hj
  rwa [add_at, Nat.zero_add] at this

/-- clear of the one element behind a row's last. -/
theorem run_clear1K {P : Program} (t ty : TypeId) (z : Value) (ht : P.underlying t = some (.slice e)) (hv : ∀ w, (zeroValue e).run P w = .ok z w) (hz : z.cells.size = k) (h1 : ∀ u ∈ (Builtin.zeroCells z.cells 1).toList, u.oneCell' = true)
    (h : w.ownsRow base e k (.slice (some ⟨g, 0, none⟩) n cap) n xs) (hroom : n + 1 ≤ cap) (c : Nat) :
    ∃ w', (Builtin.clear_ #[t] ty #[.slice (some ⟨g, n * k, none⟩) 1 c]).run P w = .ok (.tuple #[]) w' ∧ w'.ownsRow base e k (.slice (some ⟨g, 0, none⟩) n cap) n xs ∧ w.grownBy w' (some g) := by
  rcases h.2 with ⟨h', _⟩ | ⟨g', cap', cur, h', hb, hg, hnc, hcm, hcs, htake⟩
  · cases h'
  · cases h'
    have hk1 : (n + 1) * k ≤ cap * k := Nat.mul_le_mul_right _ hroom
    have hk2 : (n + 1) * k = n * k + k := by rw [Nat.add_mul]; omega
    refine ⟨_, run_clearK w t ty e z g (n * k) 1 c cur e ht hv h1 (by omega) hg (by rw [hz, hcs]; omega), ⟨h.1, .inr ⟨g, cap, _, rfl, hb, setRow_heap w g cur _ e _ hg, hnc, hcm, ?_, ?_⟩⟩, grownBy_setRow _ _ _⟩
    · have e1 : cur.toList.length = cap * k := by rw [← hcs]; rfl
      have e2 : (Builtin.zeroCells z.cells 1).toList.length = k := by simp [Builtin.zeroCells, hz]
      simp only [List.size_toArray, List.length_append, List.length_take, List.length_drop, e1, e2, hz]
      omega
    · have e1 : (cur.toList.take (n * k)).length = n * k := by
        have e1 : cur.toList.length = cap * k := by rw [← hcs]; rfl
        rw [List.length_take, e1]
        omega
      show ((cur.toList.take (n * k) ++ (Builtin.zeroCells z.cells 1).toList ++ cur.toList.drop (n * k + 1 * z.cells.size))).take (n * k) = xs
      rw [List.append_assoc, List.take_append_of_le_length (by rw [e1]; exact Nat.le_refl _), List.take_take, Nat.min_self]
      exact htake
end

theorem step_fitsK {P : Program} (w : World) {ops : Array Oper} {o : Oper} {a : Act} {K : Act → World → Prop} {Q : Exit → Act → World → Prop} {E : Prop} (hgd : o.guard = none) (s x : Operand) (t e : TypeId)
    (ho : o.op = .call { callee := .builtin .append, args := #[s, x], argTypes := #[t, t] })
    (z : Value) (k bytes : Nat) (ht : P.underlying t = some (.slice e)) (hi : (P.info? e).map (fun i => (i.zero, i.size, i.bytes)) = some (some z, k, bytes))
    (base g i cap : Nat) (A : Addr) (n c : Nat) (xs ys : List Value) (hs : a.eval s = .slice (some ⟨g, 0, none⟩) i cap) (hx : a.eval x = .slice (some A) n c) (hown : w.ownsRow base e k (.slice (some ⟨g, 0, none⟩) i cap) i xs) (hr : RdK w k (.slice (some A) n c) n ys) (h1 : ∀ y ∈ ys, y.oneCell' = true) (hroom : i + n ≤ cap)
    (h : ∀ w', w'.ownsRow base e k (.slice (some ⟨g, 0, none⟩) (i + n) cap) (i + n) (xs ++ ys) → w.grownBy w' (some g) → K (a.put o.dst (.slice (some ⟨g, 0, none⟩) (i + n) cap)) w') :
    if Region.wanted o (yielded ops a.tmps) = true then Oper.wp P o a w K Q else E := by
  have hw : Region.wanted o (yielded ops a.tmps) = true := by simp [Region.wanted, hgd]
  rw [if_pos hw]
  obtain ⟨j, hi0, hz0, hz1, hz2⟩ := info_parts hi
  obtain ⟨A', c', e', hl, _, _, hcell⟩ := hr
  cases e'
  have hnews : ∀ j y, ys[j]? = some y → w.cell? (A.add j) = some y := by
    intro j y hy
    have hj : 0 < n := by
      rcases Nat.eq_zero_or_pos n with h0 | h0
      · subst h0
        have : ys = [] := List.eq_nil_of_length_eq_zero (by simpa using hl)
        subst this
        simp at hy
      · exact h0
    obtain ⟨b, off, e', _, hc⟩ := hcell hj
    injection e' with e'
    subst e'
    rw [add_at]
    exact hc j y hy
  obtain ⟨w', hrun, h2, h3⟩ := run_append_fits (P := P) w base t o.type e j k ht hi0 hz1 g i cap xs hown A n c ys hl hnews h1 hroom
  unfold Oper.wp execOp
  simp only [ho, resolve, invoke, builtin, Sem.run_bind, Sem.run_pure, Result.andThen_ok, List.map_toArray, List.map_cons, List.map_nil, hs, hx, hrun]
  exact h w' h2 h3
theorem Grown.trans {a b c : World} {row : Option Nat} (h : a.grownBy b row) (k : b.grownBy c row) : a.grownBy c row :=
  ⟨k.os.trans h.os, k.tape.trans h.tape, k.output.trans h.output, Nat.le_trans h.size k.size, fun i hi hne => (k.block i (Nat.lt_of_lt_of_le hi h.size) hne).trans (h.block i hi hne)⟩

/-! ### contracts -/
theorem Byt.none_nil {w : World} {n c : Nat} {l : List UInt8} (h : Byt w (.slice none n c) l) : l = [] := by
  rcases Nat.eq_zero_or_pos l.length with h0 | h0
  · exact List.eq_nil_of_length_eq_zero h0
  · have e := h.len.1
    obtain ⟨b, off, e', _⟩ := h.at_ (by omega)
    cases e'

set_option maxHeartbeats 1000000 in
theorem Clone_any (v : Value) (l : List UInt8) (w : World) (h : Byt w v l) (hl : l.length ≤ 100000000) :
    Calls Try.prog 43 #[v] w fun e w' => ∃ v', e = .returned v' ∧ Own w' w.heap.size v' l ∧ Grow w w' := by
  obtain ⟨A, c, rfl, hc, hcm⟩ := h.form
  have q22 : ∀ (w : World) (a : Option Addr) (n c n' c' : Nat), (binOp .eql 36 (.slice a n c) (.slice none n' c')).run Try.prog w = .ok (.bool a.isNone) w := fun w a n c n' c' => Lib.run_eql_slice_nil w _ _ a n c n' c' Try.underlying36
  cases A with
  | none =>
    obtain rfl := h.none_nil
    go_enter Try.func43, Try.ntmps43
    go_wp2_with fail
    go_ret
    exact ⟨_, rfl, World.ownsRow_nil _ _ _ _, Grow.refl _⟩
  | some a =>
    have HB := Lib.hid h
    clear h
    go_enter Try.func43, Try.ntmps43
    go_wp2_with (at_builtin; refine wpList_app w _ rfl (.tmp 5) (.tmp 6) rfl _ _ [] l rfl rfl (Own.empty w) (Grow.alloc w _) (HB.out.grow (Grow.alloc w _)) (by simp; omega) ?_; intro v2 w2 ho2 hg2; rw [List.nil_append] at ho2; have H2 := Lib.hid (And.intro ho2 hg2); clear ho2 hg2)
    go_ret
    exact ⟨_, rfl, H2.out.1, H2.out.2⟩

/-- The slice reads as these names. -/
def Nms (w : World) (v : Value) (l : List Nm) : Prop := RdK w 4 v l.length (cellsN l)
def Nrow (w : World) (base : Nat) (v : Value) (l : List Nm) : Prop := w.ownsRow base 70 4 v l.length (cellsN l)
theorem Nrow.nms {w : World} {base : Nat} {v : Value} {l : List Nm} (h : Nrow w base v l) : Nms w v l := RdK.of_own h
theorem Nms.at_ {w : World} {A : Option Addr} {n c : Nat} {l : List Nm} (h : Nms w (.slice A n c) l) (hp : 0 < l.length) : ∃ b off, A = some ⟨b, off, none⟩ ∧ b < w.heap.size ∧ ∀ j (hj : j < l.length), NmAt w b (off + j * 4) l[j] := by
  obtain ⟨A', c', e, _, _, _, h3⟩ := h
  cases e
  obtain ⟨b, off, e, hb, hc⟩ := h3 hp
  exact ⟨b, off, e, hb, nmAt_of hc⟩
theorem Nms.len {w : World} {A : Option Addr} {n c : Nat} {l : List Nm} (h : Nms w (.slice A n c) l) : n = l.length ∧ n ≤ c ∧ c ≤ maxLen := by
  obtain ⟨A', c', e, _, h1, h2, h3⟩ := h
  cases e
  exact ⟨rfl, h1, h2⟩

set_option maxHeartbeats 1000000 in
theorem CloneN_any (v : Value) (l : List Nm) (w : World) (h : Nms w v l) (hl : l.length ≤ 1000) :
    Calls Try.prog 24 #[v] w fun e w' => ∃ v', e = .returned v' ∧ Nrow w' w.heap.size v' l ∧ Grow w w' := by
  obtain ⟨A, c, rfl, hc, hcm⟩ := h.form
  have q22 : ∀ (w : World) (a : Option Addr) (n c n' c' : Nat), (binOp .eql 65 (.slice a n c) (.slice none n' c')).run Try.prog w = .ok (.bool a.isNone) w := fun w a n c n' c' => Lib.run_eql_slice_nil w _ _ a n c n' c' Try.underlying65
  cases A with
  | none =>
    have h0 : l = [] := by
      rcases Nat.eq_zero_or_pos l.length with h0 | h0
      · exact List.eq_nil_of_length_eq_zero h0
      · obtain ⟨b, off, e', _⟩ := h.at_ h0
        cases e'
    subst h0
    go_enter Try.func24, Try.ntmps24
    go_wp2_with fail
    go_ret
    exact ⟨_, rfl, World.ownsRow_nil _ _ _ _, Grow.refl _⟩
  | some a =>
    have HB := Lib.hid h
    have hl2 := cellsN_length l
    clear h
    go_enter Try.func24, Try.ntmps24
    go_wp2_with (at_builtin; refine wpList_appK _ rfl (.tmp 5) (.tmp 6) 65 rfl 70 _ 4 12 Try.underlying65 infoName rfl (by decide) w.heap.size _ _ 0 l.length [] (cellsN l) rfl rfl (World.ownsRow_lit w #[] 0 (Nat.le_refl _) (Nat.zero_le _) rfl) (HB.out.grow (Grow.alloc w _)) (cellsN_one l) (by omega) (by unfold maxLen; omega) (by simp) ?_; intro v2 w2 ho2 hg2 hat2; have H2 := Lib.hid (And.intro ho2 hg2); clear ho2 hg2 hat2)
    go_ret
    refine ⟨_, rfl, ?_, ?_⟩
    · have := H2.out.1
      simpa [Nrow] using this
    · exact (Grow.alloc w _).grown H2.out.2 (by simp) (fun k hk => by cases hk; exact Nat.le_refl _)
end Go.Proofs.Ytmnemkeieaflhaa
/- The map of the packets that wait: looked up, laid into, taken from, counted. -/
namespace Go.Proofs.Ytmnemkeieaflhaa
set_option linter.unusedVariables false
set_option linter.unusedSimpArgs false
set_option maxRecDepth 10000
open Go.ChangeShapes Go.WideShapes Go.ChangeAt Go.RowKit Go.Shelf Go.MapKept
open Go.ChangeMaps

theorem nm_check (b : Bool) (m : Nm) (w : World) : (Instr.checkKey b 10000 70 (nmV m)).run Try.prog w = .ok () w := by kernel_rfl
theorem nm_under : Try.prog.underlying 70 = some (.struct (Try.prog.fieldsOf 70)) := by kernel_rfl
theorem nm_eq (a b : Nm) (w : World) : (Op.equal 70 (nmV a) (nmV b)).run Try.prog w = .ok (decide (a = b)) w := by
  have h : (if (a.src : Int) = (b.src : Int) then if (a.dst : Int) = (b.dst : Int) then if (a.proto : Int) = (b.proto : Int) then if (a.ident : Int) = (b.ident : Int) then (Result.ok true w : Result Bool) else .ok false w else .ok false w else .ok false w else .ok false w) = .ok (decide (a = b)) w := by
    obtain ⟨a0, a1, a2, a3⟩ := a
    obtain ⟨b0, b1, b2, b3⟩ := b
    simp only [Nm.mk.injEq]
    split <;> rename_i h0
    · split <;> rename_i h1
      · split <;> rename_i h2
        · split <;> rename_i h3
          · rw [decide_eq_true ⟨by omega, by omega, by omega, by omega⟩]
          · rw [decide_eq_false fun e => h3 (by omega)]
        · rw [decide_eq_false fun e => h2 (by omega)]
      · rw [decide_eq_false fun e => h1 (by omega)]
    · rw [decide_eq_false fun e => h0 (by omega)]
  rw [← h]
  show (Op.equalIn 10000 70 (nmV a) (nmV b)).run Try.prog w = _
  go_simp
theorem nmV_inj {a b : Nm} (h : nmV a = nmV b) : a = b := by
  obtain ⟨a0, a1, a2, a3⟩ := a
  obtain ⟨b0, b1, b2, b3⟩ := b
  simp only [nmV, Value.agg.injEq, Array.mk.injEq, List.cons.injEq, Value.int.injEq, true_and, and_true] at h
  simp only [Nm.mk.injEq]
  omega

def entryOf (x : Nm × Nat) : Value × Value := (nmV x.1, .pointer (some ⟨x.2, 0, none⟩))
/-- The block mb is a map of these names to these blocks, in the order in which they were laid. -/
def MapAt (w : World) (mb : Nat) (L : List (Nm × Nat)) : Prop := ∃ es ck, w.heap[mb]? = some (.map es ck) ∧ Stamped es ck ∧ es.toList.map (fun e => (e.key, e.val)) = L.map entryOf

theorem asking (x : Nm) (w : World) : ∀ (L : List (Nm × Nat)) (es : List MapEntry) (i : Nat), es.map (fun e => (e.key, e.val)) = L.map entryOf →
    ((∀ y ∈ L, y.1 ≠ x) → (Instr.findAsking 70 (nmV x) es i).run Try.prog w = .ok none w) ∧
    (∀ j b, L[j]? = some (x, b) → (∀ t y, t < j → L[t]? = some y → y.1 ≠ x) → (Instr.findAsking 70 (nmV x) es i).run Try.prog w = .ok (some (i + j, .pointer (some ⟨b, 0, none⟩))) w)
  | [], [], i, _ => ⟨fun _ => rfl, fun j b h => by simp at h⟩
  | y :: L, e :: es, i, h => by
    simp only [List.map_cons, List.cons.injEq] at h
    obtain ⟨h1, h2⟩ := h
    obtain ⟨ih1, ih2⟩ := asking x w L es (i + 1) h2
    simp only [entryOf, Prod.mk.injEq] at h1
    obtain ⟨hk, hv⟩ := h1
    have step : (Instr.findAsking 70 (nmV x) (e :: es) i).run Try.prog w = if x = y.1 then .ok (some (i, e.val)) w else (Instr.findAsking 70 (nmV x) es (i + 1)).run Try.prog w := by
      simp only [Instr.findAsking, Sem.run_bind, hk, nm_eq, Result.andThen_ok]
      by_cases hxy : x = y.1
      · simp [hxy]
      · simp [hxy]
    refine ⟨fun hne => ?_, fun j b hj hne => ?_⟩
    · rw [step, if_neg (fun e => hne y (by simp) e.symm), ih1 (fun z hz => hne z (by simp [hz]))]
    · cases j with
      | zero =>
        simp only [List.getElem?_cons_zero, Option.some.injEq] at hj
        subst hj
        rw [step, if_pos rfl, hv, Nat.add_zero]
      | succ j =>
        rw [step, if_neg (fun e => hne 0 y (by omega) rfl e.symm), ih2 j b (by simpa using hj) (fun t z ht hz => hne (t + 1) z (by omega) (by simpa using hz)), show i + 1 + j = i + (j + 1) from by omega]
  | [], e :: es, i, h => by simp at h
  | y :: L, [], i, h => by simp at h
theorem find_now (x : Nm) : ∀ (es : List MapEntry) (w : World), (Instr.findKey 70 (nmV x) es).run Try.prog w = (Instr.findAsking 70 (nmV x) es 0).run Try.prog w
  | [], w => by
    simp only [Instr.findKey, Sem.run_bind, run_underlying nm_under, Result.andThen_ok]
    rfl
  | e :: es, w => by
    simp only [Instr.findKey, Sem.run_bind, run_underlying nm_under, Result.andThen_ok]
    rfl

section
variable {w : World} {mb : Nat} {L : List (Nm × Nat)}
theorem apart_of {x : Nm} {b j : Nat} (hn : (L.map Prod.fst).Nodup) (hj : L[j]? = some (x, b)) : ∀ t y, t < j → L[t]? = some y → y.1 ≠ x := by
  intro t y ht hy e
  have h1 := List.pairwise_iff_getElem.1 hn t j (by
    have := (List.getElem?_eq_some_iff.1 hy).1
    rw [List.length_map]; exact this) (by
    have := (List.getElem?_eq_some_iff.1 hj).1
    rw [List.length_map]; exact this) ht
  rw [List.getElem_map, List.getElem_map] at h1
  have e1 := (List.getElem?_eq_some_iff.1 hy).2
  have e2 := (List.getElem?_eq_some_iff.1 hj).2
  rw [e1, e2] at h1
  exact h1 e
theorem MapAt.keys (h : MapAt w mb L) : ∀ es ck, w.heap[mb]? = some (.map es ck) → es.toList.map (fun e => (e.key, e.val)) = L.map entryOf := by
  obtain ⟨es, ck, h1, h2, h3⟩ := h
  intro es' ck' h'
  rw [h1] at h'
  cases h'
  exact h3
theorem MapAt.look_some (h : MapAt w mb L) (hn : (L.map Prod.fst).Nodup) {x : Nm} {b j : Nat} (hj : L[j]? = some (x, b)) : (Instr.lookup 64 (.map (some mb)) (nmV x) false).run Try.prog w = .ok (.pointer (some ⟨b, 0, none⟩)) w := by
  obtain ⟨es, ck, h1, h2, h3⟩ := h
  have hf := (asking x w L es.toList 0 h3).2 j b hj (apart_of hn hj)
  simp only [Instr.lookup, Sem.run_bind, run_underlying Try.underlying64, Result.andThen_ok, MapKept.run_getObj_map h1, Sem.run_pure, nm_check, find_now, hf]
  rfl
theorem MapAt.look_none (h : MapAt w mb L) {x : Nm} (hx : ∀ y ∈ L, y.1 ≠ x) : (Instr.lookup 64 (.map (some mb)) (nmV x) false).run Try.prog w = .ok (.pointer none) w := by
  obtain ⟨es, ck, h1, h2, h3⟩ := h
  have hf := (asking x w L es.toList 0 h3).1 hx
  have hz : (zeroValue 71).run Try.prog w = .ok (.pointer none) w := by kernel_rfl
  simp only [Instr.lookup, Sem.run_bind, run_underlying Try.underlying64, Result.andThen_ok, MapKept.run_getObj_map h1, Sem.run_pure, nm_check, find_now, hf, hz]
  rfl
theorem MapAt.upd (h : MapAt w mb L) {x : Nm} (hx : ∀ y ∈ L, y.1 ≠ x) (b : Nat) : ∃ w', (Instr.mapUpdate 64 (.map (some mb)) (nmV x) (.pointer (some ⟨b, 0, none⟩))).run Try.prog w = .ok () w' ∧ MapAt w' mb (L ++ [(x, b)]) ∧ w.grownBy w' (some mb) := by
  obtain ⟨es, ck, h1, h2, h3⟩ := h
  have hf := (asking x w L es.toList 0 h3).1 hx
  have hk : ∀ e ∈ es.toList, e.key ≠ nmV x := by
    intro e he hex
    have : (e.key, e.val) ∈ L.map entryOf := by rw [← h3]; exact List.mem_map_of_mem (f := fun e : MapEntry => (e.key, e.val)) he
    obtain ⟨y, hy, e2⟩ := List.mem_map.1 this
    simp only [entryOf, Prod.mk.injEq] at e2
    exact hx y hy (nmV_inj (e2.1.trans hex))
  refine ⟨setBlock w mb (.map (es.push ⟨nmV x, .pointer (some ⟨b, 0, none⟩), ck⟩) (ck + 1)), ?_, ⟨_, _, heap_setBlock_same h1 _, stamped_push h2 hk, ?_⟩, ⟨rfl, rfl, rfl, by simp [setBlock], fun i _ hi => heap_setBlock_other h1 _ (fun e => hi (by rw [e]))⟩⟩
  · simp [Instr.mapUpdate, run_underlying Try.underlying64, MapKept.run_getObj_map h1, nm_check, find_now, hf, MapKept.run_setObj_map _ h1, Result.andThen, setBlock]
  · rw [Array.toList_push, List.map_append, List.map_append, h3]
    rfl
theorem MapAt.del (h : MapAt w mb L) (hn : (L.map Prod.fst).Nodup) {x : Nm} {b j : Nat} (hj : L[j]? = some (x, b)) (ty : TypeId) : ∃ w', (Builtin.delete_ #[64, 70] ty #[.map (some mb), nmV x]).run Try.prog w = .ok (.tuple #[]) w' ∧ MapAt w' mb (L.eraseIdx j) ∧ w.grownBy w' (some mb) := by
  obtain ⟨es, ck, h1, h2, h3⟩ := h
  have hf := (asking x w L es.toList 0 h3).2 j b hj (apart_of hn hj)
  have hjl : j < L.length := (List.getElem?_eq_some_iff.1 hj).1
  have hl : es.toList.length = L.length := by
    have := congrArg List.length h3
    simpa using this
  have hjs : j < es.size := by rw [← Array.length_toList, hl]; exact hjl
  refine ⟨setBlock w mb (.map (es.eraseIdxIfInBounds j) ck), ?_, ⟨_, _, heap_setBlock_same h1 _, stamped_erase h2 j, ?_⟩, ⟨rfl, rfl, rfl, by simp [setBlock], fun i _ hi => heap_setBlock_other h1 _ (fun e => hi (by rw [e]))⟩⟩
  · simp [Builtin.delete_, run_underlying Try.underlying64, MapKept.run_getObj_map h1, nm_check, find_now, hf, MapKept.run_setObj_map _ h1, Result.andThen, setBlock]
  · unfold Array.eraseIdxIfInBounds
    rw [dif_pos hjs, Array.toList_eraseIdx, map_eraseIdx, h3, ← map_eraseIdx]
theorem MapAt.len (h : MapAt w mb L) (ty : TypeId) : (Builtin.len_ #[64] ty #[.map (some mb)]).run Try.prog w = .ok (.int .i64 (L.length : Nat)) w := by
  obtain ⟨es, ck, h1, h2, h3⟩ := h
  have hl : es.size = L.length := by
    have := congrArg List.length h3
    simpa using this
  simp [Builtin.len_, run_underlying Try.underlying64, MapKept.run_getObj_map h1, hl, goInt]
end
end Go.Proofs.Ytmnemkeieaflhaa
/- The map gone through: what is still to come. -/
namespace Go.Proofs.Ytmnemkeieaflhaa
set_option linter.unusedVariables false
set_option linter.unusedSimpArgs false
open Go.ChangeShapes Go.WideShapes Go.ChangeAt Go.RowKit Go.Shelf Go.MapKept
open Go.ChangeMaps

/-- Under way through the map mb by the iterator r: left is still to come. -/
def Iter (w : World) (mb r : Nat) (left : List (Nm × Nat)) : Prop := ∃ es ck since seen c0, w.heap[mb]? = some (.map es ck) ∧ Stamped es ck ∧ w.heap[r]? = some (.mapIter (some mb) since seen c0) ∧ (∀ x ∈ es.toList, x.born < since) ∧ since ≤ c0 ∧ since ≤ ck ∧
  (leftOf es seen).toList.map (fun e => (e.key, e.val)) = left.map entryOf
theorem filter_born : ∀ (F : List MapEntry) (j : Nat) (hj : j < F.length), (F.map (fun x => x.born)).Nodup → F.filter (fun x => x.born != F[j].born) = F.eraseIdx j
  | [], j, hj, _ => absurd hj (by simp)
  | x :: r, 0, _, h => by
    rw [List.map_cons, List.nodup_cons] at h
    rw [List.getElem_cons_zero, List.filter_cons_of_neg (by simp), List.eraseIdx_zero, List.tail_cons]
    refine List.filter_eq_self.2 fun y hy => ?_
    rw [bne_iff_ne]
    intro e
    exact h.1 (List.mem_map.2 ⟨y, hy, e⟩)
  | x :: r, j + 1, hj, h => by
    rw [List.map_cons, List.nodup_cons] at h
    have ih := filter_born r j (by simpa using hj) h.2
    rw [List.getElem_cons_succ, List.filter_cons_of_pos, ih, List.eraseIdx_cons_succ]
    rw [bne_iff_ne]
    intro e
    exact h.1 (List.mem_map.2 ⟨r[j]'(by simpa using hj), List.getElem_mem _, e.symm⟩)
theorem perm_erase {α : Type} : ∀ (l : List α) (j : Nat) (hj : j < l.length), l.Perm (l[j] :: l.eraseIdx j)
  | [], j, hj => absurd hj (by simp)
  | x :: r, 0, _ => .refl _
  | x :: r, j + 1, hj => by
    rw [List.getElem_cons_succ, List.eraseIdx_cons_succ]
    exact (List.Perm.cons x (perm_erase r j (by simpa using hj))).trans (List.Perm.swap _ _ _)
theorem Iter.lt {w : World} {mb r : Nat} {left : List (Nm × Nat)} (h : Iter w mb r left) : r < w.heap.size := by
  obtain ⟨es, ck, since, seen, c0, h1, h2, h3, _⟩ := h
  exact (Array.getElem?_eq_some_iff.1 h3).1
theorem Iter.ltM {w : World} {mb r : Nat} {left : List (Nm × Nat)} (h : Iter w mb r left) : mb < w.heap.size := by
  obtain ⟨es, ck, since, seen, c0, h1, _⟩ := h
  exact (Array.getElem?_eq_some_iff.1 h1).1
theorem Iter.grow {w w' : World} {mb r : Nat} {left : List (Nm × Nat)} (h : Iter w mb r left) (g : Grow w w') : Iter w' mb r left := by
  have l1 := h.lt
  have l2 := h.ltM
  obtain ⟨es, ck, since, seen, c0, h1, h2, h3, h4⟩ := h
  exact ⟨es, ck, since, seen, c0, (g.block _ l2).trans h1, h2, (g.block _ l1).trans h3, h4⟩
theorem MapAt.range {w : World} {mb : Nat} {L : List (Nm × Nat)} (h : MapAt w mb L) : ∃ w', (Instr.range 64 (.map (some mb))).run Try.prog w = .ok (.pointer (some ⟨w.heap.size, 0, none⟩)) w' ∧ Iter w' mb w.heap.size L ∧ Grow w w' := by
  obtain ⟨es, ck, h1, h2, h3⟩ := h
  have hlt := (Array.getElem?_eq_some_iff.1 h1).1
  refine ⟨_, run_range_map w _ _ _ mb es ck Try.underlying64 h1, ⟨es, ck, ck, #[], ck, ((MapKept.heap_alloc w _).2 mb hlt).trans h1, h2, (MapKept.heap_alloc w _).1, h2.1, Nat.le_refl _, Nat.le_refl _, ?_⟩, Grow.alloc _ _⟩
  rw [← h3]
  unfold leftOf
  rw [Array.toList_filter, List.filter_eq_self.2 (fun x hx => by simp)]
/-- The step: nothing is left, or one of those that are. -/
theorem Iter.next {w : World} {mb r : Nat} {left : List (Nm × Nat)} (h : Iter w mb r left) (ty : TypeId) :
    (left = [] ∧ (Instr.next (.pointer (some ⟨r, 0, none⟩)) false ty).run Try.prog w = .ok (.tuple #[.bool false]) w) ∨
    ∃ (j : Nat) (hj : j < left.length) (w' : World), (Instr.next (.pointer (some ⟨r, 0, none⟩)) false ty).run Try.prog w = .ok (.tuple #[.bool true, nmV left[j].1, .pointer (some ⟨left[j].2, 0, none⟩)]) w' ∧ Iter w' mb r (left.eraseIdx j) ∧ w.grownBy w' (some r) ∧ w'.heap.size = w.heap.size ∧
      (Instr.entry (.pointer (some ⟨r, 0, none⟩))).run Try.prog w' = .ok (.tuple #[nmV left[j].1, .pointer (some ⟨left[j].2, 0, none⟩)]) w' := by
  obtain ⟨es, ck, since, seen, c0, h1, h2, h3, h4, h5, h6, h7⟩ := h
  have hne : r ≠ mb := by
    intro e
    rw [e, h1] at h3
    cases h3
  rcases run_next_at (P := Try.prog) w ty r mb since c0 seen es ck h3 h1 h4 h5 with ⟨h0, hrun⟩ | ⟨e, he, w1, hal, hrun⟩
  · refine .inl ⟨?_, hrun⟩
    have : (leftOf es seen).toList = [] := List.eq_nil_of_length_eq_zero (by rw [Array.length_toList]; exact h0)
    rw [this] at h7
    exact List.map_eq_nil_iff.1 h7.symm
  · obtain ⟨hem, hes⟩ := mem_left he
    have hr1 : w1.heap[r]? = some (.mapIter (some mb) since seen c0) := by rcases hal with rfl | rfl <;> exact h3
    have hb1 : w1.heap[mb]? = some (.map es ck) := by rcases hal with rfl | rfl <;> exact h1
    have hset := heap_set (o' := .mapIter (some mb) since (seen.push e.born) ck) hr1
    have hb' : (setBlock w1 r (.mapIter (some mb) since (seen.push e.born) ck)).heap[mb]? = some (.map es ck) := (hset.2 mb (fun e1 => hne e1.symm)).trans hb1
    obtain ⟨j, hj, hje⟩ := List.getElem_of_mem he
    have hl : (leftOf es seen).toList.length = left.length := by
      have := congrArg List.length h7
      simpa using this
    have hjl : j < left.length := by omega
    have hxe : (e.key, e.val) = entryOf left[j] := by
      have := congrArg (fun q => q[j]?) h7
      simp only [List.getElem?_map, List.getElem?_eq_getElem hj, List.getElem?_eq_getElem hjl, Option.map_some, Option.some.injEq] at this
      rw [hje] at this
      exact this
    simp only [entryOf, Prod.mk.injEq] at hxe
    have hst := (stamped_iff es ck).1 h2
    have hleft : (leftOf es (seen.push e.born)).toList = (leftOf es seen).toList.eraseIdx j := by
      have hnd : ((leftOf es seen).toList.map (fun x => x.born)).Nodup := by
        unfold leftOf
        rw [Array.toList_filter]
        exact (List.filter_sublist.map _).nodup hst.2.1
      have e1 : (leftOf es (seen.push e.born)).toList = (leftOf es seen).toList.filter (fun x => x.born != e.born) := by
        unfold leftOf
        rw [Array.toList_filter, Array.toList_filter, List.filter_filter]
        refine List.filter_congr fun x hx => ?_
        rw [contains_push]
        cases seen.contains x.born <;> cases hb : (x.born == e.born) <;> simp_all [bne]
      rw [e1, ← filter_born _ j hj hnd, hje]
    refine .inr ⟨j, hjl, _, ?_, ⟨es, ck, since, seen.push e.born, ck, hb', h2, hset.1, h4, h6, h6, ?_⟩, ?_, ?_, ?_⟩
    · rw [← hxe.1, ← hxe.2]; exact hrun
    · rw [hleft, map_eraseIdx, h7, ← map_eraseIdx]
    · rcases hal with rfl | rfl <;> exact ⟨rfl, rfl, rfl, by simp [setBlock], fun i _ hi => hset.2 i (fun e1 => hi (by rw [e1]))⟩
    · rcases hal with rfl | rfl <;> simp [setBlock]
    · rw [← hxe.1, ← hxe.2]
      exact run_entry_at _ r mb since seen es ck e hset.1 hb' hem hst.2.1
end Go.Proofs.Ytmnemkeieaflhaa
