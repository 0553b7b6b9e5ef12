/- A piece added; rows of booleans; what the loop of Whole keeps. -/
import Derived.Test.YtfjmcfkpbacicaaC12
import Derived.Test.YtfjmcfkpbacicaaC08
namespace Go.Proofs.Ytfjmcfkpbacicaa
set_option linter.unusedVariables false
set_option linter.unusedSimpArgs false
open Go.ChangeShapes Go.WideShapes Go.ChangeAt Go.RowKit

def Full (k : Pkt) (dn : List Pkt) : Prop := ∀ i, i < k.data.length → Covs dn i
theorem cov_call (w : World) (B tb : Nat) (A : List Wt) (k q : Pkt) (dn : List Pkt) (hT : TabA w B tb 1 100 A) (h0 : k.off = 0) (hm : k.more = false) (hN : k.data.length ≤ 65515) (hlen : k.len ≤ 65535) (h : CovA k dn A) (hd : ∀ x ∈ dn, Pc k x) (hq : Pc k q) (hnc : ¬ (q.off = 0 ∧ q.more = false)) (now : Int) (hnow : 0 ≤ now ∧ now ≤ 1000) (vo vd : Value) (hp : Piece B w q vo vd) :
    Calls Try.prog 14 #[.pointer (some ⟨tb, 0, none⟩), .int .i64 now, ipV q vo vd] w fun e w' => ∃ fl r A' vo' vd', e = .returned (.tuple #[ipV r vo' vd', .bool fl, .int .i64 0]) ∧ Ip w' (ipV r vo' vd') r ∧ TabA w' B tb 1 100 A' ∧ Only B Za w w' ∧ (fl = true ↔ Full k (dn ++ [q])) ∧ (fl = true → r = k ∧ A' = []) ∧ (fl = false → CovA k (dn ++ [q]) A') := by
  obtain ⟨c1, c2⟩ := cov_add h0 hm hN hlen h hd hq hnc now hnow
  refine (RsAdd_any w B tb 1 100 A hT now q vo vd hp).mono ?_
  rintro e w' ⟨vo', vd', rfl, h1, h2, h3⟩
  by_cases hF : Full k (dn ++ [q])
  · rw [c1 hF] at h1 h2 ⊢
    exact ⟨true, k, [], vo', vd', rfl, h1, h2, h3, ⟨fun _ => hF, fun _ => rfl⟩, fun _ => ⟨rfl, rfl⟩, fun h => (by cases h)⟩
  · obtain ⟨A', e1, e2⟩ := c2 hF
    rw [e1] at h1 h2 ⊢
    exact ⟨false, zeroPk, A', vo', vd', rfl, h1, h2, h3, ⟨fun h => (by cases h), fun h => absurd h hF⟩, fun h => (by cases h), fun _ => e2⟩

theorem infoBool : (Try.prog.info? 4).map (fun i => (i.zero, i.size, i.bytes)) = some (some (.bool false), 1, 1) := by kernel_rfl
/-- A row of booleans of the call's own. -/
def Bools (w : World) (base : Nat) (v : Value) (hs : List Bool) : Prop := w.ownsRow base 4 1 v hs.length (hs.map Value.bool)
theorem Bools.made {w : World} {b : Nat} {v : Value} {n : Nat} (hown : w.ownsRow b 4 1 v n (madeCells (Value.bool false).cells (n * 1)).toList) : Bools w b v (List.replicate n false) := by
  rw [show (Value.bool false).cells = #[Value.bool false] from rfl, Nat.mul_one, toList_madeCells_one] at hown
  unfold Bools
  rw [List.map_replicate, List.length_replicate]
  exact hown
theorem Bools.cell {w : World} {base g n cap : Nat} {hs : List Bool} (h : Bools w base (.slice (some ⟨g, 0, none⟩) n cap) hs) : g < w.heap.size ∧ base ≤ g ∧ ∀ j (hj : j < hs.length), w.cell? ⟨g, j, none⟩ = some (.bool hs[j]) ∧ w.frozen? ⟨g, j, none⟩ = false := by
  rcases h.2 with ⟨e, _⟩ | ⟨g', cap', cur, e1, e2, hh, hn, hm, hc, ht⟩
  · cases e
  · cases e1
    refine ⟨(Array.getElem?_eq_some_iff.1 hh).1, e2, fun j hj => ⟨?_, frozen_of hh⟩⟩
    rw [cell_of_row w g j _ _ _ hh]
    have h1 : (cur.toList.take (hs.length * 1))[j]? = (hs.map Value.bool)[j]? := by rw [ht]
    rw [List.getElem?_take_of_lt (by omega), Array.getElem?_toList] at h1
    rw [h1, List.getElem?_map, List.getElem?_eq_getElem hj]
    rfl
theorem Bools.set {w : World} {base g n cap : Nat} {hs : List Bool} (h : Bools w base (.slice (some ⟨g, 0, none⟩) n cap) hs) (k : Nat) (b : Bool) : Bools (w.setCell ⟨g, k, none⟩ (.bool b)) base (.slice (some ⟨g, 0, none⟩) n cap) (hs.set k b) ∧ Only base (fun _ T => T = 4) w (w.setCell ⟨g, k, none⟩ (.bool b)) := by
  obtain ⟨h1, h2⟩ := h
  rcases h2 with ⟨e, _⟩ | ⟨g', cap', cur, e1, e2, hh, hn, hm, hc, ht⟩
  · cases e
  · cases e1
    refine ⟨⟨by simp, .inr ⟨g, cap, _, by rw [List.length_set], e2, heap_setCell_own hh _, by rw [List.length_set]; exact hn, hm, by rw [Array.size_setIfInBounds]; exact hc, ?_⟩⟩, Only.set hh e2 rfl _⟩
    rw [List.length_set, Array.toList_setIfInBounds, List.take_set, ht, List.map_set]
theorem bool_za (b : Nat) : ¬ Za b 4 := fun h => by rcases h with (h | h | h) | h | h <;> exact absurd h (by decide)
theorem TabA.only {Z : Nat → TypeId → Prop} {w w' : World} {base tb : Nat} {most life : Int} {A : List Wt} (h : TabA w base tb most life A) (o : Only base Z w w') (h1 : ∀ b, ¬ Z b 67) (h2 : ∀ b, ¬ Z b 64) (h3 : ∀ b, ¬ Z b 70) (h4 : ∀ b, ¬ Z b 75) (h5 : ∀ b, ¬ Z b 99) (h6 : ∀ b, ¬ Z b 5) (h7 : ∀ b, ¬ Z b 38) : TabA w' base tb most life A := by
  obtain ⟨mb, ov, L, h, hA, hk⟩ := h
  exact ⟨mb, ov, L, h.only o (h1 _) (h2 _) h3 h4 h5 h6 h7, hA, hk⟩
theorem TabA.grow {w w' : World} {base tb : Nat} {most life : Int} {A : List Wt} (h : TabA w base tb most life A) (g : Grow w w') : TabA w' base tb most life A := by
  obtain ⟨mb, ov, L, h, hA, hk⟩ := h
  exact ⟨mb, ov, L, h.grow g, hA, hk⟩
theorem TabA.sz {w : World} {base tb : Nat} {most life : Int} {A : List Wt} (h : TabA w base tb most life A) : base ≤ w.heap.size := by
  obtain ⟨mb, ov, L, h, hA, hk⟩ := h
  exact h.sz

/-- What the loop of Whole keeps. -/
structure Whl (w3 : World) (tb g n m : Nat) (k : Pkt) (L : List Pkt) (i : Nat) (hs : List Bool) (dn : List Pkt) (A : List Wt) (wr : World) : Prop where
  tab : TabA wr w3.heap.size tb 1 100 A
  cov : CovA k dn A
  row : Bools wr w3.heap.size (.slice (some ⟨g, 0, none⟩) n n) hs
  len : hs.length = n
  dn : ∀ x, x ∈ dn ↔ ∃ j : Nat, hs[j]? = some true ∧ L[j]? = some x
  some_ : 0 < hs.count false
  seen : ∀ j : Nat, j < n → j + m < i → hs[j]? = some true
  grow : Grow w3 wr
theorem count_set {hs : List Bool} {j : Nat} (h : hs[j]? = some false) : (hs.set j true).count false + 1 = hs.count false := by
  induction hs generalizing j with
  | nil => simp at h
  | cons x r ih => cases j with
    | zero =>
      simp only [List.getElem?_cons_zero, Option.some.injEq] at h
      subst h
      simp
    | succ j =>
      have := ih (j := j) (by simpa using h)
      simp only [List.set_cons_succ, List.count_cons]
      omega
theorem set_same {hs : List Bool} {j : Nat} (h : hs[j]? = some true) : hs.set j true = hs := by
  obtain ⟨h1, h2⟩ := List.getElem?_eq_some_iff.1 h
  rw [← h2]
  exact List.set_getElem_self h1
theorem none_left {hs : List Bool} : hs.count false = 0 ↔ ∀ j : Nat, j < hs.length → hs[j]? = some true := by
  rw [List.count_eq_zero]
  constructor
  · intro h j hj
    rw [List.getElem?_eq_getElem hj]
    cases hb : hs[j] with
    | true => rfl
    | false => exact absurd (by rw [← hb]; exact List.getElem_mem hj) h
  · intro h hm
    obtain ⟨j, hj, e⟩ := List.getElem_of_mem hm
    have := h j hj
    rw [List.getElem?_eq_getElem hj, e] at this
    cases this
/-- One more has come. -/
theorem dn_set {hs : List Bool} {L dn : List Pkt} {j : Nat} {q : Pkt} (h : ∀ x, x ∈ dn ↔ ∃ j : Nat, hs[j]? = some true ∧ L[j]? = some x) (hj : j < hs.length) (hq : L[j]? = some q) : ∀ x, x ∈ dn ++ [q] ↔ ∃ i : Nat, (hs.set j true)[i]? = some true ∧ L[i]? = some x := by
  intro x
  rw [List.mem_append, h x]
  constructor
  · rintro (⟨i, h1, h2⟩ | h1)
    · by_cases e : j = i
      · subst e
        exact ⟨j, by rw [List.getElem?_set_self hj], h2⟩
      · exact ⟨i, by rw [List.getElem?_set_ne e]; exact h1, h2⟩
    · rw [List.mem_singleton.1 h1]
      exact ⟨j, by rw [List.getElem?_set_self hj], hq⟩
  · rintro ⟨i, h1, h2⟩
    by_cases e : j = i
    · subst e
      rw [hq] at h2
      cases h2
      exact .inr (by simp)
    · rw [List.getElem?_set_ne e] at h1
      exact .inl ⟨i, h1, h2⟩
end Go.Proofs.Ytfjmcfkpbacicaa
/- The reference's table in memory; one packet of it in a block of its own. -/
namespace Go.Proofs.Ytfjmcfkpbacicaa
set_option linter.unusedVariables false
set_option linter.unusedSimpArgs false
set_option maxRecDepth 8000
open Go.ChangeShapes Go.WideShapes Go.ChangeAt Go.RowKit

def byteOf (o : Option UInt8) : UInt8 := o.getD 0
def lastI (t : Wt) : Int := if t.fin = 0 then -1 else (t.fin : Int)
structure Rq where
  x : Rf
  t : Wt
structure Rq.Ok (base : Nat) (w : World) (q : Rq) : Prop where
  nm : q.x.nm = q.t.nm
  d : Own w base q.x.vd (q.t.c.map byteOf)
  h : Bools w base q.x.vh (q.t.c.map Option.isSome)
  last : q.x.last = lastI q.t
  begun : q.x.begun = q.t.first.isSome
  f : q.x.f = q.t.first.getD zeroPk
  o : Firm base w q.x.vo q.x.f.opts
  v : Firm base w q.x.vx q.x.f.data
  till : q.x.till = q.t.till
section
variable {base : Nat} {w w' : World} {q : Rq}
theorem Rq.Ok.only {Z : Nat → TypeId → Prop} (h : q.Ok base w) (o : Only base Z w w') (h1 : ∀ b, ¬ Z b 5) (h2 : ∀ b, ¬ Z b 4) : q.Ok base w' :=
  ⟨h.nm, o.row h.d fun b _ => h1 b, o.row h.h fun b _ => h2 b, h.last, h.begun, h.f, h.o.only o h1, h.v.only o h1, h.till⟩
theorem Rq.Ok.grow (h : q.Ok base w) (g : Grow w w') (hb : base ≤ w.heap.size) : q.Ok base w' := h.only (Only.grow g hb fun _ _ => False) (fun _ h => h) (fun _ h => h)
theorem Rq.Ok.one (h : q.Ok base w) : q.x.One := ⟨ownsRow_one h.d, ownsRow_one h.h, h.o.1.one, h.v.1.one⟩
end
/-- The table of the reference, by value. -/
def RTab (w : World) (base : Nat) (v : Value) (most life : Int) (A : List Wt) : Prop :=
  ∃ vL, ∃ l : List Rq, v = .agg #[.int .i64 most, .int .i64 life, vL] ∧ Rfrow w base vL (l.map Rq.x) ∧ (∀ q ∈ l, q.Ok base w) ∧ l.map Rq.t = A
section
variable {base : Nat} {w w' : World} {v : Value} {most life : Int} {A : List Wt}
theorem RTab.only {Z : Nat → TypeId → Prop} (h : RTab w base v most life A) (o : Only base Z w w') (h1 : ∀ b, ¬ Z b 5) (h2 : ∀ b, ¬ Z b 4) (h3 : ∀ b, ¬ Z b 78) : RTab w' base v most life A := by
  obtain ⟨vL, l, e, hr, hq, ha⟩ := h
  exact ⟨vL, l, e, o.row hr fun b _ => h3 b, fun q hm => (hq q hm).only o h1 h2, ha⟩
theorem RTab.grow (h : RTab w base v most life A) (g : Grow w w') (hb : base ≤ w.heap.size) : RTab w' base v most life A := h.only (Only.grow g hb fun _ _ => False) (fun _ h => h) (fun _ h => h) (fun _ h => h)
theorem RTab.start (w : World) (base : Nat) (most life : Int) : RTab w base (.agg #[.int .i64 most, .int .i64 life, .slice none 0 0]) most life [] :=
  ⟨_, [], rfl, World.ownsRow_nil _ _ _ _, fun q hq => (by cases hq), rfl⟩
end

/-- The cells of a packet that says nothing. -/
@[reducible] def rf0 : Array Value := #[.int .u32 0, .int .u32 0, .int .u8 0, .int .u16 0, .slice none 0 0, .slice none 0 0, .int .i64 0, .bool false, .int .u8 0, .int .u16 0, .bool false, .bool false, .int .i64 0, .int .u8 0, .int .u8 0, .int .u32 0, .int .u32 0, .slice none 0 0, .slice none 0 0, .int .i64 0]
/-- The block g holds the packet. -/
def RfBlk (w : World) (g : Nat) (x : Rf) : Prop := w.heap[g]? = some (.cells (rfA x) 78 (0, 0))
section
variable {w w' : World} {g : Nat} {x : Rf}
theorem RfBlk.cell (h : RfBlk w g x) (i : Nat) : w.cell? ⟨g, i, none⟩ = (rfA x)[i]? := cell_of_row w g i _ _ _ h
theorem RfBlk.lt (h : RfBlk w g x) : g < w.heap.size := (Array.getElem?_eq_some_iff.1 h).1
theorem RfBlk.grow (h : RfBlk w g x) (gr : Grow w w') : RfBlk w' g x := (Below.block gr g h.lt).trans h
theorem RfBlk.at_ (h : RfBlk w g x) : RfAt w g 0 x := fun j u hu => by rw [Nat.zero_add, h.cell j]; exact hu
theorem RfBlk.but {b : Nat} (h : RfBlk w g x) (hb : But b w w') (hne : g ≠ b) : RfBlk w' g x := (hb.2 g hne).trans h
end
theorem wpList_load_rf (w : World) {ops : Array Oper} {rest : List Oper} {o : Oper} {a : Act} {Q : Exit → Act → World → Prop} (hgd : o.guard = none) (x : Operand) (ho : o.op = .load 78 x)
    (b off : Nat) (hx : a.eval x = .pointer (some ⟨b, off, none⟩)) (k : Rf) (hk : RfAt w b off k) (h : wpList Try.prog ops Q rest (a.put o.dst (rfV k)) w) : wpList Try.prog ops Q (o :: rest) a w :=
  wpList_load_cs w hgd 78 x ho b off hx (rfA k) hk _ Try.underlying78 rfl (by kernel_rfl) h
theorem wpList_store_rf (w₀ w : World) {ops : Array Oper} {rest : List Oper} {o : Oper} {a : Act} {Q : Exit → Act → World → Prop} (hgd : o.guard = none) (x y : Operand) (ho : o.op = .store 78 x y) (hdst : o.dst = none)
    (g : Nat) (hx : a.eval x = .pointer (some ⟨g, 0, none⟩)) (k : Rf) (hy : a.eval y = rfV k) (h1 : k.One) (old : Array Value) (hb : w.heap[g]? = some (.cells old 78 (0, 0))) (hs : old.size = 20)
    (hgr : Grow w₀ w) (hg : w₀.heap.size ≤ g) (h : ∀ w', RfBlk w' g k → But g w w' → Grow w₀ w' → wpList Try.prog ops Q rest a w') : wpList Try.prog ops Q (o :: rest) a w :=
  wpList_store_cs w₀ w hgd 78 x y ho hdst g 0 (rfV k) hx hy (rfA k).toList rfl 78 old (rfA k) hb (by kernel_rfl) (rfA_one h1) (by rw [hs]; exact Nat.le_refl 20) (by
    have : old.toList.length = 20 := by rw [Array.length_toList]; exact hs
    rw [List.take_zero, List.nil_append, List.drop_eq_nil_of_le (by rw [this]; exact Nat.le_refl 20), List.append_nil]) hgr hg h
/-- One field (or First, eleven cells) of it. -/
theorem wpList_store_rfld (w₀ w : World) {ops : Array Oper} {rest : List Oper} {o : Oper} {a : Act} {Q : Exit → Act → World → Prop} (hgd : o.guard = none) (ty : TypeId) (x y : Operand) (ho : o.op = .store ty x y) (hdst : o.dst = none)
    (g i : Nat) (u : Value) (hx : a.eval x = .pointer (some ⟨g, i, none⟩)) (hy : a.eval y = u) (us : List Value) (hu : u.cells = us.toArray) (k k' : Rf) (hb : RfBlk w g k) (hi : (Try.prog.info? ty).map (·.size) = some us.length) (h1 : ∀ y ∈ us, y.oneCell' = true) (hl : i + us.length ≤ 20)
    (hset : (rfA k).toList.take i ++ us ++ (rfA k).toList.drop (i + us.length) = (rfA k').toList) (hgr : Grow w₀ w) (hg : w₀.heap.size ≤ g)
    (h : ∀ w', RfBlk w' g k' → But g w w' → Grow w₀ w' → wpList Try.prog ops Q rest a w') : wpList Try.prog ops Q (o :: rest) a w :=
  wpList_store_cs w₀ w hgd ty x y ho hdst g i u hx hy us hu 78 (rfA k) (rfA k') hb hi h1 hl hset hgr hg h
/-- The table's block. -/
def TbBlk (w : World) (g : Nat) (most life : Int) (vL : Value) : Prop := w.heap[g]? = some (.cells #[.int .i64 most, .int .i64 life, vL] 32 (0, 0))
section
variable {w w' : World} {g : Nat} {most life : Int} {vL : Value}
theorem TbBlk.cell (h : TbBlk w g most life vL) (i : Nat) : w.cell? ⟨g, i, none⟩ = (#[.int .i64 most, .int .i64 life, vL] : Array Value)[i]? := cell_of_row w g i _ _ _ h
theorem TbBlk.c0 (h : TbBlk w g most life vL) : w.cell? ⟨g, 0, none⟩ = some (.int .i64 most) := h.cell 0
theorem TbBlk.c1 (h : TbBlk w g most life vL) : w.cell? ⟨g, 1, none⟩ = some (.int .i64 life) := h.cell 1
theorem TbBlk.c2 (h : TbBlk w g most life vL) : w.cell? ⟨g, 2, none⟩ = some vL := h.cell 2
theorem TbBlk.lt (h : TbBlk w g most life vL) : g < w.heap.size := (Array.getElem?_eq_some_iff.1 h).1
theorem TbBlk.grow (h : TbBlk w g most life vL) (gr : Grow w w') : TbBlk w' g most life vL := (Below.block gr g h.lt).trans h
theorem TbBlk.but {b : Nat} (h : TbBlk w g most life vL) (hb : But b w w') (hne : g ≠ b) : TbBlk w' g most life vL := (hb.2 g hne).trans h
theorem TbBlk.fz (h : TbBlk w g most life vL) (i : Nat) : w.frozen? ⟨g, i, none⟩ = false := frozen_of h
end
theorem wpList_load_tb (w : World) {ops : Array Oper} {rest : List Oper} {o : Oper} {a : Act} {Q : Exit → Act → World → Prop} (hgd : o.guard = none) (x : Operand) (ho : o.op = .load 32 x)
    (b : Nat) (hx : a.eval x = .pointer (some ⟨b, 0, none⟩)) (most life : Int) (vL : Value) (hk : TbBlk w b most life vL) (h : wpList Try.prog ops Q rest (a.put o.dst (.agg #[.int .i64 most, .int .i64 life, vL])) w) : wpList Try.prog ops Q (o :: rest) a w :=
  wpList_load_row hgd 32 x ho b hx 32 #[.int .i64 most, .int .i64 life, vL] (0, 0) _ hk Try.underlying32 rfl (by kernel_rfl) h
theorem wpList_store_tb (w₀ w : World) {ops : Array Oper} {rest : List Oper} {o : Oper} {a : Act} {Q : Exit → Act → World → Prop} (hgd : o.guard = none) (x y : Operand) (ho : o.op = .store 32 x y) (hdst : o.dst = none)
    (g : Nat) (hx : a.eval x = .pointer (some ⟨g, 0, none⟩)) (most life : Int) (vL : Value) (hy : a.eval y = .agg #[.int .i64 most, .int .i64 life, vL]) (h1 : vL.oneCell' = true) (m0 l0 : Int) (v0 : Value) (hb : TbBlk w g m0 l0 v0)
    (hgr : Grow w₀ w) (hg : w₀.heap.size ≤ g) (h : ∀ w', TbBlk w' g most life vL → But g w w' → Grow w₀ w' → wpList Try.prog ops Q rest a w') : wpList Try.prog ops Q (o :: rest) a w :=
  wpList_store_cs w₀ w hgd 32 x y ho hdst g 0 (.agg #[.int .i64 most, .int .i64 life, vL]) hx hy [.int .i64 most, .int .i64 life, vL] rfl 32 _ #[.int .i64 most, .int .i64 life, vL] hb (by kernel_rfl) (by
    intro y hy
    simp only [List.mem_cons, List.not_mem_nil, or_false] at hy
    rcases hy with rfl | rfl | rfl <;> first | rfl | exact h1) (Nat.le_refl 3) rfl hgr hg h
end Go.Proofs.Ytfjmcfkpbacicaa
/- Contracts: the reference's find and top. -/
namespace Go.Proofs.Ytfjmcfkpbacicaa
set_option linter.unusedVariables false
set_option linter.unusedSimpArgs false
open Go.ChangeShapes Go.WideShapes Go.ChangeAt Go.RowKit

theorem Bools.at_ {w : World} {base : Nat} {v : Value} {hs : List Bool} (h : Bools w base v hs) : ∃ A c, v = .slice A hs.length c ∧ hs.length ≤ c ∧ c ≤ maxLen ∧ (0 < hs.length → ∃ g, A = some ⟨g, 0, none⟩ ∧ g < w.heap.size ∧ base ≤ g ∧ ∀ j (hj : j < hs.length), w.cell? ⟨g, j, none⟩ = some (.bool hs[j])) := by
  have h0 := h
  rcases h.2 with ⟨rfl, e⟩ | ⟨g, cap, cur, rfl, e2, hh, hn, hm, hc, ht⟩
  · have e : hs.length = 0 := by simpa using e
    exact ⟨none, 0, by rw [e], by omega, Nat.zero_le _, fun h => absurd h (by omega)⟩
  · obtain ⟨h1, h2, h3⟩ := Bools.cell h0
    exact ⟨_, cap, rfl, hn, hm, fun _ => ⟨g, rfl, h1, h2, fun j hj => (h3 j hj).1⟩⟩
theorem Bools.grow {w w' : World} {base : Nat} {v : Value} {hs : List Bool} (h : Bools w base v hs) (g : Grow w w') : Bools w' base v hs := ownsRow_other h fun b cs _ hh => g.block b (Array.getElem?_eq_some_iff.1 hh).1
theorem look_isSome {c : Cont} {j : Nat} (hj : j < (c.map Option.isSome).length) : (c.map Option.isSome)[j] = (look c j).isSome := by
  rw [List.length_map] at hj
  unfold look
  rw [List.getElem_map, List.getElem?_eq_getElem hj]
  rfl
set_option maxHeartbeats 2000000 in
theorem rTop_any (w : World) (base : Nat) (q : Rq) (h : q.Ok base w) (hl : ∀ n, q.t.c.length = n + 1 → ∃ b, look q.t.c n = some b) (ht : q.t.c.length ≤ 65515) :
    Calls Try.prog 35 #[rfV q.x] w fun e w' => e = .returned (.int .i64 (q.t.c.length : Nat)) ∧ Grow w w' := by
  obtain ⟨x, t⟩ := q
  have hh := h.h
  simp only at hh hl ht ⊢
  obtain ⟨W1, hW1⟩ : ∃ W1, W1 = w.alloc (.cells (rfA x) 78) := ⟨_, rfl⟩
  have hg1 : Grow w W1 := by rw [hW1]; exact Grow.alloc _ _
  have hB : RfBlk W1 w.heap.size x := by rw [hW1]; exact heap_alloc_new w _
  obtain ⟨A, c', hv, hlc, hcm, hcell⟩ := (Bools.grow hh hg1).at_
  have p5 : W1.cell? ⟨w.heap.size, 5, none⟩ = some (.slice A (t.c.map Option.isSome).length c') := by rw [← hv]; exact hB.cell 5
  obtain ⟨n, hn⟩ : ∃ n, n = (t.c.map Option.isSome).length := ⟨_, rfl⟩
  have hn2 : n = t.c.length := by rw [hn, List.length_map]
  rw [← hn] at p5 hlc
  have HC := Lib.hid (And.intro hcell (And.intro hn2 (And.intro hl hn)))
  have hn65 : n ≤ 65515 := by omega
  have HG := Lib.hid hg1
  unfold maxLen at hcm
  clear hcell hn hn2 hl hh h hv hB hg1 ht
  go_enter Try.func35, Try.ntmps35
  go_upto_region 1 with fail
  rw [← hW1]
  clear hW1
  go_wp2_with fail
  go_loopg [3, 4] n (fun gk s3 s4 wr => ∃ (i m : Nat), i ≤ n ∧ gk = n - i ∧ s4 = .int .i64 (i : Int) ∧ s3 = .int .i64 (m : Int) ∧ m ≤ i ∧ (i = n → m = n) ∧ wr = W1)
  case atStart => exact ⟨0, 0, Nat.zero_le _, rfl, rfl, rfl, Nat.le_refl _, fun h => h, rfl⟩
  case round =>
    obtain ⟨i, m, hi, rfl, rfl, rfl, hm, hlast, rfl⟩ := hrel
    rcases Nat.lt_or_ge i n with hlt | hge
    · have dlt : decide ((i : Int) < (n : Int)) = true := decide_eq_true (by omega)
      obtain ⟨g, rfl, hgl, _, hc⟩ := HC.out.1 (by have := HC.out.2.2.2; omega)
      have hic : (i : Int) < (n : Int) := by omega
      have hij : i < (t.c.map Option.isSome).length := by rw [← HC.out.2.2.2]; exact hlt
      have hci := hc i hij
      rw [look_isSome hij] at hci
      clear hc hlast
      cases hs : (look t.c i).isSome with
      | true =>
        rw [hs] at hci
        clear hs
        go_wp2_with fail
        go_roundg (n - (i + 1))
        case measure => omega
        case rel => exact ⟨i + 1, i + 1, hlt, rfl, by go_num, by go_num, Nat.le_refl _, fun h => h, rfl⟩
      | false =>
        have hne : i + 1 ≠ n := fun e => by
          obtain ⟨b, hb⟩ := HC.out.2.2.1 i (by rw [← HC.out.2.1]; omega)
          rw [hb] at hs
          cases hs
        have HNE := Lib.hid hne
        rw [hs] at hci
        clear hs hne
        go_wp2_with fail
        go_roundg (n - (i + 1))
        case measure => omega
        case rel => exact ⟨i + 1, m, hlt, rfl, by go_num, rfl, by omega, fun h => absurd h HNE.out, rfl⟩
    · have hin : i = n := by omega
      have dlt : decide ((i : Int) < (n : Int)) = false := decide_eq_false (by omega)
      have HM := Lib.hid (hlast hin)
      clear hlast hin
      go_wp2_with fail
      go_ret
      exact ⟨by rw [HM.out, HC.out.2.1]; rfl, HG.out⟩

def idxI (A : List Wt) (x : Nm) : Int := match idxOf A x with | some i => (i : Int) | none => -1
theorem idxI_at {A : List Wt} {x : Nm} {i : Nat} {t : Wt} (hi : A[i]? = some t) (h : t.nm = x) (hb : ∀ j u, j < i → A[j]? = some u → u.nm ≠ x) : idxI A x = (i : Int) := by
  have e : idxOf A x = some i := by
    unfold idxOf
    rw [List.findIdx?_eq_some_iff_getElem]
    obtain ⟨h1, h2⟩ := List.getElem?_eq_some_iff.1 hi
    exact ⟨h1, by rw [h2]; simpa using h, fun j hj => by simpa using hb j _ hj (List.getElem?_eq_getElem (Nat.lt_trans hj h1))⟩
  unfold idxI
  rw [e]
theorem idxI_none {A : List Wt} {x : Nm} (h : ∀ (j : Nat) u, A[j]? = some u → u.nm ≠ x) : idxI A x = -1 := by
  have e : idxOf A x = none := by
    unfold idxOf
    rw [List.findIdx?_eq_none_iff]
    intro t ht
    obtain ⟨j, hj, rfl⟩ := List.getElem_of_mem ht
    simpa using h j _ (List.getElem?_eq_getElem hj)
  unfold idxI
  rw [e]
set_option maxRecDepth 10000 in
set_option maxHeartbeats 4000000 in
theorem rFind_any (w : World) (base : Nat) (v : Value) (most life : Int) (A : List Wt) (hT : RTab w base v most life A) (h64 : A.length ≤ 64) (k : Pkt) (vo vd : Value) (hk : Ip w (ipV k vo vd) k) :
    Calls Try.prog 34 #[v, ipV k vo vd] w fun e w' => e = .returned (.int .i64 (idxI A (nmOf k))) ∧ Grow w w' := by
  obtain ⟨vL, l, rfl, hrow, hok, hA⟩ := hT
  obtain ⟨Ao, co, Bo, dO, e, ho, hd, hkk⟩ := hk.form
  simp only [ipV, Value.agg.injEq, Array.mk.injEq, List.cons.injEq, and_true, true_and] at e
  obtain ⟨rfl, rfl⟩ := e
  obtain ⟨A1, c1, rfl, hlc, hcm⟩ := (RdK.of_own hrow).form
  obtain ⟨W1, hW1⟩ : ∃ W1, W1 = (w.alloc (.cells #[.int .i64 most, .int .i64 life, .slice A1 (l.map Rq.x).length c1] 32)).alloc (.cells #[.int .u8 (k.tos : Int), .int .u16 (k.ident : Int), .bool k.whole, .bool k.more, .int .i64 k.off, .int .u8 (k.ttl : Int), .int .u8 (k.proto : Int), .int .u32 (k.src : Int), .int .u32 (k.dst : Int), .slice Ao k.opts.length co, .slice Bo k.data.length dO] 38) := ⟨_, rfl⟩
  have hgA := Grow.alloc w (.cells #[.int .i64 most, .int .i64 life, .slice A1 (l.map Rq.x).length c1] 32)
  have hg1 : Grow w W1 := by rw [hW1]; exact hgA.trans (Grow.alloc _ _)
  have hTB : TbBlk W1 w.heap.size most life (.slice A1 (l.map Rq.x).length c1) := by
    rw [hW1]
    exact TbBlk.grow (heap_alloc_new w _) (Grow.alloc _ _)
  have hIB : Blk W1 (w.heap.size + 1) k (.slice Ao k.opts.length co) (.slice Bo k.data.length dO) := by
    rw [hW1]
    have := Blk.new (w.alloc (.cells #[.int .i64 most, .int .i64 life, .slice A1 (l.map Rq.x).length c1] 32)) k (.slice Ao k.opts.length co) (.slice Bo k.data.length dO)
    rwa [show (w.alloc (.cells #[.int .i64 most, .int .i64 life, .slice A1 (l.map Rq.x).length c1] 32)).heap.size = w.heap.size + 1 by simp] at this
  have hrd := (RdK.of_own hrow).grow hg1
  obtain ⟨n, hn⟩ : ∃ n, n = (l.map Rq.x).length := ⟨_, rfl⟩
  have hnA : n = A.length := by rw [hn, ← hA, List.length_map, List.length_map]
  rw [← hn] at hTB hlc hrd hW1 ⊢
  have hn64 : n ≤ 64 := by omega
  have t2 := hTB.c2
  have hsz : W1.heap.size = w.heap.size + 2 := by rw [hW1]; simp
  have HT := Lib.hid (And.intro hg1 (And.intro hTB (And.intro hIB (And.intro hrd (And.intro hok (And.intro hA (And.intro hn (And.intro hnA hsz))))))))
  unfold maxLen at hcm
  clear hg1 hTB hIB hrd hok hA hn hnA hrow hk ho hd hsz hgA
  go_enter Try.func34, Try.ntmps34
  go_upto_region 1 with fail
  rw [← hW1]
  clear hW1
  go_wp2_with fail
  go_loopg [5] n (fun gk s5 wr => ∃ i : Nat, i ≤ n ∧ gk = n - i ∧ s5 = .int .i64 (i : Int) ∧ (∀ (j : Nat) u, j < i → A[j]? = some u → u.nm ≠ nmOf k) ∧ Grow W1 wr)
  case atStart => exact ⟨0, Nat.zero_le _, rfl, rfl, fun j u hj => absurd hj (by omega), Grow.refl _⟩
  case round =>
    obtain ⟨i, hi, rfl, rfl, hno, hgr⟩ := hrel
    have HNO := Lib.hid hno
    have HR := Lib.hid hgr
    have t2 := (HT.out.2.1.grow hgr).c2
    clear hno hgr
    rcases Nat.lt_or_ge i n with hlt | hge
    · have dlt : decide ((i : Int) < (n : Int)) = true := decide_eq_true (by omega)
      obtain ⟨b, off, rfl, hbl, hat⟩ := Rfs.at_ (by rw [← HT.out.2.2.2.2.2.2.1]; exact HT.out.2.2.2.1) (show 0 < n by omega)
      have hil : i < l.length := by have := HT.out.2.2.2.2.2.2.1; rw [List.length_map] at this; omega
      have hX := (hat i (by rw [List.length_map]; exact hil)).grow HR.out hbl
      rw [List.getElem_map] at hX
      have hq := HT.out.2.2.2.2.1 _ (List.getElem_mem hil)
      have hnm : ∃ t, A[i]? = some t ∧ l[i].x.nm = t.nm := ⟨l[i].t, by rw [← HT.out.2.2.2.2.2.1, List.getElem?_map, List.getElem?_eq_getElem hil]; rfl, hq.nm⟩
      have hone := hq.one
      generalize hxx : l[i].x = x at *
      have HX := Lib.hid (And.intro hX (And.intro hone hnm))
      have hic : (i : Int) < (n : Int) := by omega
      obtain ⟨W5, hW5⟩ : ∃ W5, W5 = wr.alloc (.cells (rfA ⟨⟨0, 0, 0, 0⟩, .slice none 0 0, .slice none 0 0, 0, false, ⟨0, 0, false, false, 0, 0, 0, 0, 0, [], []⟩, .slice none 0 0, .slice none 0 0, 0⟩) 78) := ⟨_, rfl⟩
      have HB := Lib.hid (fun w' (g : Grow wr w') => HT.out.2.2.1.grow (HR.out.trans g))
      clear hX hat hq hnm hone hxx hil hW5
      obtain ⟨⟨n0, n1, n2, n3⟩, xd, xh, xl, xb, xf, xo, xx, xt⟩ := x
      by_cases a0 : n0 = k.src
      · have e0 : ((n0 : Int) == (k.src : Int)) = true := by rw [beq_iff_eq]; omega
        have f0 : decide ((n0 : Int) = (k.src : Int)) = true := decide_eq_true (by omega)
        by_cases a1 : n1 = k.dst
        · have e1 : ((n1 : Int) == (k.dst : Int)) = true := by rw [beq_iff_eq]; omega
          have f1 : decide ((n1 : Int) = (k.dst : Int)) = true := decide_eq_true (by omega)
          by_cases a2 : n2 = k.proto
          · have e2 : ((n2 : Int) == (k.proto : Int)) = true := by rw [beq_iff_eq]; omega
            have f2 : decide ((n2 : Int) = (k.proto : Int)) = true := decide_eq_true (by omega)
            by_cases a3 : n3 = k.ident
            · have e3 : ((n3 : Int) == (k.ident : Int)) = true := by rw [beq_iff_eq]; omega
              have f3 : decide ((n3 : Int) = (k.ident : Int)) = true := decide_eq_true (by omega)
              have HI : Hid (idxI A (nmOf k) = (i : Int)) := by
                obtain ⟨t, h1, h2⟩ := HX.out.2.2
                exact idxI_at h1 (by rw [← h2]; simp only [nmOf, Nm.mk.injEq]; exact ⟨a0, a1, a2, a3⟩) HNO.out
              clear a0 a1 a2 a3
              go_wp2_with (first | (show wpList _ _ _ (⟨none, .store 78 (.tmp 6) (.tmp 18), _, _, _, _⟩ :: _) _ _; refine wpList_store_rf wr _ rfl _ _ rfl rfl wr.heap.size rfl ⟨⟨n0, n1, n2, n3⟩, xd, xh, xl, xb, xf, xo, xx, xt⟩ rfl HX.out.2.1 _ (heap_alloc_new wr _) rfl (Grow.alloc wr _) (Nat.le_refl _) ?_; intro wZ hZ hbZ gZ; have HZ := Lib.hid gZ; have z0 : wZ.cell? ⟨wr.heap.size, 0, none⟩ = some (.int .u32 (n0 : Int)) := hZ.cell 0; have z1 : wZ.cell? ⟨wr.heap.size, 1, none⟩ = some (.int .u32 (n1 : Int)) := hZ.cell 1; have z2 : wZ.cell? ⟨wr.heap.size, 2, none⟩ = some (.int .u8 (n2 : Int)) := hZ.cell 2; have z3 : wZ.cell? ⟨wr.heap.size, 3, none⟩ = some (.int .u16 (n3 : Int)) := hZ.cell 3; obtain ⟨p0, p1, p2, p3, p4, p5, p6, p7, p8, p9, p10⟩ := (HB.out wZ gZ).boxd; clear hZ hbZ gZ) | (show wpList _ _ _ (⟨some 18, .load 78 (.tmp 17), _, _, _, _⟩ :: _) _ _; refine wpList_load_rf wr rfl _ rfl b (off + i * 20) rfl ⟨⟨n0, n1, n2, n3⟩, xd, xh, xl, xb, xf, xo, xx, xt⟩ HX.out.1 ?_))
              go_ret
              exact ⟨by rw [HI.out]; rfl, HT.out.1.trans (HR.out.trans HZ.out)⟩
            · have e3 : ((n3 : Int) == (k.ident : Int)) = false := by rw [beq_eq_false_iff_ne]; omega
              have f3 : decide ((n3 : Int) = (k.ident : Int)) = false := decide_eq_false (by omega)
              have HI : Hid (∀ u, A[i]? = some u → u.nm ≠ nmOf k) := fun u hu e => by
                obtain ⟨t, h1, h2⟩ := HX.out.2.2
                rw [h1] at hu
                cases hu
                rw [← h2] at e
                simp only [nmOf, Nm.mk.injEq] at e
                omega
              clear a0 a1 a2 a3
              go_wp2_with (first | (show wpList _ _ _ (⟨none, .store 78 (.tmp 6) (.tmp 18), _, _, _, _⟩ :: _) _ _; refine wpList_store_rf wr _ rfl _ _ rfl rfl wr.heap.size rfl ⟨⟨n0, n1, n2, n3⟩, xd, xh, xl, xb, xf, xo, xx, xt⟩ rfl HX.out.2.1 _ (heap_alloc_new wr _) rfl (Grow.alloc wr _) (Nat.le_refl _) ?_; intro wZ hZ hbZ gZ; have HZ := Lib.hid gZ; have z0 : wZ.cell? ⟨wr.heap.size, 0, none⟩ = some (.int .u32 (n0 : Int)) := hZ.cell 0; have z1 : wZ.cell? ⟨wr.heap.size, 1, none⟩ = some (.int .u32 (n1 : Int)) := hZ.cell 1; have z2 : wZ.cell? ⟨wr.heap.size, 2, none⟩ = some (.int .u8 (n2 : Int)) := hZ.cell 2; have z3 : wZ.cell? ⟨wr.heap.size, 3, none⟩ = some (.int .u16 (n3 : Int)) := hZ.cell 3; obtain ⟨p0, p1, p2, p3, p4, p5, p6, p7, p8, p9, p10⟩ := (HB.out wZ gZ).boxd; clear hZ hbZ gZ) | (show wpList _ _ _ (⟨some 18, .load 78 (.tmp 17), _, _, _, _⟩ :: _) _ _; refine wpList_load_rf wr rfl _ rfl b (off + i * 20) rfl ⟨⟨n0, n1, n2, n3⟩, xd, xh, xl, xb, xf, xo, xx, xt⟩ HX.out.1 ?_))
              go_roundg (n - (i + 1))
              case measure => omega
              case rel =>
                refine ⟨i + 1, hlt, rfl, by go_num, fun j u hj hu => ?_, HR.out.trans HZ.out⟩
                by_cases e : j = i
                · subst e; exact HI.out u hu
                · exact HNO.out j u (by omega) hu
          · have e2 : ((n2 : Int) == (k.proto : Int)) = false := by rw [beq_eq_false_iff_ne]; omega
            have f2 : decide ((n2 : Int) = (k.proto : Int)) = false := decide_eq_false (by omega)
            have HI : Hid (∀ u, A[i]? = some u → u.nm ≠ nmOf k) := fun u hu e => by
              obtain ⟨t, h1, h2⟩ := HX.out.2.2
              rw [h1] at hu
              cases hu
              rw [← h2] at e
              simp only [nmOf, Nm.mk.injEq] at e
              omega
            clear a0 a1 a2
            go_wp2_with (first | (show wpList _ _ _ (⟨none, .store 78 (.tmp 6) (.tmp 18), _, _, _, _⟩ :: _) _ _; refine wpList_store_rf wr _ rfl _ _ rfl rfl wr.heap.size rfl ⟨⟨n0, n1, n2, n3⟩, xd, xh, xl, xb, xf, xo, xx, xt⟩ rfl HX.out.2.1 _ (heap_alloc_new wr _) rfl (Grow.alloc wr _) (Nat.le_refl _) ?_; intro wZ hZ hbZ gZ; have HZ := Lib.hid gZ; have z0 : wZ.cell? ⟨wr.heap.size, 0, none⟩ = some (.int .u32 (n0 : Int)) := hZ.cell 0; have z1 : wZ.cell? ⟨wr.heap.size, 1, none⟩ = some (.int .u32 (n1 : Int)) := hZ.cell 1; have z2 : wZ.cell? ⟨wr.heap.size, 2, none⟩ = some (.int .u8 (n2 : Int)) := hZ.cell 2; have z3 : wZ.cell? ⟨wr.heap.size, 3, none⟩ = some (.int .u16 (n3 : Int)) := hZ.cell 3; obtain ⟨p0, p1, p2, p3, p4, p5, p6, p7, p8, p9, p10⟩ := (HB.out wZ gZ).boxd; clear hZ hbZ gZ) | (show wpList _ _ _ (⟨some 18, .load 78 (.tmp 17), _, _, _, _⟩ :: _) _ _; refine wpList_load_rf wr rfl _ rfl b (off + i * 20) rfl ⟨⟨n0, n1, n2, n3⟩, xd, xh, xl, xb, xf, xo, xx, xt⟩ HX.out.1 ?_))
            go_roundg (n - (i + 1))
            case measure => omega
            case rel =>
              refine ⟨i + 1, hlt, rfl, by go_num, fun j u hj hu => ?_, HR.out.trans HZ.out⟩
              by_cases e : j = i
              · subst e; exact HI.out u hu
              · exact HNO.out j u (by omega) hu
        · have e1 : ((n1 : Int) == (k.dst : Int)) = false := by rw [beq_eq_false_iff_ne]; omega
          have f1 : decide ((n1 : Int) = (k.dst : Int)) = false := decide_eq_false (by omega)
          have HI : Hid (∀ u, A[i]? = some u → u.nm ≠ nmOf k) := fun u hu e => by
            obtain ⟨t, h1, h2⟩ := HX.out.2.2
            rw [h1] at hu
            cases hu
            rw [← h2] at e
            simp only [nmOf, Nm.mk.injEq] at e
            omega
          clear a0 a1
          go_wp2_with (first | (show wpList _ _ _ (⟨none, .store 78 (.tmp 6) (.tmp 18), _, _, _, _⟩ :: _) _ _; refine wpList_store_rf wr _ rfl _ _ rfl rfl wr.heap.size rfl ⟨⟨n0, n1, n2, n3⟩, xd, xh, xl, xb, xf, xo, xx, xt⟩ rfl HX.out.2.1 _ (heap_alloc_new wr _) rfl (Grow.alloc wr _) (Nat.le_refl _) ?_; intro wZ hZ hbZ gZ; have HZ := Lib.hid gZ; have z0 : wZ.cell? ⟨wr.heap.size, 0, none⟩ = some (.int .u32 (n0 : Int)) := hZ.cell 0; have z1 : wZ.cell? ⟨wr.heap.size, 1, none⟩ = some (.int .u32 (n1 : Int)) := hZ.cell 1; have z2 : wZ.cell? ⟨wr.heap.size, 2, none⟩ = some (.int .u8 (n2 : Int)) := hZ.cell 2; have z3 : wZ.cell? ⟨wr.heap.size, 3, none⟩ = some (.int .u16 (n3 : Int)) := hZ.cell 3; obtain ⟨p0, p1, p2, p3, p4, p5, p6, p7, p8, p9, p10⟩ := (HB.out wZ gZ).boxd; clear hZ hbZ gZ) | (show wpList _ _ _ (⟨some 18, .load 78 (.tmp 17), _, _, _, _⟩ :: _) _ _; refine wpList_load_rf wr rfl _ rfl b (off + i * 20) rfl ⟨⟨n0, n1, n2, n3⟩, xd, xh, xl, xb, xf, xo, xx, xt⟩ HX.out.1 ?_))
          go_roundg (n - (i + 1))
          case measure => omega
          case rel =>
            refine ⟨i + 1, hlt, rfl, by go_num, fun j u hj hu => ?_, HR.out.trans HZ.out⟩
            by_cases e : j = i
            · subst e; exact HI.out u hu
            · exact HNO.out j u (by omega) hu
      · have e0 : ((n0 : Int) == (k.src : Int)) = false := by rw [beq_eq_false_iff_ne]; omega
        have f0 : decide ((n0 : Int) = (k.src : Int)) = false := decide_eq_false (by omega)
        have HI : Hid (∀ u, A[i]? = some u → u.nm ≠ nmOf k) := fun u hu e => by
          obtain ⟨t, h1, h2⟩ := HX.out.2.2
          rw [h1] at hu
          cases hu
          rw [← h2] at e
          simp only [nmOf, Nm.mk.injEq] at e
          omega
        clear a0
        go_wp2_with (first | (show wpList _ _ _ (⟨none, .store 78 (.tmp 6) (.tmp 18), _, _, _, _⟩ :: _) _ _; refine wpList_store_rf wr _ rfl _ _ rfl rfl wr.heap.size rfl ⟨⟨n0, n1, n2, n3⟩, xd, xh, xl, xb, xf, xo, xx, xt⟩ rfl HX.out.2.1 _ (heap_alloc_new wr _) rfl (Grow.alloc wr _) (Nat.le_refl _) ?_; intro wZ hZ hbZ gZ; have HZ := Lib.hid gZ; have z0 : wZ.cell? ⟨wr.heap.size, 0, none⟩ = some (.int .u32 (n0 : Int)) := hZ.cell 0; have z1 : wZ.cell? ⟨wr.heap.size, 1, none⟩ = some (.int .u32 (n1 : Int)) := hZ.cell 1; have z2 : wZ.cell? ⟨wr.heap.size, 2, none⟩ = some (.int .u8 (n2 : Int)) := hZ.cell 2; have z3 : wZ.cell? ⟨wr.heap.size, 3, none⟩ = some (.int .u16 (n3 : Int)) := hZ.cell 3; obtain ⟨p0, p1, p2, p3, p4, p5, p6, p7, p8, p9, p10⟩ := (HB.out wZ gZ).boxd; clear hZ hbZ gZ) | (show wpList _ _ _ (⟨some 18, .load 78 (.tmp 17), _, _, _, _⟩ :: _) _ _; refine wpList_load_rf wr rfl _ rfl b (off + i * 20) rfl ⟨⟨n0, n1, n2, n3⟩, xd, xh, xl, xb, xf, xo, xx, xt⟩ HX.out.1 ?_))
        go_roundg (n - (i + 1))
        case measure => omega
        case rel =>
          refine ⟨i + 1, hlt, rfl, by go_num, fun j u hj hu => ?_, HR.out.trans HZ.out⟩
          by_cases e : j = i
          · subst e; exact HI.out u hu
          · exact HNO.out j u (by omega) hu
    · have hin : i = n := by omega
      have dlt : decide ((i : Int) < (n : Int)) = false := decide_eq_false (by omega)
      have HN : Hid (idxI A (nmOf k) = -1) := idxI_none fun j u hu => HNO.out j u (by have := HT.out.2.2.2.2.2.2.2.1; have := (List.getElem?_eq_some_iff.1 hu).1; omega) hu
      clear hin
      go_wp2_with fail
      go_ret
      exact ⟨by rw [HN.out]; rfl, HT.out.1.trans HR.out⟩
end Go.Proofs.Ytfjmcfkpbacicaa
/- Contract: the reference's copied. -/
namespace Go.Proofs.Ytfjmcfkpbacicaa
set_option linter.unusedVariables false
set_option linter.unusedSimpArgs false
open Go.ChangeShapes Go.WideShapes Go.ChangeAt Go.RowKit

/-- A row of one type stays where a row of another type grows. -/
theorem ownsRow_past {w w' : World} {b1 b2 k1 k2 n1 n2 : Nat} {e1 e2 : TypeId} {v1 v2 : Value} {xs1 xs2 : List Value} (h1 : w.ownsRow b1 e1 k1 v1 n1 xs1) (h2 : w.ownsRow b2 e2 k2 v2 n2 xs2) (hne : e1 ≠ e2) (g : w.grownBy w' v2.ownBlock) : w'.ownsRow b1 e1 k1 v1 n1 xs1 :=
  ownsRow_other h1 fun b cs hb hh => g.block b (Array.getElem?_eq_some_iff.1 hh).1 fun e => by
    obtain ⟨cs2, hh2, _⟩ := ownsRow_blk h2 e.symm
    rw [hh] at hh2
    cases hh2
    exact hne rfl
/-- append onto rows of bytes. -/
theorem wpList_appD (w₀ w : World) {ops : Array Oper} {rest : List Oper} {o : Oper} {a : Act} {Q : Exit → Act → World → Prop} (hgd : o.guard = none) (s x : Operand)
    (ho : o.op = .call { callee := .builtin .append, args := #[s, x], argTypes := #[36, 36] })
    (v u : Value) (xs ys : List UInt8) (hs : a.eval s = v) (hx : a.eval x = u) (hown : Own w w₀.heap.size v xs) (hr : RdK w 1 u ys.length (ys.map bv)) (hlen : xs.length + ys.length ≤ 100000000) (hgr : Grow w₀ w)
    (h : ∀ v' w', Own w' w₀.heap.size v' (xs ++ ys) → Grow w₀ w' → w.grownBy w' v.ownBlock → wpList Try.prog ops Q rest (a.put o.dst v') w') : wpList Try.prog ops Q (o :: rest) a w :=
  wpList_appK w hgd s x 36 ho 5 (.int .u8 0) 1 1 Try.underlying36 infoByte rfl (by decide) w₀.heap.size v u xs.length ys.length (xs.map bv) (ys.map bv) hs hx hown hr
    (bv_one _) (by omega) (by unfold maxLen; omega) hgr.size fun v' w' h1 h2 _ => h v' w' (by unfold Own; rw [List.length_append, List.map_append]; exact h1) (hgr.grown h2 hgr.size fun k hk => (World.ownsRow.lt hown k hk).1) h2
/-- append onto rows of booleans. -/
theorem wpList_appB (w₀ w : World) {ops : Array Oper} {rest : List Oper} {o : Oper} {a : Act} {Q : Exit → Act → World → Prop} (hgd : o.guard = none) (s x : Operand)
    (ho : o.op = .call { callee := .builtin .append, args := #[s, x], argTypes := #[59, 59] })
    (v u : Value) (xs ys : List Bool) (hs : a.eval s = v) (hx : a.eval x = u) (hown : Bools w w₀.heap.size v xs) (hr : RdK w 1 u ys.length (ys.map Value.bool)) (hlen : xs.length + ys.length ≤ 100000000) (hgr : Grow w₀ w)
    (h : ∀ v' w', Bools w' w₀.heap.size v' (xs ++ ys) → Grow w₀ w' → w.grownBy w' v.ownBlock → wpList Try.prog ops Q rest (a.put o.dst v') w') : wpList Try.prog ops Q (o :: rest) a w :=
  wpList_appK w hgd s x 59 ho 4 (.bool false) 1 1 Try.underlying59 infoBool rfl (by decide) w₀.heap.size v u xs.length ys.length (xs.map Value.bool) (ys.map Value.bool) hs hx hown hr
    (fun y hy => by obtain ⟨b, _, rfl⟩ := List.mem_map.1 hy; rfl) (by omega) (by unfold maxLen; omega) hgr.size fun v' w' h1 h2 _ => h v' w' (by unfold Bools; rw [List.length_append, List.map_append]; exact h1) (hgr.grown h2 hgr.size fun k hk => (World.ownsRow.lt hown k hk).1) h2
theorem ownsRow_but {w w' : World} {g base k n : Nat} {e : TypeId} {v : Value} {xs : List Value} (h : w.ownsRow base e k v n xs) (hb : But g w w') (hg : g < base) : w'.ownsRow base e k v n xs :=
  ownsRow_other h fun b cs hb1 hh => hb.2 b (by have := (World.ownsRow.lt h b hb1).1; omega)
def pad (c : Cont) (n : Nat) : Cont := c ++ List.replicate (n - c.length) none
theorem pad_more {c : Cont} {n : Nat} (h : c.length < n) : pad (c ++ [none]) n = pad c n := by
  unfold pad
  rw [List.length_append, List.append_assoc, show n - c.length = (n - (c.length + [(none : Option UInt8)].length)) + 1 by simp; omega, List.replicate_succ]
  rfl
theorem pad_done {c : Cont} {n : Nat} (h : n ≤ c.length) : pad c n = c := by
  unfold pad
  rw [show n - c.length = 0 by omega]
  simp
theorem pad_length (c : Cont) (n : Nat) : (pad c n).length = max c.length n := by
  unfold pad
  rw [List.length_append, List.length_replicate]
  omega
theorem Bools.empty (w : World) (base : Nat) (hb : base ≤ w.heap.size) : Bools (w.alloc (.cells #[] 4)) base (.slice (some ⟨w.heap.size, 0, none⟩) 0 0) [] := World.ownsRow_lit w #[] 0 hb (Nat.zero_le _) rfl
/-- What copied keeps: bytes and flags. -/
structure Cp (W : World) (n : Nat) (c0 : Cont) (vd vh : Value) (c : Cont) (wr : World) : Prop where
  d : Own wr W.heap.size vd (c.map byteOf)
  h : Bools wr W.heap.size vh (c.map Option.isSome)
  pad_ : pad c n = pad c0 n
  grow : Grow W wr
  len : c.length ≤ 65515
set_option maxRecDepth 10000 in
set_option maxHeartbeats 4000000 in
theorem rCopied_any (w : World) (base : Nat) (q : Rq) (h : q.Ok base w) (hc : q.t.c.length ≤ 65515) (n : Nat) (hn : n ≤ 65515) :
    Calls Try.prog 36 #[rfV q.x, .int .i64 (n : Int)] w fun e w' => ∃ vd vh, e = .returned (rfV { q.x with vd := vd, vh := vh }) ∧ Own w' w.heap.size vd ((pad q.t.c n).map byteOf) ∧ Bools w' w.heap.size vh ((pad q.t.c n).map Option.isSome) ∧ Grow w w' := by
  obtain ⟨x, t⟩ := q
  have hh := h.h
  have hd := h.d
  have hone := h.one
  simp only at hh hd hone hc ⊢
  obtain ⟨xn, xd, xh, xl, xb, xf, xo, xx, xt⟩ := x
  simp only at hh hd
  obtain ⟨A4, c4, e4, h4a, h4b⟩ := (RdK.of_own hd).form
  obtain ⟨A5, c5, e5, h5a, h5b⟩ := (RdK.of_own hh).form
  subst e4 e5
  generalize hL : (List.map byteOf t.c).length = n4 at *
  generalize hM : (List.map Option.isSome t.c).length = n5 at *
  obtain ⟨x, hx⟩ : ∃ x : Rf, x = ⟨xn, .slice A4 n4 c4, .slice A5 n5 c5, xl, xb, xf, xo, xx, xt⟩ := ⟨_, rfl⟩
  rw [← hx] at hone ⊢
  obtain ⟨W1, hW1⟩ : ∃ W1, W1 = (w.alloc (.cells (rfA x) 78)).alloc (.cells rf0 78) := ⟨_, rfl⟩
  have hgA := Grow.alloc w (.cells (rfA x) 78)
  have hg1 : Grow w W1 := by rw [hW1]; exact hgA.trans (Grow.alloc _ _)
  have hB : RfBlk W1 w.heap.size x := by
    rw [hW1]
    exact RfBlk.grow (heap_alloc_new w _) (Grow.alloc _ _)
  have hZ : W1.heap[w.heap.size + 1]? = some (.cells rf0 78 (0, 0)) := by
    have := heap_alloc_new (w.alloc (.cells (rfA x) 78)) (.cells rf0 78)
    rw [show (w.alloc (.cells (rfA x) 78)).heap.size = w.heap.size + 1 by simp] at this
    rw [hW1]
    exact this
  have hsz : W1.heap.size = w.heap.size + 2 := by rw [hW1]; simp
  have HB := Lib.hid (And.intro hg1 (And.intro hB (And.intro hZ (And.intro hsz (And.intro hone (And.intro (Own.byt (hd.grow hg1)) (RdK.of_own (Bools.grow hh hg1))))))))
  have HP : Hid (∀ w', Grow W1 w' → w'.cell? ⟨w.heap.size, 4, none⟩ = some (.slice A4 n4 c4) ∧ w'.cell? ⟨w.heap.size, 5, none⟩ = some (.slice A5 n5 c5)) := fun w' g => by
    have h := hB.grow g
    rw [hx] at h
    exact ⟨h.cell 4, h.cell 5⟩
  have HX := Lib.hid hx
  clear hg1 hB hZ hone hd hh hgA h hsz hx
  have p4 := (HP.out _ (Grow.alloc W1 (.cells #[] 5))).1
  have HL := Lib.hid (And.intro hL hM)
  clear hL hM
  go_enter Try.func36, Try.ntmps36
  go_upto_region 1 with fail
  rw [← hW1]
  clear hW1
  go_wp2_with (first | (at_builtin; refine wpList_app W1 _ rfl (.tmp 7) (.tmp 9) rfl _ (.slice A4 n4 c4) [] (t.c.map byteOf) rfl rfl (Own.empty W1) (Grow.alloc W1 _) (HB.out.2.2.2.2.2.1.grow (Grow.alloc W1 _)) (by simp; omega) ?_; intro vd1 w2 ho2 hg2; have H2 := Lib.hid (And.intro ho2 hg2); have p5 := (HP.out _ (hg2.trans (Grow.alloc w2 (.cells #[] 4)))).2; clear p4 ho2 hg2) | (at_builtin; refine wpList_appB W1 _ rfl (.tmp 11) (.tmp 13) rfl _ (.slice A5 n5 c5) [] (t.c.map Option.isSome) rfl rfl (Bools.empty w2 _ H2.out.2.size) (HB.out.2.2.2.2.2.2.grow (H2.out.2.trans (Grow.alloc w2 _))) (by simp; omega) (H2.out.2.trans (Grow.alloc w2 _)) ?_; intro vh1 w3 ho3 hg3 hgb3; have H3 : Hid (Cp W1 n t.c vd1 vh1 t.c w3) := ⟨ownsRow_past (H2.out.1.grow (Grow.alloc w2 _)) (Bools.empty w2 _ H2.out.2.size) (by decide) hgb3, ho3, rfl, hg3, hc⟩; clear p5 ho3 hg3 hgb3))
  go_loopg [5, 6] (n - t.c.length) (fun gk s5 s6 wr => ∃ (c : Cont) (v1 v2 : Value), gk = n - c.length ∧ s5 = v1 ∧ s6 = v2 ∧ Cp W1 n t.c v1 v2 c wr)
  case atStart => exact ⟨t.c, _, _, rfl, rfl, rfl, H3.out⟩
  case round =>
    obtain ⟨c, v1, v2, rfl, e1, e2, hC⟩ := hrel
    obtain ⟨A1, c1, f1, g1a, g1b⟩ := (RdK.of_own hC.d).form
    obtain ⟨A2, c2, f2, g2a, g2b⟩ := (RdK.of_own hC.h).form
    rw [List.length_map] at f1 f2 g1a g2a
    subst f1 f2
    subst e1 e2
    unfold maxLen at g1b g2b
    obtain ⟨m, hm⟩ : ∃ m, m = c.length := ⟨_, rfl⟩
    rw [← hm] at hC g1a g2a ⊢
    have HM := Lib.hid hm
    have hm65 : m ≤ 65515 := by have := hC.len; omega
    rcases Nat.lt_or_ge m n with hlt | hge
    · have dlt : decide ((m : Int) < (n : Int)) = true := decide_eq_true (by omega)
      have HC := Lib.hid hC
      clear hC hm
      go_wp2_with (first | (at_builtin; refine wpList_appD W1 _ rfl (.tmp 19) (.tmp 20) rfl (.slice A1 m c1) _ (c.map byteOf) [0] rfl rfl (HC.out.d.grow (Grow.alloc _ _)) (RdK.of_own (World.ownsRow_lit (base := 0) (e := 5) (size := 1) wr #[.int .u8 0] 1 (Nat.zero_le _) (by unfold maxLen; omega) rfl)) (by have := HC.out.len; simp; omega) (HC.out.grow.trans (Grow.alloc _ _)) ?_; intro vd5 w5 ho5 hg5 hgb5; have H5 := Lib.hid (And.intro ho5 (And.intro hg5 (ownsRow_past (Bools.grow HC.out.h (Grow.alloc wr (.cells #[.int .u8 0] 5))) (HC.out.d.grow (Grow.alloc wr (.cells #[.int .u8 0] 5))) (by decide) hgb5))); clear ho5 hg5 hgb5) | (at_builtin; refine wpList_appB W1 _ rfl (.tmp 22) (.tmp 23) rfl (.slice A2 m c2) _ (c.map Option.isSome) [false] rfl rfl (Bools.grow H5.out.2.2 (Grow.alloc _ _)) (RdK.of_own (World.ownsRow_lit (base := 0) (e := 4) (size := 1) w5 #[.bool false] 1 (Nat.zero_le _) (by unfold maxLen; omega) rfl)) (by have := HC.out.len; simp; omega) (H5.out.2.1.trans (Grow.alloc _ _)) ?_; intro vh6 w6 ho6 hg6 hgb6; have H6 : Hid (Cp W1 n t.c vd5 vh6 (c ++ [none]) w6) := ⟨by rw [List.map_append]; exact ownsRow_past (H5.out.1.grow (Grow.alloc w5 _)) (Bools.grow H5.out.2.2 (Grow.alloc w5 _)) (by decide) hgb6, by rw [List.map_append]; exact ho6, (pad_more (by have := HM.out; omega)).trans HC.out.pad_, hg6, by rw [List.length_append]; have := HM.out; simp; omega⟩; clear ho6 hg6 hgb6))
      go_roundg (n - (m + 1))
      case measure => have := HM.out; omega
      case rel => exact ⟨c ++ [none], _, _, by rw [List.length_append, ← HM.out]; rfl, rfl, rfl, H6.out⟩
    · have dlt : decide ((m : Int) < (n : Int)) = false := decide_eq_false (by omega)
      have hce : c = pad t.c n := by
        have := hC.pad_
        rwa [pad_done (by omega)] at this
      have HC := Lib.hid (And.intro hC hce)
      have HW : Hid (∀ w', Grow W1 w' → RfBlk w' w.heap.size x ∧ w'.heap[w.heap.size + 1]? = some (.cells rf0 78 (0, 0))) := fun w' g => ⟨HB.out.2.1.grow g, (g.block _ (by have := HB.out.2.2.2.1; omega)).trans HB.out.2.2.1⟩
      have HWr := Lib.hid (HW.out wr hC.grow)
      clear hC hce hm
      have HG := Lib.hid (HB.out.1.trans HC.out.1.grow)
      have H1 : Hid (Rf.One { x with vd := .slice A1 m c1, vh := .slice A2 m c2 }) := ⟨rfl, rfl, HB.out.2.2.2.2.1.2.2.1, HB.out.2.2.2.2.1.2.2.2⟩
      go_wp2_with (first | (show wpList _ _ _ (⟨none, .store 78 (.tmp 4) (.tmp 29), _, _, _, _⟩ :: _) _ _; refine wpList_store_rf w wB rfl _ _ rfl rfl (w.heap.size + 1) rfl { x with vd := .slice A1 m c1, vh := .slice A2 m c2 } rfl H1.out rf0 FB.out.2.1 rfl FB.out.2.2.1 (by omega) ?_; intro wD hD hbD gD; have FD := Lib.hid (And.intro hD (And.intro hbD gD)); clear hD hbD gD) | (show wpList _ _ _ (⟨some 29, .load 78 (.tmp 2), _, _, _, _⟩ :: _) _ _; refine wpList_load_rf wB rfl _ rfl w.heap.size 0 rfl { x with vd := .slice A1 m c1, vh := .slice A2 m c2 } FB.out.1.at_ ?_) | (show wpList _ _ _ (⟨none, .store 59 (.tmp 28) (.tmp 26), _, _, _, _⟩ :: _) _ _; refine wpList_store_rfld w wA rfl _ _ _ rfl rfl w.heap.size 5 (.slice A2 m c2) rfl rfl [.slice A2 m c2] rfl { x with vd := .slice A1 m c1 } { x with vd := .slice A1 m c1, vh := .slice A2 m c2 } FA.out.1 (by kernel_rfl) (fun y hy => by rw [List.mem_singleton.1 hy]; rfl) (by simp) rfl FA.out.2.2.1 (Nat.le_refl _) ?_; intro wB hN hbN gN; have FB := Lib.hid (And.intro hN (And.intro ((hbN.2 _ (by omega)).trans FA.out.2.1) (And.intro gN (And.intro hbN FA.out.2.2.2)))); clear hN hbN gN) | (show wpList _ _ _ (⟨none, .store 36 (.tmp 27) (.tmp 25), _, _, _, _⟩ :: _) _ _; refine wpList_store_rfld w wr rfl _ _ _ rfl rfl w.heap.size 4 (.slice A1 m c1) rfl rfl [.slice A1 m c1] rfl x { x with vd := .slice A1 m c1 } HWr.out.1 (by kernel_rfl) (fun y hy => by rw [List.mem_singleton.1 hy]; rfl) (by simp) rfl HG.out (Nat.le_refl _) ?_; intro wA hN hbN gN; have FA := Lib.hid (And.intro hN (And.intro ((hbN.2 _ (by omega)).trans HWr.out.2) (And.intro gN hbN))); clear hN hbN gN))
      refine bodyPost_ret (results_cell_row rfl _ wD (w.heap.size + 1) _ (rfA { x with vd := .slice A1 m c1, vh := .slice A2 m c2 }) (0, 0) _ rfl FD.out.1 Try.underlying78 rfl (by kernel_rfl)) rfl ?_
      have hb1 : w.heap.size < W1.heap.size := by have := HB.out.2.2.2.1; omega
      have hb2 : w.heap.size + 1 < W1.heap.size := by have := HB.out.2.2.2.1; omega
      refine ⟨_, _, rfl, ?_, ?_, FD.out.2.2⟩
      · rw [← HC.out.2]
        exact Own.base (ownsRow_but (ownsRow_but (ownsRow_but HC.out.1.d FA.out.2.2.2 hb1) FB.out.2.2.2.1 hb1) FD.out.2.1 hb2) (by omega)
      · rw [← HC.out.2]
        exact ownsRow_base (ownsRow_but (ownsRow_but (ownsRow_but HC.out.1.h FA.out.2.2.2 hb1) FB.out.2.2.2.1 hb1) FD.out.2.1 hb2) (by omega)
end Go.Proofs.Ytfjmcfkpbacicaa
