/- Rows of bytes and of booleans: copy, append, make, string(..): of no layer. (From hose's texts; from stage 16 on.) -/
import Derived.Test.YtkblgigpgpjjlaaHsNum
import Derived.Test.YtkblgigpgpjjlaaGw
import Derived.Laws.CopyOwn
import Derived.Laws.NewBlocks
import Derived.Deep.RegionLaw
import Derived.Test.YtkblgigpgpjjlaaRows
import Derived.Deep.LoopGhost
import Derived.Lib.Hide
import Derived.BigQuiet
import Derived.Deep.DeepCutAuto
namespace Go.Proofs.Ytkblgigpgpjjlaa
set_option linter.unusedVariables false
set_option linter.unusedSimpArgs false
open Go.ChangeShapes Go.WideShapes Go.ChangeAt Go.RowKit

theorem over_nil (R : List Value) (k : Nat) : over R k [] = R := by simp [over]
theorem grownBy_setRow' {w : World} {g : Nat} {cs : Array Value} : w.grownBy (w.setRow g cs) (some g) := ⟨rfl, rfl, rfl, by simp [World.setRow], fun k _ hk => by
  have : k ≠ g := fun e => hk (by rw [e])
  simp [World.setRow, Array.getElem?_modify, this.symm]⟩
theorem run_copyRd (w : World) (ty : TypeId) (g k dl dc : Nat) (R : List Value) (u : Value) (ys : List Value) (m : Nat) (hg : w.heap[g]? = some (.cells R.toArray 5 (0, 0))) (hr : Rd w u ys) (hm : m = min ys.length dl) (hfit : k + m ≤ R.length) (h1 : ∀ y ∈ ys, y.oneCell' = true) :
    ∃ w', (Builtin.copy_ #[38, 38] ty #[.slice (some ⟨g, k, none⟩) dl dc, u]).run Try.prog w = .ok (.int .i64 (m : Int)) w' ∧ w'.heap[g]? = some (.cells (over R k (ys.take m)).toArray 5 (0, 0)) ∧ w.grownBy w' (some g) := by
  obtain ⟨A, c, rfl, h2, h3, h4⟩ := hr
  have hsz : (Try.prog.info? 5).map (·.size) = some 1 := by kernel_rfl
  rcases Nat.eq_zero_or_pos ys.length with h0 | h0
  · obtain rfl : m = 0 := by omega
    have hy := List.eq_nil_of_length_eq_zero h0
    subst hy
    refine ⟨w, ?_, by rw [List.take_zero, over_nil]; exact hg, World.grownBy.refl _ _⟩
    cases hq : Try.prog.info? 5 with
    | none => rw [hq] at hsz; cases hsz
    | some i =>
      cases A <;> simp [Builtin.copy_, run_underlying Try.underlying38, Builtin.lenOf, Builtin.firstCells, sizeOf, typeInfo, hq, storeCells, loadCells, loadCellsFrom, goInt]
  · obtain ⟨b, off, rfl, hb, hc⟩ := h4 h0
    have hl : (ys.take m).length = m := by rw [List.length_take]; omega
    have := run_copy_row (P := Try.prog) w 38 38 ty 5 g k dl dc ⟨b, off, none⟩ ys.length c R.toArray 5 (ys.take m) Try.underlying38 hsz hg (by rw [hl, hm]) (fun j v hj => by
      have hjm : j < m := by have := (List.getElem?_eq_some_iff.1 hj).1; omega
      rw [List.getElem?_take_of_lt hjm] at hj
      rw [add_at, hc j (by omega), ← hj, List.getElem?_eq_getElem (by omega)]) (by rw [hl]; simpa using hfit) (fun v hv => h1 v (List.mem_of_mem_take hv))
    refine ⟨_, this.trans (by rw [hl]; rfl), (setRow_heap w g _ _ _ _ hg).trans ?_, grownBy_setRow'⟩
    simp [over]
    omega
theorem wpList_copyRd (w : World) {ops : Array Oper} {rest : List Oper} {o : Oper} {a : Act} {Q : Exit → Act → World → Prop} (hgd : o.guard = none) (d s : Operand)
    (ho : o.op = .call { callee := .builtin .copy, args := #[d, s], argTypes := #[38, 38] }) (g k dl dc : Nat) (R : List Value) (u : Value) (ys : List Value) (m : Nat) (hd : a.eval d = .slice (some ⟨g, k, none⟩) dl dc) (hx : a.eval s = u)
    (hg : w.heap[g]? = some (.cells R.toArray 5 (0, 0))) (hr : Rd w u ys) (hm : m = min ys.length dl) (hfit : k + m ≤ R.length) (h1 : ∀ y ∈ ys, y.oneCell' = true)
    (h : ∀ w', w'.heap[g]? = some (.cells (over R k (ys.take m)).toArray 5 (0, 0)) → w.grownBy w' (some g) → wpList Try.prog ops Q rest (a.put o.dst (.int .i64 (m : Int))) w') : wpList Try.prog ops Q (o :: rest) a w := by
  obtain ⟨w', hrun, h2, h3⟩ := run_copyRd w o.type g k dl dc R u ys m hg hr hm hfit h1
  refine wpList_plain hgd fun _ hK => ?_
  unfold Oper.wp execOp
  simp only [ho, resolve, invoke, builtin, Sem.run_bind, Sem.run_pure, Result.andThen_ok, List.map_toArray, List.map_cons, List.map_nil, hd, hx, hrun]
  exact hK _ _ (h w' h2 h3)
theorem step_copyRd (w : World) {ops : Array Oper} {o : Oper} {a : Act} {K : Act → World → Prop} {Q : Exit → Act → World → Prop} {E : Prop} (hgd : o.guard = none) (d s : Operand)
    (ho : o.op = .call { callee := .builtin .copy, args := #[d, s], argTypes := #[38, 38] }) (g k dl dc : Nat) (R : List Value) (u : Value) (ys : List Value) (m : Nat) (hd : a.eval d = .slice (some ⟨g, k, none⟩) dl dc) (hx : a.eval s = u)
    (hg : w.heap[g]? = some (.cells R.toArray 5 (0, 0))) (hr : Rd w u ys) (hm : m = min ys.length dl) (hfit : k + m ≤ R.length) (h1 : ∀ y ∈ ys, y.oneCell' = true)
    (h : ∀ w', w'.heap[g]? = some (.cells (over R k (ys.take m)).toArray 5 (0, 0)) → w.grownBy w' (some g) → K (a.put o.dst (.int .i64 (m : Int))) w') :
    if Region.wanted o (yielded ops a.tmps) = true then Oper.wp Try.prog o a w K Q else E := by
  have hw : Region.wanted o (yielded ops a.tmps) = true := by simp [Region.wanted, hgd]
  rw [if_pos hw]
  obtain ⟨w', hrun, h2, h3⟩ := run_copyRd w o.type g k dl dc R u ys m hg hr hm hfit h1
  unfold Oper.wp execOp
  simp only [ho, resolve, invoke, builtin, Sem.run_bind, Sem.run_pure, Result.andThen_ok, List.map_toArray, List.map_cons, List.map_nil, hd, hx, hrun]
  exact h w' h2 h3

/-- A row of bytes of the call's own. -/
def Own (w : World) (base : Nat) (v : Value) (l : List UInt8) : Prop := w.ownsRow base 5 1 v l.length (l.map bv)
theorem Own.byt {w : World} {base : Nat} {v : Value} {l : List UInt8} (h : Own w base v l) : Byt w v l := Byt.of_own h
theorem own_none (w : World) (base : Nat) : Own w base (.slice none 0 0) [] := ⟨rfl, .inl ⟨rfl, rfl⟩⟩
theorem Own.lt {w : World} {base : Nat} {v : Value} {l : List UInt8} (h : Own w base v l) {b : Nat} (hb : v.ownBlock = some b) : b < w.heap.size ∧ base ≤ b := by
  obtain ⟨cs, h1, h2⟩ := ownsRow_blk h hb
  exact ⟨(Array.getElem?_eq_some_iff.1 h1).1, h2⟩
theorem Own.base_ {w : World} {base b' : Nat} {v : Value} {l : List UInt8} (h : Own w base v l) (hb : b' ≤ base) : Own w b' v l := ownsRow_base h hb
theorem Own.grow {w w' : World} {base : Nat} {v : Value} {l : List UInt8} (h : Own w base v l) (g : Grow w w') : Own w' base v l := ownsRow_other h fun b cs _ hh => g.block b (Array.getElem?_eq_some_iff.1 hh).1
/-- A slice read stays where its block does. -/
theorem Byt.other {w w' : World} {v : Value} {l : List UInt8} (h : Byt w v l) (hs : w.heap.size ≤ w'.heap.size) (hb : ∀ b, v.ownBlock = some b → b < w.heap.size → w'.heap[b]? = w.heap[b]?) : Byt w' v l := by
  obtain ⟨A, c, rfl, h1, h2, h3⟩ := h
  refine ⟨A, c, rfl, h1, h2, fun hp => ?_⟩
  obtain ⟨b, off, rfl, hlt, hc⟩ := h3 hp
  exact ⟨b, off, rfl, Nat.lt_of_lt_of_le hlt hs, fun j hj => (World.cell?_of_block (w := w) (a := ⟨b, off + j, none⟩) (hb b rfl hlt)).trans (hc j hj)⟩

/-- Nought bytes. -/
def zer (n : Nat) : List Value := List.replicate n (.int .u8 0)
theorem zer_len (n : Nat) : (zer n).length = n := by simp [zer]
theorem zer_one (n : Nat) : ∀ y ∈ zer n, y.oneCell' = true := fun y hy => by rw [List.eq_of_mem_replicate hy]; rfl
theorem run_mku (n : Nat) (hn : n ≤ 16777216) (w : World) : (Instr.makeSlice 38 (.int .i64 (n : Int)) (.int .i64 (n : Int))).run Try.prog w = .ok (.slice (some ⟨w.heap.size, 0, none⟩) n n) (w.alloc (.cells (zer n).toArray 5)) := by
  have hinfo : (Try.prog.info? 5).map (fun i => (i.zero, i.size, i.bytes)) = some (some (.int .u8 0), 1, 1) := by kernel_rfl
  cases hi : Try.prog.info? 5 with
  | none => rw [hi] at hinfo; cases hinfo
  | some i =>
    rw [hi] at hinfo
    simp only [Option.map_some, Option.some.injEq, Prod.mk.injEq] at hinfo
    obtain ⟨hz, hs, hb⟩ := hinfo
    have hr := run_make (P := Try.prog) w 38 5 i (.int .u8 0) Try.underlying38 hi hz .i64 .i64 (n : Int) (n : Int) (by omega) (Int.le_refl _) (by rw [hb]; omega) (by omega)
    simp only [Int.toNat_natCast] at hr
    rw [hr]
    congr 3
    rw [hs, Nat.mul_one]
    unfold madeCells zer
    refine Array.ext' (List.ext_getElem? fun k => ?_)
    simp [Value.cells, Nat.mod_one, List.getElem?_replicate, List.getElem?_range]
    by_cases h : k < n <;> simp [h]
/-- How many of n there are. -/
def fst (n : Int) (k : Nat) : Nat := min n.toNat k
theorem fst_nat (k z : Nat) : fst (k : Int) z = min k z := by unfold fst; rw [Int.toNat_natCast]
theorem fst_le (n : Int) (z : Nat) : fst n z ≤ z := by unfold fst; omega
def strV (l : List UInt8) : Value := .string ⟨l.toArray⟩
theorem str1 {w : World} {v : Value} {l : List UInt8} (h : Byt w v l) : (convert 38 9 v).run Try.prog w = .ok (strV l) w := h.str _ _ 5 Try.underlying38 Try.underlying5 Try.underlying9
/-- A literal of three bytes. -/
theorem lit3 (w : World) (a b c : UInt8) : Byt (w.alloc (.cells #[bv a, bv b, bv c] 5)) (.slice (some ⟨w.heap.size, 0, none⟩) 3 3) [a, b, c] :=
  Byt.of_own (World.ownsRow_lit (base := 0) (e := 5) (size := 1) w #[bv a, bv b, bv c] 3 (Nat.zero_le _) (by unfold maxLen; omega) rfl)
theorem infoB : (Try.prog.info? 5).map (fun i => (i.zero, i.size, i.bytes)) = some (some (.int .u8 0), 1, 1) := by kernel_rfl
/-- append onto a row of bytes of the call's own. -/
theorem wpList_appO (w : World) {ops : Array Oper} {rest : List Oper} {o : Oper} {a : Act} {Q : Exit → Act → World → Prop} (hgd : o.guard = none) (s x : Operand)
    (ho : o.op = .call { callee := .builtin .append, args := #[s, x], argTypes := #[38, 38] }) (base : Nat) (v u : Value) (xs ys : List UInt8) (hs : a.eval s = v) (hx : a.eval x = u) (hown : Own w base v xs) (hr : Byt w u ys)
    (hlen : xs.length + ys.length ≤ 100000000) (hb : base ≤ w.heap.size)
    (h : ∀ v' w', Own w' base v' (xs ++ ys) → w.grownBy w' v.ownBlock → (v'.ownBlock = v.ownBlock ∨ v'.ownBlock = some w.heap.size) → wpList Try.prog ops Q rest (a.put o.dst v') w') : wpList Try.prog ops Q (o :: rest) a w :=
  wpList_append_rd w hgd s x 38 ho base 5 (.int .u8 0) 1 Try.underlying38 infoB rfl v xs.length ys.length (xs.map bv) hs hown u (ys.map bv) hx hr (List.length_map _) (bv_one _) (by omega) (by unfold maxLen; omega) hb
    fun v' w' h1 h2 h3 => h v' w' (by unfold Own; rw [List.length_append, List.map_append]; exact h1) h2 h3
/-- The block of what came in. -/
theorem Byt.old {w : World} {v : Value} {l : List UInt8} (h : Byt w v l) (hl : 0 < l.length) {b : Nat} (hb : v.ownBlock = some b) : b < w.heap.size := by
  obtain ⟨A, c, rfl, _⟩ := h.form
  obtain ⟨b', off, rfl, hlt, _⟩ := h.at_ hl
  have e : b' = b := by injection hb
  omega
theorem own_add (A : Option Addr) (k n c n' c' : Nat) : (Value.slice (A.map (·.add k)) n c).ownBlock = (Value.slice A n' c').ownBlock := by
  cases A with
  | none => rfl
  | some a =>
    simp only [Option.map_some, Value.ownBlock, Addr.add]
    split <;> rfl
theorem own_same (A : Option Addr) (n c n' c' : Nat) : (Value.slice A n c).ownBlock = (Value.slice A n' c').ownBlock := by cases A <;> rfl
def isB (l : List UInt8) (v : Value) (w : World) : Prop := Byt w v l
theorem isB_stays (l : List UInt8) : stays (isB l) := fun _ _ _ g h => Byt.grow h g
/-- append of bytes, as an operation of a chain. -/
theorem own0 (w : World) : Own (w.alloc (.cells #[] 5)) w.heap.size (.slice (some ⟨w.heap.size, 0, none⟩) 0 0) [] := World.ownsRow_lit (base := w.heap.size) (e := 5) (size := 1) w #[] 0 (Nat.le_refl _) (Nat.zero_le _) rfl
/-- append of bytes, as one step of a region that draws its order. -/
theorem step_appO (w : World) {ops : Array Oper} {o : Oper} {a : Act} {K : Act → World → Prop} {Q : Exit → Act → World → Prop} {E : Prop} (hgd : o.guard = none) (s x : Operand)
    (ho : o.op = .call { callee := .builtin .append, args := #[s, x], argTypes := #[38, 38] }) (base : Nat) (v u : Value) (xs ys : List UInt8) (hs : a.eval s = v) (hx : a.eval x = u) (hown : Own w base v xs) (hr : Byt w u ys)
    (hlen : xs.length + ys.length ≤ 100000000) (hb : base ≤ w.heap.size)
    (h : ∀ v' w', Own w' base v' (xs ++ ys) → w.grownBy w' v.ownBlock → K (a.put o.dst v') w') :
    if Region.wanted o (yielded ops a.tmps) = true then Oper.wp Try.prog o a w K Q else E := by
  have hw : Region.wanted o (yielded ops a.tmps) = true := by simp [Region.wanted, hgd]
  rw [if_pos hw]
  have f1 : (xs.map bv).length = xs.length := List.length_map _
  have f2 : (ys.map bv).length = ys.length := List.length_map _
  obtain ⟨v', w', hrun, h2, h3, h4⟩ := run_append_rd (P := Try.prog) w base 38 o.type 5 (.int .u8 0) 1 Try.underlying38 infoB rfl v (xs.map bv) (by rw [f1]; exact hown) u (ys.map bv) hr (bv_one _) (by rw [f1, f2]; omega) (by rw [f1, f2]; unfold maxLen; omega) hb
  unfold Oper.wp execOp
  simp only [ho, resolve, invoke, builtin, Sem.run_bind, Sem.run_pure, Result.andThen_ok, List.map_toArray, List.map_cons, List.map_nil, hs, hx, hrun]
  refine h v' w' ?_ h3
  unfold Own
  rw [← List.map_append, List.length_map] at h2
  exact h2
/-- A block of bytes as a row of the call's own. -/
theorem Own.of_block {w : World} {base b : Nat} {l : List UInt8} {xs : List Value} (hx : xs = l.map bv) (hb : base ≤ b) (hh : w.heap[b]? = some (.cells xs.toArray 5 (0, 0))) (hl : l.length ≤ 100000000) : Own w base (.slice (some ⟨b, 0, none⟩) l.length l.length) l := by
  subst hx
  exact ⟨by simp, .inr ⟨b, l.length, _, rfl, hb, hh, Nat.le_refl _, by unfold maxLen; omega, by simp, by simp only [Nat.mul_one]; exact List.take_of_length_le (by simp)⟩⟩
theorem Rd0 (w : World) (A : Option Addr) : Rd w (.slice A 0 0) [] := ⟨A, 0, rfl, Nat.le_refl _, Nat.zero_le _, fun h => absurd h (by simp)⟩

/-- A row of booleans of the call's own; booleans read. -/
def Bools (w : World) (base : Nat) (v : Value) (l : List Bool) : Prop := w.ownsRow base 4 1 v l.length (l.map Value.bool)
def RdB (w : World) (v : Value) (l : List Bool) : Prop := Rd w v (l.map Value.bool)
theorem Bools.rd {w : World} {base : Nat} {v : Value} {l : List Bool} (h : Bools w base v l) : RdB w v l := Rd.of_own h
theorem Bools.lt {w : World} {base : Nat} {v : Value} {l : List Bool} (h : Bools w base v l) {b : Nat} (hb : v.ownBlock = some b) : b < w.heap.size ∧ base ≤ b := by
  obtain ⟨cs, h1, h2⟩ := ownsRow_blk h hb
  exact ⟨(Array.getElem?_eq_some_iff.1 h1).1, h2⟩
theorem Bools.base_ {w : World} {base b' : Nat} {v : Value} {l : List Bool} (h : Bools w base v l) (hb : b' ≤ base) : Bools w b' v l := ownsRow_base h hb
theorem Bools.grow {w w' : World} {base : Nat} {v : Value} {l : List Bool} (h : Bools w base v l) (g : Grow w w') : Bools w' base v l := ownsRow_other h fun b cs _ hh => g.block b (Array.getElem?_eq_some_iff.1 hh).1
theorem RdB.grow {w w' : World} {v : Value} {l : List Bool} (h : RdB w v l) (g : Grow w w') : RdB w' v l := Rd.grow h g
theorem RdB.form {w : World} {v : Value} {l : List Bool} (h : RdB w v l) : ∃ A c, v = .slice A l.length c ∧ l.length ≤ c ∧ c ≤ maxLen := by
  obtain ⟨A, c, rfl, h1, h2, _⟩ := h
  exact ⟨A, c, by simp, by simpa using h1, h2⟩
theorem RdB.at_ {w : World} {A : Option Addr} {n c : Nat} {l : List Bool} (h : RdB w (.slice A n c) l) (hp : 0 < n) : ∃ b off, A = some ⟨b, off, none⟩ ∧ b < w.heap.size ∧ ∀ j (h : j < l.length), w.cell? ⟨b, off + j, none⟩ = some (.bool l[j]) := by
  obtain ⟨b, off, e, hb, hc⟩ := Rd.at_ h hp
  exact ⟨b, off, e, hb, fun j hj => by rw [hc j (by simpa using hj), List.getElem_map]⟩
theorem bool_one (l : List Bool) : ∀ y ∈ l.map Value.bool, y.oneCell' = true := by
  intro y hy
  obtain ⟨u, _, rfl⟩ := List.mem_map.1 hy
  rfl
theorem infoBl : (Try.prog.info? 4).map (fun i => (i.zero, i.size, i.bytes)) = some (some (.bool false), 1, 1) := by kernel_rfl
/-- append onto a row of booleans of the call's own. -/
theorem wpList_appBl (w : World) {ops : Array Oper} {rest : List Oper} {o : Oper} {a : Act} {Q : Exit → Act → World → Prop} (hgd : o.guard = none) (s x : Operand)
    (ho : o.op = .call { callee := .builtin .append, args := #[s, x], argTypes := #[59, 59] }) (base : Nat) (v u : Value) (xs ys : List Bool) (hs : a.eval s = v) (hx : a.eval x = u) (hown : Bools w base v xs) (hr : RdB w u ys)
    (hlen : xs.length + ys.length ≤ 100000000) (hb : base ≤ w.heap.size)
    (h : ∀ v' w', Bools w' base v' (xs ++ ys) → w.grownBy w' v.ownBlock → (v'.ownBlock = v.ownBlock ∨ v'.ownBlock = some w.heap.size) → wpList Try.prog ops Q rest (a.put o.dst v') w') : wpList Try.prog ops Q (o :: rest) a w :=
  wpList_append_rd w hgd s x 59 ho base 4 (.bool false) 1 Try.underlying59 infoBl rfl v xs.length ys.length (xs.map Value.bool) hs hown u (ys.map Value.bool) hx hr (List.length_map _) (bool_one _) (by omega) (by unfold maxLen; omega) hb
    fun v' w' h1 h2 h3 => h v' w' (by unfold Bools; rw [List.length_append, List.map_append]; exact h1) h2 h3
theorem bools0 (w : World) : Bools (w.alloc (.cells #[] 4)) w.heap.size (.slice (some ⟨w.heap.size, 0, none⟩) 0 0) [] := World.ownsRow_lit (base := w.heap.size) (e := 4) (size := 1) w #[] 0 (Nat.le_refl _) (Nat.zero_le _) rfl
/-- make([]bool, n). -/
def fal (n : Nat) : List Value := List.replicate n (.bool false)
theorem run_mkbl (n : Nat) (hn : n ≤ 16777216) (w : World) : (Instr.makeSlice 59 (.int .i64 (n : Int)) (.int .i64 (n : Int))).run Try.prog w = .ok (.slice (some ⟨w.heap.size, 0, none⟩) n n) (w.alloc (.cells (fal n).toArray 4)) := by
  cases hi : Try.prog.info? 4 with
  | none => have h := infoBl; rw [hi] at h; cases h
  | some i =>
    have hinfo := infoBl
    rw [hi] at hinfo
    simp only [Option.map_some, Option.some.injEq, Prod.mk.injEq] at hinfo
    obtain ⟨hz, hs, hb⟩ := hinfo
    have hr := run_make (P := Try.prog) w 59 4 i (.bool false) Try.underlying59 hi hz .i64 .i64 (n : Int) (n : Int) (by omega) (Int.le_refl _) (by rw [hb]; omega) (by omega)
    simp only [Int.toNat_natCast] at hr
    rw [hr]
    congr 3
    rw [hs, Nat.mul_one]
    unfold madeCells fal
    refine Array.ext' (List.ext_getElem? fun k => ?_)
    simp [Value.cells, Nat.mod_one, List.getElem?_replicate, List.getElem?_range]
    by_cases h : k < n <;> simp [h]
theorem Bools.of_block {w : World} {base b : Nat} {l : List Bool} {xs : List Value} (hx : xs = l.map Value.bool) (hb : base ≤ b) (hh : w.heap[b]? = some (.cells xs.toArray 4 (0, 0))) (hl : l.length ≤ 100000000) : Bools w base (.slice (some ⟨b, 0, none⟩) l.length l.length) l := by
  subst hx
  exact ⟨by simp, .inr ⟨b, l.length, _, rfl, hb, hh, Nat.le_refl _, by unfold maxLen; omega, by simp, by simp only [Nat.mul_one]; exact List.take_of_length_le (by simp)⟩⟩
end Go.Proofs.Ytkblgigpgpjjlaa
