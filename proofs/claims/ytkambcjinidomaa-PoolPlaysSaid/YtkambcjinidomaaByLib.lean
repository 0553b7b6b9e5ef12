/- Rows of bytes and of booleans: copy, append, make, string(..): of no layer. (From hose's texts; from stage 16 on.) -/
import Derived.Test.YtkambcjinidomaaHsNum
import Derived.Test.YtkambcjinidomaaGw
import Derived.Laws.CopyOwn
import Derived.Laws.NewBlocks
import Derived.Deep.RegionLaw
import Derived.Test.YtkambcjinidomaaRows
import Derived.Deep.LoopGhost
import Derived.Lib.Hide
import Derived.BigQuiet
import Derived.Deep.DeepCutAuto
namespace Go.Proofs.Ytkambcjinidomaa
set_option linter.unusedVariables false
set_option linter.unusedSimpArgs false
open Go.ChangeShapes Go.WideShapes Go.ChangeAt Go.RowKit

theorem over_nil (R : List Value) (k : Nat) : over R k [] = R := by simp [over]
theorem grownBy_setRow' {w : World} {g : Nat} {cs : Array Value} : w.grownBy (w.setRow g cs) (some g) := ⟨rfl, rfl, rfl, by simp [World.setRow], fun k _ hk => by
  have : k ≠ g := fun e => hk (by rw [e])
  simp [World.setRow, Array.getElem?_modify, this.symm]⟩
/-- A row of bytes of the call's own. -/
def Own (w : World) (base : Nat) (v : Value) (l : List UInt8) : Prop := w.ownsRow base 5 1 v l.length (l.map bv)
theorem Own.byt {w : World} {base : Nat} {v : Value} {l : List UInt8} (h : Own w base v l) : Byt w v l := Byt.of_own h
theorem own_none (w : World) (base : Nat) : Own w base (.slice none 0 0) [] := ⟨rfl, .inl ⟨rfl, rfl⟩⟩
theorem Own.lt {w : World} {base : Nat} {v : Value} {l : List UInt8} (h : Own w base v l) {b : Nat} (hb : v.ownBlock = some b) : b < w.heap.size ∧ base ≤ b := by
  obtain ⟨cs, h1, h2⟩ := ownsRow_blk h hb
  exact ⟨(Array.getElem?_eq_some_iff.1 h1).1, h2⟩
theorem Own.base_ {w : World} {base b' : Nat} {v : Value} {l : List UInt8} (h : Own w base v l) (hb : b' ≤ base) : Own w b' v l := ownsRow_base h hb
theorem Own.grow {w w' : World} {base : Nat} {v : Value} {l : List UInt8} (h : Own w base v l) (g : Grow w w') : Own w' base v l := ownsRow_other h fun b cs _ hh => g.block b (Array.getElem?_eq_some_iff.1 hh).1
/-- A slice read stays where its block does. -/
theorem Byt.other {w w' : World} {v : Value} {l : List UInt8} (h : Byt w v l) (hs : w.heap.size ≤ w'.heap.size) (hb : ∀ b, v.ownBlock = some b → b < w.heap.size → w'.heap[b]? = w.heap[b]?) : Byt w' v l := by
  obtain ⟨A, c, rfl, h1, h2, h3⟩ := h
  refine ⟨A, c, rfl, h1, h2, fun hp => ?_⟩
  obtain ⟨b, off, rfl, hlt, hc⟩ := h3 hp
  exact ⟨b, off, rfl, Nat.lt_of_lt_of_le hlt hs, fun j hj => (World.cell?_of_block (w := w) (a := ⟨b, off + j, none⟩) (hb b rfl hlt)).trans (hc j hj)⟩

/-- Nought bytes. -/
def zer (n : Nat) : List Value := List.replicate n (.int .u8 0)
theorem zer_len (n : Nat) : (zer n).length = n := by simp [zer]
theorem zer_one (n : Nat) : ∀ y ∈ zer n, y.oneCell' = true := fun y hy => by rw [List.eq_of_mem_replicate hy]; rfl
/-- How many of n there are. -/
def fst (n : Int) (k : Nat) : Nat := min n.toNat k
theorem fst_nat (k z : Nat) : fst (k : Int) z = min k z := by unfold fst; rw [Int.toNat_natCast]
theorem fst_le (n : Int) (z : Nat) : fst n z ≤ z := by unfold fst; omega
def strV (l : List UInt8) : Value := .string ⟨l.toArray⟩
/-- A literal of three bytes. -/
theorem lit3 (w : World) (a b c : UInt8) : Byt (w.alloc (.cells #[bv a, bv b, bv c] 5)) (.slice (some ⟨w.heap.size, 0, none⟩) 3 3) [a, b, c] :=
  Byt.of_own (World.ownsRow_lit (base := 0) (e := 5) (size := 1) w #[bv a, bv b, bv c] 3 (Nat.zero_le _) (by unfold maxLen; omega) rfl)
theorem infoB : (Try.prog.info? 5).map (fun i => (i.zero, i.size, i.bytes)) = some (some (.int .u8 0), 1, 1) := by kernel_rfl
/-- The block of what came in. -/
theorem Byt.old {w : World} {v : Value} {l : List UInt8} (h : Byt w v l) (hl : 0 < l.length) {b : Nat} (hb : v.ownBlock = some b) : b < w.heap.size := by
  obtain ⟨A, c, rfl, _⟩ := h.form
  obtain ⟨b', off, rfl, hlt, _⟩ := h.at_ hl
  have e : b' = b := by injection hb
  omega
theorem own_add (A : Option Addr) (k n c n' c' : Nat) : (Value.slice (A.map (·.add k)) n c).ownBlock = (Value.slice A n' c').ownBlock := by
  cases A with
  | none => rfl
  | some a =>
    simp only [Option.map_some, Value.ownBlock, Addr.add]
    split <;> rfl
theorem own_same (A : Option Addr) (n c n' c' : Nat) : (Value.slice A n c).ownBlock = (Value.slice A n' c').ownBlock := by cases A <;> rfl
def isB (l : List UInt8) (v : Value) (w : World) : Prop := Byt w v l
theorem isB_stays (l : List UInt8) : stays (isB l) := fun _ _ _ g h => Byt.grow h g
/-- append of bytes, as an operation of a chain. -/
theorem own0 (w : World) : Own (w.alloc (.cells #[] 5)) w.heap.size (.slice (some ⟨w.heap.size, 0, none⟩) 0 0) [] := World.ownsRow_lit (base := w.heap.size) (e := 5) (size := 1) w #[] 0 (Nat.le_refl _) (Nat.zero_le _) rfl
/-- A block of bytes as a row of the call's own. -/
theorem Own.of_block {w : World} {base b : Nat} {l : List UInt8} {xs : List Value} (hx : xs = l.map bv) (hb : base ≤ b) (hh : w.heap[b]? = some (.cells xs.toArray 5 (0, 0))) (hl : l.length ≤ 100000000) : Own w base (.slice (some ⟨b, 0, none⟩) l.length l.length) l := by
  subst hx
  exact ⟨by simp, .inr ⟨b, l.length, _, rfl, hb, hh, Nat.le_refl _, by unfold maxLen; omega, by simp, by simp only [Nat.mul_one]; exact List.take_of_length_le (by simp)⟩⟩
theorem Rd0 (w : World) (A : Option Addr) : Rd w (.slice A 0 0) [] := ⟨A, 0, rfl, Nat.le_refl _, Nat.zero_le _, fun h => absurd h (by simp)⟩

/-- A row of booleans of the call's own; booleans read. -/
def Bools (w : World) (base : Nat) (v : Value) (l : List Bool) : Prop := w.ownsRow base 4 1 v l.length (l.map Value.bool)
def RdB (w : World) (v : Value) (l : List Bool) : Prop := Rd w v (l.map Value.bool)
theorem Bools.rd {w : World} {base : Nat} {v : Value} {l : List Bool} (h : Bools w base v l) : RdB w v l := Rd.of_own h
theorem Bools.lt {w : World} {base : Nat} {v : Value} {l : List Bool} (h : Bools w base v l) {b : Nat} (hb : v.ownBlock = some b) : b < w.heap.size ∧ base ≤ b := by
  obtain ⟨cs, h1, h2⟩ := ownsRow_blk h hb
  exact ⟨(Array.getElem?_eq_some_iff.1 h1).1, h2⟩
theorem Bools.base_ {w : World} {base b' : Nat} {v : Value} {l : List Bool} (h : Bools w base v l) (hb : b' ≤ base) : Bools w b' v l := ownsRow_base h hb
theorem Bools.grow {w w' : World} {base : Nat} {v : Value} {l : List Bool} (h : Bools w base v l) (g : Grow w w') : Bools w' base v l := ownsRow_other h fun b cs _ hh => g.block b (Array.getElem?_eq_some_iff.1 hh).1
theorem RdB.grow {w w' : World} {v : Value} {l : List Bool} (h : RdB w v l) (g : Grow w w') : RdB w' v l := Rd.grow h g
theorem RdB.form {w : World} {v : Value} {l : List Bool} (h : RdB w v l) : ∃ A c, v = .slice A l.length c ∧ l.length ≤ c ∧ c ≤ maxLen := by
  obtain ⟨A, c, rfl, h1, h2, _⟩ := h
  exact ⟨A, c, by simp, by simpa using h1, h2⟩
theorem RdB.at_ {w : World} {A : Option Addr} {n c : Nat} {l : List Bool} (h : RdB w (.slice A n c) l) (hp : 0 < n) : ∃ b off, A = some ⟨b, off, none⟩ ∧ b < w.heap.size ∧ ∀ j (h : j < l.length), w.cell? ⟨b, off + j, none⟩ = some (.bool l[j]) := by
  obtain ⟨b, off, e, hb, hc⟩ := Rd.at_ h hp
  exact ⟨b, off, e, hb, fun j hj => by rw [hc j (by simpa using hj), List.getElem_map]⟩
theorem bool_one (l : List Bool) : ∀ y ∈ l.map Value.bool, y.oneCell' = true := by
  intro y hy
  obtain ⟨u, _, rfl⟩ := List.mem_map.1 hy
  rfl
theorem infoBl : (Try.prog.info? 4).map (fun i => (i.zero, i.size, i.bytes)) = some (some (.bool false), 1, 1) := by kernel_rfl
theorem bools0 (w : World) : Bools (w.alloc (.cells #[] 4)) w.heap.size (.slice (some ⟨w.heap.size, 0, none⟩) 0 0) [] := World.ownsRow_lit (base := w.heap.size) (e := 4) (size := 1) w #[] 0 (Nat.le_refl _) (Nat.zero_le _) rfl
/-- make([]bool, n). -/
def fal (n : Nat) : List Value := List.replicate n (.bool false)
theorem Bools.of_block {w : World} {base b : Nat} {l : List Bool} {xs : List Value} (hx : xs = l.map Value.bool) (hb : base ≤ b) (hh : w.heap[b]? = some (.cells xs.toArray 4 (0, 0))) (hl : l.length ≤ 100000000) : Bools w base (.slice (some ⟨b, 0, none⟩) l.length l.length) l := by
  subst hx
  exact ⟨by simp, .inr ⟨b, l.length, _, rfl, hb, hh, Nat.le_refl _, by unfold maxLen; omega, by simp, by simp only [Nat.mul_one]; exact List.take_of_length_le (by simp)⟩⟩
end Go.Proofs.Ytkambcjinidomaa
