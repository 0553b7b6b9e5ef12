/- Two bytes written over; the header; the packet as bytes. -/
import Derived.Test.YtkofmbnolaiecaaIpNum
import Derived.Test.YtkofmbnolaiecaaIpFacts
import Derived.Test.YtkofmbnolaiecaaOpen
import Derived.Test.YtkofmbnolaiecaaSumLaws
namespace Go.Proofs.Ytkofmbnolaiecaa
set_option linter.unusedVariables false
set_option linter.unusedSimpArgs false
open Go.ChangeShapes Go.WideShapes Go.ChangeAt Go.RowKit

theorem splice_lay (l m : List UInt8) (zs : List Value) (k : Nat) (hk : k + m.length ≤ l.length) : splice (l.map bv ++ zs) k (m.map bv) = (lay l k m).map bv ++ zs := by
  unfold splice lay
  rw [List.take_append_of_le_length (by simp; omega), List.drop_append_of_le_length (by simp; omega)]
  simp [List.map_take, List.map_drop]

/-- A packet's cells, in a block of their own. -/
def Boxd (w : World) (b : Nat) (k : Pkt) (vo vd : Value) : Prop :=
  w.cell? ⟨b, 0, none⟩ = some (.int .u8 (k.tos : Int)) ∧ w.cell? ⟨b, 1, none⟩ = some (.int .u16 (k.ident : Int)) ∧ w.cell? ⟨b, 2, none⟩ = some (.bool k.whole) ∧ w.cell? ⟨b, 3, none⟩ = some (.bool k.more) ∧ w.cell? ⟨b, 4, none⟩ = some (.int .i64 k.off) ∧ w.cell? ⟨b, 5, none⟩ = some (.int .u8 (k.ttl : Int)) ∧ w.cell? ⟨b, 6, none⟩ = some (.int .u8 (k.proto : Int)) ∧ w.cell? ⟨b, 7, none⟩ = some (.int .u32 (k.src : Int)) ∧ w.cell? ⟨b, 8, none⟩ = some (.int .u32 (k.dst : Int)) ∧ w.cell? ⟨b, 9, none⟩ = some (vo) ∧ w.cell? ⟨b, 10, none⟩ = some (vd)
theorem cell_lt {w : World} {p : Addr} {v : Value} (h : w.cell? p = some v) : p.block < w.heap.size := block_of_cell h
theorem Boxd.grow {w w' : World} {b : Nat} {k : Pkt} {vo vd : Value} (h : Boxd w b k vo vd) (g : Grow w w') : Boxd w' b k vo vd := by
  obtain ⟨c0, c1, c2, c3, c4, c5, c6, c7, c8, c9, c10⟩ := h
  have hlt : b < w.heap.size := cell_lt c0
  exact ⟨(g.cell (p := ⟨b, 0, none⟩) hlt).trans c0, (g.cell (p := ⟨b, 1, none⟩) hlt).trans c1, (g.cell (p := ⟨b, 2, none⟩) hlt).trans c2, (g.cell (p := ⟨b, 3, none⟩) hlt).trans c3, (g.cell (p := ⟨b, 4, none⟩) hlt).trans c4, (g.cell (p := ⟨b, 5, none⟩) hlt).trans c5, (g.cell (p := ⟨b, 6, none⟩) hlt).trans c6, (g.cell (p := ⟨b, 7, none⟩) hlt).trans c7, (g.cell (p := ⟨b, 8, none⟩) hlt).trans c8, (g.cell (p := ⟨b, 9, none⟩) hlt).trans c9, (g.cell (p := ⟨b, 10, none⟩) hlt).trans c10⟩
theorem Boxd.new (w : World) (k : Pkt) (vo vd : Value) : Boxd (w.alloc (.cells #[.int .u8 (k.tos : Int), .int .u16 (k.ident : Int), .bool k.whole, .bool k.more, .int .i64 k.off, .int .u8 (k.ttl : Int), .int .u8 (k.proto : Int), .int .u32 (k.src : Int), .int .u32 (k.dst : Int), vo, vd] 27)) w.heap.size k vo vd := by
  unfold Boxd World.cell?
  rw [heap_alloc_new]
  exact ⟨rfl, rfl, rfl, rfl, rfl, rfl, rfl, rfl, rfl, rfl, rfl⟩

end Go.Proofs.Ytkofmbnolaiecaa
