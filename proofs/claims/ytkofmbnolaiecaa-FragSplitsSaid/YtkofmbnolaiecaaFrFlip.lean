/- Bytes turned in the pieces: what stays. -/
import Derived.Test.YtkofmbnolaiecaaFrLive
namespace Go.Proofs.Ytkofmbnolaiecaa
set_option linter.unusedVariables false
set_option linter.unusedSimpArgs false
open Go.ChangeShapes Go.WideShapes Go.ChangeAt Go.RowKit

theorem xorByte (a b : Nat) (ha : a < 256) (hb : b < 256) : bits .xor .u8 (a : Int) (b : Int) = ((a ^^^ b : Nat) : Int) := by
  have h : a ^^^ b < 2 ^ 8 := Nat.xor_lt_two_pow ha hb
  show IntKind.u8.wrap ((BitVec.ofInt 8 (a : Int) ^^^ BitVec.ofInt 8 (b : Int)).toNat : Int) = _
  rw [BitVec.toNat_xor, BitVec.toNat_ofInt, BitVec.toNat_ofInt]
  rw [show ((a : Int) % ((2 ^ 8 : Nat) : Int)).toNat = a by omega, show ((b : Int) % ((2 ^ 8 : Nat) : Int)).toNat = b by omega]
  simp only [IntKind.wrap, IntKind.signed, IntKind.bits]
  simp
  omega

/-- One byte written in some row of bytes: every row of bytes is one still. -/
theorem Own.poke {w : World} {base base' g n cap : Nat} {v : Value} {l l' : List UInt8} (h : Own w base v l) (hg : Own w base' (.slice (some ⟨g, 0, none⟩) n cap) l') (k : Nat) (u : UInt8) (y : Int) (hy : y = (u.toNat : Int)) :
    ∃ m, Own (w.setCell ⟨g, k, none⟩ (.int .u8 y)) base v m ∧ m.length = l.length := by
  subst hy
  obtain ⟨_, hg2⟩ := hg
  rcases hg2 with ⟨e, _⟩ | ⟨g0, cap0, cur0, e1, _, hh0, _⟩
  · cases e
  cases e1
  have hset := heap_setCell_own hh0 (k := k) (.int .u8 (u.toNat : Int))
  rcases h.2 with ⟨rfl, hx⟩ | ⟨b, cap2, cur, hv, hbb, hh, hn, hm, hc, ht⟩
  · simp at hx; subst hx
    exact ⟨[], World.ownsRow_nil _ _ _ _, rfl⟩
  · by_cases e : b = g
    · subst e
      rw [hh] at hh0
      cases hh0
      refine ⟨l.set k u, ⟨by simp, .inr ⟨b, cap2, _, by rw [List.length_set]; exact hv, hbb, hset, by rw [List.length_set]; exact hn, hm, by rw [Array.size_setIfInBounds]; exact hc, ?_⟩⟩, List.length_set ..⟩
      rw [List.length_set, Array.toList_setIfInBounds, List.take_set, ht, List.map_set]
      rfl
    · refine ⟨l, ⟨h.1, .inr ⟨b, cap2, cur, hv, hbb, ?_, hn, hm, hc, ht⟩⟩, rfl⟩
      rw [show (w.setCell ⟨g, k, none⟩ (.int .u8 (u.toNat : Int))).heap[b]? = w.heap[b]? from by simp [World.setCell, Array.getElem?_modify, Ne.symm e]]
      exact hh
theorem Iprow.poke {w : World} {base base' g n cap : Nat} {v : Value} {l : List Pk} {l' : List UInt8} (h : Iprow w base v l) (hg : Own w base' (.slice (some ⟨g, 0, none⟩) n cap) l') (k : Nat) (y : Value) :
    Iprow (w.setCell ⟨g, k, none⟩ y) base v l := by
  obtain ⟨_, hg2⟩ := hg
  rcases hg2 with ⟨e, _⟩ | ⟨g0, cap0, cur0, e1, _, hh0, _⟩
  · cases e
  cases e1
  refine ⟨h.1, ?_⟩
  rcases h.2 with h2 | ⟨b, cap2, cur, hv, hbb, hh, r⟩
  · exact .inl h2
  · refine .inr ⟨b, cap2, cur, hv, hbb, ?_, r⟩
    have e : g ≠ b := by
      rintro rfl
      rw [hh] at hh0
      injection hh0 with hh0
      injection hh0 with _ e3 _
      exact absurd e3 (by decide)
    rw [show (w.setCell ⟨g, k, none⟩ y).heap[b]? = w.heap[b]? from by simp [World.setCell, Array.getElem?_modify, e]]
    exact hh

/-- The pieces, whatever their bytes. -/
structure Flip (W : World) (u : Value) (l : List Pk) (wr : World) : Prop where
  row : Iprow wr W.heap.size u l
  data : ∀ q ∈ l, ∃ bs : List UInt8, Own wr W.heap.size q.vd bs ∧ bs.length = q.k.data.length
  grow : Grow W wr
theorem Flip.more {W w w' : World} {u : Value} {l : List Pk} (h : Flip W u l w) (g : Grow w w') : Flip W u l w' :=
  ⟨h.row.grow g, fun q hq => by obtain ⟨bs, h1, h2⟩ := h.data q hq; exact ⟨bs, h1.grow g, h2⟩, h.grow.trans g⟩
theorem Flip.poke {W w : World} {u : Value} {l : List Pk} (h : Flip W u l w) {g n cap : Nat} {bs : List UInt8} (hg : Own w W.heap.size (.slice (some ⟨g, 0, none⟩) n cap) bs) (k : Nat) (x : UInt8) (y : Int) (hy : y = (x.toNat : Int)) :
    Flip W u l (w.setCell ⟨g, k, none⟩ (.int .u8 y)) := by
  refine ⟨h.row.poke hg k _, fun q hq => ?_, Below.setCell (p := ⟨g, k, none⟩) h.grow ?_ _⟩
  · obtain ⟨cs, h1, h2⟩ := h.data q hq
    obtain ⟨m, h3, h4⟩ := h1.poke hg k x y hy
    exact ⟨m, h3, h4.trans h2⟩
  · obtain ⟨_, hg2⟩ := hg
    rcases hg2 with ⟨e, _⟩ | ⟨g0, cap0, cur0, e1, hb, _⟩
    · cases e
    · cases e1; exact hb
end Go.Proofs.Ytkofmbnolaiecaa
