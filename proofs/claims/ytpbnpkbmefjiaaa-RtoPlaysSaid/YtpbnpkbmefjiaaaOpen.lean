/- What a law's frame hands to its walk. -/
import Derived.Test.YtpbnpkbmefjiaaaRead
namespace Go.Proofs.Ytpbnpkbmefjiaaa
set_option linter.unusedVariables false
open Go.RowKit

theorem block_of_cell {w : World} {p : Addr} {v : Value} (h : w.cell? p = some v) : p.block < w.heap.size := by
  rcases Nat.lt_or_ge p.block w.heap.size with h' | h'
  · exact h'
  · unfold World.cell? at h
    rw [Array.getElem?_eq_none h'] at h
    simp at h
theorem add_at {b off : Nat} (j : Nat) : (⟨b, off, none⟩ : Addr).add j = ⟨b, off + j, none⟩ := by unfold Addr.add; split <;> simp_all

/-- A slice of bytes that came in. -/
theorem Byt.of_ints {w : World} {x : Addr} {l c : Nat} {zs : List Int} (hl : l ≤ c) (hm : c ≤ maxLen) (hz : zs.length = c) (hcell : ∀ i, i < zs.length → w.cell? (x.add i) = some (.int .u8 (zs.getD i 0)))
    (hwz : ∀ n ∈ zs, (Lit.int .u8 n).wf = true) : ∃ bs, Byt w (.slice (some x) l c) bs ∧ bs.length = l := by
  have e1 : ∀ n ∈ zs, (((UInt8.ofNat n.toNat).toNat : Nat) : Int) = n := by
    intro n hn
    have h := hwz n hn
    simp [Lit.wf, IntKind.min, IntKind.max, IntKind.signed, IntKind.bits] at h
    rw [UInt8.toNat_ofNat']
    omega
  refine ⟨(zs.take l).map fun n => UInt8.ofNat n.toNat, ?_, by simp; omega⟩
  refine Rd.mk_ (by simp; omega) hl hm fun hp => ?_
  obtain ⟨b, off, spot⟩ := x
  have h0 := hcell 0 (by omega)
  have hs : spot = none := by simpa [Addr.add] using World.cell?_spot h0
  subst hs
  refine ⟨b, off, rfl, block_of_cell (p := ⟨b, off, none⟩) (by simpa [Addr.add] using h0), fun j hj => ?_⟩
  have hj' : j < zs.length := by simp at hj; omega
  rw [← add_at, hcell j hj']
  simp only [List.getElem_map, List.getElem_take, bv]
  rw [e1 _ (List.getElem_mem hj')]
  simp [List.getD, List.getElem?_eq_getElem hj']
end Go.Proofs.Ytpbnpkbmefjiaaa
