/- Slices of ints that came in. -/
import Derived.Test.YtmfgbanckehcgaaDoorRead
import Derived.Test.YtmfgbanckehcgaaDoorOpen
namespace Go.Proofs.YtmfgbanckehcgaaDoor
set_option linter.unusedVariables false
open Go.RowKit

def iv (n : Int) : Value := .int .i64 n
/-- The slice v reads as these ints. -/
def IntsAt (w : World) (v : Value) (l : List Int) : Prop := Rd w v (l.map iv) ∧ ∀ n ∈ l, -9223372036854775808 ≤ n ∧ n ≤ 9223372036854775807
theorem IntsAt.nil (w : World) : IntsAt w (.slice none 0 0) [] := ⟨Rd.nil w, fun n h => absurd h (by simp)⟩
theorem IntsAt.of_ints {w : World} {x : Addr} {l c : Nat} {zs : List Int} (hl : l ≤ c) (hm : c ≤ maxLen) (hz : zs.length = c) (hcell : ∀ i, i < zs.length → w.cell? (x.add i) = some (.int .i64 (zs.getD i 0)))
    (hwz : ∀ n ∈ zs, (Lit.int .i64 n).wf = true) : ∃ bs, IntsAt w (.slice (some x) l c) bs ∧ bs.length = l := by
  refine ⟨zs.take l, ⟨?_, fun n hn => ?_⟩, by simp; omega⟩
  · refine Rd.mk_ (by simp; omega) hl hm fun hp => ?_
    obtain ⟨b, off, spot⟩ := x
    have h0 := hcell 0 (by omega)
    have hs : spot = none := by simpa [Addr.add] using World.cell?_spot h0
    subst hs
    refine ⟨b, off, rfl, block_of_cell (p := ⟨b, off, none⟩) (by simpa [Addr.add] using h0), fun j hj => ?_⟩
    have hj' : j < zs.length := by simp at hj; omega
    rw [← add_at, hcell j hj']
    simp only [List.getElem_map, List.getElem_take, iv]
    simp [List.getD, List.getElem?_eq_getElem hj']
  · have h := hwz n (List.mem_of_mem_take hn)
    simp [Lit.wf, IntKind.min, IntKind.max, IntKind.signed, IntKind.bits] at h
    omega
theorem own_grow {w w' : World} {base : Nat} {e : TypeId} {size : Nat} {v : Value} {n : Nat} {xs : List Value} (h : w.ownsRow base e size v n xs) (g : Grow w w') : w'.ownsRow base e size v n xs := by
  refine ⟨h.1, ?_⟩
  rcases h.2 with h0 | ⟨g', cap, cur, hv, hbg, hh, r⟩
  · exact .inl h0
  · refine .inr ⟨g', cap, cur, hv, hbg, (g.block g' ?_).trans hh, r⟩
    rcases Nat.lt_or_ge g' w.heap.size with h' | h'
    · exact h'
    · rw [Array.getElem?_eq_none h'] at hh; cases hh
end Go.Proofs.YtmfgbanckehcgaaDoor
