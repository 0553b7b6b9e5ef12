/- The words of bytes, visited by an iterator, and the sum over them: a range over a function. -/
import Derived.RangeFuncNested
import Derived.RangeFuncBound
import Derived.RangeFuncCalls
import Derived.RangeFuncLeaves
import Derived.RangeFuncBox
import Derived.Shelf.Abstract
import Derived.Shelf.RegionOpen
import Derived.OwnWalkIn
import Derived.TacticsInMore
import Derived.LoopNIn
import Derived.LoopIn
import Derived.Test.YtkofmbnolaiecaaSum
namespace Go.Proofs.Ytkofmbnolaiecaa
set_option linter.unusedVariables false
set_option linter.unusedSimpArgs false
open Go.RowKit Go.Shelf
attribute [local go_sem] Oper.semAt_some

abbrev W16 := { x : Nat // x < 65536 }
@[reducible] def wv (x : W16) : Array Value := #[.int .i64 (x.1 : Int)]
/-- What a round keeps: what lay below m, and the captured box. -/
def KB (m Bs : Nat) (W W' : World) : Prop := Below m W W' ∧ W'.cell? ⟨Bs, 0, none⟩ = W.cell? ⟨Bs, 0, none⟩
theorem KB.refl (m Bs : Nat) (W : World) : KB m Bs W W := ⟨Below.refl _ _, rfl⟩
theorem KB.trans {m Bs : Nat} {A B C : World} (h : KB m Bs A B) (k : KB m Bs B C) : KB m Bs A C := ⟨h.1.trans k.1, k.2.trans h.2⟩
theorem KB.cell {m Bs : Nat} {A B : World} (h : KB m Bs A B) {p : Addr} (hp : p.block < m) : B.cell? p = A.cell? p := h.1.cell hp
def wupF (l : List UInt8) (k : Nat) : List W16 := (List.range k).map fun j => ⟨wordAt l j, wordAt_lt l j⟩
theorem wupF_succ (l : List UInt8) (k : Nat) : wupF l (k + 1) = wupF l k ++ [⟨wordAt l k, wordAt_lt l k⟩] := by simp [wupF, List.range_succ]
theorem wupF_length (l : List UInt8) (k : Nat) : (wupF l k).length = k := by simp [wupF]
theorem wupF_val (l : List UInt8) (k : Nat) : (wupF l k).map (·.1) = wup l k := by simp [wupF, wup]

def sumW (pre : List W16) : Nat := sumc (pre.map (·.1))
theorem sumW_snoc (pre : List W16) (x : W16) : sumW (pre ++ [x]) = addc (sumW pre) x.1 := by simp [sumW, sumc_snoc]
theorem sumW_lt (pre : List W16) : sumW pre < 65536 := by
  rw [sumW, sumc_ocs]
  · exact ocs_le _
  · intro y hy
    simp only [List.mem_map] at hy
    obtain ⟨z, _, rfl⟩ := hy
    exact z.2
theorem sumW_all (l : List UInt8) : sumW (wupF l (nwords l)) = ones l := by rw [sumW, wupF_val]; rfl

end Go.Proofs.Ytkofmbnolaiecaa
