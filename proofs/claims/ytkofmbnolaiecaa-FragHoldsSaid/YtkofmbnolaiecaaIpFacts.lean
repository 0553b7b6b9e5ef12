/- Facts that stay, for regions that draw their order: a slice of bytes, a slice of such, a row of the call's own, texts. -/
import Derived.Test.YtkofmbnolaiecaaIp
import Derived.Test.YtkofmbnolaiecaaApp
import Derived.Test.YtkofmbnolaiecaaPhase
import Derived.Deep.DeepCutAuto
import Derived.Laws.CopyOwn
namespace Go.Proofs.Ytkofmbnolaiecaa
set_option linter.unusedVariables false
set_option linter.unusedSimpArgs false
open Go.ChangeShapes Go.WideShapes Go.ChangeAt Go.RowKit

def isB (l : List UInt8) (v : Value) (w : World) : Prop := Byt w v l
theorem isB_stays (l : List UInt8) : stays (isB l) := fun _ _ _ hg h => Byt.grow h hg
def isBs (ls : List (List UInt8)) (v : Value) (w : World) : Prop := Byts w v ls
theorem isBs_stays (ls : List (List UInt8)) : stays (isBs ls) := fun _ _ _ hg h => Byts.grow h hg
theorem Join_any (v : Value) (ls : List (List UInt8)) (w : World) (h : isBs ls v w) (h0 : 0 < ls.length) (hl : lens ls ≤ 281474976710656) :
    Calls Try.prog 25 #[v] w fun e w' => ∃ u, e = .returned u ∧ Own w' w.heap.size u ls.flatten ∧ Grow w w' := by
  obtain ⟨A, c, rfl, _, _⟩ := Byts.form h
  obtain ⟨b, off, rfl, _, _⟩ := Byts.at_ h h0
  exact Join_some b off _ c ls w h h0 hl

def strV (l : List UInt8) : Value := .string ⟨l.toArray⟩
theorem str1 {w : World} {v : Value} {l : List UInt8} (h : Byt w v l) : (convert 25 9 v).run Try.prog w = .ok (strV l) w := h.str _ _ 5 Try.underlying25 Try.underlying5 Try.underlying9

/-- The row behind a copy of two bytes. -/
def lay (l : List UInt8) (k : Nat) (m : List UInt8) : List UInt8 := l.take k ++ (m ++ l.drop (k + m.length))
theorem lay_length (l : List UInt8) (k : Nat) (m : List UInt8) (h : k + m.length ≤ l.length) : (lay l k m).length = l.length := by simp [lay]; omega

/-- A row of the call's own: its block's cells, whatever lies behind the row. -/
theorem Own.cells {w : World} {base : Nat} {v : Value} {l : List UInt8} (h : Own w base v l) (hl : 0 < l.length) : ∃ g cap zs, v = .slice (some ⟨g, 0, none⟩) l.length cap ∧ base ≤ g ∧ l.length ≤ cap ∧ cap ≤ maxLen ∧ w.heap[g]? = some (.cells (l.map bv ++ zs).toArray 5 (0, 0)) ∧ (l.map bv ++ zs).length = cap := by
  obtain ⟨h1, h2⟩ := h
  rcases h2 with ⟨_, hx⟩ | ⟨g, cap, cur, e1, e2, hh, hn, hm, hc, ht⟩
  · simp at hx; subst hx; simp at hl
  · refine ⟨g, cap, cur.toList.drop l.length, e1, e2, hn, hm, ?_, ?_⟩
    · rw [Nat.mul_one] at ht
      rw [← ht, List.take_append_drop]
      simpa using hh
    · rw [Nat.mul_one] at ht
      rw [← ht, List.take_append_drop]
      simpa using hc
theorem Own.of_cells {w : World} {base g cap : Nat} {l : List UInt8} {zs : List Value} (hb : base ≤ g) (hn : l.length ≤ cap) (hm : cap ≤ maxLen) (hh : w.heap[g]? = some (.cells (l.map bv ++ zs).toArray 5 (0, 0))) (hc : (l.map bv ++ zs).length = cap) : Own w base (.slice (some ⟨g, 0, none⟩) l.length cap) l := by
  refine ⟨by simp, .inr ⟨g, cap, (l.map bv ++ zs).toArray, rfl, hb, hh, hn, hm, by simpa using hc, ?_⟩⟩
  rw [Nat.mul_one]
  simp
end Go.Proofs.Ytkofmbnolaiecaa
