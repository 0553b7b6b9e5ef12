/- A packet that came in, opened. -/
import Derived.Test.YtbhdpobmooncpaaIp
import Derived.Test.YtbhdpobmooncpaaOpen
import Derived.OpenShut
import Derived.WideShapes
import Derived.ChangeSame
import Derived.ChangeArms
namespace Go.Proofs.Ytbhdpobmooncpaa
set_option linter.unusedVariables false
set_option linter.unusedSimpArgs false
open Go.ChangeShapes Go.WideShapes Go.ChangeAt Go.RowKit

theorem array11 {α : Type} {cs : Array α} (h : cs.size = 11) : ∃ c0 c1 c2 c3 c4 c5 c6 c7 c8 c9 c10, cs = #[c0, c1, c2, c3, c4, c5, c6, c7, c8, c9, c10] := by
  obtain ⟨l⟩ := cs
  match l, h with
  | [c0, c1, c2, c3, c4, c5, c6, c7, c8, c9, c10], _ => exact ⟨c0, c1, c2, c3, c4, c5, c6, c7, c8, c9, c10, rfl⟩

theorem wf_nat {k : IntKind} {n : Int} (h : (Lit.int k n).wf = true) (hs : k.signed = false) : ∃ m : Nat, n = (m : Int) ∧ m < 2 ^ k.bits := by
  simp only [Lit.wf, IntKind.min, IntKind.max, hs, Bool.and_eq_true, decide_eq_true_eq] at h
  obtain ⟨m, rfl⟩ := Int.eq_ofNat_of_zero_le (by simpa using h.1)
  refine ⟨m, rfl, ?_⟩
  have h2 := h.2
  simp only [Bool.false_eq_true, if_false] at h2
  have : ((2 ^ k.bits : Nat) : Int) = (2 : Int) ^ k.bits := by simp
  omega

section
variable {H : Type} {enc : TypeId × Value → H} {W : World}
theorem open_bytes {n : Nat} {cs : List Value} {x : DataW H × List MemPlace} (hf : DataW.trod enc Try.prog W 0 (fun _ => true) true n 24 cs = some x) : ∃ v l, cs = [v] ∧ Byt W v l := by
  rcases open_ints Try.underlying24 Try.underlying5 (by kernel_rfl) hf with ⟨hcs, _⟩ | ⟨a, len, cap, zs, hcs, _, hl, hm, hz, hx, hcell, hwz⟩
  · exact ⟨_, [], hcs, Byt.nil W⟩
  · simp only [if_true] at hz
    obtain ⟨bs, hb, hbl⟩ := Byt.of_ints hl hm hz hcell hwz
    exact ⟨_, bs, hcs, hb⟩

end
end Go.Proofs.Ytbhdpobmooncpaa
