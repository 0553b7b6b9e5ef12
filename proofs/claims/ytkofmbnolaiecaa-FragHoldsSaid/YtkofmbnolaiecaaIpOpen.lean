/- A packet that came in, opened. -/
import Derived.Test.YtkofmbnolaiecaaIp
import Derived.Test.YtkofmbnolaiecaaOpen
import Derived.OpenShut
import Derived.WideShapes
import Derived.ChangeSame
import Derived.ChangeArms
namespace Go.Proofs.Ytkofmbnolaiecaa
set_option linter.unusedVariables false
set_option linter.unusedSimpArgs false
open Go.ChangeShapes Go.WideShapes Go.ChangeAt Go.RowKit

theorem array11 {α : Type} {cs : Array α} (h : cs.size = 11) : ∃ c0 c1 c2 c3 c4 c5 c6 c7 c8 c9 c10, cs = #[c0, c1, c2, c3, c4, c5, c6, c7, c8, c9, c10] := by
  obtain ⟨l⟩ := cs
  match l, h with
  | [c0, c1, c2, c3, c4, c5, c6, c7, c8, c9, c10], _ => exact ⟨c0, c1, c2, c3, c4, c5, c6, c7, c8, c9, c10, rfl⟩

theorem wf_nat {k : IntKind} {n : Int} (h : (Lit.int k n).wf = true) (hs : k.signed = false) : ∃ m : Nat, n = (m : Int) ∧ m < 2 ^ k.bits := by
  simp only [Lit.wf, IntKind.min, IntKind.max, hs, Bool.and_eq_true, decide_eq_true_eq] at h
  obtain ⟨m, rfl⟩ := Int.eq_ofNat_of_zero_le (by simpa using h.1)
  refine ⟨m, rfl, ?_⟩
  have h2 := h.2
  simp only [Bool.false_eq_true, if_false] at h2
  have : ((2 ^ k.bits : Nat) : Int) = (2 : Int) ^ k.bits := by simp
  omega

section
variable {H : Type} {enc : TypeId × Value → H} {W : World}
theorem open_bytes {n : Nat} {cs : List Value} {x : DataW H × List MemPlace} (hf : DataW.trod enc Try.prog W 0 (fun _ => true) true n 25 cs = some x) : ∃ v l, cs = [v] ∧ Byt W v l := by
  rcases open_ints Try.underlying25 Try.underlying5 (by kernel_rfl) hf with ⟨hcs, _⟩ | ⟨a, len, cap, zs, hcs, _, hl, hm, hz, hx, hcell, hwz⟩
  · exact ⟨_, [], hcs, Byt.nil W⟩
  · simp only [if_true] at hz
    obtain ⟨bs, hb, hbl⟩ := Byt.of_ints hl hm hz hcell hwz
    exact ⟨_, bs, hcs, hb⟩

set_option maxHeartbeats 1000000 in
theorem open_ip {r : Reach} {b0 : Nat} {v : Value} {d : DataW H} {p : List MemPlace} (hv : Value.okWide Try.prog W r b0 27 v) (h : DataW.Trod enc Try.prog W 0 (fun _ => true) true 27 v d p) : ∃ k, Ip W v k := by
  obtain ⟨cs, rfl, hsz⟩ := okWide_struct Try.underlying27 hv
  obtain ⟨c0, c1, c2, c3, c4, c5, c6, c7, c8, c9, c10, rfl⟩ := array11 (hsz.trans (by kernel_rfl))
  obtain ⟨fuel, hf⟩ := h
  obtain ⟨xs, n, _, _, _, hlen, hfd⟩ := DataW.trod_struct Try.underlying27 hf
  have q0 : DataW.trod enc Try.prog W 0 (fun _ => true) true n 5 [c0] = xs[0]? := hfd 0 _ rfl
  rw [List.getElem?_eq_getElem (show 0 < xs.length by rw [hlen]; decide)] at q0
  obtain ⟨n0, e0, _, wf0⟩ := DataW.trod_int Try.underlying5 q0
  obtain rfl : c0 = _ := by simpa using e0
  obtain ⟨m0, rfl, z0⟩ := wf_nat wf0 rfl
  have q1 : DataW.trod enc Try.prog W 0 (fun _ => true) true n 22 [c1] = xs[1]? := hfd 1 _ rfl
  rw [List.getElem?_eq_getElem (show 1 < xs.length by rw [hlen]; decide)] at q1
  obtain ⟨n1, e1, _, wf1⟩ := DataW.trod_int Try.underlying22 q1
  obtain rfl : c1 = _ := by simpa using e1
  obtain ⟨m1, rfl, z1⟩ := wf_nat wf1 rfl
  have q2 : DataW.trod enc Try.prog W 0 (fun _ => true) true n 4 [c2] = xs[2]? := hfd 2 _ rfl
  rw [List.getElem?_eq_getElem (show 2 < xs.length by rw [hlen]; decide)] at q2
  obtain ⟨n2, e2, _⟩ := DataW.trod_bool Try.underlying4 q2
  obtain rfl : c2 = _ := by simpa using e2
  have q3 : DataW.trod enc Try.prog W 0 (fun _ => true) true n 4 [c3] = xs[3]? := hfd 3 _ rfl
  rw [List.getElem?_eq_getElem (show 3 < xs.length by rw [hlen]; decide)] at q3
  obtain ⟨n3, e3, _⟩ := DataW.trod_bool Try.underlying4 q3
  obtain rfl : c3 = _ := by simpa using e3
  have q4 : DataW.trod enc Try.prog W 0 (fun _ => true) true n 3 [c4] = xs[4]? := hfd 4 _ rfl
  rw [List.getElem?_eq_getElem (show 4 < xs.length by rw [hlen]; decide)] at q4
  obtain ⟨n4, e4, _, wf4⟩ := DataW.trod_int Try.underlying3 q4
  obtain rfl : c4 = _ := by simpa using e4
  have z4 := bounds_i64 wf4
  have q5 : DataW.trod enc Try.prog W 0 (fun _ => true) true n 5 [c5] = xs[5]? := hfd 5 _ rfl
  rw [List.getElem?_eq_getElem (show 5 < xs.length by rw [hlen]; decide)] at q5
  obtain ⟨n5, e5, _, wf5⟩ := DataW.trod_int Try.underlying5 q5
  obtain rfl : c5 = _ := by simpa using e5
  obtain ⟨m5, rfl, z5⟩ := wf_nat wf5 rfl
  have q6 : DataW.trod enc Try.prog W 0 (fun _ => true) true n 5 [c6] = xs[6]? := hfd 6 _ rfl
  rw [List.getElem?_eq_getElem (show 6 < xs.length by rw [hlen]; decide)] at q6
  obtain ⟨n6, e6, _, wf6⟩ := DataW.trod_int Try.underlying5 q6
  obtain rfl : c6 = _ := by simpa using e6
  obtain ⟨m6, rfl, z6⟩ := wf_nat wf6 rfl
  have q7 : DataW.trod enc Try.prog W 0 (fun _ => true) true n 24 [c7] = xs[7]? := hfd 7 _ rfl
  rw [List.getElem?_eq_getElem (show 7 < xs.length by rw [hlen]; decide)] at q7
  obtain ⟨n7, e7, _, wf7⟩ := DataW.trod_int Try.underlying24 q7
  obtain rfl : c7 = _ := by simpa using e7
  obtain ⟨m7, rfl, z7⟩ := wf_nat wf7 rfl
  have q8 : DataW.trod enc Try.prog W 0 (fun _ => true) true n 24 [c8] = xs[8]? := hfd 8 _ rfl
  rw [List.getElem?_eq_getElem (show 8 < xs.length by rw [hlen]; decide)] at q8
  obtain ⟨n8, e8, _, wf8⟩ := DataW.trod_int Try.underlying24 q8
  obtain rfl : c8 = _ := by simpa using e8
  obtain ⟨m8, rfl, z8⟩ := wf_nat wf8 rfl
  have q9 : DataW.trod enc Try.prog W 0 (fun _ => true) true n 25 [c9] = xs[9]? := hfd 9 _ rfl
  rw [List.getElem?_eq_getElem (show 9 < xs.length by rw [hlen]; decide)] at q9
  obtain ⟨v9, l9, e9, z9⟩ := open_bytes q9
  obtain rfl : c9 = _ := by simpa using e9
  have q10 : DataW.trod enc Try.prog W 0 (fun _ => true) true n 25 [c10] = xs[10]? := hfd 10 _ rfl
  rw [List.getElem?_eq_getElem (show 10 < xs.length by rw [hlen]; decide)] at q10
  obtain ⟨v10, l10, e10, z10⟩ := open_bytes q10
  obtain rfl : c10 = _ := by simpa using e10
  exact ⟨⟨m0, m1, n2, n3, n4, m5, m6, m7, m8, l9, l10⟩, c9, c10, rfl, z9, z10, ⟨z0, z1, z4.1, z4.2, z5, z6, z7, z8⟩⟩
end
end Go.Proofs.Ytkofmbnolaiecaa
