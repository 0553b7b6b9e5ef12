/- A route and a row of calls that came in, opened. -/
import Derived.Test.YtfdoofkofljgnaaRt
import Derived.Test.YtfdoofkofljgnaaOpen
import Derived.OpenShut
import Derived.WideShapes
import Derived.ChangeSame
import Derived.ChangeArms
import Derived.Deep.Slices
namespace Go.Proofs.Ytfdoofkofljgnaa
set_option linter.unusedVariables false
set_option linter.unusedSimpArgs false
set_option maxRecDepth 100000
open Go.ChangeShapes Go.WideShapes Go.ChangeAt Go.RowKit

/-- The slice v holds these calls: six cells each, whether it is gone, and the route. -/
def Acts (w : World) (v : Value) (l : List (Bool × Rt)) : Prop :=
  ∃ A c, v = .slice A l.length c ∧ l.length ≤ c ∧ c ≤ maxLen ∧
    (0 < l.length → ∃ b off, A = some ⟨b, off, none⟩ ∧ b < w.heap.size ∧ ∀ j (hj : j < l.length), w.cell? ⟨b, off + j * 6, none⟩ = some (.bool l[j].1) ∧ RtAt w b (off + j * 6 + 1) l[j].2) ∧ ∀ a ∈ l, a.2.Ok

section
variable {H : Type} {enc : TypeId × Value → H} {W : World}
set_option maxHeartbeats 1000000 in
theorem rt_cells {m : Nat} {c0 c1 c2 c3 c4 : Value} {x : DataW H × List MemPlace} (hf : DataW.trod enc Try.prog W 0 (fun _ => true) true m 32 [c0, c1, c2, c3, c4] = some x) : ∃ r : Rt, r.Ok ∧ [c0, c1, c2, c3, c4] = rc r := by
  obtain ⟨xs, n, _, _, _, hlen, hfd⟩ := DataW.trod_struct Try.underlying32 hf
  have q0 : DataW.trod enc Try.prog W 0 (fun _ => true) true n 29 [c0] = xs[0]? := hfd 0 _ rfl
  rw [List.getElem?_eq_getElem (show 0 < xs.length by rw [hlen]; decide)] at q0
  obtain ⟨n0, e0, _, wf0⟩ := DataW.trod_int Try.underlying29 q0
  obtain rfl : c0 = _ := by simpa using e0
  have z0 := bounds_u32 wf0
  have q1 : DataW.trod enc Try.prog W 0 (fun _ => true) true n 3 [c1] = xs[1]? := hfd 1 _ rfl
  rw [List.getElem?_eq_getElem (show 1 < xs.length by rw [hlen]; decide)] at q1
  obtain ⟨n1, e1, _, wf1⟩ := DataW.trod_int Try.underlying3 q1
  obtain rfl : c1 = _ := by simpa using e1
  have z1 := bounds_i64 wf1
  have q2 : DataW.trod enc Try.prog W 0 (fun _ => true) true n 29 [c2] = xs[2]? := hfd 2 _ rfl
  rw [List.getElem?_eq_getElem (show 2 < xs.length by rw [hlen]; decide)] at q2
  obtain ⟨n2, e2, _, wf2⟩ := DataW.trod_int Try.underlying29 q2
  obtain rfl : c2 = _ := by simpa using e2
  have z2 := bounds_u32 wf2
  have q3 : DataW.trod enc Try.prog W 0 (fun _ => true) true n 3 [c3] = xs[3]? := hfd 3 _ rfl
  rw [List.getElem?_eq_getElem (show 3 < xs.length by rw [hlen]; decide)] at q3
  obtain ⟨n3, e3, _, wf3⟩ := DataW.trod_int Try.underlying3 q3
  obtain rfl : c3 = _ := by simpa using e3
  have z3 := bounds_i64 wf3
  have q4 : DataW.trod enc Try.prog W 0 (fun _ => true) true n 3 [c4] = xs[4]? := hfd 4 _ rfl
  rw [List.getElem?_eq_getElem (show 4 < xs.length by rw [hlen]; decide)] at q4
  obtain ⟨n4, e4, _, wf4⟩ := DataW.trod_int Try.underlying3 q4
  obtain rfl : c4 = _ := by simpa using e4
  have z4 := bounds_i64 wf4
  exact ⟨⟨n0, n1, n2, n3, n4⟩, ⟨z0.1, z0.2, z1.1, z1.2, z2.1, z2.2, z3.1, z3.2, z4.1, z4.2⟩, rfl⟩

theorem open_rt {r : Reach} {b0 : Nat} {v : Value} {d : DataW H} {p : List MemPlace} (hv : Value.okWide Try.prog W r b0 32 v) (h : DataW.Trod enc Try.prog W 0 (fun _ => true) true 32 v d p) : ∃ x : Rt, v = rtV x ∧ x.Ok := by
  obtain ⟨cs, rfl, hsz⟩ := okWide_struct Try.underlying32 hv
  have hsz5 : cs.size = 5 := hsz.trans (by kernel_rfl)
  obtain ⟨l⟩ := cs
  match l, hsz5 with
  | [c0, c1, c2, c3, c4], _ =>
    obtain ⟨fuel, hf⟩ := h
    obtain ⟨x, hx, e⟩ := rt_cells (c0 := c0) (c1 := c1) (c2 := c2) (c3 := c3) (c4 := c4) hf
    refine ⟨x, ?_, hx⟩
    rw [e]
    rfl

set_option maxHeartbeats 1000000 in
theorem act_cells {m : Nat} {cs : List Value} {x : DataW H × List MemPlace} (hf : DataW.trod enc Try.prog W 0 (fun _ => true) true m 50 cs = some x) : ∃ (g : Bool) (r : Rt), r.Ok ∧ cs = .bool g :: rc r := by
  obtain ⟨xs, n, _, _, hl, hlen, hfd⟩ := DataW.trod_struct Try.underlying50 hf
  have hl6 : cs.length = 6 := hl.trans (by kernel_rfl)
  match cs, hl6 with
  | [c0, c1, c2, c3, c4, c5], _ =>
    have q0 : DataW.trod enc Try.prog W 0 (fun _ => true) true n 4 [c0] = xs[0]? := hfd 0 _ rfl
    rw [List.getElem?_eq_getElem (show 0 < xs.length by rw [hlen]; decide)] at q0
    obtain ⟨g, e0, _⟩ := DataW.trod_bool Try.underlying4 q0
    obtain rfl : c0 = _ := by simpa using e0
    have q1 : DataW.trod enc Try.prog W 0 (fun _ => true) true n 32 [c1, c2, c3, c4, c5] = xs[1]? := hfd 1 _ rfl
    rw [List.getElem?_eq_getElem (show 1 < xs.length by rw [hlen]; decide)] at q1
    obtain ⟨r, hr, e⟩ := rt_cells q1
    exact ⟨g, r, hr, by rw [e]⟩

theorem open_acts {v : Value} {r : Reach} {b0 : Nat} {d : DataW H} {p : List MemPlace} (hv : Value.okWide Try.prog W r b0 22 v) (h : DataW.Trod enc Try.prog W 0 (fun _ => true) true 22 v d p) : ∃ l, Acts W v l := by
  obtain ⟨a0, len0, cap0, rfl⟩ := okWide_slice Try.underlying22 hv
  obtain ⟨fuel, hf⟩ := h
  rcases Go.Deep.open_slice Try.underlying22 hf with ⟨hcs, _⟩ | ⟨x, len, cap, m, n, D, Pl, hcs, hb, hl, hm, hmm, _, hx⟩
  · simp [Value.cells] at hcs
    obtain ⟨rfl, rfl, rfl⟩ := hcs
    exact ⟨[], none, 0, rfl, Nat.le_refl _, Nat.zero_le _, fun h => absurd h (by simp), by simp⟩
  · simp [Value.cells] at hcs
    obtain ⟨rfl, rfl, rfl⟩ := hcs
    simp only [if_true] at hmm
    subst hmm
    have hch : ∀ i, i < len0 → ∃ a : Bool × Rt, a.2.Ok ∧ ∀ k u, (.bool a.1 :: rc a.2 : List Value)[k]? = some u → W.cell? (x.add (i * 6 + k)) = some u := by
      intro i hi
      obtain ⟨cs, h1, h2⟩ := hx i (Nat.lt_of_lt_of_le hi hl)
      obtain ⟨g, r, hr, e⟩ := act_cells h2
      obtain ⟨_, hlen, hc⟩ := World.cells?_some h1
      rw [show Try.prog.cellsOf 50 = 6 from by kernel_rfl] at hc hlen
      refine ⟨(g, r), hr, fun k u hk => ?_⟩
      have hk6 : k < 6 := by
        have := (List.getElem?_eq_some_iff.1 hk).1
        simpa [rc] using this
      have := hc k hk6
      rw [e, hk] at this
      rw [← this]
      have ea : x.add (i * 6 + k) = (x.add (i * 6)).add k := by
        unfold Addr.add
        generalize i * 6 = q
        by_cases h1 : q = 0 <;> by_cases h2 : k = 0 <;> simp [h1, h2, Nat.add_assoc]
      rw [ea]
    obtain ⟨f, hf2⟩ := Go.Deep.choose_lt (α := Bool × Rt) hch
    refine ⟨(List.range len0).map f, some x, _, by simp, by simpa using hl, hm, fun hp => ?_, ?_⟩
    · have hp0 : 0 < len0 := by simpa using hp
      obtain ⟨b, off, spot⟩ := x
      have h0 := (hf2 0 hp0).2 0 _ rfl
      have hs : spot = none := by simpa [Addr.add] using World.cell?_spot h0
      subst hs
      refine ⟨b, off, rfl, ?_, fun j hj => ?_⟩
      · have := block_of_cell h0
        simpa [Addr.add] using this
      · have hj' : j < len0 := by simpa using hj
        have hcj := (hf2 j hj').2
        simp only [add_at] at hcj
        simp only [List.getElem_map, List.getElem_range]
        have e : ∀ k, off + j * 6 + 1 + k = off + (j * 6 + (k + 1)) := fun k => by omega
        refine ⟨hcj 0 _ rfl, ?_, ?_, ?_, ?_, ?_⟩
        · exact hcj 1 _ rfl
        · rw [e 1]; exact hcj 2 _ rfl
        · rw [e 2]; exact hcj 3 _ rfl
        · rw [e 3]; exact hcj 4 _ rfl
        · rw [e 4]; exact hcj 5 _ rfl
    · intro a ha
      obtain ⟨i, hi, rfl⟩ := List.mem_map.1 ha
      exact (hf2 i (by simpa using hi)).1
end
end Go.Proofs.Ytfdoofkofljgnaa
