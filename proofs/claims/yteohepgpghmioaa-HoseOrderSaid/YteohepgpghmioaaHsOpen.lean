/- Calls, and rows of calls, that came in, opened. -/
import Derived.Test.YteohepgpghmioaaHsRead
import Derived.OpenShut
import Derived.WideShapes
import Derived.ChangeSame
import Derived.ChangeArms
import Derived.Deep.Slices
namespace Go.Proofs.Yteohepgpghmioaa
set_option linter.unusedVariables false
set_option linter.unusedSimpArgs false
set_option maxRecDepth 100000
open Go.ChangeShapes Go.WideShapes Go.ChangeAt Go.RowKit

def AI64 (n : Int) : Prop := -9223372036854775808 ≤ n ∧ n ≤ 9223372036854775807
/-- A call of the law: what, where, how many, the bytes and the slice that they lie in. -/
structure Ha where
  d : Int
  a : Int
  n : Int
  b : List UInt8
  v : Value
instance : Inhabited Ha := ⟨⟨0, 0, 0, [], .slice none 0 0⟩⟩
def ha (x : Ha) : List Value := [.int .i64 x.d, .int .i64 x.a, .int .i64 x.n, x.v]
def haV (x : Ha) : Value := .agg #[.int .i64 x.d, .int .i64 x.a, .int .i64 x.n, x.v]
def Ha.Ok (w : World) (x : Ha) : Prop := AI64 x.d ∧ AI64 x.a ∧ AI64 x.n ∧ Byt w x.v x.b
theorem Ha.Ok.grow {w w' : World} {x : Ha} (h : x.Ok w) (g : Grow w w') : x.Ok w' := ⟨h.1, h.2.1, h.2.2.1, h.2.2.2.grow g⟩
/-- The slice v reads as these calls. -/
def Has (w : World) (v : Value) (l : List Ha) : Prop := ∃ A c, v = .slice A l.length c ∧ l.length ≤ c ∧ c ≤ maxLen ∧ (∀ x ∈ l, x.Ok w) ∧
  (0 < l.length → ∃ b off, A = some ⟨b, off, none⟩ ∧ b < w.heap.size ∧ ∀ (i : Nat) (x : Ha), l[i]? = some x → w.cell? ⟨b, off + i * 4, none⟩ = some (.int .i64 x.d) ∧ w.cell? ⟨b, off + i * 4 + 1, none⟩ = some (.int .i64 x.a) ∧ w.cell? ⟨b, off + i * 4 + 2, none⟩ = some (.int .i64 x.n) ∧ w.cell? ⟨b, off + i * 4 + 3, none⟩ = some x.v)
theorem Has.grow {w w' : World} {v : Value} {l : List Ha} (h : Has w v l) (g : Grow w w') : Has w' v l := by
  obtain ⟨A, c, rfl, h1, h2, h3, h4⟩ := h
  refine ⟨A, c, rfl, h1, h2, fun x hx => (h3 x hx).grow g, fun hp => ?_⟩
  obtain ⟨b, off, rfl, hb, hc⟩ := h4 hp
  refine ⟨b, off, rfl, Nat.lt_of_lt_of_le hb g.size, fun i x hx => ?_⟩
  obtain ⟨q1, q2, q3, q4⟩ := hc i x hx
  exact ⟨(g.cell (p := ⟨b, off + i * 4, none⟩) hb).trans q1, (g.cell (p := ⟨b, off + i * 4 + 1, none⟩) hb).trans q2, (g.cell (p := ⟨b, off + i * 4 + 2, none⟩) hb).trans q3, (g.cell (p := ⟨b, off + i * 4 + 3, none⟩) hb).trans q4⟩
section
variable {H : Type} {enc : TypeId × Value → H} {W : World}
theorem awf_i64 (n : Int) (h : (Lit.int .i64 n).wf = true) : AI64 n := by
  simp [Lit.wf, IntKind.min, IntKind.max, IntKind.signed, IntKind.bits] at h
  unfold AI64
  omega
theorem open_bytesC {m : Nat} {cs : List Value} {x : DataW H × List MemPlace} (hf : DataW.trod enc Try.prog W 0 (fun _ => true) true m 30 cs = some x) : ∃ v l, cs = [v] ∧ Byt W v l := by
  rcases open_ints Try.underlying30 Try.underlying5 (by kernel_rfl) hf with ⟨hcs, _⟩ | ⟨x, l, c, zs, hcs, _, hl, hm, hz, hx, hcell, hwz⟩
  · exact ⟨_, [], hcs, Byt.nil _⟩
  · simp only [if_true] at hz
    obtain ⟨bs, hb, _⟩ := Byt.of_ints (w := W) (x := x) hl hm hz hcell hwz
    exact ⟨_, bs, hcs, hb⟩
set_option maxHeartbeats 1000000 in
theorem ha_cells {m : Nat} {cs : List Value} {x : DataW H × List MemPlace} (hf : DataW.trod enc Try.prog W 0 (fun _ => true) true m 32 cs = some x) : ∃ a : Ha, a.Ok W ∧ cs = ha a := by
  obtain ⟨xs, n, _, _, hl, hlen, hfd⟩ := DataW.trod_struct Try.underlying32 hf
  have hl4 : cs.length = 4 := hl.trans (by kernel_rfl)
  match cs, hl4 with
  | [c0, c1, c2, c3], _ =>
    have q0 : DataW.trod enc Try.prog W 0 (fun _ => true) true n 3 [c0] = xs[0]? := hfd 0 _ rfl
    rw [List.getElem?_eq_getElem (show 0 < xs.length by rw [hlen]; decide)] at q0
    obtain ⟨n0, e0, _, wf0⟩ := DataW.trod_int Try.underlying3 q0
    obtain rfl : c0 = _ := by simpa using e0
    have q1 : DataW.trod enc Try.prog W 0 (fun _ => true) true n 3 [c1] = xs[1]? := hfd 1 _ rfl
    rw [List.getElem?_eq_getElem (show 1 < xs.length by rw [hlen]; decide)] at q1
    obtain ⟨n1, e1, _, wf1⟩ := DataW.trod_int Try.underlying3 q1
    obtain rfl : c1 = _ := by simpa using e1
    have q2 : DataW.trod enc Try.prog W 0 (fun _ => true) true n 3 [c2] = xs[2]? := hfd 2 _ rfl
    rw [List.getElem?_eq_getElem (show 2 < xs.length by rw [hlen]; decide)] at q2
    obtain ⟨n2, e2, _, wf2⟩ := DataW.trod_int Try.underlying3 q2
    obtain rfl : c2 = _ := by simpa using e2
    have q3 : DataW.trod enc Try.prog W 0 (fun _ => true) true n 30 [c3] = xs[3]? := hfd 3 _ rfl
    rw [List.getElem?_eq_getElem (show 3 < xs.length by rw [hlen]; decide)] at q3
    obtain ⟨v3, l3, e3, hb⟩ := open_bytesC q3
    obtain rfl : c3 = _ := by simpa using e3
    exact ⟨⟨n0, n1, n2, l3, c3⟩, ⟨awf_i64 _ wf0, awf_i64 _ wf1, awf_i64 _ wf2, hb⟩, rfl⟩
theorem open_ha {r : Reach} {b0 : Nat} {v : Value} {d : DataW H} {p : List MemPlace} (hv : Value.okWide Try.prog W r b0 32 v) (h : DataW.Trod enc Try.prog W 0 (fun _ => true) true 32 v d p) : ∃ x : Ha, v = haV x ∧ x.Ok W := by
  obtain ⟨cs, rfl, hsz⟩ := okWide_struct Try.underlying32 hv
  have hsz4 : cs.size = 4 := hsz.trans (by kernel_rfl)
  obtain ⟨l⟩ := cs
  match l, hsz4 with
  | [c0, c1, c2, c3], _ =>
    obtain ⟨fuel, hf⟩ := h
    obtain ⟨x, hx, e⟩ := ha_cells (cs := [c0, c1, c2, c3]) hf
    refine ⟨x, ?_, hx⟩
    rw [e]
    rfl
theorem open_has {v : Value} {r : Reach} {b0 : Nat} {d : DataW H} {p : List MemPlace} (hv : Value.okWide Try.prog W r b0 22 v) (h : DataW.Trod enc Try.prog W 0 (fun _ => true) true 22 v d p) : ∃ l, Has W v l := by
  obtain ⟨a0, len0, cap0, rfl⟩ := okWide_slice Try.underlying22 hv
  obtain ⟨fuel, hf⟩ := h
  rcases Go.Deep.open_slice Try.underlying22 hf with ⟨hcs, _⟩ | ⟨x, len, cap, m, n, D, Pl, hcs, hb, hl, hm, hmm, _, hx⟩
  · simp [Value.cells] at hcs
    obtain ⟨rfl, rfl, rfl⟩ := hcs
    exact ⟨[], none, 0, rfl, Nat.le_refl _, Nat.zero_le _, by simp, fun h => absurd h (by simp)⟩
  · simp [Value.cells] at hcs
    obtain ⟨rfl, rfl, rfl⟩ := hcs
    simp only [if_true] at hmm
    subst hmm
    have hch : ∀ i, i < len0 → ∃ a : Ha, a.Ok W ∧ ∀ k u, (ha a)[k]? = some u → W.cell? (x.add (i * 4 + k)) = some u := by
      intro i hi
      obtain ⟨cs, h1, h2⟩ := hx i (Nat.lt_of_lt_of_le hi hl)
      obtain ⟨r, hr, e⟩ := ha_cells h2
      obtain ⟨_, hlen, hc⟩ := World.cells?_some h1
      rw [show Try.prog.cellsOf 32 = 4 from by kernel_rfl] at hc hlen
      refine ⟨r, hr, fun k u hk => ?_⟩
      have hk4 : k < 4 := by
        have := (List.getElem?_eq_some_iff.1 hk).1
        simpa [ha] using this
      have := hc k hk4
      rw [e, hk] at this
      rw [← this]
      have ea : x.add (i * 4 + k) = (x.add (i * 4)).add k := by
        unfold Addr.add
        generalize i * 4 = q
        by_cases h1 : q = 0 <;> by_cases h2 : k = 0 <;> simp [h1, h2, Nat.add_assoc]
      rw [ea]
    obtain ⟨f, hf2⟩ := Go.Deep.choose_lt (α := Ha) hch
    refine ⟨(List.range len0).map f, some x, _, by simp, by simpa using hl, hm, ?_, fun hp => ?_⟩
    · intro a ha
      obtain ⟨i, hi, rfl⟩ := List.mem_map.1 ha
      exact (hf2 i (by simpa using hi)).1
    · have hp0 : 0 < len0 := by simpa using hp
      obtain ⟨b, off, spot⟩ := x
      have h0 := (hf2 0 hp0).2 0 _ rfl
      have hs : spot = none := by simpa [Addr.add] using World.cell?_spot h0
      subst hs
      refine ⟨b, off, rfl, ?_, fun j y hj => ?_⟩
      · have := block_of_cell h0
        simpa [Addr.add] using this
      · have hj' : j < len0 := by
          have := (List.getElem?_eq_some_iff.1 hj).1
          simpa using this
        have hy : y = f j := by
          rw [List.getElem?_map, List.getElem?_range hj'] at hj
          simpa using hj.symm
        subst hy
        have hcj := (hf2 j hj').2
        simp only [add_at] at hcj
        refine ⟨hcj 0 _ rfl, ?_, ?_, ?_⟩
        · have := hcj 1 _ rfl
          rwa [← Nat.add_assoc] at this
        · have := hcj 2 _ rfl
          rwa [← Nat.add_assoc] at this
        · have := hcj 3 _ rfl
          rwa [← Nat.add_assoc] at this
end
end Go.Proofs.Yteohepgpghmioaa
