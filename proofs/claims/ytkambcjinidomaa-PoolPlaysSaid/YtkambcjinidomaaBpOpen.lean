/- Calls of the law, and rows of them, that came in, opened. -/
import Derived.Test.YtkambcjinidomaaBpRow
import Derived.OpenShut
import Derived.WideShapes
import Derived.ChangeSame
import Derived.ChangeArms
import Derived.Deep.Slices
namespace Go.Proofs.Ytkambcjinidomaa
set_option linter.unusedVariables false
set_option linter.unusedSimpArgs false
set_option maxRecDepth 100000
open Go.ChangeShapes Go.WideShapes Go.ChangeAt Go.RowKit

def AI64 (n : Int) : Prop := -9223372036854775808 ≤ n ∧ n ≤ 9223372036854775807
/-- A call of the law: what; group, number, how many, size. -/
structure Ba where
  d : Int
  g : Int
  a : Int
  n : Int
  s : Int
instance : Inhabited Ba := ⟨⟨0, 0, 0, 0, 0⟩⟩
def ba (x : Ba) : List Value := [.int .i64 x.d, .int .i64 x.g, .int .i64 x.a, .int .i64 x.n, .int .i64 x.s]
def baV (x : Ba) : Value := .agg #[.int .i64 x.d, .int .i64 x.g, .int .i64 x.a, .int .i64 x.n, .int .i64 x.s]
def Ba.Ok (x : Ba) : Prop := AI64 x.d ∧ AI64 x.g ∧ AI64 x.a ∧ AI64 x.n ∧ AI64 x.s
/-- The slice v reads as these calls. -/
def Bas (w : World) (v : Value) (l : List Ba) : Prop := ∃ A c, v = .slice A l.length c ∧ l.length ≤ c ∧ c ≤ maxLen ∧ (∀ x ∈ l, x.Ok) ∧
  (0 < l.length → ∃ b off, A = some ⟨b, off, none⟩ ∧ b < w.heap.size ∧ ∀ (i : Nat) (x : Ba), l[i]? = some x → w.cell? ⟨b, off + i * 5, none⟩ = some (.int .i64 x.d) ∧ w.cell? ⟨b, off + i * 5 + 1, none⟩ = some (.int .i64 x.g) ∧ w.cell? ⟨b, off + i * 5 + 2, none⟩ = some (.int .i64 x.a) ∧ w.cell? ⟨b, off + i * 5 + 3, none⟩ = some (.int .i64 x.n) ∧ w.cell? ⟨b, off + i * 5 + 4, none⟩ = some (.int .i64 x.s))
section
variable {H : Type} {enc : TypeId × Value → H} {W : World}
theorem awf_i64 (n : Int) (h : (Lit.int .i64 n).wf = true) : AI64 n := by
  simp [Lit.wf, IntKind.min, IntKind.max, IntKind.signed, IntKind.bits] at h
  unfold AI64
  omega
set_option maxHeartbeats 1000000 in
theorem ba_cells {m : Nat} {cs : List Value} {x : DataW H × List MemPlace} (hf : DataW.trod enc Try.prog W 0 (fun _ => true) true m 32 cs = some x) : ∃ a : Ba, a.Ok ∧ cs = ba a := by
  obtain ⟨xs, n, _, _, hl, hlen, hfd⟩ := DataW.trod_struct Try.underlying32 hf
  have hl5 : cs.length = 5 := hl.trans (by kernel_rfl)
  match cs, hl5 with
  | [c0, c1, c2, c3, c4], _ =>
    have q0 : DataW.trod enc Try.prog W 0 (fun _ => true) true n 3 [c0] = xs[0]? := hfd 0 _ rfl
    rw [List.getElem?_eq_getElem (show 0 < xs.length by rw [hlen]; decide)] at q0
    obtain ⟨n0, e0, _, wf0⟩ := DataW.trod_int Try.underlying3 q0
    obtain rfl : c0 = _ := by simpa using e0
    have q1 : DataW.trod enc Try.prog W 0 (fun _ => true) true n 3 [c1] = xs[1]? := hfd 1 _ rfl
    rw [List.getElem?_eq_getElem (show 1 < xs.length by rw [hlen]; decide)] at q1
    obtain ⟨n1, e1, _, wf1⟩ := DataW.trod_int Try.underlying3 q1
    obtain rfl : c1 = _ := by simpa using e1
    have q2 : DataW.trod enc Try.prog W 0 (fun _ => true) true n 3 [c2] = xs[2]? := hfd 2 _ rfl
    rw [List.getElem?_eq_getElem (show 2 < xs.length by rw [hlen]; decide)] at q2
    obtain ⟨n2, e2, _, wf2⟩ := DataW.trod_int Try.underlying3 q2
    obtain rfl : c2 = _ := by simpa using e2
    have q3 : DataW.trod enc Try.prog W 0 (fun _ => true) true n 3 [c3] = xs[3]? := hfd 3 _ rfl
    rw [List.getElem?_eq_getElem (show 3 < xs.length by rw [hlen]; decide)] at q3
    obtain ⟨n3, e3, _, wf3⟩ := DataW.trod_int Try.underlying3 q3
    obtain rfl : c3 = _ := by simpa using e3
    have q4 : DataW.trod enc Try.prog W 0 (fun _ => true) true n 3 [c4] = xs[4]? := hfd 4 _ rfl
    rw [List.getElem?_eq_getElem (show 4 < xs.length by rw [hlen]; decide)] at q4
    obtain ⟨n4, e4, _, wf4⟩ := DataW.trod_int Try.underlying3 q4
    obtain rfl : c4 = _ := by simpa using e4
    exact ⟨⟨n0, n1, n2, n3, n4⟩, ⟨awf_i64 _ wf0, awf_i64 _ wf1, awf_i64 _ wf2, awf_i64 _ wf3, awf_i64 _ wf4⟩, rfl⟩
theorem open_ba {r : Reach} {b0 : Nat} {v : Value} {d : DataW H} {p : List MemPlace} (hv : Value.okWide Try.prog W r b0 32 v) (h : DataW.Trod enc Try.prog W 0 (fun _ => true) true 32 v d p) : ∃ x : Ba, v = baV x ∧ x.Ok := by
  obtain ⟨cs, rfl, hsz⟩ := okWide_struct Try.underlying32 hv
  have hsz5 : cs.size = 5 := hsz.trans (by kernel_rfl)
  obtain ⟨l⟩ := cs
  match l, hsz5 with
  | [c0, c1, c2, c3, c4], _ =>
    obtain ⟨fuel, hf⟩ := h
    obtain ⟨x, hx, e⟩ := ba_cells (cs := [c0, c1, c2, c3, c4]) hf
    refine ⟨x, ?_, hx⟩
    rw [e]
    rfl
theorem open_bas {v : Value} {r : Reach} {b0 : Nat} {d : DataW H} {p : List MemPlace} (hv : Value.okWide Try.prog W r b0 22 v) (h : DataW.Trod enc Try.prog W 0 (fun _ => true) true 22 v d p) : ∃ l, Bas W v l := by
  obtain ⟨a0, len0, cap0, rfl⟩ := okWide_slice Try.underlying22 hv
  obtain ⟨fuel, hf⟩ := h
  rcases Go.Deep.open_slice Try.underlying22 hf with ⟨hcs, _⟩ | ⟨x, len, cap, m, n, D, Pl, hcs, hb, hl, hm, hmm, _, hx⟩
  · simp [Value.cells] at hcs
    obtain ⟨rfl, rfl, rfl⟩ := hcs
    exact ⟨[], none, 0, rfl, Nat.le_refl _, Nat.zero_le _, by simp, fun h => absurd h (by simp)⟩
  · simp [Value.cells] at hcs
    obtain ⟨rfl, rfl, rfl⟩ := hcs
    simp only [if_true] at hmm
    subst hmm
    have hch : ∀ i, i < len0 → ∃ a : Ba, a.Ok ∧ ∀ k u, (ba a)[k]? = some u → W.cell? (x.add (i * 5 + k)) = some u := by
      intro i hi
      obtain ⟨cs, h1, h2⟩ := hx i (Nat.lt_of_lt_of_le hi hl)
      obtain ⟨r, hr, e⟩ := ba_cells h2
      obtain ⟨_, hlen, hc⟩ := World.cells?_some h1
      rw [show Try.prog.cellsOf 32 = 5 from by kernel_rfl] at hc hlen
      refine ⟨r, hr, fun k u hk => ?_⟩
      have hk5 : k < 5 := by
        have := (List.getElem?_eq_some_iff.1 hk).1
        simpa [ba] using this
      have := hc k hk5
      rw [e, hk] at this
      rw [← this]
      have ea : x.add (i * 5 + k) = (x.add (i * 5)).add k := by
        unfold Addr.add
        generalize i * 5 = q
        by_cases h1 : q = 0 <;> by_cases h2 : k = 0 <;> simp [h1, h2, Nat.add_assoc]
      rw [ea]
    obtain ⟨f, hf2⟩ := Go.Deep.choose_lt (α := Ba) hch
    refine ⟨(List.range len0).map f, some x, _, by simp, by simpa using hl, hm, ?_, fun hp => ?_⟩
    · intro a ha
      obtain ⟨i, hi, rfl⟩ := List.mem_map.1 ha
      exact (hf2 i (by simpa using hi)).1
    · have hp0 : 0 < len0 := by simpa using hp
      obtain ⟨b, off, spot⟩ := x
      have h0 := (hf2 0 hp0).2 0 _ rfl
      have hs : spot = none := by simpa [Addr.add] using World.cell?_spot h0
      subst hs
      refine ⟨b, off, rfl, ?_, fun j y hj => ?_⟩
      · have := block_of_cell h0
        simpa [Addr.add] using this
      · have hj' : j < len0 := by
          have := (List.getElem?_eq_some_iff.1 hj).1
          simpa using this
        have hy : y = f j := by
          rw [List.getElem?_map, List.getElem?_range hj'] at hj
          simpa using hj.symm
        subst hy
        have hcj := (hf2 j hj').2
        simp only [add_at] at hcj
        refine ⟨hcj 0 _ rfl, ?_, ?_, ?_, ?_⟩
        · have := hcj 1 _ rfl
          rwa [← Nat.add_assoc] at this
        · have := hcj 2 _ rfl
          rwa [← Nat.add_assoc] at this
        · have := hcj 3 _ rfl
          rwa [← Nat.add_assoc] at this
        · have := hcj 4 _ rfl
          rwa [← Nat.add_assoc] at this
end
end Go.Proofs.Ytkambcjinidomaa
