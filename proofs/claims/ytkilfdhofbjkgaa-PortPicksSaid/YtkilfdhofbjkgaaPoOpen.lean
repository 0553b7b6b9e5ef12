/- Calls of the law of port, rows of them, quads, that came in, opened. -/
import Derived.Test.YtkilfdhofbjkgaaPoRow
import Derived.Test.YtkilfdhofbjkgaaOpen
import Derived.OpenShut
import Derived.WideShapes
import Derived.ChangeSame
import Derived.ChangeArms
import Derived.Deep.Slices
namespace Go.Proofs.Ytkilfdhofbjkgaa
set_option linter.unusedVariables false
set_option linter.unusedSimpArgs false
set_option maxRecDepth 100000
open Go.ChangeShapes Go.WideShapes Go.ChangeAt Go.RowKit

/-- Within the ranges of the kinds. -/
def In64 (n : Int) : Prop := -9223372036854775808 ≤ n ∧ n ≤ 9223372036854775807
def In32 (n : Int) : Prop := 0 ≤ n ∧ n ≤ 4294967295
def In16 (n : Int) : Prop := 0 ≤ n ∧ n ≤ 65535
def Ed.Ok (e : Ed) : Prop := In32 e.ad ∧ In16 e.po
def Qd.Ok (q : Qd) : Prop := q.l.Ok ∧ q.r.Ok
/-- A call of the law: what, the owner, the quad. -/
structure Pa where
  d : Int
  o : Int
  q : Qd
instance : Inhabited Pa := ⟨⟨0, 0, ⟨default, default⟩⟩⟩
def pa (x : Pa) : List Value := [.int .i64 x.d, .int .i64 x.o, .int .u32 x.q.l.ad, .int .u16 x.q.l.po, .int .u32 x.q.r.ad, .int .u16 x.q.r.po]
def paV (x : Pa) : Value := .agg #[.int .i64 x.d, .int .i64 x.o, .int .u32 x.q.l.ad, .int .u16 x.q.l.po, .int .u32 x.q.r.ad, .int .u16 x.q.r.po]
def Pa.Ok (x : Pa) : Prop := In64 x.d ∧ In64 x.o ∧ x.q.Ok
/-- The slice v reads as these calls. -/
def Pas (w : World) (v : Value) (l : List Pa) : Prop := ∃ A c, v = .slice A l.length c ∧ l.length ≤ c ∧ c ≤ maxLen ∧ (∀ x ∈ l, x.Ok) ∧
  (0 < l.length → ∃ b off, A = some ⟨b, off, none⟩ ∧ b < w.heap.size ∧ ∀ (i : Nat) (x : Pa), l[i]? = some x → w.cell? ⟨b, off + i * 6, none⟩ = some (.int .i64 x.d) ∧ w.cell? ⟨b, off + i * 6 + 1, none⟩ = some (.int .i64 x.o) ∧ w.cell? ⟨b, off + i * 6 + 2, none⟩ = some (.int .u32 x.q.l.ad) ∧ w.cell? ⟨b, off + i * 6 + 3, none⟩ = some (.int .u16 x.q.l.po) ∧ w.cell? ⟨b, off + i * 6 + 4, none⟩ = some (.int .u32 x.q.r.ad) ∧ w.cell? ⟨b, off + i * 6 + 5, none⟩ = some (.int .u16 x.q.r.po))
section
variable {H : Type} {enc : TypeId × Value → H} {W : World}
theorem pwf_i64 (n : Int) (h : (Lit.int .i64 n).wf = true) : In64 n := by
  simp [Lit.wf, IntKind.min, IntKind.max, IntKind.signed, IntKind.bits] at h
  unfold In64
  omega
theorem pwf_u32 (n : Int) (h : (Lit.int .u32 n).wf = true) : In32 n := by
  simp [Lit.wf, IntKind.min, IntKind.max, IntKind.signed, IntKind.bits] at h
  unfold In32
  omega
theorem pwf_u16 (n : Int) (h : (Lit.int .u16 n).wf = true) : In16 n := by
  simp [Lit.wf, IntKind.min, IntKind.max, IntKind.signed, IntKind.bits] at h
  unfold In16
  omega
theorem ed_cells {m : Nat} {c0 c1 : Value} {x : DataW H × List MemPlace} (hf : DataW.trod enc Try.prog W 0 (fun _ => true) true m 40 [c0, c1] = some x) : ∃ e : Ed, e.Ok ∧ [c0, c1] = [.int .u32 e.ad, .int .u16 e.po] := by
  obtain ⟨xs, n, _, _, _, hlen, hfd⟩ := DataW.trod_struct Try.underlying40 hf
  have q0 : DataW.trod enc Try.prog W 0 (fun _ => true) true n 37 [c0] = xs[0]? := hfd 0 _ rfl
  rw [List.getElem?_eq_getElem (show 0 < xs.length by rw [hlen]; decide)] at q0
  obtain ⟨n0, e0, _, wf0⟩ := DataW.trod_int Try.underlying37 q0
  obtain rfl : c0 = _ := by simpa using e0
  have q1 : DataW.trod enc Try.prog W 0 (fun _ => true) true n 38 [c1] = xs[1]? := hfd 1 _ rfl
  rw [List.getElem?_eq_getElem (show 1 < xs.length by rw [hlen]; decide)] at q1
  obtain ⟨n1, e1, _, wf1⟩ := DataW.trod_int Try.underlying38 q1
  obtain rfl : c1 = _ := by simpa using e1
  exact ⟨⟨n0, n1⟩, ⟨pwf_u32 _ wf0, pwf_u16 _ wf1⟩, rfl⟩
theorem qd_cells {m : Nat} {c0 c1 c2 c3 : Value} {x : DataW H × List MemPlace} (hf : DataW.trod enc Try.prog W 0 (fun _ => true) true m 42 [c0, c1, c2, c3] = some x) : ∃ q : Qd, q.Ok ∧ [c0, c1, c2, c3] = [.int .u32 q.l.ad, .int .u16 q.l.po, .int .u32 q.r.ad, .int .u16 q.r.po] := by
  obtain ⟨xs, n, _, _, _, hlen, hfd⟩ := DataW.trod_struct Try.underlying42 hf
  have q0 : DataW.trod enc Try.prog W 0 (fun _ => true) true n 40 [c0, c1] = xs[0]? := hfd 0 _ rfl
  rw [List.getElem?_eq_getElem (show 0 < xs.length by rw [hlen]; decide)] at q0
  obtain ⟨a, o0, e0⟩ := ed_cells q0
  have q1 : DataW.trod enc Try.prog W 0 (fun _ => true) true n 40 [c2, c3] = xs[1]? := hfd 1 _ rfl
  rw [List.getElem?_eq_getElem (show 1 < xs.length by rw [hlen]; decide)] at q1
  obtain ⟨b, o1, e1⟩ := ed_cells q1
  refine ⟨⟨a, b⟩, ⟨o0, o1⟩, ?_⟩
  injection e0 with h0 h1
  injection h1 with h1 _
  injection e1 with h2 h3
  injection h3 with h3 _
  rw [h0, h1, h2, h3]
set_option maxHeartbeats 1000000 in
theorem pa_cells {m : Nat} {cs : List Value} {x : DataW H × List MemPlace} (hf : DataW.trod enc Try.prog W 0 (fun _ => true) true m 44 cs = some x) : ∃ a : Pa, a.Ok ∧ cs = pa a := by
  obtain ⟨xs, n, _, _, hl, hlen, hfd⟩ := DataW.trod_struct Try.underlying44 hf
  have hl6 : cs.length = 6 := hl.trans (by kernel_rfl)
  match cs, hl6 with
  | [c0, c1, c2, c3, c4, c5], _ =>
    have q0 : DataW.trod enc Try.prog W 0 (fun _ => true) true n 3 [c0] = xs[0]? := hfd 0 _ rfl
    rw [List.getElem?_eq_getElem (show 0 < xs.length by rw [hlen]; decide)] at q0
    obtain ⟨n0, e0, _, wf0⟩ := DataW.trod_int Try.underlying3 q0
    obtain rfl : c0 = _ := by simpa using e0
    have q1 : DataW.trod enc Try.prog W 0 (fun _ => true) true n 3 [c1] = xs[1]? := hfd 1 _ rfl
    rw [List.getElem?_eq_getElem (show 1 < xs.length by rw [hlen]; decide)] at q1
    obtain ⟨n1, e1, _, wf1⟩ := DataW.trod_int Try.underlying3 q1
    obtain rfl : c1 = _ := by simpa using e1
    have q2 : DataW.trod enc Try.prog W 0 (fun _ => true) true n 42 [c2, c3, c4, c5] = xs[2]? := hfd 2 _ rfl
    rw [List.getElem?_eq_getElem (show 2 < xs.length by rw [hlen]; decide)] at q2
    obtain ⟨q, o2, e2⟩ := qd_cells q2
    exact ⟨⟨n0, n1, q⟩, ⟨pwf_i64 _ wf0, pwf_i64 _ wf1, o2⟩, by rw [e2]; rfl⟩
theorem open_pa {r : Reach} {b0 : Nat} {v : Value} {d : DataW H} {p : List MemPlace} (hv : Value.okWide Try.prog W r b0 44 v) (h : DataW.Trod enc Try.prog W 0 (fun _ => true) true 44 v d p) : ∃ x : Pa, v = paV x ∧ x.Ok := by
  obtain ⟨cs, rfl, hsz⟩ := okWide_struct Try.underlying44 hv
  have hsz6 : cs.size = 6 := hsz.trans (by kernel_rfl)
  obtain ⟨l⟩ := cs
  match l, hsz6 with
  | [c0, c1, c2, c3, c4, c5], _ =>
    obtain ⟨fuel, hf⟩ := h
    obtain ⟨x, hx, e⟩ := pa_cells (cs := [c0, c1, c2, c3, c4, c5]) hf
    refine ⟨x, ?_, hx⟩
    rw [e]
    rfl
theorem open_qd {r : Reach} {b0 : Nat} {v : Value} {d : DataW H} {p : List MemPlace} (hv : Value.okWide Try.prog W r b0 42 v) (h : DataW.Trod enc Try.prog W 0 (fun _ => true) true 42 v d p) : ∃ q : Qd, v = qdV q ∧ q.Ok := by
  obtain ⟨cs, rfl, hsz⟩ := okWide_struct Try.underlying42 hv
  have hsz4 : cs.size = 4 := hsz.trans (by kernel_rfl)
  obtain ⟨l⟩ := cs
  match l, hsz4 with
  | [c0, c1, c2, c3], _ =>
    obtain ⟨fuel, hf⟩ := h
    obtain ⟨x, hx, e⟩ := qd_cells (c0 := c0) (c1 := c1) (c2 := c2) (c3 := c3) hf
    refine ⟨x, ?_, hx⟩
    rw [e]
theorem open_pas {v : Value} {r : Reach} {b0 : Nat} {d : DataW H} {p : List MemPlace} (hv : Value.okWide Try.prog W r b0 22 v) (h : DataW.Trod enc Try.prog W 0 (fun _ => true) true 22 v d p) : ∃ l, Pas W v l := by
  obtain ⟨a0, len0, cap0, rfl⟩ := okWide_slice Try.underlying22 hv
  obtain ⟨fuel, hf⟩ := h
  rcases Go.Deep.open_slice Try.underlying22 hf with ⟨hcs, _⟩ | ⟨x, len, cap, m, n, D, Pl, hcs, hb, hl, hm, hmm, _, hx⟩
  · simp [Value.cells] at hcs
    obtain ⟨rfl, rfl, rfl⟩ := hcs
    exact ⟨[], none, 0, rfl, Nat.le_refl _, Nat.zero_le _, by simp, fun h => absurd h (by simp)⟩
  · simp [Value.cells] at hcs
    obtain ⟨rfl, rfl, rfl⟩ := hcs
    simp only [if_true] at hmm
    subst hmm
    have hch : ∀ i, i < len0 → ∃ a : Pa, a.Ok ∧ ∀ k u, (pa a)[k]? = some u → W.cell? (x.add (i * 6 + k)) = some u := by
      intro i hi
      obtain ⟨cs, h1, h2⟩ := hx i (Nat.lt_of_lt_of_le hi hl)
      obtain ⟨r, hr, e⟩ := pa_cells h2
      obtain ⟨_, hlen, hc⟩ := World.cells?_some h1
      rw [show Try.prog.cellsOf 44 = 6 from by kernel_rfl] at hc hlen
      refine ⟨r, hr, fun k u hk => ?_⟩
      have hk6 : k < 6 := by
        have := (List.getElem?_eq_some_iff.1 hk).1
        simpa [pa] using this
      have := hc k hk6
      rw [e, hk] at this
      rw [← this]
      have ea : x.add (i * 6 + k) = (x.add (i * 6)).add k := by
        unfold Addr.add
        generalize i * 6 = q
        by_cases h1 : q = 0 <;> by_cases h2 : k = 0 <;> simp [h1, h2, Nat.add_assoc]
      rw [ea]
    obtain ⟨f, hf2⟩ := Go.Deep.choose_lt (α := Pa) hch
    refine ⟨(List.range len0).map f, some x, _, by simp, by simpa using hl, hm, ?_, fun hp => ?_⟩
    · intro a ha
      obtain ⟨i, hi, rfl⟩ := List.mem_map.1 ha
      exact (hf2 i (by simpa using hi)).1
    · have hp0 : 0 < len0 := by simpa using hp
      obtain ⟨b, off, spot⟩ := x
      have h0 := (hf2 0 hp0).2 0 _ rfl
      have hs : spot = none := by simpa [Addr.add] using World.cell?_spot h0
      subst hs
      refine ⟨b, off, rfl, ?_, fun j y hj => ?_⟩
      · have := block_of_cell h0
        simpa [Addr.add] using this
      · have hj' : j < len0 := by
          have := (List.getElem?_eq_some_iff.1 hj).1
          simpa using this
        have hy : y = f j := by
          rw [List.getElem?_map, List.getElem?_range hj'] at hj
          simpa using hj.symm
        subst hy
        have hcj := (hf2 j hj').2
        simp only [add_at] at hcj
        refine ⟨hcj 0 _ rfl, ?_, ?_, ?_, ?_, ?_⟩
        · have := hcj 1 _ rfl
          rwa [← Nat.add_assoc] at this
        · have := hcj 2 _ rfl
          rwa [← Nat.add_assoc] at this
        · have := hcj 3 _ rfl
          rwa [← Nat.add_assoc] at this
        · have := hcj 4 _ rfl
          rwa [← Nat.add_assoc] at this
        · have := hcj 5 _ rfl
          rwa [← Nat.add_assoc] at this
end
end Go.Proofs.Ytkilfdhofbjkgaa
