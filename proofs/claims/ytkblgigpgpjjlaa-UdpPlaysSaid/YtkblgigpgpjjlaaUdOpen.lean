/- Calls of the law of udp, rows of them, rows of booleans, that came in, opened. -/
import Derived.Test.YtkblgigpgpjjlaaUdRow
import Derived.Test.YtkblgigpgpjjlaaOpen
import Derived.OpenShut
import Derived.WideShapes
import Derived.ChangeSame
import Derived.ChangeArms
import Derived.Deep.Slices
import Derived.SizedLaws
namespace Go.Proofs.Ytkblgigpgpjjlaa
set_option linter.unusedVariables false
set_option linter.unusedSimpArgs false
set_option maxRecDepth 100000
open Go.ChangeShapes Go.WideShapes Go.ChangeAt Go.RowKit

/-- Within the ranges of the kinds. -/
def In64 (n : Int) : Prop := -9223372036854775808 ≤ n ∧ n ≤ 9223372036854775807
def In32 (n : Int) : Prop := 0 ≤ n ∧ n ≤ 4294967295
def In16 (n : Int) : Prop := 0 ≤ n ∧ n ≤ 65535
def Ed.Ok (e : Ed) : Prop := In32 e.ad ∧ In16 e.po
/-- A call of the law: what, the number, the datagram. -/
structure Ua where
  d : Int
  n : Int
  m : Mc
instance : Inhabited Ua := ⟨⟨0, 0, default⟩⟩
def ua (x : Ua) : List Value := [.int .i64 x.d, .int .i64 x.n, .int .u32 x.m.f.ad, .int .u16 x.m.f.po, .slice x.m.A x.m.n x.m.c]
def uaV (x : Ua) : Value := .agg #[.int .i64 x.d, .int .i64 x.n, .int .u32 x.m.f.ad, .int .u16 x.m.f.po, .slice x.m.A x.m.n x.m.c]
def Ua.Ok (w : World) (x : Ua) : Prop := In64 x.d ∧ In64 x.n ∧ x.m.f.Ok ∧ Byt w x.m.v x.m.d ∧ x.m.d.length ≤ 140737488351232
theorem Ua.Ok.grow {w w' : World} {x : Ua} (h : x.Ok w) (g : Grow w w') : x.Ok w' := ⟨h.1, h.2.1, h.2.2.1, h.2.2.2.1.grow g, h.2.2.2.2⟩
/-- The slice v reads as these calls. -/
def Uas (w : World) (v : Value) (l : List Ua) : Prop := ∃ A c, v = .slice A l.length c ∧ l.length ≤ c ∧ c ≤ maxLen ∧ (∀ x ∈ l, x.Ok w) ∧
  (0 < l.length → ∃ b off, A = some ⟨b, off, none⟩ ∧ b < w.heap.size ∧ ∀ (i : Nat) (x : Ua), l[i]? = some x → w.cell? ⟨b, off + i * 5, none⟩ = some (.int .i64 x.d) ∧ w.cell? ⟨b, off + i * 5 + 1, none⟩ = some (.int .i64 x.n) ∧ w.cell? ⟨b, off + i * 5 + 2, none⟩ = some (.int .u32 x.m.f.ad) ∧ w.cell? ⟨b, off + i * 5 + 3, none⟩ = some (.int .u16 x.m.f.po) ∧ w.cell? ⟨b, off + i * 5 + 4, none⟩ = some (.slice x.m.A x.m.n x.m.c))
theorem Uas.grow {w w' : World} {v : Value} {l : List Ua} (h : Uas w v l) (g : Grow w w') : Uas w' v l := by
  obtain ⟨A, c, rfl, h1, h2, h3, h4⟩ := h
  refine ⟨A, c, rfl, h1, h2, fun x hx => (h3 x hx).grow g, fun hp => ?_⟩
  obtain ⟨b, off, rfl, hb, hc⟩ := h4 hp
  refine ⟨b, off, rfl, Nat.lt_of_lt_of_le hb g.size, fun i x hx => ?_⟩
  obtain ⟨q1, q2, q3, q4, q5⟩ := hc i x hx
  exact ⟨(g.cell (p := ⟨b, off + i * 5, none⟩) hb).trans q1, (g.cell (p := ⟨b, off + i * 5 + 1, none⟩) hb).trans q2, (g.cell (p := ⟨b, off + i * 5 + 2, none⟩) hb).trans q3, (g.cell (p := ⟨b, off + i * 5 + 3, none⟩) hb).trans q4, (g.cell (p := ⟨b, off + i * 5 + 4, none⟩) hb).trans q5⟩
/-- The slice v reads as these booleans. -/
def Bls (w : World) (v : Value) (l : List Bool) : Prop := ∃ A c, v = .slice A l.length c ∧ l.length ≤ c ∧ c ≤ maxLen ∧ (0 < l.length → ∃ b off, A = some ⟨b, off, none⟩ ∧ b < w.heap.size ∧ ∀ (i : Nat) (x : Bool), l[i]? = some x → w.cell? ⟨b, off + i, none⟩ = some (.bool x))
section
variable {H : Type} {enc : TypeId × Value → H} {W : World}
theorem pwf_i64 (n : Int) (h : (Lit.int .i64 n).wf = true) : In64 n := by
  simp [Lit.wf, IntKind.min, IntKind.max, IntKind.signed, IntKind.bits] at h
  unfold In64
  omega
theorem pwf_u32 (n : Int) (h : (Lit.int .u32 n).wf = true) : In32 n := by
  simp [Lit.wf, IntKind.min, IntKind.max, IntKind.signed, IntKind.bits] at h
  unfold In32
  omega
theorem pwf_u16 (n : Int) (h : (Lit.int .u16 n).wf = true) : In16 n := by
  simp [Lit.wf, IntKind.min, IntKind.max, IntKind.signed, IntKind.bits] at h
  unfold In16
  omega
theorem ed_cells {m : Nat} {c0 c1 : Value} {x : DataW H × List MemPlace} (hf : DataW.trod enc Try.prog W 0 (fun _ => true) true m 34 [c0, c1] = some x) : ∃ e : Ed, e.Ok ∧ [c0, c1] = [.int .u32 e.ad, .int .u16 e.po] := by
  obtain ⟨xs, n, _, _, _, hlen, hfd⟩ := DataW.trod_struct Try.underlying34 hf
  have q0 : DataW.trod enc Try.prog W 0 (fun _ => true) true n 31 [c0] = xs[0]? := hfd 0 _ rfl
  rw [List.getElem?_eq_getElem (show 0 < xs.length by rw [hlen]; decide)] at q0
  obtain ⟨n0, e0, _, wf0⟩ := DataW.trod_int Try.underlying31 q0
  obtain rfl : c0 = _ := by simpa using e0
  have q1 : DataW.trod enc Try.prog W 0 (fun _ => true) true n 32 [c1] = xs[1]? := hfd 1 _ rfl
  rw [List.getElem?_eq_getElem (show 1 < xs.length by rw [hlen]; decide)] at q1
  obtain ⟨n1, e1, _, wf1⟩ := DataW.trod_int Try.underlying32 q1
  obtain rfl : c1 = _ := by simpa using e1
  exact ⟨⟨n0, n1⟩, ⟨pwf_u32 _ wf0, pwf_u16 _ wf1⟩, rfl⟩
theorem wts_all {P : Program} {e : TypeId} : ∀ {l : List (DataW H)} {d : DataW H}, d ∈ l → ∀ n ∈ d.weights P e, n ∈ DataW.weightsAll P e l
  | d' :: r, d, hd, n, hn => by
    simp only [DataW.weightsAll, List.mem_append]
    rcases List.mem_cons.1 hd with rfl | h
    · exact Or.inl hn
    · exact Or.inr (wts_all h n hn)
theorem open_bytesW {m : Nat} {cs : List Value} {x : DataW H × List MemPlace} (hf : DataW.trod enc Try.prog W 0 (fun _ => true) true m 38 cs = some x) (hw : ∀ n ∈ x.1.weights Try.prog 38, n ≤ reachBytes) : ∃ v l, cs = [v] ∧ Byt W v l ∧ l.length ≤ 140737488351232 := by
  rcases open_ints Try.underlying38 Try.underlying5 (by kernel_rfl) hf with ⟨hcs, _⟩ | ⟨x, l, c, zs, hcs, _, hl, hm, hz, hx, hcell, hwz⟩
  · exact ⟨_, [], hcs, Byt.nil _, by simp⟩
  · subst hx
    simp only [if_true] at hz
    obtain ⟨bs, hb, hbl⟩ := Byt.of_ints (w := W) (x := x) hl hm hz hcell hwz
    refine ⟨_, bs, hcs, hb, ?_⟩
    have h1 := hw _ (by simp only [DataW.weights, Try.underlying38]; exact List.mem_cons_self)
    rw [show Try.prog.bytesOf 5 = 1 from by kernel_rfl] at h1
    simp only [lits, List.length_map, List.length_take, List.length_drop, reachBytes] at h1
    omega
theorem ml_cells {m : Nat} {c0 c1 c2 : Value} {x : DataW H × List MemPlace} (hf : DataW.trod enc Try.prog W 0 (fun _ => true) true m 40 [c0, c1, c2] = some x) (hw : ∀ n ∈ x.1.weights Try.prog 40, n ≤ reachBytes) : ∃ a : Mc, (a.f.Ok ∧ Byt W a.v a.d ∧ a.d.length ≤ 140737488351232) ∧ [c0, c1, c2] = mcC.f a := by
  obtain ⟨xs, n, _, hx, _, hlen, hfd⟩ := DataW.trod_struct Try.underlying40 hf
  subst hx
  have q0 : DataW.trod enc Try.prog W 0 (fun _ => true) true n 34 [c0, c1] = xs[0]? := hfd 0 _ rfl
  rw [List.getElem?_eq_getElem (show 0 < xs.length by rw [hlen]; decide)] at q0
  obtain ⟨e, o0, e0⟩ := ed_cells q0
  have q1 : DataW.trod enc Try.prog W 0 (fun _ => true) true n 38 [c2] = xs[1]? := hfd 1 _ rfl
  rw [List.getElem?_eq_getElem (show 1 < xs.length by rw [hlen]; decide)] at q1
  obtain ⟨v, l, e1, hb, hbl⟩ := open_bytesW q1 fun k hk => hw k (by
    simp only [DataW.weights, Try.underlying40]
    refine DataW.weights_mem_each (j := 1) rfl ?_ k hk
    rw [List.getElem?_map, List.getElem?_eq_getElem (show 1 < xs.length by rw [hlen]; decide)]
    rfl)
  obtain rfl : c2 = v := by simpa using e1
  obtain ⟨A, k, c, hv, -⟩ := hb.form2
  injection e0 with h0 h1
  injection h1 with h1 _
  rw [h0, h1, hv]
  exact ⟨⟨e, A, k, c, l⟩, ⟨o0, by rw [hv] at hb; exact hb, hbl⟩, rfl⟩
set_option maxHeartbeats 1000000 in
theorem ua_cells {m : Nat} {cs : List Value} {x : DataW H × List MemPlace} (hf : DataW.trod enc Try.prog W 0 (fun _ => true) true m 42 cs = some x) (hw : ∀ n ∈ x.1.weights Try.prog 42, n ≤ reachBytes) : ∃ a : Ua, a.Ok W ∧ cs = ua a := by
  obtain ⟨xs, n, _, hx, hl, hlen, hfd⟩ := DataW.trod_struct Try.underlying42 hf
  subst hx
  have hl5 : cs.length = 5 := hl.trans (by kernel_rfl)
  match cs, hl5 with
  | [c0, c1, c2, c3, c4], _ =>
    have q0 : DataW.trod enc Try.prog W 0 (fun _ => true) true n 3 [c0] = xs[0]? := hfd 0 _ rfl
    rw [List.getElem?_eq_getElem (show 0 < xs.length by rw [hlen]; decide)] at q0
    obtain ⟨n0, e0, _, wf0⟩ := DataW.trod_int Try.underlying3 q0
    obtain rfl : c0 = _ := by simpa using e0
    have q1 : DataW.trod enc Try.prog W 0 (fun _ => true) true n 3 [c1] = xs[1]? := hfd 1 _ rfl
    rw [List.getElem?_eq_getElem (show 1 < xs.length by rw [hlen]; decide)] at q1
    obtain ⟨n1, e1, _, wf1⟩ := DataW.trod_int Try.underlying3 q1
    obtain rfl : c1 = _ := by simpa using e1
    have q2 : DataW.trod enc Try.prog W 0 (fun _ => true) true n 40 [c2, c3, c4] = xs[2]? := hfd 2 _ rfl
    rw [List.getElem?_eq_getElem (show 2 < xs.length by rw [hlen]; decide)] at q2
    obtain ⟨a, o2, e2⟩ := ml_cells q2 fun k hk => hw k (by
      simp only [DataW.weights, Try.underlying42]
      refine DataW.weights_mem_each (j := 2) rfl ?_ k hk
      rw [List.getElem?_map, List.getElem?_eq_getElem (show 2 < xs.length by rw [hlen]; decide)]
      rfl)
    exact ⟨⟨n0, n1, a⟩, ⟨pwf_i64 _ wf0, pwf_i64 _ wf1, o2.1, o2.2⟩, by rw [e2]; rfl⟩
theorem open_ua {r : Reach} {b0 : Nat} {v : Value} {d : DataW H} {p : List MemPlace} (hv : Value.okWide Try.prog W r b0 42 v) (h : DataW.Trod enc Try.prog W 0 (fun _ => true) true 42 v d p) (hw : ∀ n ∈ d.weights Try.prog 42, n ≤ reachBytes) : ∃ x : Ua, v = uaV x ∧ x.Ok W := by
  obtain ⟨cs, rfl, hsz⟩ := okWide_struct Try.underlying42 hv
  have hsz5 : cs.size = 5 := hsz.trans (by kernel_rfl)
  obtain ⟨l⟩ := cs
  match l, hsz5 with
  | [c0, c1, c2, c3, c4], _ =>
    obtain ⟨fuel, hf⟩ := h
    obtain ⟨x, hx, e⟩ := ua_cells (cs := [c0, c1, c2, c3, c4]) hf hw
    refine ⟨x, ?_, hx⟩
    rw [e]
    rfl
theorem open_uas {v : Value} {r : Reach} {b0 : Nat} {d : DataW H} {p : List MemPlace} (hv : Value.okWide Try.prog W r b0 22 v) (h : DataW.Trod enc Try.prog W 0 (fun _ => true) true 22 v d p) (hw : ∀ n ∈ d.weights Try.prog 22, n ≤ reachBytes) : ∃ l, Uas W v l := by
  obtain ⟨a0, len0, cap0, rfl⟩ := okWide_slice Try.underlying22 hv
  obtain ⟨fuel, hf⟩ := h
  rcases Go.Deep.open_slice Try.underlying22 hf with ⟨hcs, _⟩ | ⟨x, len, cap, m, n, D, Pl, hcs, hb, hl, hm, hmm, hdx, hx⟩
  · simp [Value.cells] at hcs
    obtain ⟨rfl, rfl, rfl⟩ := hcs
    exact ⟨[], none, 0, rfl, Nat.le_refl _, Nat.zero_le _, by simp, fun h => absurd h (by simp)⟩
  · simp [Value.cells] at hcs
    obtain ⟨rfl, rfl, rfl⟩ := hcs
    simp only [if_true] at hmm
    subst hmm
    have hch : ∀ i, i < len0 → ∃ a : Ua, a.Ok W ∧ ∀ k u, (ua a)[k]? = some u → W.cell? (x.add (i * 5 + k)) = some u := by
      intro i hi
      obtain ⟨cs, h1, h2⟩ := hx i (Nat.lt_of_lt_of_le hi hl)
      obtain ⟨r, hr, e⟩ := ua_cells h2 fun k hk => hw k (by
        have hdx1 := congrArg Prod.fst hdx
        simp only at hdx1
        rw [hdx1]
        simp only [DataW.weights, Try.underlying22]
        exact List.mem_cons_of_mem _ (List.mem_append_left _ (wts_all (List.mem_map.2 ⟨i, List.mem_range.2 hi, rfl⟩) k hk)))
      obtain ⟨_, hlen, hc⟩ := World.cells?_some h1
      rw [show Try.prog.cellsOf 42 = 5 from by kernel_rfl] at hc hlen
      refine ⟨r, hr, fun k u hk => ?_⟩
      have hk5 : k < 5 := by
        have := (List.getElem?_eq_some_iff.1 hk).1
        simpa [ua] using this
      have := hc k hk5
      rw [e, hk] at this
      rw [← this]
      have ea : x.add (i * 5 + k) = (x.add (i * 5)).add k := by
        unfold Addr.add
        generalize i * 5 = q
        by_cases h1 : q = 0 <;> by_cases h2 : k = 0 <;> simp [h1, h2, Nat.add_assoc]
      rw [ea]
    obtain ⟨f, hf2⟩ := Go.Deep.choose_lt (α := Ua) hch
    refine ⟨(List.range len0).map f, some x, _, by simp, by simpa using hl, hm, ?_, fun hp => ?_⟩
    · intro a ha
      obtain ⟨i, hi, rfl⟩ := List.mem_map.1 ha
      exact (hf2 i (by simpa using hi)).1
    · have hp0 : 0 < len0 := by simpa using hp
      obtain ⟨b, off, spot⟩ := x
      have h0 := (hf2 0 hp0).2 0 _ rfl
      have hs : spot = none := by simpa [Addr.add] using World.cell?_spot h0
      subst hs
      refine ⟨b, off, rfl, ?_, fun j y hj => ?_⟩
      · have := block_of_cell h0
        simpa [Addr.add] using this
      · have hj' : j < len0 := by
          have := (List.getElem?_eq_some_iff.1 hj).1
          simpa using this
        have hy : y = f j := by
          rw [List.getElem?_map, List.getElem?_range hj'] at hj
          simpa using hj.symm
        subst hy
        have hcj := (hf2 j hj').2
        simp only [add_at] at hcj
        refine ⟨hcj 0 _ rfl, ?_, ?_, ?_, ?_⟩
        · have := hcj 1 _ rfl
          rwa [← Nat.add_assoc] at this
        · have := hcj 2 _ rfl
          rwa [← Nat.add_assoc] at this
        · have := hcj 3 _ rfl
          rwa [← Nat.add_assoc] at this
        · have := hcj 4 _ rfl
          rwa [← Nat.add_assoc] at this
theorem open_bls {v : Value} {r : Reach} {b0 : Nat} {d : DataW H} {p : List MemPlace} (hv : Value.okWide Try.prog W r b0 59 v) (h : DataW.Trod enc Try.prog W 0 (fun _ => true) true 59 v d p) : ∃ l, Bls W v l := by
  obtain ⟨a0, len0, cap0, rfl⟩ := okWide_slice Try.underlying59 hv
  obtain ⟨fuel, hf⟩ := h
  rcases Go.Deep.open_slice Try.underlying59 hf with ⟨hcs, _⟩ | ⟨x, len, cap, m, n, D, Pl, hcs, hb, hl, hm, hmm, _, hx⟩
  · simp [Value.cells] at hcs
    obtain ⟨rfl, rfl, rfl⟩ := hcs
    exact ⟨[], none, 0, rfl, Nat.le_refl _, Nat.zero_le _, fun h => absurd h (by simp)⟩
  · simp [Value.cells] at hcs
    obtain ⟨rfl, rfl, rfl⟩ := hcs
    simp only [if_true] at hmm
    subst hmm
    have hch : ∀ i, i < len0 → ∃ a : Bool, W.cell? (x.add i) = some (.bool a) := by
      intro i hi
      obtain ⟨cs, h1, h2⟩ := hx i (Nat.lt_of_lt_of_le hi hl)
      obtain ⟨r, e, -⟩ := DataW.trod_bool Try.underlying4 h2
      obtain ⟨_, hlen, hc⟩ := World.cells?_some h1
      rw [show Try.prog.cellsOf 4 = 1 from by kernel_rfl] at hc hlen
      have := hc 0 (by decide)
      rw [e, Nat.mul_one] at this
      refine ⟨r, ?_⟩
      simpa [Addr.add] using this
    obtain ⟨f, hf2⟩ := Go.Deep.choose_lt (α := Bool) hch
    refine ⟨(List.range len0).map f, some x, _, by simp, by simpa using hl, hm, fun hp => ?_⟩
    have hp0 : 0 < len0 := by simpa using hp
    obtain ⟨b, off, spot⟩ := x
    have h0 := hf2 0 hp0
    have hs : spot = none := by simpa [Addr.add] using World.cell?_spot h0
    subst hs
    refine ⟨b, off, rfl, ?_, fun j y hj => ?_⟩
    · have := block_of_cell h0
      simpa [Addr.add] using this
    · have hj' : j < len0 := by
        have := (List.getElem?_eq_some_iff.1 hj).1
        simpa using this
      have hy : y = f j := by
        rw [List.getElem?_map, List.getElem?_range hj'] at hj
        simpa using hj.symm
      subst hy
      have hcj := hf2 j hj'
      rwa [add_at] at hcj
end
end Go.Proofs.Ytkblgigpgpjjlaa
