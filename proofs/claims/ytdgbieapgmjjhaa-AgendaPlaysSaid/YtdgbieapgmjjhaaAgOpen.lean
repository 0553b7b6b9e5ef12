/- Items, and rows of items, of calls and of numbers, that came in, opened. -/
import Derived.Test.YtdgbieapgmjjhaaAgLive
import Derived.Test.YtdgbieapgmjjhaaRows
import Derived.OpenShut
import Derived.WideShapes
import Derived.ChangeSame
import Derived.ChangeArms
import Derived.Deep.Slices
namespace Go.Proofs.Ytdgbieapgmjjhaa
set_option linter.unusedVariables false
set_option linter.unusedSimpArgs false
set_option maxRecDepth 100000
open Go.ChangeShapes Go.WideShapes Go.ChangeAt Go.RowKit

def AI64 (n : Int) : Prop := -9223372036854775808 ≤ n ∧ n ≤ 9223372036854775807
def EOk (x : En) : Prop := AI64 x.id ∧ AI64 x.at_ ∧ AI64 x.rk
theorem flat_it_inv : ∀ (l : List En) (j : Nat) (u : Value), (l.flatMap it)[j]? = some u → ∃ i k x, l[i]? = some x ∧ (it x)[k]? = some u ∧ j = i * 3 + k
  | [], j, u, h => by simp at h
  | x :: l, j, u, h => by
    rw [List.flatMap_cons] at h
    rcases Nat.lt_or_ge j 3 with q | q
    · rw [List.getElem?_append_left (by simpa [it] using q)] at h
      exact ⟨0, j, x, rfl, h, by omega⟩
    · rw [List.getElem?_append_right (by simpa [it] using q)] at h
      obtain ⟨i, k, y, h1, h2, h3⟩ := flat_it_inv l _ u h
      have h4 : (it x).length = 3 := rfl
      exact ⟨i + 1, k, y, by simpa using h1, h2, by omega⟩
/-- A call of the law: what, which item. -/
structure Aa where
  d : Int
  x : En
instance : Inhabited Aa := ⟨⟨0, default⟩⟩
def aa (a : Aa) : List Value := .int .i64 a.d :: it a.x
def Aa.Ok (a : Aa) : Prop := AI64 a.d ∧ EOk a.x
/-- The slice v reads as these calls. -/
def Aas (w : World) (v : Value) (l : List Aa) : Prop := ∃ A c, v = .slice A l.length c ∧ l.length ≤ c ∧ c ≤ maxLen ∧ (∀ x ∈ l, x.Ok) ∧
  (0 < l.length → ∃ b off, A = some ⟨b, off, none⟩ ∧ b < w.heap.size ∧ ∀ (i : Nat) (a : Aa), l[i]? = some a → w.cell? ⟨b, off + i * 4, none⟩ = some (.int .i64 a.d) ∧ w.cell? ⟨b, off + i * 4 + 1, none⟩ = some (.int .i64 a.x.id) ∧ w.cell? ⟨b, off + i * 4 + 2, none⟩ = some (.int .i64 a.x.at_) ∧ w.cell? ⟨b, off + i * 4 + 3, none⟩ = some (.int .i64 a.x.rk))
theorem Aas.grow {w w' : World} {v : Value} {l : List Aa} (h : Aas w v l) (g : Grow w w') : Aas w' v l := by
  obtain ⟨A, c, rfl, h1, h2, h3, h4⟩ := h
  refine ⟨A, c, rfl, h1, h2, h3, fun hp => ?_⟩
  obtain ⟨b, off, rfl, hb, hc⟩ := h4 hp
  refine ⟨b, off, rfl, Nat.lt_of_lt_of_le hb g.size, fun i x hx => ?_⟩
  obtain ⟨q1, q2, q3, q4⟩ := hc i x hx
  exact ⟨(g.cell (p := ⟨b, off + i * 4, none⟩) hb).trans q1, (g.cell (p := ⟨b, off + i * 4 + 1, none⟩) hb).trans q2, (g.cell (p := ⟨b, off + i * 4 + 2, none⟩) hb).trans q3, (g.cell (p := ⟨b, off + i * 4 + 3, none⟩) hb).trans q4⟩
/-- The slice v reads as these numbers. -/
def Ints (w : World) (v : Value) (l : List Int) : Prop := ∃ A c, v = .slice A l.length c ∧ l.length ≤ c ∧ c ≤ maxLen ∧ (∀ x ∈ l, AI64 x) ∧
  (0 < l.length → ∃ b off, A = some ⟨b, off, none⟩ ∧ b < w.heap.size ∧ ∀ (i : Nat) (x : Int), l[i]? = some x → w.cell? ⟨b, off + i, none⟩ = some (.int .i64 x))
theorem Ints.grow {w w' : World} {v : Value} {l : List Int} (h : Ints w v l) (g : Grow w w') : Ints w' v l := by
  obtain ⟨A, c, rfl, h1, h2, h3, h4⟩ := h
  refine ⟨A, c, rfl, h1, h2, h3, fun hp => ?_⟩
  obtain ⟨b, off, rfl, hb, hc⟩ := h4 hp
  exact ⟨b, off, rfl, Nat.lt_of_lt_of_le hb g.size, fun i x hx => (g.cell (p := ⟨b, off + i, none⟩) hb).trans (hc i x hx)⟩
section
variable {H : Type} {enc : TypeId × Value → H} {W : World}
theorem awf_i64 (n : Int) (h : (Lit.int .i64 n).wf = true) : AI64 n := by
  simp [Lit.wf, IntKind.min, IntKind.max, IntKind.signed, IntKind.bits] at h
  unfold AI64
  omega
theorem open_intsI {v : Value} {r : Reach} {b0 : Nat} {d : DataW H} {p : List MemPlace} (hv : Value.okWide Try.prog W r b0 52 v) (h : DataW.Trod enc Try.prog W 0 (fun _ => true) true 52 v d p) : ∃ l, Ints W v l := by
  obtain ⟨a0, len0, cap0, rfl⟩ := okWide_slice Try.underlying52 hv
  obtain ⟨fuel, hf⟩ := h
  rcases open_ints Try.underlying52 Try.underlying3 (by kernel_rfl) hf with ⟨hcs, _⟩ | ⟨x, l, c, zs, hcs, _, hl, hm, hz, hx, hcell, hwz⟩
  · simp [Value.cells] at hcs
    obtain ⟨rfl, rfl, rfl⟩ := hcs
    exact ⟨[], none, 0, rfl, Nat.le_refl _, Nat.zero_le _, by simp, fun h => absurd h (by simp)⟩
  · simp [Value.cells] at hcs
    obtain ⟨rfl, rfl, rfl⟩ := hcs
    simp only [if_true] at hz
    have hlen : (zs.take len0).length = len0 := by rw [List.length_take]; omega
    refine ⟨zs.take len0, some x, _, by rw [hlen], by omega, hm, fun n hn => awf_i64 n (hwz n (List.mem_of_mem_take hn)), fun hp => ?_⟩
    obtain ⟨b, off, spot⟩ := x
    have h0 := hcell 0 (by omega)
    have hs : spot = none := by simpa [Addr.add] using World.cell?_spot h0
    subst hs
    refine ⟨b, off, rfl, block_of_cell (p := ⟨b, off, none⟩) (by simpa [Addr.add] using h0), fun j y hj => ?_⟩
    have hj1 : j < len0 := by have := (List.getElem?_eq_some_iff.1 hj).1; omega
    have hj' : j < zs.length := by omega
    rw [← add_at, hcell j hj']
    rw [List.getElem?_take_of_lt hj1] at hj
    simp [List.getD, hj]
set_option maxHeartbeats 1000000 in
theorem item_cells {m : Nat} {cs : List Value} {x : DataW H × List MemPlace} (hf : DataW.trod enc Try.prog W 0 (fun _ => true) true m 31 cs = some x) : ∃ r : En, EOk r ∧ cs = it r := by
  obtain ⟨xs, n, _, _, hl, hlen, hfd⟩ := DataW.trod_struct Try.underlying31 hf
  have hl3 : cs.length = 3 := hl.trans (by kernel_rfl)
  match cs, hl3 with
  | [c0, c1, c2], _ =>
    have q0 : DataW.trod enc Try.prog W 0 (fun _ => true) true n 3 [c0] = xs[0]? := hfd 0 _ rfl
    rw [List.getElem?_eq_getElem (show 0 < xs.length by rw [hlen]; decide)] at q0
    obtain ⟨n0, e0, _, wf0⟩ := DataW.trod_int Try.underlying3 q0
    obtain rfl : c0 = _ := by simpa using e0
    have q1 : DataW.trod enc Try.prog W 0 (fun _ => true) true n 3 [c1] = xs[1]? := hfd 1 _ rfl
    rw [List.getElem?_eq_getElem (show 1 < xs.length by rw [hlen]; decide)] at q1
    obtain ⟨n1, e1, _, wf1⟩ := DataW.trod_int Try.underlying3 q1
    obtain rfl : c1 = _ := by simpa using e1
    have q2 : DataW.trod enc Try.prog W 0 (fun _ => true) true n 3 [c2] = xs[2]? := hfd 2 _ rfl
    rw [List.getElem?_eq_getElem (show 2 < xs.length by rw [hlen]; decide)] at q2
    obtain ⟨n2, e2, _, wf2⟩ := DataW.trod_int Try.underlying3 q2
    obtain rfl : c2 = _ := by simpa using e2
    exact ⟨⟨n0, n1, n2, 0⟩, ⟨awf_i64 _ wf0, awf_i64 _ wf1, awf_i64 _ wf2⟩, rfl⟩
set_option maxHeartbeats 1000000 in
theorem aa_cells {m : Nat} {cs : List Value} {x : DataW H × List MemPlace} (hf : DataW.trod enc Try.prog W 0 (fun _ => true) true m 33 cs = some x) : ∃ a : Aa, a.Ok ∧ cs = aa a := by
  obtain ⟨xs, n, _, _, hl, hlen, hfd⟩ := DataW.trod_struct Try.underlying33 hf
  have hl4 : cs.length = 4 := hl.trans (by kernel_rfl)
  match cs, hl4 with
  | [c0, d0, d1, d2], _ =>
    have q0 : DataW.trod enc Try.prog W 0 (fun _ => true) true n 3 [c0] = xs[0]? := hfd 0 _ rfl
    rw [List.getElem?_eq_getElem (show 0 < xs.length by rw [hlen]; decide)] at q0
    obtain ⟨n0, e0, _, wf0⟩ := DataW.trod_int Try.underlying3 q0
    obtain rfl : c0 = _ := by simpa using e0
    have q1 : DataW.trod enc Try.prog W 0 (fun _ => true) true n 31 [d0, d1, d2] = xs[1]? := hfd 1 _ rfl
    rw [List.getElem?_eq_getElem (show 1 < xs.length by rw [hlen]; decide)] at q1
    obtain ⟨q, hq, e⟩ := item_cells q1
    exact ⟨⟨n0, q⟩, ⟨awf_i64 _ wf0, hq⟩, by rw [e]; rfl⟩
theorem open_item {r : Reach} {b0 : Nat} {v : Value} {d : DataW H} {p : List MemPlace} (hv : Value.okWide Try.prog W r b0 31 v) (h : DataW.Trod enc Try.prog W 0 (fun _ => true) true 31 v d p) : ∃ x : En, v = itV x ∧ EOk x := by
  obtain ⟨cs, rfl, hsz⟩ := okWide_struct Try.underlying31 hv
  have hsz3 : cs.size = 3 := hsz.trans (by kernel_rfl)
  obtain ⟨l⟩ := cs
  match l, hsz3 with
  | [c0, c1, c2], _ =>
    obtain ⟨fuel, hf⟩ := h
    obtain ⟨x, hx, e⟩ := item_cells (cs := [c0, c1, c2]) hf
    refine ⟨x, ?_, hx⟩
    rw [e]
    rfl
theorem open_items {v : Value} {r : Reach} {b0 : Nat} {d : DataW H} {p : List MemPlace} (hv : Value.okWide Try.prog W r b0 29 v) (h : DataW.Trod enc Try.prog W 0 (fun _ => true) true 29 v d p) : ∃ l, RdIt W v l ∧ ∀ x ∈ l, EOk x := by
  obtain ⟨a0, len0, cap0, rfl⟩ := okWide_slice Try.underlying29 hv
  obtain ⟨fuel, hf⟩ := h
  rcases Go.Deep.open_slice Try.underlying29 hf with ⟨hcs, _⟩ | ⟨x, len, cap, m, n, D, Pl, hcs, hb, hl, hm, hmm, _, hx⟩
  · simp [Value.cells] at hcs
    obtain ⟨rfl, rfl, rfl⟩ := hcs
    exact ⟨[], ⟨none, 0, rfl, rfl, Nat.le_refl _, Nat.zero_le _, fun h => absurd h (by simp)⟩, by simp⟩
  · simp [Value.cells] at hcs
    obtain ⟨rfl, rfl, rfl⟩ := hcs
    simp only [if_true] at hmm
    subst hmm
    have hch : ∀ i, i < len0 → ∃ a : En, EOk a ∧ ∀ k u, (it a)[k]? = some u → W.cell? (x.add (i * 3 + k)) = some u := by
      intro i hi
      obtain ⟨cs, h1, h2⟩ := hx i (Nat.lt_of_lt_of_le hi hl)
      obtain ⟨r, hr, e⟩ := item_cells h2
      obtain ⟨_, hlen, hc⟩ := World.cells?_some h1
      rw [show Try.prog.cellsOf 31 = 3 from by kernel_rfl] at hc hlen
      refine ⟨r, hr, fun k u hk => ?_⟩
      have hk3 : k < 3 := by
        have := (List.getElem?_eq_some_iff.1 hk).1
        simpa [it] using this
      have := hc k hk3
      rw [e, hk] at this
      rw [← this]
      have ea : x.add (i * 3 + k) = (x.add (i * 3)).add k := by
        unfold Addr.add
        generalize i * 3 = q
        by_cases h1 : q = 0 <;> by_cases h2 : k = 0 <;> simp [h1, h2, Nat.add_assoc]
      rw [ea]
    obtain ⟨f, hf2⟩ := Go.Deep.choose_lt (α := En) hch
    have hll : ((List.range len0).map f).length = len0 := by simp
    refine ⟨(List.range len0).map f, ⟨some x, _, by rw [hll], flat_it_len _, by rw [hll]; exact hl, hm, fun hp => ?_⟩, ?_⟩
    · have hp0 : 0 < len0 := by simpa using hp
      obtain ⟨b, off, spot⟩ := x
      have h0 := (hf2 0 hp0).2 0 _ rfl
      have hs : spot = none := by simpa [Addr.add] using World.cell?_spot h0
      subst hs
      refine ⟨b, off, rfl, ?_, fun j y hj => ?_⟩
      · have := block_of_cell h0
        simpa [Addr.add] using this
      · obtain ⟨i, k, z, h1, h2, rfl⟩ := flat_it_inv _ j y hj
        have hi : i < len0 := by
          have := (List.getElem?_eq_some_iff.1 h1).1
          simpa using this
        have hz : z = f i := by
          rw [List.getElem?_map, List.getElem?_range hi] at h1
          simpa using h1.symm
        subst hz
        have := (hf2 i hi).2 k y h2
        rwa [add_at] at this
    · intro a ha
      obtain ⟨i, hi, rfl⟩ := List.mem_map.1 ha
      exact (hf2 i (by simpa using hi)).1
theorem open_aas {v : Value} {r : Reach} {b0 : Nat} {d : DataW H} {p : List MemPlace} (hv : Value.okWide Try.prog W r b0 22 v) (h : DataW.Trod enc Try.prog W 0 (fun _ => true) true 22 v d p) : ∃ l, Aas W v l := by
  obtain ⟨a0, len0, cap0, rfl⟩ := okWide_slice Try.underlying22 hv
  obtain ⟨fuel, hf⟩ := h
  rcases Go.Deep.open_slice Try.underlying22 hf with ⟨hcs, _⟩ | ⟨x, len, cap, m, n, D, Pl, hcs, hb, hl, hm, hmm, _, hx⟩
  · simp [Value.cells] at hcs
    obtain ⟨rfl, rfl, rfl⟩ := hcs
    exact ⟨[], none, 0, rfl, Nat.le_refl _, Nat.zero_le _, by simp, fun h => absurd h (by simp)⟩
  · simp [Value.cells] at hcs
    obtain ⟨rfl, rfl, rfl⟩ := hcs
    simp only [if_true] at hmm
    subst hmm
    have hch : ∀ i, i < len0 → ∃ a : Aa, a.Ok ∧ ∀ k u, (aa a)[k]? = some u → W.cell? (x.add (i * 4 + k)) = some u := by
      intro i hi
      obtain ⟨cs, h1, h2⟩ := hx i (Nat.lt_of_lt_of_le hi hl)
      obtain ⟨r, hr, e⟩ := aa_cells h2
      obtain ⟨_, hlen, hc⟩ := World.cells?_some h1
      rw [show Try.prog.cellsOf 33 = 4 from by kernel_rfl] at hc hlen
      refine ⟨r, hr, fun k u hk => ?_⟩
      have hk4 : k < 4 := by
        have := (List.getElem?_eq_some_iff.1 hk).1
        simpa [aa, it] using this
      have := hc k hk4
      rw [e, hk] at this
      rw [← this]
      have ea : x.add (i * 4 + k) = (x.add (i * 4)).add k := by
        unfold Addr.add
        generalize i * 4 = q
        by_cases h1 : q = 0 <;> by_cases h2 : k = 0 <;> simp [h1, h2, Nat.add_assoc]
      rw [ea]
    obtain ⟨f, hf2⟩ := Go.Deep.choose_lt (α := Aa) hch
    refine ⟨(List.range len0).map f, some x, _, by simp, by simpa using hl, hm, ?_, fun hp => ?_⟩
    · intro a ha
      obtain ⟨i, hi, rfl⟩ := List.mem_map.1 ha
      exact (hf2 i (by simpa using hi)).1
    · have hp0 : 0 < len0 := by simpa using hp
      obtain ⟨b, off, spot⟩ := x
      have h0 := (hf2 0 hp0).2 0 _ rfl
      have hs : spot = none := by simpa [Addr.add] using World.cell?_spot h0
      subst hs
      refine ⟨b, off, rfl, ?_, fun j y hj => ?_⟩
      · have := block_of_cell h0
        simpa [Addr.add] using this
      · have hj' : j < len0 := by
          have := (List.getElem?_eq_some_iff.1 hj).1
          simpa using this
        have hy : y = f j := by
          rw [List.getElem?_map, List.getElem?_range hj'] at hj
          simpa using hj.symm
        subst hy
        have hcj := (hf2 j hj').2
        simp only [add_at] at hcj
        refine ⟨hcj 0 _ rfl, ?_, ?_, ?_⟩
        · have := hcj 1 _ rfl
          rwa [← Nat.add_assoc] at this
        · have := hcj 2 _ rfl
          rwa [← Nat.add_assoc] at this
        · have := hcj 3 _ rfl
          rwa [← Nat.add_assoc] at this
end
end Go.Proofs.Ytdgbieapgmjjhaa
