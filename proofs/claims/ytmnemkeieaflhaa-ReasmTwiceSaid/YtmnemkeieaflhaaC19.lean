/- What the first loop of Twice keeps: pieces of pieces in one row. -/
import Derived.Test.YtmnemkeieaflhaaC18
namespace Go.Proofs.Ytmnemkeieaflhaa
set_option linter.unusedVariables false
set_option linter.unusedSimpArgs false
open Go.ChangeShapes Go.WideShapes Go.ChangeAt Go.RowKit

theorem Byt.other {w w' : World} {v : Value} {l : List UInt8} (h : Byt w v l) (hs : w.heap.size ≤ w'.heap.size) (hb : 0 < l.length → ∀ b, v.ownBlock = some b → b < w.heap.size → w'.heap[b]? = w.heap[b]?) : Byt w' v l := by
  rcases Nat.eq_zero_or_pos l.length with h0 | h0
  · have := List.eq_nil_of_length_eq_zero h0
    subst this
    exact h.anywhere
  · obtain ⟨A, c, rfl, h1, h2, h3⟩ := h
    refine ⟨A, c, rfl, h1, h2, fun hp => ?_⟩
    obtain ⟨b, off, rfl, hlt, hc⟩ := h3 hp
    exact ⟨b, off, rfl, Nat.lt_of_lt_of_le hlt hs, fun j hj => (World.cell?_of_block (w := w) (a := ⟨b, off + j, none⟩) (hb h0 b rfl hlt)).trans (hc j hj)⟩
theorem Byt.lt {w : World} {v : Value} {l : List UInt8} (h : Byt w v l) (hp : 0 < l.length) {b : Nat} (e : v.ownBlock = some b) : b < w.heap.size := by
  obtain ⟨A, c, rfl, h1, h2, h3⟩ := h
  obtain ⟨b', off, rfl, hlt, _⟩ := h3 (by rw [List.length_map]; exact hp)
  cases e
  exact hlt
/-- A block of one of its slices. -/
def Pk.Has (q : Pk) (b : Nat) : Prop := (0 < q.k.opts.length ∧ q.vo.ownBlock = some b) ∨ (0 < q.k.data.length ∧ q.vd.ownBlock = some b)
theorem Pk.Good.lt {w : World} {q : Pk} (h : q.Good w) {b : Nat} (hb : q.Has b) : b < w.heap.size := by
  rcases hb with ⟨h1, h2⟩ | ⟨h1, h2⟩
  · exact h.1.lt h1 h2
  · exact h.2.1.lt h1 h2
theorem Pk.Good.other {w w' : World} {q : Pk} (h : q.Good w) (hs : w.heap.size ≤ w'.heap.size) (hb : ∀ b, q.Has b → b < w.heap.size → w'.heap[b]? = w.heap[b]?) : q.Good w' :=
  ⟨h.1.other hs fun hp b e => hb b (.inl ⟨hp, e⟩), h.2.1.other hs fun hp b e => hb b (.inr ⟨hp, e⟩), h.2.2⟩
theorem ipHas_has {q : Pk} {b : Nat} (h : ipHas (ipV q.k q.vo q.vd) q.k b) : q.Has b := by
  obtain ⟨vo, vd, e, h⟩ := h
  simp only [Value.agg.injEq, Array.mk.injEq, List.cons.injEq, and_true, true_and] at e
  obtain ⟨e1, e2⟩ := e
  rw [← e1, ← e2] at h
  exact h
structure TwA (W3 : World) (L : List Pkt) (small : Int) (i : Nat) (s : Value) (acc : List Pk) (wr : World) : Prop where
  row : Iprow wr W3.heap.size s acc
  ks : acc.map Pk.k = (L.take i).flatMap fun q => flist q small
  good : ∀ q ∈ acc, q.Good wr
  sep : ∀ q ∈ acc, ∀ b, q.Has b → s.ownBlock ≠ some b
  code : ∀ q ∈ L.take i, fcodeS q small = 0
  grow : Grow W3 wr
theorem TwA.start (W3 : World) (L : List Pkt) (small : Int) : TwA W3 L small 0 (.slice none 0 0) [] W3 :=
  ⟨Iprow.nil _ _, by simp, fun q hq => (by cases hq), fun q hq => (by cases hq), fun q hq => (by simp at hq), Grow.refl _⟩
theorem TwA.next {W3 wr wm w' : World} {L : List Pkt} {small : Int} {i : Nat} {s s' : Value} {acc l : List Pk} (h : TwA W3 L small i s acc wr) (hi : i < L.length) {q : Pk} (hq : L[i]? = some q.k) (hqg : q.Good W3)
    (hc : fcodeS q.k small = 0) (hl : l.map Pk.k = flist q.k small) (hgl : ∀ x ∈ l, x.Good wm ∧ x.From wr.heap.size (ipV q.k q.vo q.vd) q.k) (hg : Grow wr wm) (hrow : Iprow w' W3.heap.size s' (acc ++ l)) (hgb : wm.grownBy w' s.ownBlock) (hb : s'.ownBlock = s.ownBlock ∨ s'.ownBlock = some wm.heap.size) :
    TwA W3 L small (i + 1) s' (acc ++ l) w' := by
  have hrl : ∀ g, s.ownBlock = some g → W3.heap.size ≤ g ∧ g < wr.heap.size := fun g e => h.row.lt g e
  have hsz := hg.size
  have htk : L.take (i + 1) = L.take i ++ [q.k] := by
    obtain ⟨h1, h2⟩ := List.getElem?_eq_some_iff.1 hq
    rw [List.take_succ_eq_append_getElem h1, h2]
  have hold : ∀ b, b < wm.heap.size → s.ownBlock ≠ some b → w'.heap[b]? = wm.heap[b]? := fun b h1 h2 => hgb.block b h1 (fun e => h2 e.symm)
  refine ⟨hrow, ?_, fun x hx => ?_, fun x hx b hb2 e => ?_, fun x hx => ?_, ?_⟩
  · rw [htk, List.map_append, List.flatMap_append, h.ks, hl]
    simp
  · rcases List.mem_append.1 hx with h1 | h1
    · exact ((h.good x h1).grow hg).other hgb.size fun b hb hlt => hold b hlt (h.sep x h1 b hb)
    · refine (hgl x h1).1.other hgb.size fun b hb hlt => hold b hlt fun e => ?_
      obtain ⟨e1, e2⟩ := hrl b e
      rcases (hgl x h1).2 b hb with h2 | h2
      · have := hqg.lt (ipHas_has h2)
        omega
      · omega
  · rcases List.mem_append.1 hx with h1 | h1
    · have hlt := (h.good x h1).lt hb2
      rcases hb with h2 | h2
      · exact h.sep x h1 b hb2 (h2.symm.trans e)
      · have := Option.some.inj (h2.symm.trans e)
        omega
    · have hlt := (hgl x h1).1.lt hb2
      rcases hb with h2 | h2
      · obtain ⟨e1, e2⟩ := hrl b (h2.symm.trans e)
        rcases (hgl x h1).2 b hb2 with h3 | h3
        · have := hqg.lt (ipHas_has h3)
          omega
        · omega
      · have := Option.some.inj (h2.symm.trans e)
        omega
  · rw [htk] at hx
    rcases List.mem_append.1 hx with h1 | h1
    · exact h.code x h1
    · rw [List.mem_singleton.1 h1]
      exact hc
  · exact Grow.iprow (h.grow.trans hg) hgb (h.row.grow hg)
/-- What the second loop of Twice keeps. -/
structure TwB (wr : World) (tb : Nat) (k : Pkt) (M : List Pkt) (back : Bool) (i : Nat) (Z : List Wt) (wz : World) : Prop where
  tab : TabA wz wr.heap.size tb 1 100 Z
  st : i < M.length → TwS k M back i Z
  nil : i = M.length → Z = []
  grow : Grow wr wz
end Go.Proofs.Ytmnemkeieaflhaa
