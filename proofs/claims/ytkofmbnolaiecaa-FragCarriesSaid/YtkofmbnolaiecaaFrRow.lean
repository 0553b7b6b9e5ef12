/- Slices of packets in memory: read as lists ('Ips'), rows of the call's own ('Iprow'); append. -/
import Derived.Test.YtkofmbnolaiecaaIpFld
import Derived.Test.YtkofmbnolaiecaaIpSameZ
import Derived.Test.YtkofmbnolaiecaaIpNum
import Derived.Test.YtkofmbnolaiecaaOpen
import Derived.Laws.StructEq
import Derived.Deep.AppendSrc
import Derived.Deep.RegionLaw
namespace Go.Proofs.Ytkofmbnolaiecaa
set_option linter.unusedVariables false
set_option linter.unusedSimpArgs false
open Go.ChangeShapes Go.WideShapes Go.ChangeAt Go.RowKit

/-- A packet with the values of its two slices. -/
structure Pk where
  k : Pkt
  vo : Value
  vd : Value
/-- The eleven cells of a packet. -/
def pc (q : Pk) : List Value := [.int .u8 (q.k.tos : Int), .int .u16 (q.k.ident : Int), .bool q.k.whole, .bool q.k.more, .int .i64 q.k.off, .int .u8 (q.k.ttl : Int), .int .u8 (q.k.proto : Int), .int .u32 (q.k.src : Int), .int .u32 (q.k.dst : Int), q.vo, q.vd]
def cells11 (l : List Pk) : List Value := l.flatMap pc
theorem cells11_length (l : List Pk) : (cells11 l).length = l.length * 11 := by
  unfold cells11
  induction l with
  | nil => rfl
  | cons p r ih => simp only [List.flatMap_cons, List.length_append, ih, List.length_cons]; simp [pc]; omega
theorem cells11_append (l m : List Pk) : cells11 (l ++ m) = cells11 l ++ cells11 m := by simp [cells11]
/-- Slices, and nothing else, in the two last cells. -/
def Pk.One (q : Pk) : Prop := q.vo.oneCell' = true ∧ q.vd.oneCell' = true
theorem cells11_one (l : List Pk) (hl : ∀ q ∈ l, q.One) : ∀ y ∈ cells11 l, y.oneCell' = true := by
  intro y hy
  unfold cells11 at hy
  obtain ⟨p, hp0, hp⟩ := List.mem_flatMap.1 hy
  simp [pc] at hp
  have h := hl p hp0
  rcases hp with rfl | rfl | rfl | rfl | rfl | rfl | rfl | rfl | rfl | rfl | rfl <;> first | rfl | exact h.1 | exact h.2
theorem cells11_at : ∀ (l : List Pk) (j i : Nat) (h : j < l.length) (hi : i < 11), (cells11 l)[j * 11 + i]? = (pc l[j])[i]?
  | [], _, _, h, _ => absurd h (by simp)
  | p :: r, 0, i, _, hi => by
    have e : cells11 (p :: r) = pc p ++ cells11 r := by simp [cells11]
    rw [e, List.getElem?_append_left (by simp [pc]; omega), Nat.zero_mul, Nat.zero_add]
    rfl
  | p :: r, j + 1, i, h, hi => by
    have ih := cells11_at r j i (by simpa using h) hi
    have e : cells11 (p :: r) = pc p ++ cells11 r := by simp [cells11]
    have e11 : (pc p).length = 11 := rfl
    rw [e, List.getElem?_append_right (by rw [e11]; omega), e11, show (j + 1) * 11 + i - 11 = j * 11 + i by omega]
    simpa using ih

/-- Eleven cells hold a packet. -/
def PkAt (w : World) (b o : Nat) (q : Pk) : Prop :=
  w.cell? ⟨b, o, none⟩ = some (.int .u8 (q.k.tos : Int)) ∧ w.cell? ⟨b, o + 1, none⟩ = some (.int .u16 (q.k.ident : Int)) ∧ w.cell? ⟨b, o + 2, none⟩ = some (.bool q.k.whole) ∧ w.cell? ⟨b, o + 3, none⟩ = some (.bool q.k.more) ∧
  w.cell? ⟨b, o + 4, none⟩ = some (.int .i64 q.k.off) ∧ w.cell? ⟨b, o + 5, none⟩ = some (.int .u8 (q.k.ttl : Int)) ∧ w.cell? ⟨b, o + 6, none⟩ = some (.int .u8 (q.k.proto : Int)) ∧ w.cell? ⟨b, o + 7, none⟩ = some (.int .u32 (q.k.src : Int)) ∧
  w.cell? ⟨b, o + 8, none⟩ = some (.int .u32 (q.k.dst : Int)) ∧ w.cell? ⟨b, o + 9, none⟩ = some q.vo ∧ w.cell? ⟨b, o + 10, none⟩ = some q.vd

/-- The slice v holds these packets. -/
def Ips (w : World) (v : Value) (l : List Pk) : Prop :=
  ∃ A c, v = .slice A l.length c ∧ l.length ≤ c ∧ c ≤ maxLen ∧
    (0 < l.length → ∃ b off, A = some ⟨b, off, none⟩ ∧ b < w.heap.size ∧ ∀ j u, (cells11 l)[j]? = some u → w.cell? ⟨b, off + j, none⟩ = some u)

section
variable {w w' : World} {v : Value} {l : List Pk}
theorem Ips.nil (w : World) : Ips w (.slice none 0 0) [] := ⟨none, 0, rfl, Nat.le_refl _, Nat.zero_le _, fun h => absurd h (by simp)⟩
theorem Ips.len {A : Option Addr} {n c : Nat} (h : Ips w (.slice A n c) l) : n = l.length ∧ n ≤ c ∧ c ≤ maxLen := by
  obtain ⟨A', c', e, h1, h2, _⟩ := h
  cases e
  exact ⟨rfl, h1, h2⟩
theorem Ips.form (h : Ips w v l) : ∃ A c, v = .slice A l.length c ∧ l.length ≤ c ∧ c ≤ maxLen := by
  obtain ⟨A, c, rfl, h1, h2, _⟩ := h
  exact ⟨A, c, rfl, h1, h2⟩
theorem Ips.raw {A : Option Addr} {n c : Nat} (h : Ips w (.slice A n c) l) (hp : 0 < n) : ∃ b off, A = some ⟨b, off, none⟩ ∧ b < w.heap.size ∧ ∀ j u, (cells11 l)[j]? = some u → w.cell? ⟨b, off + j, none⟩ = some u := by
  obtain ⟨A', c', e, h1, h2, h3⟩ := h
  cases e
  exact h3 hp
theorem pkAt_of {b off : Nat} (h : ∀ j u, (cells11 l)[j]? = some u → w.cell? ⟨b, off + j, none⟩ = some u) (j : Nat) (hj : j < l.length) : PkAt w b (off + j * 11) l[j] := by
  have e : ∀ i (hi : i < 11) u, (pc l[j])[i]? = some u → w.cell? ⟨b, off + j * 11 + i, none⟩ = some u := fun i hi u hu => by
    rw [Nat.add_assoc]
    exact h _ _ (by rw [cells11_at l j i hj hi]; exact hu)
  exact ⟨e 0 (by decide) _ rfl, e 1 (by decide) _ rfl, e 2 (by decide) _ rfl, e 3 (by decide) _ rfl, e 4 (by decide) _ rfl, e 5 (by decide) _ rfl, e 6 (by decide) _ rfl, e 7 (by decide) _ rfl, e 8 (by decide) _ rfl, e 9 (by decide) _ rfl, e 10 (by decide) _ rfl⟩
theorem Ips.at_ {A : Option Addr} {n c : Nat} (h : Ips w (.slice A n c) l) (hp : 0 < n) : ∃ b off, A = some ⟨b, off, none⟩ ∧ b < w.heap.size ∧ ∀ j (hj : j < l.length), PkAt w b (off + j * 11) l[j] := by
  obtain ⟨b, off, e, hb, hc⟩ := h.raw hp
  exact ⟨b, off, e, hb, pkAt_of hc⟩
theorem Ips.other (h : Ips w v l) (hs : w.heap.size ≤ w'.heap.size) (hb : ∀ b, v.ownBlock = some b → b < w.heap.size → w'.heap[b]? = w.heap[b]?) : Ips w' v l := by
  obtain ⟨A, c, rfl, h1, h2, h3⟩ := h
  refine ⟨A, c, rfl, h1, h2, fun hp => ?_⟩
  obtain ⟨b, off, rfl, hlt, hc⟩ := h3 hp
  exact ⟨b, off, rfl, Nat.lt_of_lt_of_le hlt hs, fun j u hj => (World.cell?_of_block (w := w) (a := ⟨b, off + j, none⟩) (hb b rfl hlt)).trans (hc j u hj)⟩
theorem Ips.grow (h : Ips w v l) (g : Grow w w') : Ips w' v l := h.other g.size fun b _ hlt => g.block b hlt
theorem PkAt.grow {b o : Nat} {q : Pk} (h : PkAt w b o q) (g : Grow w w') (hb : b < w.heap.size) : PkAt w' b o q := by
  obtain ⟨h0, h1, h2, h3, h4, h5, h6, h7, h8, h9, h10⟩ := h
  have e : ∀ i u, w.cell? ⟨b, i, none⟩ = some u → w'.cell? ⟨b, i, none⟩ = some u := fun i u hu => (g.cell (p := ⟨b, i, none⟩) hb).trans hu
  exact ⟨e _ _ h0, e _ _ h1, e _ _ h2, e _ _ h3, e _ _ h4, e _ _ h5, e _ _ h6, e _ _ h7, e _ _ h8, e _ _ h9, e _ _ h10⟩
end

/-- The slices of each read as its bytes. -/
def Pk.Good (w : World) (q : Pk) : Prop := Byt w q.vo q.k.opts ∧ Byt w q.vd q.k.data ∧ q.k.Ok
theorem Pk.Good.grow {w w' : World} {q : Pk} (h : q.Good w) (g : Grow w w') : q.Good w' := ⟨h.1.grow g, h.2.1.grow g, h.2.2⟩
theorem Pk.Good.one {w : World} {q : Pk} (h : q.Good w) : q.One := ⟨h.1.one, h.2.1.one⟩
theorem Pk.Good.ip {w : World} {q : Pk} (h : q.Good w) : Ip w (ipV q.k q.vo q.vd) q.k := ⟨_, _, rfl, h.1, h.2.1, h.2.2⟩
/-- The slice v reads as these packets. -/
def Psl (w : World) (v : Value) (ks : List Pkt) : Prop := ∃ l : List Pk, l.map Pk.k = ks ∧ Ips w v l ∧ ∀ q ∈ l, q.Good w
theorem Psl.grow {w w' : World} {v : Value} {ks : List Pkt} (h : Psl w v ks) (g : Grow w w') : Psl w' v ks := by
  obtain ⟨l, h1, h2, h3⟩ := h
  exact ⟨l, h1, h2.grow g, fun q hq => (h3 q hq).grow g⟩
theorem Psl.nil (w : World) : Psl w (.slice none 0 0) [] := ⟨[], rfl, Ips.nil w, fun q hq => by simp at hq⟩
theorem Psl.form {w : World} {v : Value} {ks : List Pkt} (h : Psl w v ks) : ∃ A c, v = .slice A ks.length c ∧ ks.length ≤ c ∧ c ≤ maxLen := by
  obtain ⟨l, h1, h2, _⟩ := h
  have := h2.form
  rwa [← h1, List.length_map]

/-- A row of packets of the call's own. -/
def Iprow (w : World) (base : Nat) (v : Value) (l : List Pk) : Prop := w.ownsRow base 27 11 v l.length (cells11 l)
section
variable {w w' : World} {v : Value} {l : List Pk} {base : Nat}
theorem Iprow.nil (w : World) (base : Nat) : Iprow w base (.slice none 0 0) [] := World.ownsRow_nil w base 27 11
theorem Iprow.ips (h : Iprow w base v l) : Ips w v l := by
  obtain ⟨h1, h2⟩ := id h
  rcases h2 with ⟨rfl, h0⟩ | ⟨g, cap, cur, rfl, hbg, hh, hnc, hcm, hcs, ht⟩
  · have : l = [] := List.eq_nil_of_length_eq_zero h0
    subst this
    exact Ips.nil w
  · refine ⟨some ⟨g, 0, none⟩, cap, rfl, hnc, hcm, fun hp => ⟨g, 0, rfl, (Array.getElem?_eq_some_iff.1 hh).1, fun j u hj => ?_⟩⟩
    have := World.ownsRow.cells h (g := g) rfl j u hj
    have e : (⟨g, 0, none⟩ : Addr).add j = ⟨g, 0 + j, none⟩ := by unfold Addr.add; split <;> simp_all
    rwa [e] at this
theorem Iprow.other (h : Iprow w base v l) (hb : ∀ b, v.ownBlock = some b → b < w.heap.size → w'.heap[b]? = w.heap[b]?) : Iprow w' base v l := by
  obtain ⟨h1, h2⟩ := h
  refine ⟨h1, ?_⟩
  rcases h2 with h2 | ⟨g, cap, cur, rfl, e2, hh, r⟩
  · exact .inl h2
  · exact .inr ⟨g, cap, cur, rfl, e2, (hb g rfl (Array.getElem?_eq_some_iff.1 hh).1).trans hh, r⟩
theorem Iprow.grow (h : Iprow w base v l) (g : Grow w w') : Iprow w' base v l := h.other fun b _ hlt => g.block b hlt
theorem Iprow.lt (h : Iprow w base v l) : ∀ k, v.ownBlock = some k → base ≤ k ∧ k < w.heap.size := World.ownsRow.lt h
theorem Iprow.base_ {b' : Nat} (h : Iprow w base v l) (hb : b' ≤ base) : Iprow w b' v l := by
  obtain ⟨h1, h2⟩ := h
  refine ⟨h1, ?_⟩
  rcases h2 with h2 | ⟨g, cap, cur, e1, e2, r⟩
  · exact .inl h2
  · exact .inr ⟨g, cap, cur, e1, by omega, r⟩
theorem Iprow.lit (w : World) (q : Pk) (cs : Array Value) (hc : cs.toList = pc q) (g : Nat) (hg : g = w.heap.size) : Iprow (w.alloc (.cells cs 27)) w.heap.size (.slice (some ⟨g, 0, none⟩) 1 1) [q] := by
  subst hg
  have h := World.ownsRow_lit (base := w.heap.size) (e := 27) (size := 11) w cs 1 (Nat.le_refl _) (by unfold maxLen; decide) (by rw [← Array.length_toList, hc]; rfl)
  rw [hc] at h
  have e1 : pc q = cells11 [q] := by simp [cells11]
  rw [e1] at h
  exact h
end

theorem infoIP : (Try.prog.info? 27).map (fun i => (i.zero, i.size, i.bytes)) = some (some (.agg #[.int .u8 0, .int .u16 0, .bool false, .bool false, .int .i64 0, .int .u8 0, .int .u8 0, .int .u32 0, .int .u32 0, .slice none 0 0, .slice none 0 0]), 11, 80) := by kernel_rfl

/-- append(s, x...) onto a row of packets of the call's own, whatever the source. -/
theorem run_app11 (w : World) (base : Nat) (ty : TypeId)
    (v : Value) (l : List Pk) (hown : Iprow w base v l) (u : Value) (m : List Pk) (hr : Ips w u m) (hm1 : ∀ q ∈ m, q.One) (hlen : l.length + m.length ≤ 100000000) (hbase : base ≤ w.heap.size) :
    ∃ v' w', (Builtin.append_ #[30, 30] ty #[v, u]).run Try.prog w = .ok v' w' ∧ Iprow w' base v' (l ++ m) ∧ w.grownBy w' v.ownBlock ∧ (v'.ownBlock = v.ownBlock ∨ v'.ownBlock = some w.heap.size) := by
  have ht := Try.underlying30
  obtain ⟨i, hi0, hz0, hz1, hz2⟩ := info_parts infoIP
  obtain ⟨A, c, rfl, hlc, hcm, hcell⟩ := hr
  cases A with
  | none =>
    have hm : m = [] := by
      rcases Nat.eq_zero_or_pos m.length with h0 | h0
      · exact List.eq_nil_of_length_eq_zero h0
      · obtain ⟨b, off, e', _⟩ := hcell h0
        cases e'
    subst hm
    refine ⟨v, w, ?_, by simpa using hown, ⟨rfl, rfl, rfl, Nat.le_refl _, fun _ _ _ => rfl⟩, .inl rfl⟩
    rcases hown.2 with ⟨rfl, hx⟩ | ⟨g, cap, cur, rfl, _, _, hnc, _⟩
    · simp [Builtin.append_, run_underlying ht, sizeOf, typeInfo, hi0, Builtin.lenOf, Builtin.firstCells]
    · simp [Builtin.append_, run_underlying ht, sizeOf, typeInfo, hi0, Builtin.lenOf, Builtin.firstCells, hnc, storeCells]
  | some ad =>
    have hnews : ∀ j y, (cells11 m)[j]? = some y → w.cell? (ad.add j) = some y := by
      intro j y hy
      have hj : 0 < m.length := by
        rcases Nat.eq_zero_or_pos m.length with h0 | h0
        · rw [List.eq_nil_of_length_eq_zero h0] at hy; simp [cells11] at hy
        · exact h0
      obtain ⟨b, off, e', _, hc⟩ := hcell hj
      injection e' with e'
      subst e'
      have e : (⟨b, off, none⟩ : Addr).add j = ⟨b, off + j, none⟩ := by unfold Addr.add; split <;> simp_all
      rw [e]
      exact hc j y hy
    obtain ⟨v', w', hrun, h2, h3, _, h5⟩ := run_append_own_at (P := Try.prog) w base 30 ty 27 i _ 11 80 ht hi0 hz0 hz1 hz2 (by rfl) (by decide) v l.length (cells11 l) hown ad m.length c (cells11 m) (cells11_length m) hnews (cells11_one m hm1) (by unfold maxLen; omega) (by omega) hbase
    refine ⟨v', w', hrun, ?_, h3, h5⟩
    unfold Iprow
    rw [List.length_append, cells11_append]
    exact h2

theorem wpList_app11 (w : World) {ops : Array Oper} {rest : List Oper} {o : Oper} {a : Act} {Q : Exit → Act → World → Prop} (hgd : o.guard = none) (s x : Operand)
    (ho : o.op = .call { callee := .builtin .append, args := #[s, x], argTypes := #[30, 30] })
    (base : Nat) (v u : Value) (l m : List Pk) (hs : a.eval s = v) (hx : a.eval x = u) (hown : Iprow w base v l) (hr : Ips w u m) (hm1 : ∀ q ∈ m, q.One) (hlen : l.length + m.length ≤ 100000000) (hbase : base ≤ w.heap.size)
    (h : ∀ v' w', Iprow w' base v' (l ++ m) → w.grownBy w' v.ownBlock → (v'.ownBlock = v.ownBlock ∨ v'.ownBlock = some w.heap.size) → wpList Try.prog ops Q rest (a.put o.dst v') w') : wpList Try.prog ops Q (o :: rest) a w := by
  obtain ⟨v', w', hrun, h2, h3, h4⟩ := run_app11 w base o.type v l hown u m hr hm1 hlen hbase
  refine wpList_plain hgd fun K hK => ?_
  unfold Oper.wp execOp
  simp only [ho, resolve, invoke, builtin, Sem.run_bind, Sem.run_pure, Result.andThen_ok, List.map_toArray, List.map_cons, List.map_nil, hs, hx, hrun]
  exact hK _ _ (h v' w' h2 h3 h4)

theorem Grow.iprow {w₀ w w' : World} {v : Value} {l : List Pk} (g : Grow w₀ w) (h : w.grownBy w' v.ownBlock) (ho : Iprow w w₀.heap.size v l) : Grow w₀ w' :=
  g.grown h g.size fun k hk => (ho.lt k hk).1
end Go.Proofs.Ytkofmbnolaiecaa
