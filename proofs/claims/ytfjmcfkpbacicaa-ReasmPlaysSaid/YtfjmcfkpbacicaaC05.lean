/- Slices of packets in memory: read as lists ('Ips'), rows of the call's own ('Iprow'); append. -/
import Derived.Test.YtfjmcfkpbacicaaC03
import Derived.Test.YtfjmcfkpbacicaaC04
import Derived.Test.YtfjmcfkpbacicaaC02
import Derived.Laws.StructEq
import Derived.Deep.AppendSrc
import Derived.Deep.RegionLaw
namespace Go.Proofs.Ytfjmcfkpbacicaa
set_option linter.unusedVariables false
set_option maxRecDepth 8000
set_option linter.unusedSimpArgs false
open Go.ChangeShapes Go.WideShapes Go.ChangeAt Go.RowKit

/-- A packet with the values of its two slices. -/
structure Pk where
  k : Pkt
  vo : Value
  vd : Value
/-- The eleven cells of a packet. -/
def pc (q : Pk) : List Value := [.int .u8 (q.k.tos : Int), .int .u16 (q.k.ident : Int), .bool q.k.whole, .bool q.k.more, .int .i64 q.k.off, .int .u8 (q.k.ttl : Int), .int .u8 (q.k.proto : Int), .int .u32 (q.k.src : Int), .int .u32 (q.k.dst : Int), q.vo, q.vd]
def cells11 (l : List Pk) : List Value := l.flatMap pc
theorem cells11_length (l : List Pk) : (cells11 l).length = l.length * 11 := by
  unfold cells11
  induction l with
  | nil => rfl
  | cons p r ih => simp only [List.flatMap_cons, List.length_append, ih, List.length_cons]; simp [pc]; omega
theorem cells11_append (l m : List Pk) : cells11 (l ++ m) = cells11 l ++ cells11 m := by simp [cells11]
/-- Slices, and nothing else, in the two last cells. -/
def Pk.One (q : Pk) : Prop := q.vo.oneCell' = true ∧ q.vd.oneCell' = true
theorem cells11_one (l : List Pk) (hl : ∀ q ∈ l, q.One) : ∀ y ∈ cells11 l, y.oneCell' = true := by
  intro y hy
  unfold cells11 at hy
  obtain ⟨p, hp0, hp⟩ := List.mem_flatMap.1 hy
  simp [pc] at hp
  have h := hl p hp0
  rcases hp with rfl | rfl | rfl | rfl | rfl | rfl | rfl | rfl | rfl | rfl | rfl <;> first | rfl | exact h.1 | exact h.2
theorem cells11_at : ∀ (l : List Pk) (j i : Nat) (h : j < l.length) (hi : i < 11), (cells11 l)[j * 11 + i]? = (pc l[j])[i]?
  | [], _, _, h, _ => absurd h (by simp)
  | p :: r, 0, i, _, hi => by
    have e : cells11 (p :: r) = pc p ++ cells11 r := by simp [cells11]
    rw [e, List.getElem?_append_left (by simp [pc]; omega), Nat.zero_mul, Nat.zero_add]
    rfl
  | p :: r, j + 1, i, h, hi => by
    have ih := cells11_at r j i (by simpa using h) hi
    have e : cells11 (p :: r) = pc p ++ cells11 r := by simp [cells11]
    have e11 : (pc p).length = 11 := rfl
    rw [e, List.getElem?_append_right (by rw [e11]; omega), e11, show (j + 1) * 11 + i - 11 = j * 11 + i by omega]
    simpa using ih

/-- Eleven cells hold a packet. -/
def PkAt (w : World) (b o : Nat) (q : Pk) : Prop :=
  w.cell? ⟨b, o, none⟩ = some (.int .u8 (q.k.tos : Int)) ∧ w.cell? ⟨b, o + 1, none⟩ = some (.int .u16 (q.k.ident : Int)) ∧ w.cell? ⟨b, o + 2, none⟩ = some (.bool q.k.whole) ∧ w.cell? ⟨b, o + 3, none⟩ = some (.bool q.k.more) ∧
  w.cell? ⟨b, o + 4, none⟩ = some (.int .i64 q.k.off) ∧ w.cell? ⟨b, o + 5, none⟩ = some (.int .u8 (q.k.ttl : Int)) ∧ w.cell? ⟨b, o + 6, none⟩ = some (.int .u8 (q.k.proto : Int)) ∧ w.cell? ⟨b, o + 7, none⟩ = some (.int .u32 (q.k.src : Int)) ∧
  w.cell? ⟨b, o + 8, none⟩ = some (.int .u32 (q.k.dst : Int)) ∧ w.cell? ⟨b, o + 9, none⟩ = some q.vo ∧ w.cell? ⟨b, o + 10, none⟩ = some q.vd

/-- The slice v holds these packets. -/
def Ips (w : World) (v : Value) (l : List Pk) : Prop :=
  ∃ A c, v = .slice A l.length c ∧ l.length ≤ c ∧ c ≤ maxLen ∧
    (0 < l.length → ∃ b off, A = some ⟨b, off, none⟩ ∧ b < w.heap.size ∧ ∀ j u, (cells11 l)[j]? = some u → w.cell? ⟨b, off + j, none⟩ = some u)

section
variable {w w' : World} {v : Value} {l : List Pk}
theorem Ips.nil (w : World) : Ips w (.slice none 0 0) [] := ⟨none, 0, rfl, Nat.le_refl _, Nat.zero_le _, fun h => absurd h (by simp)⟩
theorem Ips.len {A : Option Addr} {n c : Nat} (h : Ips w (.slice A n c) l) : n = l.length ∧ n ≤ c ∧ c ≤ maxLen := by
  obtain ⟨A', c', e, h1, h2, _⟩ := h
  cases e
  exact ⟨rfl, h1, h2⟩
theorem Ips.form (h : Ips w v l) : ∃ A c, v = .slice A l.length c ∧ l.length ≤ c ∧ c ≤ maxLen := by
  obtain ⟨A, c, rfl, h1, h2, _⟩ := h
  exact ⟨A, c, rfl, h1, h2⟩
theorem Ips.raw {A : Option Addr} {n c : Nat} (h : Ips w (.slice A n c) l) (hp : 0 < n) : ∃ b off, A = some ⟨b, off, none⟩ ∧ b < w.heap.size ∧ ∀ j u, (cells11 l)[j]? = some u → w.cell? ⟨b, off + j, none⟩ = some u := by
  obtain ⟨A', c', e, h1, h2, h3⟩ := h
  cases e
  exact h3 hp
theorem pkAt_of {b off : Nat} (h : ∀ j u, (cells11 l)[j]? = some u → w.cell? ⟨b, off + j, none⟩ = some u) (j : Nat) (hj : j < l.length) : PkAt w b (off + j * 11) l[j] := by
  have e : ∀ i (hi : i < 11) u, (pc l[j])[i]? = some u → w.cell? ⟨b, off + j * 11 + i, none⟩ = some u := fun i hi u hu => by
    rw [Nat.add_assoc]
    exact h _ _ (by rw [cells11_at l j i hj hi]; exact hu)
  exact ⟨e 0 (by decide) _ rfl, e 1 (by decide) _ rfl, e 2 (by decide) _ rfl, e 3 (by decide) _ rfl, e 4 (by decide) _ rfl, e 5 (by decide) _ rfl, e 6 (by decide) _ rfl, e 7 (by decide) _ rfl, e 8 (by decide) _ rfl, e 9 (by decide) _ rfl, e 10 (by decide) _ rfl⟩
theorem Ips.at_ {A : Option Addr} {n c : Nat} (h : Ips w (.slice A n c) l) (hp : 0 < n) : ∃ b off, A = some ⟨b, off, none⟩ ∧ b < w.heap.size ∧ ∀ j (hj : j < l.length), PkAt w b (off + j * 11) l[j] := by
  obtain ⟨b, off, e, hb, hc⟩ := h.raw hp
  exact ⟨b, off, e, hb, pkAt_of hc⟩
theorem Ips.other (h : Ips w v l) (hs : w.heap.size ≤ w'.heap.size) (hb : ∀ b, v.ownBlock = some b → b < w.heap.size → w'.heap[b]? = w.heap[b]?) : Ips w' v l := by
  obtain ⟨A, c, rfl, h1, h2, h3⟩ := h
  refine ⟨A, c, rfl, h1, h2, fun hp => ?_⟩
  obtain ⟨b, off, rfl, hlt, hc⟩ := h3 hp
  exact ⟨b, off, rfl, Nat.lt_of_lt_of_le hlt hs, fun j u hj => (World.cell?_of_block (w := w) (a := ⟨b, off + j, none⟩) (hb b rfl hlt)).trans (hc j u hj)⟩
theorem Ips.grow (h : Ips w v l) (g : Grow w w') : Ips w' v l := h.other g.size fun b _ hlt => g.block b hlt
theorem PkAt.grow {b o : Nat} {q : Pk} (h : PkAt w b o q) (g : Grow w w') (hb : b < w.heap.size) : PkAt w' b o q := by
  obtain ⟨h0, h1, h2, h3, h4, h5, h6, h7, h8, h9, h10⟩ := h
  have e : ∀ i u, w.cell? ⟨b, i, none⟩ = some u → w'.cell? ⟨b, i, none⟩ = some u := fun i u hu => (g.cell (p := ⟨b, i, none⟩) hb).trans hu
  exact ⟨e _ _ h0, e _ _ h1, e _ _ h2, e _ _ h3, e _ _ h4, e _ _ h5, e _ _ h6, e _ _ h7, e _ _ h8, e _ _ h9, e _ _ h10⟩
end

/-- The slices of each read as its bytes. -/
def Pk.Good (w : World) (q : Pk) : Prop := Byt w q.vo q.k.opts ∧ Byt w q.vd q.k.data ∧ q.k.Ok
theorem Pk.Good.grow {w w' : World} {q : Pk} (h : q.Good w) (g : Grow w w') : q.Good w' := ⟨h.1.grow g, h.2.1.grow g, h.2.2⟩
theorem Pk.Good.one {w : World} {q : Pk} (h : q.Good w) : q.One := ⟨h.1.one, h.2.1.one⟩
theorem Pk.Good.ip {w : World} {q : Pk} (h : q.Good w) : Ip w (ipV q.k q.vo q.vd) q.k := ⟨_, _, rfl, h.1, h.2.1, h.2.2⟩
/-- The slice v reads as these packets. -/
def Psl (w : World) (v : Value) (ks : List Pkt) : Prop := ∃ l : List Pk, l.map Pk.k = ks ∧ Ips w v l ∧ ∀ q ∈ l, q.Good w
theorem Psl.grow {w w' : World} {v : Value} {ks : List Pkt} (h : Psl w v ks) (g : Grow w w') : Psl w' v ks := by
  obtain ⟨l, h1, h2, h3⟩ := h
  exact ⟨l, h1, h2.grow g, fun q hq => (h3 q hq).grow g⟩
theorem Psl.nil (w : World) : Psl w (.slice none 0 0) [] := ⟨[], rfl, Ips.nil w, fun q hq => by simp at hq⟩
theorem Psl.form {w : World} {v : Value} {ks : List Pkt} (h : Psl w v ks) : ∃ A c, v = .slice A ks.length c ∧ ks.length ≤ c ∧ c ≤ maxLen := by
  obtain ⟨l, h1, h2, _⟩ := h
  have := h2.form
  rwa [← h1, List.length_map]

/-- A row of packets of the call's own. -/
def Iprow (w : World) (base : Nat) (v : Value) (l : List Pk) : Prop := w.ownsRow base 38 11 v l.length (cells11 l)
section
variable {w w' : World} {v : Value} {l : List Pk} {base : Nat}
theorem Iprow.nil (w : World) (base : Nat) : Iprow w base (.slice none 0 0) [] := World.ownsRow_nil w base 38 11
theorem Iprow.ips (h : Iprow w base v l) : Ips w v l := by
  obtain ⟨h1, h2⟩ := id h
  rcases h2 with ⟨rfl, h0⟩ | ⟨g, cap, cur, rfl, hbg, hh, hnc, hcm, hcs, ht⟩
  · have : l = [] := List.eq_nil_of_length_eq_zero h0
    subst this
    exact Ips.nil w
  · refine ⟨some ⟨g, 0, none⟩, cap, rfl, hnc, hcm, fun hp => ⟨g, 0, rfl, (Array.getElem?_eq_some_iff.1 hh).1, fun j u hj => ?_⟩⟩
    have := World.ownsRow.cells h (g := g) rfl j u hj
    have e : (⟨g, 0, none⟩ : Addr).add j = ⟨g, 0 + j, none⟩ := by unfold Addr.add; split <;> simp_all
    rwa [e] at this
theorem Iprow.other (h : Iprow w base v l) (hb : ∀ b, v.ownBlock = some b → b < w.heap.size → w'.heap[b]? = w.heap[b]?) : Iprow w' base v l := by
  obtain ⟨h1, h2⟩ := h
  refine ⟨h1, ?_⟩
  rcases h2 with h2 | ⟨g, cap, cur, rfl, e2, hh, r⟩
  · exact .inl h2
  · exact .inr ⟨g, cap, cur, rfl, e2, (hb g rfl (Array.getElem?_eq_some_iff.1 hh).1).trans hh, r⟩
theorem Iprow.grow (h : Iprow w base v l) (g : Grow w w') : Iprow w' base v l := h.other fun b _ hlt => g.block b hlt
theorem Iprow.lt (h : Iprow w base v l) : ∀ k, v.ownBlock = some k → base ≤ k ∧ k < w.heap.size := World.ownsRow.lt h
theorem Iprow.base_ {b' : Nat} (h : Iprow w base v l) (hb : b' ≤ base) : Iprow w b' v l := by
  obtain ⟨h1, h2⟩ := h
  refine ⟨h1, ?_⟩
  rcases h2 with h2 | ⟨g, cap, cur, e1, e2, r⟩
  · exact .inl h2
  · exact .inr ⟨g, cap, cur, e1, by omega, r⟩
theorem Iprow.lit (w : World) (q : Pk) (cs : Array Value) (hc : cs.toList = pc q) (g : Nat) (hg : g = w.heap.size) : Iprow (w.alloc (.cells cs 38)) w.heap.size (.slice (some ⟨g, 0, none⟩) 1 1) [q] := by
  subst hg
  have h := World.ownsRow_lit (base := w.heap.size) (e := 38) (size := 11) w cs 1 (Nat.le_refl _) (by unfold maxLen; decide) (by rw [← Array.length_toList, hc]; rfl)
  rw [hc] at h
  have e1 : pc q = cells11 [q] := by simp [cells11]
  rw [e1] at h
  exact h
end

theorem infoIP : (Try.prog.info? 38).map (fun i => (i.zero, i.size, i.bytes)) = some (some (.agg #[.int .u8 0, .int .u16 0, .bool false, .bool false, .int .i64 0, .int .u8 0, .int .u8 0, .int .u32 0, .int .u32 0, .slice none 0 0, .slice none 0 0]), 11, 80) := by kernel_rfl

/-- append(s, x...) onto a row of packets of the call's own, whatever the source. -/
theorem run_app11 (w : World) (base : Nat) (ty : TypeId)
    (v : Value) (l : List Pk) (hown : Iprow w base v l) (u : Value) (m : List Pk) (hr : Ips w u m) (hm1 : ∀ q ∈ m, q.One) (hlen : l.length + m.length ≤ 100000000) (hbase : base ≤ w.heap.size) :
    ∃ v' w', (Builtin.append_ #[41, 41] ty #[v, u]).run Try.prog w = .ok v' w' ∧ Iprow w' base v' (l ++ m) ∧ w.grownBy w' v.ownBlock ∧ (v'.ownBlock = v.ownBlock ∨ v'.ownBlock = some w.heap.size) := by
  have ht := Try.underlying41
  obtain ⟨i, hi0, hz0, hz1, hz2⟩ := info_parts infoIP
  obtain ⟨A, c, rfl, hlc, hcm, hcell⟩ := hr
  cases A with
  | none =>
    have hm : m = [] := by
      rcases Nat.eq_zero_or_pos m.length with h0 | h0
      · exact List.eq_nil_of_length_eq_zero h0
      · obtain ⟨b, off, e', _⟩ := hcell h0
        cases e'
    subst hm
    refine ⟨v, w, ?_, by simpa using hown, ⟨rfl, rfl, rfl, Nat.le_refl _, fun _ _ _ => rfl⟩, .inl rfl⟩
    rcases hown.2 with ⟨rfl, hx⟩ | ⟨g, cap, cur, rfl, _, _, hnc, _⟩
    · simp [Builtin.append_, run_underlying ht, sizeOf, typeInfo, hi0, Builtin.lenOf, Builtin.firstCells]
    · simp [Builtin.append_, run_underlying ht, sizeOf, typeInfo, hi0, Builtin.lenOf, Builtin.firstCells, hnc, storeCells]
  | some ad =>
    have hnews : ∀ j y, (cells11 m)[j]? = some y → w.cell? (ad.add j) = some y := by
      intro j y hy
      have hj : 0 < m.length := by
        rcases Nat.eq_zero_or_pos m.length with h0 | h0
        · rw [List.eq_nil_of_length_eq_zero h0] at hy; simp [cells11] at hy
        · exact h0
      obtain ⟨b, off, e', _, hc⟩ := hcell hj
      injection e' with e'
      subst e'
      have e : (⟨b, off, none⟩ : Addr).add j = ⟨b, off + j, none⟩ := by unfold Addr.add; split <;> simp_all
      rw [e]
      exact hc j y hy
    obtain ⟨v', w', hrun, h2, h3, _, h5⟩ := run_append_own_at (P := Try.prog) w base 41 ty 38 i _ 11 80 ht hi0 hz0 hz1 hz2 (by rfl) (by decide) v l.length (cells11 l) hown ad m.length c (cells11 m) (cells11_length m) hnews (cells11_one m hm1) (by unfold maxLen; omega) (by omega) hbase
    refine ⟨v', w', hrun, ?_, h3, h5⟩
    unfold Iprow
    rw [List.length_append, cells11_append]
    exact h2

theorem wpList_app11 (w : World) {ops : Array Oper} {rest : List Oper} {o : Oper} {a : Act} {Q : Exit → Act → World → Prop} (hgd : o.guard = none) (s x : Operand)
    (ho : o.op = .call { callee := .builtin .append, args := #[s, x], argTypes := #[41, 41] })
    (base : Nat) (v u : Value) (l m : List Pk) (hs : a.eval s = v) (hx : a.eval x = u) (hown : Iprow w base v l) (hr : Ips w u m) (hm1 : ∀ q ∈ m, q.One) (hlen : l.length + m.length ≤ 100000000) (hbase : base ≤ w.heap.size)
    (h : ∀ v' w', Iprow w' base v' (l ++ m) → w.grownBy w' v.ownBlock → (v'.ownBlock = v.ownBlock ∨ v'.ownBlock = some w.heap.size) → wpList Try.prog ops Q rest (a.put o.dst v') w') : wpList Try.prog ops Q (o :: rest) a w := by
  obtain ⟨v', w', hrun, h2, h3, h4⟩ := run_app11 w base o.type v l hown u m hr hm1 hlen hbase
  refine wpList_plain hgd fun K hK => ?_
  unfold Oper.wp execOp
  simp only [ho, resolve, invoke, builtin, Sem.run_bind, Sem.run_pure, Result.andThen_ok, List.map_toArray, List.map_cons, List.map_nil, hs, hx, hrun]
  exact hK _ _ (h v' w' h2 h3 h4)

theorem Grow.iprow {w₀ w w' : World} {v : Value} {l : List Pk} (g : Grow w₀ w) (h : w.grownBy w' v.ownBlock) (ho : Iprow w w₀.heap.size v l) : Grow w₀ w' :=
  g.grown h g.size fun k hk => (ho.lt k hk).1
end Go.Proofs.Ytfjmcfkpbacicaa
/- The document's answers of layer 11 as functions on lists and packets: options that each piece has, pieces. -/
namespace Go.Proofs.Ytfjmcfkpbacicaa
set_option linter.unusedVariables false
set_option linter.unusedSimpArgs false

/-- How many bytes the option at the beginning has; 0: none that may be. -/
def fopt (l : List UInt8) : Nat := if l.length < 2 then 0 else if byt l 1 < 2 ∨ l.length < byt l 1 then 0 else byt l 1
theorem fopt_le (l : List UInt8) : fopt l ≤ l.length := by unfold fopt; split <;> (try split) <;> omega
theorem byt_nil (l : List UInt8) (h : l.length = 0) : byt l 0 = 0 := by
  obtain rfl := List.eq_nil_of_length_eq_zero h
  rfl
theorem byt_drop (l : List UInt8) (i j : Nat) : byt (l.drop i) j = byt l (i + j) := by unfold byt; rw [List.getElem?_drop]

/-- The options of at least 128, or none: not to be read. -/
def fscan : Nat → List UInt8 → Option (List UInt8)
  | 0, _ => some []
  | n + 1, l => if byt l 0 = 0 then some [] else if byt l 0 = 1 then fscan n (l.drop 1) else if fopt l = 0 then none else
      (fscan n (l.drop (fopt l))).map fun m => (if 128 ≤ byt l 0 then l.take (fopt l) else []) ++ m
theorem fscan_length : ∀ (n : Nat) (l m : List UInt8), fscan n l = some m → m.length ≤ l.length
  | 0, l, m, h => by unfold fscan at h; cases h; simp
  | n + 1, l, m, h => by
    unfold fscan at h
    split at h
    · cases h; simp
    · split at h
      · have := fscan_length n _ m h
        simp at this
        omega
      · split at h
        · cases h
        · cases hq : fscan n (l.drop (fopt l)) with
          | none => rw [hq] at h; cases h
          | some r =>
            rw [hq] at h
            simp only [Option.map_some, Option.some.injEq] at h
            have h2 := fscan_length n _ r hq
            have h3 := fopt_le l
            rw [List.length_drop] at h2
            subst h
            rw [List.length_append]
            split
            · rw [List.length_take]; omega
            · simp; omega

/-- Zeros up to a multiple of four. -/
def pad4 (l : List UInt8) : List UInt8 := l ++ List.replicate ((4 - l.length % 4) % 4) 0
theorem pad4_length (l : List UInt8) : (pad4 l).length % 4 = 0 ∧ l.length ≤ (pad4 l).length ∧ (pad4 l).length ≤ l.length + 3 := by
  unfold pad4
  rw [List.length_append, List.length_replicate]
  omega
def fcode (l : List UInt8) : Int := if 40 < l.length then 1 else if (fscan l.length l).isNone then 3 else 0
def fcar (l : List UInt8) : List UInt8 := if 40 < l.length then [] else match fscan l.length l with | none => [] | some m => pad4 m
theorem fcar_length (l : List UInt8) : (fcar l).length ≤ 40 ∧ (fcar l).length % 4 = 0 := by
  unfold fcar
  split
  · simp
  · cases h : fscan l.length l with
    | none => simp
    | some m =>
      have h1 := fscan_length _ _ _ h
      have h2 := pad4_length m
      exact ⟨show (pad4 m).length ≤ 40 by omega, h2.1⟩
theorem fcode_cases (l : List UInt8) : (fcode l = 1 ∧ 40 < l.length ∧ fcar l = []) ∨ (fcode l = 3 ∧ l.length ≤ 40 ∧ fscan l.length l = none ∧ fcar l = []) ∨ (fcode l = 0 ∧ l.length ≤ 40 ∧ ∃ m, fscan l.length l = some m ∧ fcar l = pad4 m) := by
  unfold fcode fcar
  by_cases h : 40 < l.length
  · rw [if_pos h, if_pos h]; exact .inl ⟨rfl, h, rfl⟩
  · rw [if_neg h, if_neg h]
    cases hs : fscan l.length l with
    | none => exact .inr (.inl ⟨by simp, by omega, rfl, rfl⟩)
    | some m => exact .inr (.inr ⟨by simp, by omega, m, rfl, rfl⟩)
end Go.Proofs.Ytfjmcfkpbacicaa
/- Contracts: option, the laws' code, a packet with memory of its own. -/
namespace Go.Proofs.Ytfjmcfkpbacicaa
set_option linter.unusedVariables false
set_option linter.unusedSimpArgs false
open Go.ChangeShapes Go.WideShapes Go.ChangeAt Go.RowKit

def zeroPk : Pkt := ⟨0, 0, false, false, 0, 0, 0, 0, 0, [], []⟩

set_option maxHeartbeats 400000 in
/-- A packet, handed back alone out of its block. -/
theorem results1_ip {fn : Func} (j : Nat) (h : fn.results = #[.cell j 38]) (tmps : Array Value) (w : World) (g : Nat) (k : Pkt) (vo vd : Value) (ht : tmps.getD j undef = .pointer (some ⟨g, 0, none⟩)) (hb : Blk w g k vo vd) :
    (results fn tmps).run Try.prog w = .ok (ipV k vo vd) w := by
  obtain ⟨b0, b1, b2, b3, b4, b5, b6, b7, b8, b9, b10⟩ := hb.boxd
  have ht' : tmps[j]?.getD undef = .pointer (some ⟨g, 0, none⟩) := by simpa using ht
  simp only [results, h, go_sem]
  simp [ht', b0, b1, b2, b3, b4, b5, b6, b7, b8, b9, b10, go_sem]

/-- Two blocks laid ahead: a packet and the zero packet. -/
theorem two_blk (w : World) (k : Pkt) (vo vd : Value) {W : World} (hW : W = (w.alloc (.cells #[.int .u8 (k.tos : Int), .int .u16 (k.ident : Int), .bool k.whole, .bool k.more, .int .i64 k.off, .int .u8 (k.ttl : Int), .int .u8 (k.proto : Int), .int .u32 (k.src : Int), .int .u32 (k.dst : Int), vo, vd] 38)).alloc (.cells #[.int .u8 0, .int .u16 0, .bool false, .bool false, .int .i64 0, .int .u8 0, .int .u8 0, .int .u32 0, .int .u32 0, .slice none 0 0, .slice none 0 0] 38)) :
    Grow w W ∧ W.heap.size = w.heap.size + 2 ∧ Blk W w.heap.size k vo vd ∧ Blk W (w.heap.size + 1) zeroPk (.slice none 0 0) (.slice none 0 0) := by
  subst hW
  refine ⟨(Grow.alloc _ _).trans (Grow.alloc _ _), by simp, (Blk.new _ _ _ _).grow (Grow.alloc _ _), ?_⟩
  have := Blk.new (w.alloc (.cells #[.int .u8 (k.tos : Int), .int .u16 (k.ident : Int), .bool k.whole, .bool k.more, .int .i64 k.off, .int .u8 (k.ttl : Int), .int .u8 (k.proto : Int), .int .u32 (k.src : Int), .int .u32 (k.dst : Int), vo, vd] 38)) zeroPk (.slice none 0 0) (.slice none 0 0)
  rw [World.size_alloc] at this
  exact this
theorem Blk.but {w w' : World} {g h : Nat} {k : Pkt} {vo vd : Value} (hk : Blk w h k vo vd) (hb : But g w w') (hne : h ≠ g) : Blk w' h k vo vd := (hb.2 h hne).trans hk

end Go.Proofs.Ytfjmcfkpbacicaa
/- Contract: Carried. -/
namespace Go.Proofs.Ytfjmcfkpbacicaa
set_option linter.unusedVariables false
set_option linter.unusedSimpArgs false
open Go.ChangeShapes Go.WideShapes Go.ChangeAt Go.RowKit

theorem leftOn {w : World} {b off c k : Nat} {l : List UInt8} (h : Byt w (.slice (some ⟨b, off, none⟩) l.length c) l) (hk : k ≤ l.length) :
    (c = k → Byt w (.slice (some ⟨b, off, none⟩) (l.drop k).length (c - k)) (l.drop k)) ∧ (¬ c = k → Byt w (.slice (some ⟨b, off + k, none⟩) (l.drop k).length (c - k)) (l.drop k)) := by
  rw [List.length_drop]
  refine ⟨fun e => h.back0 hk e, fun e => ?_⟩
  have := h.back hk e
  have e2 : (⟨b, off, none⟩ : Addr).add k = ⟨b, off + k, none⟩ := by unfold Addr.add; split <;> simp_all
  simpa [e2] using this
theorem sliceEq {A A' : Option Addr} {n n' c c' : Nat} (h1 : A = A') (h2 : n = n') (h3 : c = c') : Value.slice A n c = .slice A' n' c' := by
  rw [h1, h2, h3]

/-- Where the scan stands. -/
structure Car (w : World) (m0 : Option (List UInt8)) (v : Value) (acc l : List UInt8) (A : Option Addr) (c f : Nat) (wr : World) : Prop where
  left : Byt w (.slice A l.length c) l
  small : l.length ≤ f
  room : acc.length + l.length ≤ 40
  goes : m0 = (fscan f l).map (acc ++ ·)
  row : Own wr w.heap.size v acc
  grow : Grow w wr

theorem fcar_done {L acc : List UInt8} (hL : L.length ≤ 40) (h : fscan L.length L = some acc) : fcode L = 0 ∧ fcar L = acc ++ List.replicate ((4 - acc.length % 4) % 4) 0 := by
  unfold fcode fcar
  rw [if_neg (show ¬ 40 < L.length by omega), h, if_neg (show ¬ 40 < L.length by omega)]
  exact ⟨rfl, rfl⟩
theorem fcar_fail {L : List UInt8} (hL : L.length ≤ 40) (h : fscan L.length L = none) : fcode L = 3 ∧ fcar L = [] := by
  unfold fcode fcar
  rw [if_neg (show ¬ 40 < L.length by omega), h, if_neg (show ¬ 40 < L.length by omega)]
  exact ⟨rfl, rfl⟩
theorem fcar_much {L : List UInt8} (hL : 40 < L.length) : fcode L = 1 ∧ fcar L = [] := by
  unfold fcode fcar
  rw [if_pos hL, if_pos hL]
  exact ⟨rfl, rfl⟩

end Go.Proofs.Ytfjmcfkpbacicaa
/- Pieces of a packet, in numbers; the contract of first. -/
namespace Go.Proofs.Ytfjmcfkpbacicaa
set_option linter.unusedVariables false
set_option linter.unusedSimpArgs false
open Go.ChangeShapes Go.WideShapes Go.ChangeAt Go.RowKit

/-- How many bytes go into one piece. -/
def froom (mtu : Nat) (k : Pkt) : Nat := (mtu - 20 - k.opts.length) / 8 * 8
def ffirst (mtu : Nat) (k : Pkt) : Pkt := { k with more := true, data := k.data.take (froom mtu k) }
def frest (c : List UInt8) (mtu : Nat) (k : Pkt) : Pkt := { k with opts := c, data := k.data.drop (froom mtu k), off := k.off + (froom mtu k / 8 : Nat) }
/-- The pieces, or none: one lies too far behind. -/
def fpieces (c : List UInt8) (mtu : Nat) : Nat → Pkt → Option (List Pkt)
  | 0, _ => some []
  | n + 1, k => if 8191 < k.off then none else if k.len ≤ mtu then some [k] else (fpieces c mtu n (frest c mtu k)).map (ffirst mtu k :: ·)
theorem froom_bounds {mtu : Nat} {k : Pkt} (h1 : 68 ≤ mtu) (h2 : k.opts.length ≤ 40) (h3 : mtu < k.len) : 8 ≤ froom mtu k ∧ froom mtu k < k.data.length ∧ froom mtu k % 8 = 0 ∧ froom mtu k ≤ mtu := by
  unfold froom
  unfold Pkt.len at h3
  omega
theorem len_nil {mtu : Nat} {k : Pkt} (h1 : 68 ≤ mtu) (h2 : k.opts.length ≤ 40) (h3 : mtu < k.len) : 8 < k.data.length := by
  unfold Pkt.len at h3
  omega

/-- Why there are none, or 0. -/
def fwhy (k : Pkt) (mtu : Int) : Int := if k.check ≠ 0 then k.check else if mtu < 68 ∨ 65535 < mtu then 1 else if (k.len : Int) ≤ mtu then 0 else if k.whole then 110 else fcode k.opts
def fgo (k : Pkt) (mtu : Int) : Option (List Pkt) := fpieces (fcar k.opts) mtu.toNat (k.data.length + 1) k
def fcodeS (k : Pkt) (mtu : Int) : Int := if fwhy k mtu ≠ 0 then fwhy k mtu else if (fgo k mtu).isNone then 8 else 0
def flist (k : Pkt) (mtu : Int) : List Pkt := if fwhy k mtu ≠ 0 then [] else (fgo k mtu).getD []

theorem Pkt.check_ok {k : Pkt} (h : k.check = 0) : 0 ≤ k.off ∧ k.off ≤ 8191 ∧ k.opts.length ≤ 40 ∧ k.len ≤ 65535 := by
  unfold Pkt.check at h
  split at h
  · cases h
  · split at h
    · cases h
    · omega
theorem Pkt.check_in (k : Pkt) : 0 ≤ k.check ∧ k.check ≤ 9 := by
  unfold Pkt.check
  split
  · decide
  · split <;> decide
theorem fcode_in (l : List UInt8) : 0 ≤ fcode l ∧ fcode l ≤ 3 := by
  rcases fcode_cases l with ⟨h, _⟩ | ⟨h, _⟩ | ⟨h, _⟩ <;> rw [h] <;> decide
theorem fwhy_in (k : Pkt) (mtu : Int) : 0 ≤ fwhy k mtu ∧ fwhy k mtu ≤ 110 := by
  have h1 := k.check_in
  have h2 := fcode_in k.opts
  unfold fwhy
  split
  · omega
  · split
    · decide
    · split
      · decide
      · split
        · decide
        · omega
theorem fcodeS_in (k : Pkt) (mtu : Int) : 0 ≤ fcodeS k mtu ∧ fcodeS k mtu ≤ 110 := by
  have h1 := fwhy_in k mtu
  unfold fcodeS
  split
  · exact h1
  · split <;> decide

end Go.Proofs.Ytfjmcfkpbacicaa
/- Contract: further. -/
namespace Go.Proofs.Ytfjmcfkpbacicaa
set_option linter.unusedVariables false
set_option linter.unusedSimpArgs false
open Go.ChangeShapes Go.WideShapes Go.ChangeAt Go.RowKit

/-- What further hands back. -/
def Further (w : World) (k : Pkt) (mtu : Int) (e : Ending) (w' : World) : Prop :=
  ∃ c u, e = .returned (.tuple #[u, .int .i64 (fwhy k mtu)]) ∧ Byt w' u c ∧ (fwhy k mtu = 0 → (k.len : Int) ≤ mtu ∨ c = fcar k.opts) ∧ c.length ≤ 40 ∧ Grow w w'
theorem Further.fail {w w' : World} {k : Pkt} {mtu : Int} {n : Int} (h : fwhy k mtu = n) (hn : n ≠ 0) (hg : Grow w w') : Further w k mtu (.returned (.tuple #[.slice none 0 0, .int .i64 n])) w' :=
  ⟨[], _, by rw [h], Byt.nil _, fun h0 => absurd (h.symm.trans h0) hn, by simp, hg⟩

def Fw (k : Pkt) (mtu n : Int) : Prop := fwhy k mtu = n

end Go.Proofs.Ytfjmcfkpbacicaa
/- What Split keeps from round to round. -/
namespace Go.Proofs.Ytfjmcfkpbacicaa
set_option linter.unusedVariables false
set_option linter.unusedSimpArgs false
open Go.ChangeShapes Go.WideShapes Go.ChangeAt Go.RowKit

/-- A row of bytes of the call's own stays where a row of packets grows. -/
theorem Own.past {w w' : World} {base base' : Nat} {v s : Value} {l : List UInt8} {row : List Pk} (h : Own w base v l) (hr : Iprow w base' s row) (hg : w.grownBy w' s.ownBlock) : Own w' base v l := by
  refine ⟨h.1, ?_⟩
  rcases h.2 with h2 | ⟨b, cap, cur, hv, hbb, hh, r⟩
  · exact .inl h2
  · refine .inr ⟨b, cap, cur, hv, hbb, ?_, r⟩
    have hlt : b < w.heap.size := (Array.getElem?_eq_some_iff.1 hh).1
    rw [hg.block b hlt ?_]
    · exact hh
    · intro e
      rcases hr.2 with ⟨rfl, _⟩ | ⟨g, cap2, cur2, rfl, _, hh2, _⟩
      · cases e
      · have e2 : g = b := by cases e; rfl
        subst e2
        rw [hh] at hh2
        injection hh2 with hh2
        injection hh2 with _ e3 _
        exact absurd e3 (by decide)

/-- The slices of the packet are rows of the call's own. -/
def Pk.Mine (q : Pk) (w : World) (base : Nat) : Prop := Own w base q.vo q.k.opts ∧ Own w base q.vd q.k.data ∧ q.k.Ok
theorem Pk.Mine.good {q : Pk} {w : World} {base : Nat} (h : q.Mine w base) : q.Good w := ⟨h.1.byt, h.2.1.byt, h.2.2⟩
theorem Pk.Mine.grow {q : Pk} {w w' : World} {base : Nat} (h : q.Mine w base) (g : Grow w w') : q.Mine w' base := ⟨h.1.grow g, h.2.1.grow g, h.2.2⟩
theorem Pk.Mine.past {q : Pk} {w w' : World} {base base' : Nat} {s : Value} {row : List Pk} (h : q.Mine w base) (hr : Iprow w base' s row) (hg : w.grownBy w' s.ownBlock) : q.Mine w' base := ⟨h.1.past hr hg, h.2.1.past hr hg, h.2.2⟩
theorem Pk.Mine.but {q : Pk} {w w' : World} {base g : Nat} (h : q.Mine w base) (hb : But g w w') (hg : g < base) : q.Mine w' base := ⟨h.1.but hb hg, h.2.1.but hb hg, h.2.2⟩
theorem Pk.Mine.base_ {q : Pk} {w : World} {b b' : Nat} (h : q.Mine w b) (hb : b' ≤ b) : q.Mine w b' := ⟨h.1.base hb, h.2.1.base hb, h.2.2⟩
theorem Iprow.but {w w' : World} {g base : Nat} {v : Value} {l : List Pk} (h : Iprow w base v l) (hb : But g w w') (hg : g < base) : Iprow w' base v l :=
  h.other fun b hv _ => hb.2 b (by have := (h.lt b hv).1; omega)
theorem Blk.past {w w' : World} {g base : Nat} {k : Pkt} {vo vd s : Value} {row : List Pk} (hk : Blk w g k vo vd) (hr : Iprow w base s row) (hg : w.grownBy w' s.ownBlock) (hlt : g < base) : Blk w' g k vo vd := by
  refine (hg.block g hk.lt ?_).trans hk
  intro e
  have := (hr.lt g (by first | exact e | exact e.symm)).1
  omega

theorem Blk.c4 {w : World} {g : Nat} {k : Pkt} {vo vd : Value} (h : Blk w g k vo vd) : w.cell? ⟨g, 4, none⟩ = some (.int .i64 k.off) := by
  obtain ⟨_, _, _, _, b4, _⟩ := h.boxd
  exact b4
theorem Blk.c10 {w : World} {g : Nat} {k : Pkt} {vo vd : Value} (h : Blk w g k vo vd) : w.cell? ⟨g, 10, none⟩ = some vd := by
  obtain ⟨_, _, _, _, _, _, _, _, _, _, b10⟩ := h.boxd
  exact b10

theorem fpieces_len {c c' : List UInt8} {m n : Nat} {k : Pkt} (h : k.len ≤ m ∨ c' = c) : fpieces c' m (n + 1) k = fpieces c m (n + 1) k := by
  rcases h with h | rfl
  · rw [fpieces, fpieces, if_pos h, if_pos h]
  · rfl

theorem ffirst_ok {m : Nat} {k : Pkt} (h : k.Ok) : (ffirst m k).Ok := ⟨h.tos, h.ident, h.off1, h.off2, h.ttl, h.proto, h.src, h.dst⟩
theorem ffirst_len {m : Nat} {k : Pkt} (h : froom m k ≤ k.data.length) : (ffirst m k).data.length = froom m k := by
  show (k.data.take (froom m k)).length = _
  rw [List.length_take]; omega

/-- Where the loop stands: W, memory as it was when the packet that is left was laid into its block (W.heap.size). -/
structure Spl (W : World) (c : List UInt8) (m : Nat) (goal : Option (List Pkt)) (s : Value) (acc : List Pk) (r : Pkt) (vo vd : Value) (f : Nat) (wr : World) : Prop where
  row : Iprow wr (W.heap.size + 1) s acc
  mine : ∀ q ∈ acc, q.Mine wr (W.heap.size + 1)
  blk : Blk wr W.heap.size r vo vd
  ro : Byt W vo r.opts
  rd : Byt W vd r.data
  ok : r.Ok
  goes : goal = (fpieces c m f r).map (acc.map Pk.k ++ ·)
  small : r.data.length < f
  ol : r.opts.length ≤ 40
  dl : acc.length + r.data.length ≤ 65536
  off0 : 0 ≤ r.off
  off1 : r.off + r.data.length ≤ 73800
  grow : Grow W wr

/-- One piece more. -/
theorem appended {W wr w6 w7 : World} {s v7 vo vd : Value} {acc : List Pk} {q6 : Pk} {r : Pkt} {o : Obj} (row : Iprow wr (W.heap.size + 1) s acc) (mine : ∀ q ∈ acc, q.Mine wr (W.heap.size + 1)) (blk : Blk wr W.heap.size r vo vd) (grow : Grow W wr) (g6 : Grow wr w6) (m6 : q6.Mine w6 (W.heap.size + 1))
    (ho7 : Iprow w7 (W.heap.size + 1) v7 (acc ++ [q6])) (hg7 : (w6.alloc o).grownBy w7 s.ownBlock) :
    (∀ q ∈ acc ++ [q6], q.Mine w7 (W.heap.size + 1)) ∧ Blk w7 W.heap.size r vo vd ∧ Grow W w7 ∧ ∀ g k xo xd, Blk w6 g k xo xd → wr.heap.size ≤ g → Blk w7 g k xo xd := by
  have gA : Grow wr (w6.alloc o) := g6.trans (Grow.alloc _ _)
  have rowA := row.grow gA
  refine ⟨fun q hq => ?_, (blk.grow gA).past rowA hg7 (Nat.lt_succ_self _), ?_, fun g k xo xd hb hle => ?_⟩
  · rcases List.mem_append.1 hq with hq | hq
    · exact ((mine q hq).grow gA).past rowA hg7
    · rw [List.mem_singleton.1 hq]
      exact (m6.grow (Grow.alloc _ _)).past rowA hg7
  · exact Grow.iprow (grow.trans gA) hg7 (rowA.base_ (Nat.le_succ _))
  · have hb2 := hb.grow (Grow.alloc w6 o)
    refine (hg7.block g hb2.lt ?_).trans hb2
    intro e
    have := (row.lt g (by first | exact e | exact e.symm)).2
    omega

/-- What Split hands back. -/
def Splitted (w : World) (k : Pkt) (mtu : Int) (e : Ending) (w' : World) : Prop :=
  ∃ u l, e = .returned (.tuple #[u, .int .i64 (fcodeS k mtu)]) ∧ l.map Pk.k = flist k mtu ∧ Iprow w' w.heap.size u l ∧ (∀ q ∈ l, q.Mine w' w.heap.size) ∧ Grow w w'
theorem Splitted.fail {w w' : World} {k : Pkt} {mtu : Int} {n : Int} (h : fcodeS k mtu = n) (h2 : flist k mtu = []) (hg : Grow w w') : Splitted w k mtu (.returned (.tuple #[.slice none 0 0, .int .i64 n])) w' :=
  ⟨_, [], by rw [h], by rw [h2]; rfl, Iprow.nil _ _, fun q hq => by simp at hq, hg⟩
theorem fsplit_why {k : Pkt} {mtu : Int} (h : fwhy k mtu ≠ 0) : fcodeS k mtu = fwhy k mtu ∧ flist k mtu = [] := by
  unfold fcodeS flist
  rw [if_pos h, if_pos h]
  exact ⟨rfl, rfl⟩
theorem fsplit_none {k : Pkt} {mtu : Int} (h : fwhy k mtu = 0) (h2 : fgo k mtu = none) : fcodeS k mtu = 8 ∧ flist k mtu = [] := by
  unfold fcodeS flist
  have h3 : ¬ (fwhy k mtu ≠ 0) := by omega
  rw [if_neg h3, if_neg h3, h2]
  exact ⟨rfl, rfl⟩
theorem fsplit_some {k : Pkt} {mtu : Int} {l : List Pkt} (h : fwhy k mtu = 0) (h2 : fgo k mtu = some l) : fcodeS k mtu = 0 ∧ flist k mtu = l := by
  unfold fcodeS flist
  have h3 : ¬ (fwhy k mtu ≠ 0) := by omega
  rw [if_neg h3, if_neg h3, h2]
  exact ⟨rfl, rfl⟩
theorem fwhy_ok {k : Pkt} {mtu : Int} (h : fwhy k mtu = 0) : k.check = 0 ∧ 68 ≤ mtu ∧ mtu ≤ 65535 := by
  unfold fwhy at h
  by_cases h1 : k.check ≠ 0
  · rw [if_pos h1] at h; omega
  · rw [if_neg h1] at h
    by_cases h2 : mtu < 68 ∨ 65535 < mtu
    · rw [if_pos h2] at h; cases h
    · omega
end Go.Proofs.Ytfjmcfkpbacicaa
/- A packet that waits, in memory; what a change may touch. -/
namespace Go.Proofs.Ytfjmcfkpbacicaa
set_option linter.unusedVariables false
set_option linter.unusedSimpArgs false
open Go.ChangeShapes Go.WideShapes Go.ChangeAt Go.RowKit Go.Shelf

/-- The type of what a block holds. -/
def objT : Obj → Option TypeId
  | .cells _ T (0, 0) => some T
  | .map _ _ => some 64
  | _ => none
/-- Only blocks that Z names may have changed, none of them below base. -/
structure Only (base : Nat) (Z : Nat → TypeId → Prop) (w w' : World) : Prop where
  low : Below base w w'
  keep : ∀ b o T, w.heap[b]? = some o → objT o = some T → ¬ Z b T → w'.heap[b]? = some o
section
variable {base : Nat} {Z Y : Nat → TypeId → Prop} {a b c : World}
theorem Only.refl (base : Nat) (Z : Nat → TypeId → Prop) (w : World) : Only base Z w w := ⟨Below.refl _ _, fun _ _ _ h _ _ => h⟩
theorem Only.trans (h : Only base Z a b) (k : Only base Z b c) : Only base Z a c :=
  ⟨h.low.trans k.low, fun i o T hi ht hz => k.keep i o T (h.keep i o T hi ht hz) ht hz⟩
theorem Only.mono (h : Only base Z a b) (hZ : ∀ i o T, a.heap[i]? = some o → objT o = some T → Z i T → Y i T) : Only base Y a b := ⟨h.low, fun i o T hi ht hy => h.keep i o T hi ht fun hz => hy (hZ i o T hi ht hz)⟩
theorem Only.grow (g : Grow a b) (hb : base ≤ a.heap.size) (Z : Nat → TypeId → Prop) : Only base Z a b :=
  ⟨g.mono hb, fun i o T hi _ _ => (g.block i (Array.getElem?_eq_some_iff.1 hi).1).trans hi⟩
theorem Only.size (h : Only base Z a b) : a.heap.size ≤ b.heap.size := h.low.size
theorem Only.grown {row : Option Nat} (h : a.grownBy b row) (hr : ∀ g, row = some g → base ≤ g ∧ ∀ o T, a.heap[g]? = some o → objT o = some T → Z g T) (hb : base ≤ a.heap.size) : Only base Z a b := by
  refine ⟨⟨h.os, h.tape, h.output, h.size, fun i hi => h.block i (by omega) fun e => ?_⟩, fun i o T hi ht hz => ?_⟩
  · have := (hr i e.symm).1
    omega
  · refine (h.block i (Array.getElem?_eq_some_iff.1 hi).1 fun e => ?_).trans hi
    exact hz ((hr i e.symm).2 o T hi ht)
theorem Only.set {g i : Nat} {cs : Array Value} {T : TypeId} (hg : a.heap[g]? = some (.cells cs T (0, 0))) (hb : base ≤ g) (hz : Z g T) (u : Value) : Only base Z a (a.setCell ⟨g, i, none⟩ u) := by
  refine ⟨(Below.refl base a).setCell hb u, fun j o T' hj ht hy => ?_⟩
  rw [Below.heap_setCell _ _ _ _ (fun e => ?_)]
  · exact hj
  · subst e
    rw [hg] at hj
    cases hj
    cases ht
    exact hy hz
theorem Only.cells {g : Nat} {cs : Array Value} {T : TypeId} (h : Only base Z a b) (hg : a.heap[g]? = some (.cells cs T (0, 0))) (hz : ¬ Z g T) : b.heap[g]? = some (.cells cs T (0, 0)) := h.keep g _ T hg rfl hz
theorem Only.row {e : TypeId} {k n bs : Nat} {v : Value} {xs : List Value} (h : Only base Z a b) (hr : a.ownsRow bs e k v n xs) (hz : ∀ g, v.ownBlock = some g → ¬ Z g e) : b.ownsRow bs e k v n xs :=
  ownsRow_other hr fun g cs hg hh => (h.cells hh (hz g hg)).trans hh.symm
end

structure Fp where
  blk : Nat
  q : Pk
/-- A packet that waits: its name and its block, and what that says. -/
structure Wp where
  nm : Nm
  blk : Nat
  till : Int
  first : Option Fp
  fin : Nat
  rv : Value
  rows : List Rw
def fptr : Option Fp → Value
  | none => .pointer none
  | some f => .pointer (some ⟨f.blk, 0, none⟩)
@[reducible] def pcells (p : Wp) : Array Value := #[.int .i64 p.till, fptr p.first, .int .i64 (p.fin : Int), p.rv]
@[reducible] def pptr (p : Wp) : Value := .pointer (some ⟨p.blk, 0, none⟩)
def rowN (r : Rw) : RowN := (r.at_, r.data)
def Wp.ns (p : Wp) : List RowN := p.rows.map rowN

structure PktAt (w : World) (base : Nat) (p : Wp) : Prop where
  blk : w.heap[p.blk]? = some (.cells (pcells p) 75 (0, 0))
  low : base ≤ p.blk
  row : w.ownsRow base 99 2 p.rv p.rows.length (cellsW p.rows)
  data : ∀ r ∈ p.rows, Own w base r.v r.data
  laid : Laid 0 p.ns
  top : reach 0 p.ns ≤ 65515
  first : ∀ f, p.first = some f → base ≤ f.blk ∧ Blk w f.blk f.q.k f.q.vo f.q.vd ∧ Own w base f.q.vo f.q.k.opts ∧ Own w base f.q.vd f.q.k.data ∧ f.q.k.Ok ∧ f.q.k.Small
  fit : p.fin ≤ 65515
  tick : 0 ≤ p.till ∧ p.till ≤ 2000000000000

/-- What a change of the packet p may touch. -/
def Zp (p : Wp) (b : Nat) (T : TypeId) : Prop := (b = p.blk ∧ T = 75) ∨ (p.rv.ownBlock = some b ∧ T = 99)
/-- p became p'. -/
structure Grows (base : Nat) (p p' : Wp) (w w' : World) : Prop where
  only : Only base (Zp p) w w'
  blk : p'.blk = p.blk
  nm : p'.nm = p.nm
  till : p'.till = p.till
  new : ∀ b, p'.rv.ownBlock = some b → p.rv.ownBlock = some b ∨ w.heap.size ≤ b
theorem Grows.refl (base : Nat) (p : Wp) (w : World) : Grows base p p w w := ⟨Only.refl _ _ _, rfl, rfl, rfl, fun b h => .inl h⟩
theorem Grows.trans {base : Nat} {p q r : Wp} {a b c : World} (h : Grows base p q a b) (k : Grows base q r b c) : Grows base p r a c := by
  refine ⟨⟨h.only.low.trans k.only.low, fun i o T hi ht hz => k.only.keep i o T (h.only.keep i o T hi ht hz) ht fun hy => ?_⟩, k.blk.trans h.blk, k.nm.trans h.nm, k.till.trans h.till, fun i hi => ?_⟩
  · rcases hy with ⟨e1, e2⟩ | ⟨e1, e2⟩
    · exact hz (.inl ⟨e1.trans h.blk, e2⟩)
    · rcases h.new i e1 with h1 | h1
      · exact hz (.inr ⟨h1, e2⟩)
      · have := (Array.getElem?_eq_some_iff.1 hi).1
        omega
  · rcases k.new i hi with h1 | h1
    · exact h.new i h1
    · have := h.only.size
      exact .inr (by omega)

section
variable {w w' : World} {base : Nat} {p : Wp}
theorem PktAt.only {Z : Nat → TypeId → Prop} (h : PktAt w base p) (o : Only base Z w w') (h1 : ¬ Z p.blk 75) (h2 : ∀ b, p.rv.ownBlock = some b → ¬ Z b 99) (h3 : ∀ b, ¬ Z b 5) (h4 : ∀ b, ¬ Z b 38) : PktAt w' base p :=
  ⟨o.cells h.blk h1, h.low, o.row h.row h2, fun r hr => o.row (h.data r hr) fun g _ => h3 g, h.laid, h.top, fun f hf => by
    obtain ⟨e1, e2, e3, e4, e5⟩ := h.first f hf
    exact ⟨e1, o.cells e2 (h4 _), o.row e3 fun g _ => h3 g, o.row e4 fun g _ => h3 g, e5⟩, h.fit, h.tick⟩
theorem PktAt.grow (h : PktAt w base p) (g : Grow w w') (hb : base ≤ w.heap.size) : PktAt w' base p := h.only (Only.grow g hb fun _ _ => False) (fun h => h) (fun _ _ h => h) (fun _ h => h) (fun _ h => h)
theorem PktAt.cell (h : PktAt w base p) (i : Nat) : w.cell? ⟨p.blk, i, none⟩ = (pcells p)[i]? := cell_of_row w p.blk i _ _ _ h.blk
theorem PktAt.c0 (h : PktAt w base p) : w.cell? ⟨p.blk, 0, none⟩ = some (.int .i64 p.till) := h.cell 0
theorem PktAt.c1 (h : PktAt w base p) : w.cell? ⟨p.blk, 1, none⟩ = some (fptr p.first) := h.cell 1
theorem PktAt.c2 (h : PktAt w base p) : w.cell? ⟨p.blk, 2, none⟩ = some (.int .i64 (p.fin : Int)) := h.cell 2
theorem PktAt.c3 (h : PktAt w base p) : w.cell? ⟨p.blk, 3, none⟩ = some p.rv := h.cell 3
theorem PktAt.fz (h : PktAt w base p) (i : Nat) : w.frozen? ⟨p.blk, i, none⟩ = false := frozen_of h.blk
theorem PktAt.lt (h : PktAt w base p) : p.blk < w.heap.size := (Array.getElem?_eq_some_iff.1 h.blk).1
theorem PktAt.rws (h : PktAt w base p) : Rws w p.rv p.rows := RdK.of_own h.row
end

theorem laid_all : ∀ (l : List RowN) (q : Nat), Laid q l → ∀ r ∈ l, q ≤ r.1 ∧ r.1 + r.2.length ≤ reach q l ∧ r.2 ≠ []
  | [], q, _, r, hr => by simp at hr
  | (a, d) :: s, q, h, r, hr => by
    have hq := h.1
    have hg := reach_ge s _ h.2.2
    rcases List.mem_cons.1 hr with rfl | hr
    · exact ⟨hq, hg, h.2.1⟩
    · have := laid_all s _ h.2.2 r hr
      exact ⟨by omega, this.2⟩
theorem laid_len : ∀ (l : List RowN) (q : Nat), Laid q l → q + l.length ≤ reach q l
  | [], q, _ => Nat.le_refl _
  | (a, d) :: s, q, h => by
    have := laid_len s _ h.2.2
    have hq := h.1
    have hd : 0 < d.length := List.length_pos_iff.2 h.2.1
    simp only [reach, List.length_cons]
    omega
theorem laid_pair : ∀ (l : List RowN) (q : Nat), Laid q l → l.Pairwise fun a b => a.1 + a.2.length < b.1 + b.2.length
  | [], q, _ => List.Pairwise.nil
  | (a, d) :: s, q, h => by
    refine List.Pairwise.cons (fun r hr => ?_) (laid_pair s _ h.2.2)
    have := laid_all s _ h.2.2 r hr
    have hr := List.length_pos_iff.2 this.2.2
    simp only
    omega
theorem PktAt.few {w : World} {base : Nat} {p : Wp} (h : PktAt w base p) : p.rows.length ≤ 65515 := by
  have := laid_len _ _ h.laid
  have e : p.ns.length = p.rows.length := by unfold Wp.ns; rw [List.length_map]
  have := h.top
  omega
theorem PktAt.fits {w : World} {base : Nat} {p : Wp} (h : PktAt w base p) : ∀ r ∈ p.rows, r.Fit := by
  intro r hr
  have h1 := laid_all _ _ h.laid (rowN r) (List.mem_map_of_mem hr)
  have h2 := h.top
  obtain ⟨A, c, e, _⟩ := (h.data r hr).byt.form
  refine ⟨⟨A, c, e⟩, ?_⟩
  have : (rowN r).1 + (rowN r).2.length = r.at_ + r.data.length := rfl
  omega
theorem PktAt.pair {w : World} {base : Nat} {p : Wp} (h : PktAt w base p) : p.rows.Pairwise fun a b => rE a < rE b := by
  have := laid_pair _ _ h.laid
  unfold Wp.ns at this
  rw [List.pairwise_map] at this
  refine this.imp fun {a b} h => ?_
  unfold rE
  simp only [rowN] at h
  omega
end Go.Proofs.Ytfjmcfkpbacicaa
/- Contract: a row more in a packet that waits. -/
namespace Go.Proofs.Ytfjmcfkpbacicaa
set_option linter.unusedVariables false
set_option linter.unusedSimpArgs false
open Go.ChangeShapes Go.WideShapes Go.ChangeAt Go.RowKit Go.Shelf

def Wp.put (p : Wp) (no : Nat) (r : Rw) (v' : Value) : Wp := { p with rv := v', rows := p.rows.take no ++ r :: p.rows.drop no }

theorem inserted {w w3 w4 : World} {base : Nat} {p : Wp} {no at_ : Nat} {d : List UInt8} {v3 v' : Value} (h : PktAt w base p) (hb : base ≤ w.heap.size) (g : Grow w w3) (ho3 : Own w3 w.heap.size v3 d)
    (ho4 : w4.ownsRow base 99 2 v' (p.rows.length + 1) ((cellsW p.rows).take (no * 2) ++ [.int .i64 (at_ : Int), v3] ++ (cellsW p.rows).drop (no * 2)))
    (hg4 : (w3.alloc (.cells #[.int .i64 (at_ : Int), v3] 99)).grownBy w4 p.rv.ownBlock)
    (hat : v'.ownBlock = p.rv.ownBlock ∨ v'.ownBlock = some (w3.alloc (.cells #[.int .i64 (at_ : Int), v3] 99)).heap.size)
    (hno : no ≤ p.rows.length) (hl : Laid 0 (p.put no ⟨at_, v3, d⟩ v').ns) (ht : reach 0 (p.put no ⟨at_, v3, d⟩ v').ns ≤ 65515) :
    (w4.cell? ⟨p.blk, 3, none⟩ = some p.rv ∧ w4.frozen? ⟨p.blk, 3, none⟩ = false) ∧ PktAt (w4.setCell ⟨p.blk, 3, none⟩ v') base (p.put no ⟨at_, v3, d⟩ v') ∧ Grows base p (p.put no ⟨at_, v3, d⟩ v') w (w4.setCell ⟨p.blk, 3, none⟩ v') := by
  have gA : Grow w3 (w3.alloc (.cells #[.int .i64 (at_ : Int), v3] 99)) := Grow.alloc _ _
  have hsz : w.heap.size ≤ (w3.alloc (.cells #[.int .i64 (at_ : Int), v3] 99)).heap.size := (g.trans gA).size
  generalize w3.alloc (.cells #[.int .i64 (at_ : Int), v3] 99) = W3 at *
  have hA := h.grow (g.trans gA) hb
  have oR : Only base (fun b T => p.rv.ownBlock = some b ∧ T = 99) W3 w4 := Only.grown hg4 (fun b e => by
    obtain ⟨cs, h1, h2⟩ := ownsRow_blk hA.row e
    exact ⟨h2, fun o T ho hT => by rw [h1] at ho; cases ho; cases hT; exact ⟨e, rfl⟩⟩) (Nat.le_trans hb hsz)
  have hB4 := oR.cells hA.blk (fun e => absurd e.2 (by decide))
  have oS : Only base (fun b T => b = p.blk ∧ T = 75) w4 (w4.setCell ⟨p.blk, 3, none⟩ v') := Only.set hB4 h.low ⟨rfl, rfl⟩ v'
  have oAll : Only base (Zp p) w (w4.setCell ⟨p.blk, 3, none⟩ v') :=
    ((Only.grow (g.trans gA) hb (Zp p)).trans (oR.mono fun _ _ _ _ _ e => .inr e)).trans (oS.mono fun _ _ _ _ _ e => .inl e)
  have hlen : (p.rows.take no ++ (⟨at_, v3, d⟩ : Rw) :: p.rows.drop no).length = p.rows.length + 1 := by
    simp only [List.length_append, List.length_take, List.length_cons, List.length_drop]; omega
  refine ⟨⟨(cell_of_row w4 p.blk 3 _ _ _ hB4).trans rfl, frozen_of hB4⟩, ⟨?_, h.low, ?_, ?_, hl, ht, ?_, h.fit, h.tick⟩, ⟨oAll, rfl, rfl, rfl, ?_⟩⟩
  · have e := heap_setCell_own (k := 3) hB4 v'
    exact e
  · show (w4.setCell ⟨p.blk, 3, none⟩ v').ownsRow base 99 2 v' (p.rows.take no ++ (⟨at_, v3, d⟩ : Rw) :: p.rows.drop no).length (cellsW (p.rows.take no ++ (⟨at_, v3, d⟩ : Rw) :: p.rows.drop no))
    rw [hlen]
    have e : cellsW (p.rows.take no ++ (⟨at_, v3, d⟩ : Rw) :: p.rows.drop no) = (cellsW p.rows).take (no * 2) ++ [.int .i64 (at_ : Int), v3] ++ (cellsW p.rows).drop (no * 2) := by
      unfold cellsW
      rw [flat_take rwC 2 rwC_length, flat_drop rwC 2 rwC_length, List.flatMap_append, List.flatMap_cons, List.append_assoc]
      rfl
    rw [e]
    exact oS.row ho4 fun b _ e2 => absurd e2.2 (by decide)
  · intro r hr
    have hr' : r ∈ p.rows ∨ r = ⟨at_, v3, d⟩ := by
      rcases List.mem_append.1 hr with h1 | h1
      · exact .inl (List.mem_of_mem_take h1)
      · rcases List.mem_cons.1 h1 with h2 | h2
        · exact .inr h2
        · exact .inl (List.mem_of_mem_drop h2)
    rcases hr' with h1 | rfl
    · exact oAll.row (h.data r h1) fun b _ e => by rcases e with e | e <;> exact absurd e.2 (by decide)
    · exact oS.row (oR.row ((ho3.grow gA).base hb) fun b _ e => absurd e.2 (by decide)) fun b _ e => absurd e.2 (by decide)
  · intro f hf
    obtain ⟨e1, e2, e3, e4, e5⟩ := h.first f hf
    exact ⟨e1, oAll.cells e2 (fun e => by rcases e with e | e <;> exact absurd e.2 (by decide)), oAll.row e3 (fun b _ e => by rcases e with e | e <;> exact absurd e.2 (by decide)), oAll.row e4 (fun b _ e => by rcases e with e | e <;> exact absurd e.2 (by decide)), e5⟩
  · intro b e
    rcases hat with h1 | h1
    · exact .inl (h1.symm.trans e)
    · have : some W3.heap.size = some b := h1.symm.trans e
      cases this
      exact .inr hsz

set_option maxRecDepth 10000 in
set_option maxHeartbeats 4000000 in
theorem insert_any (w : World) (base : Nat) (p : Wp) (h : PktAt w base p) (hb : base ≤ w.heap.size) (no at_ : Nat) (v : Value) (d : List UInt8) (hv : Byt w v d) (hno : no ≤ p.rows.length) (hd : d.length ≤ 100000)
    (hl : ∀ v3 v', Laid 0 (p.put no ⟨at_, v3, d⟩ v').ns) (ht : ∀ v3 v', reach 0 (p.put no ⟨at_, v3, d⟩ v').ns ≤ 65515) :
    Calls Try.prog 52 #[pptr p, .int .i64 (no : Int), .int .i64 (at_ : Int), v] w fun e w' => e = .returned (.tuple #[]) ∧ ∃ v3 v', PktAt w' base (p.put no ⟨at_, v3, d⟩ v') ∧ Grows base p (p.put no ⟨at_, v3, d⟩ v') w w' := by
  have hfew := h.few
  have c3 := h.c3
  have f3 := h.fz 3
  have hlt := h.lt
  have hrow := h.row
  obtain ⟨A, n, c, hrv, hn⟩ : ∃ A n c, p.rv = .slice A n c ∧ n = p.rows.length := by
    obtain ⟨A, c, e, _⟩ := (RdK.of_own h.row).form
    exact ⟨A, _, c, e, rfl⟩
  obtain ⟨B, c2, hvv, _⟩ := hv.form
  have cC : Hid (∀ W, Grow w W → Calls Try.prog 43 #[v] W fun e w' => ∃ v', e = .returned v' ∧ Own w' W.heap.size v' d ∧ Grow W w') := fun W g => Clone_any v d W (hv.grow g) (by omega)
  have cI : Hid (∀ w3 v3, Grow w w3 → v3.oneCell' = true → Own w3 w.heap.size v3 d → Calls Try.prog 56 #[p.rv, .int .i64 (no : Int), .slice (some ⟨w3.heap.size, 0, none⟩) 1 1] (w3.alloc (.cells #[.int .i64 (at_ : Int), v3] 99)) fun e w4 => ∃ A' n' c', e = .returned (.slice A' n' c') ∧
      (w4.cell? ⟨p.blk, 3, none⟩ = some p.rv ∧ w4.frozen? ⟨p.blk, 3, none⟩ = false) ∧ Hid (PktAt (w4.setCell ⟨p.blk, 3, none⟩ (.slice A' n' c')) base (p.put no ⟨at_, v3, d⟩ (.slice A' n' c')) ∧ Grows base p (p.put no ⟨at_, v3, d⟩ (.slice A' n' c')) w (w4.setCell ⟨p.blk, 3, none⟩ (.slice A' n' c')))) := by
    intro w3 v3 g h1 ho3
    have gA := g.trans (Grow.alloc w3 (.cells #[.int .i64 (at_ : Int), v3] 99))
    refine (Insert_any _ base p.rows.length no w3.heap.size p.rv (cellsW p.rows) (.int .i64 (at_ : Int)) v3 (h.grow gA hb).row (fun y hy => ?_) (heap_alloc_new w3 _) rfl h1 (fun e => ?_) hno (by omega) (Nat.le_trans hb gA.size)).mono ?_
    · obtain ⟨r, hr, hy⟩ := List.mem_flatMap.1 hy
      simp only [rwC, List.mem_cons, List.not_mem_nil, or_false] at hy
      rcases hy with rfl | rfl
      · rfl
      · exact (h.data r hr).one
    · have h2 := (h.row.lt _ e).2
      have h3 := g.size
      omega
    · rintro e w4 ⟨v', rfl, ho4, hg4, hat⟩
      obtain ⟨q1, q2, q3⟩ := inserted h hb g ho3 ho4 hg4 hat hno (hl v3 v') (ht v3 v')
      obtain ⟨A', c', e', _⟩ := (RdK.of_own ho4).form
      subst e'
      exact ⟨_, _, _, rfl, q1, q2, q3⟩
  rw [hvv] at cC ⊢
  rw [hrv] at c3 cI
  have HR := Lib.hid (And.intro hrv hn)
  clear h hv hrow hl ht hrv hn hvv
  unfold pptr
  obtain ⟨pnm, pb, ptl, pf, pfin, prv, prows⟩ := p
  simp only at *
  go_enter Try.func52, Try.ntmps52
  go_wp2_with fail
  go_region_with (first
    | (go_at_call 43; refine (cC.out _ (Grow.drew _)).mono ?_; rintro e w3 ⟨v3, rfl, ho3, hg3⟩; obtain ⟨A3, m3, k3, rfl, hm3⟩ := ho3.byt.form2; have c3' := (hg3.cell (p := ⟨pb, 3, none⟩) hlt).trans c3; have c3'' := ((Grow.alloc w3 (.cells #[.int .i64 (at_ : Int), .slice A3 m3 k3] 99)).cell (p := ⟨pb, 3, none⟩) (Nat.lt_of_lt_of_le hlt hg3.size)).trans c3'; have cJ := cI.out _ _ ((Grow.drew _).trans hg3) rfl ho3; clear ho3 hg3)
    | (go_at_call 56; refine cJ.mono ?_; rintro e w4 ⟨A4, m4, k4, rfl, ⟨k3', kf'⟩, HZ⟩))
  all_goals
    go_wp2_with fail
    go_end0
    exact ⟨rfl, _, _, HZ.out.1, HZ.out.2⟩
end Go.Proofs.Ytfjmcfkpbacicaa
