/- Rows that begin anywhere in their block (a slice whose front was cut off, b = b[1:]): read, cut, appended to. Of no program. -/
import Derived.Test.YtkblgigpgpjjlaaGen
namespace Go.Proofs.Ytkblgigpgpjjlaa
set_option linter.unusedVariables false
set_option linter.unusedSimpArgs false
open Go.ChangeShapes Go.WideShapes Go.ChangeAt Go.RowKit

/-- The slice v holds n elements of k cells each, xs, in a block of its own from base on. -/
def OffR (w : World) (base : Nat) (e : TypeId) (k : Nat) (v : Value) (n : Nat) (xs : List Value) : Prop :=
  xs.length = n * k ∧ ((v = .slice none 0 0 ∧ n = 0) ∨
    ∃ g off cap cur, v = .slice (some ⟨g, off, none⟩) n cap ∧ base ≤ g ∧ w.heap[g]? = some (.cells cur e (0, 0)) ∧ n ≤ cap ∧ cap ≤ maxLen ∧ off + cap * k ≤ cur.size ∧ (cur.toList.drop off).take (n * k) = xs)
section
variable {w w' : World} {base : Nat} {e : TypeId} {k n : Nat} {v : Value} {xs : List Value}
theorem offR_nil (w : World) (base : Nat) (e : TypeId) (k : Nat) : OffR w base e k (.slice none 0 0) 0 [] := ⟨by simp, .inl ⟨rfl, rfl⟩⟩
theorem OffR.of_own (h : w.ownsRow base e k v n xs) : OffR w base e k v n xs := by
  refine ⟨h.1, ?_⟩
  rcases h.2 with h2 | ⟨g, cap, cur, e1, e2, hh, hnc, hcm, hcs, ht⟩
  · exact .inl h2
  · exact .inr ⟨g, 0, cap, cur, e1, e2, hh, hnc, hcm, by omega, by simpa using ht⟩
theorem OffR.one (h : OffR w base e k v n xs) : v.oneCell' = true := by
  rcases h.2 with ⟨rfl, _⟩ | ⟨g, off, cap, cur, rfl, _⟩ <;> rfl
theorem OffR.form (h : OffR w base e k v n xs) : ∃ A c, v = .slice A n c ∧ n ≤ c ∧ c ≤ maxLen := by
  rcases h.2 with ⟨rfl, rfl⟩ | ⟨g, off, cap, cur, rfl, _, _, h1, h2, _⟩
  · exact ⟨none, 0, rfl, Nat.le_refl _, Nat.zero_le _⟩
  · exact ⟨_, cap, rfl, h1, h2⟩
theorem OffR.blk (h : OffR w base e k v n xs) {b : Nat} (hb : v.ownBlock = some b) : ∃ cs, w.heap[b]? = some (.cells cs e (0, 0)) ∧ base ≤ b := by
  rcases h.2 with ⟨rfl, _⟩ | ⟨g, off, cap, cur, rfl, e2, hh, r⟩
  · cases hb
  · cases hb
    exact ⟨cur, hh, e2⟩
theorem OffR.lt (h : OffR w base e k v n xs) {b : Nat} (hb : v.ownBlock = some b) : base ≤ b ∧ b < w.heap.size := by
  obtain ⟨cs, h1, h2⟩ := h.blk hb
  exact ⟨h2, (Array.getElem?_eq_some_iff.1 h1).1⟩
theorem OffR.other (h : OffR w base e k v n xs) (hb : ∀ b cs, v.ownBlock = some b → w.heap[b]? = some (.cells cs e (0, 0)) → w'.heap[b]? = w.heap[b]?) : OffR w' base e k v n xs := by
  refine ⟨h.1, ?_⟩
  rcases h.2 with h2 | ⟨g, off, cap, cur, rfl, e2, hh, r⟩
  · exact .inl h2
  · exact .inr ⟨g, off, cap, cur, rfl, e2, (hb g cur rfl hh).trans hh, r⟩
theorem OffR.grow (h : OffR w base e k v n xs) (g : Grow w w') : OffR w' base e k v n xs := h.other fun b cs _ hh => g.block b (Array.getElem?_eq_some_iff.1 hh).1
theorem OffR.base_ (h : OffR w base e k v n xs) {b' : Nat} (hb : b' ≤ base) : OffR w b' e k v n xs := by
  refine ⟨h.1, ?_⟩
  rcases h.2 with h2 | ⟨g, off, cap, cur, e1, e2, r⟩
  · exact .inl h2
  · exact .inr ⟨g, off, cap, cur, e1, by omega, r⟩
theorem OffR.rd (h : OffR w base e k v n xs) : RdK w k v n xs := by
  have h1 := h.1
  rcases id h.2 with ⟨rfl, rfl⟩ | ⟨g, off, cap, cur, rfl, hbg, hh, hnc, hcm, hcs, ht⟩
  · exact ⟨none, 0, rfl, h1, Nat.le_refl _, Nat.zero_le _, fun h => absurd h (by simp)⟩
  · refine ⟨_, cap, rfl, h1, hnc, hcm, fun hp => ⟨g, off, rfl, (Array.getElem?_eq_some_iff.1 hh).1, fun j u hj => ?_⟩⟩
    rw [cell_of_row w g (off + j) cur e (0, 0) hh]
    rw [← ht, List.getElem?_take] at hj
    split at hj
    · rw [List.getElem?_drop] at hj
      simpa using hj
    · cases hj
/-- The front is cut off: what the slicing leaves. -/
theorem OffR.tail {A : Option Addr} {c : Nat} (h : OffR w base e k (.slice A n c) n xs) {j : Nat} (hj : j ≤ n) :
    OffR w base e k (.slice (if c = j then A else A.map (·.add (j * k))) (n - j) (c - j)) (n - j) (xs.drop (j * k)) := by
  have h1 := h.1
  refine ⟨by rw [List.length_drop, h1, Nat.sub_mul], ?_⟩
  rcases h.2 with ⟨e1, rfl⟩ | ⟨g, off, cap, cur, e1, hbg, hh, hnc, hcm, hcs, ht⟩
  · cases e1
    obtain rfl : j = 0 := by omega
    exact .inl ⟨rfl, rfl⟩
  · cases e1
    by_cases q : c = j
    · rw [if_pos q]
      have : n = j := by omega
      refine .inr ⟨g, off, c - j, cur, rfl, hbg, hh, by omega, by omega, by rw [q, Nat.sub_self]; have : 0 ≤ c * k := Nat.zero_le _; omega, ?_⟩
      rw [this, Nat.sub_self, Nat.zero_mul, List.take_zero]
      exact (List.drop_eq_nil_of_le (by rw [h1, this]; exact Nat.le_refl _)).symm
    · rw [if_neg q]
      have ea : (⟨g, off, none⟩ : Addr).add (j * k) = ⟨g, off + j * k, none⟩ := add_at ..
      refine .inr ⟨g, off + j * k, c - j, cur, by rw [Option.map_some, ea], hbg, hh, by omega, by omega, ?_, ?_⟩
      · have : (c - j) * k + j * k = c * k := by rw [← Nat.add_mul]; congr 1; omega
        omega
      · rw [← ht, ← List.drop_drop, List.drop_take, Nat.sub_mul]
end
/-- append(s, x...) onto such a row. -/
theorem run_appOff {P : Program} (w : World) (base : Nat) (t ty e : TypeId) (z : Value) (k bytes : Nat) (ht : P.underlying t = some (.slice e)) (hi : (P.info? e).map (fun i => (i.zero, i.size, i.bytes)) = some (some z, k, bytes)) (hz : z.cells.size = k) (hk : 0 < k)
    (v : Value) (n : Nat) (xs : List Value) (hown : OffR w base e k v n xs) (u : Value) (m : Nat) (ys : List Value) (hr : RdK w k u m ys) (h1 : ∀ y ∈ ys, y.oneCell' = true)
    (hm : 0 < m) (hbytes : (n + m) * bytes ≤ 140737488355328) (hlen : n + m ≤ maxLen) (hbase : base ≤ w.heap.size) :
    ∃ v' w', (Builtin.append_ #[t, t] ty #[v, u]).run P w = .ok v' w' ∧ OffR w' base e k v' (n + m) (xs ++ ys) ∧ w.grownBy w' v.ownBlock ∧ (v'.ownBlock = v.ownBlock ∨ v'.ownBlock = some w.heap.size) := by
  obtain ⟨i, hi0, hz0, hz1, hz2⟩ := info_parts hi
  subst hz1
  subst hz2
  obtain ⟨A, c, rfl, hl, hlc, hcm, hcell⟩ := hr
  obtain ⟨ub, uo, rfl, hub, huc⟩ := hcell hm
  have hnews : ∀ j y, ys[j]? = some y → w.cell? ((⟨ub, uo, none⟩ : Addr).add j) = some y := fun j y hy => by rw [add_at]; exact huc j y hy
  have hsmall : n + m ≤ 9223372036854775807 := by simp only [maxLen] at hlen; omega
  rcases id hown.2 with ⟨rfl, rfl⟩ | ⟨g, off, cap, cur, rfl, hbg, hg, hnc, hcp, hcs, htake⟩
  · have hx : xs = [] := List.eq_nil_of_length_eq_zero (by simpa using hown.1)
    subst hx
    obtain ⟨v', w', r1, r2, r3, r4, r5⟩ := run_append_own_at (P := P) w base t ty e i z i.size i.bytes ht hi0 hz0 rfl rfl hz hk (.slice none 0 0) 0 [] (World.ownsRow_nil w base e i.size) ⟨ub, uo, none⟩ m c ys hl hnews h1 hlen hbytes hbase
    exact ⟨v', w', r1, .of_own r2, r3, r5⟩
  · by_cases hroom : n + m ≤ cap
    · have hf := run_firstCells_some (P := P) w i.size m ⟨ub, uo, none⟩ m c ys hl hnews
      have hmul : (n + m) * i.size ≤ cap * i.size := Nat.mul_le_mul_right _ hroom
      rw [Nat.add_mul] at hmul
      have hst := run_storeCells_at P g (off + n * i.size) e ys 0 cur w hg (by rw [hl]; omega) h1
      simp only [Nat.add_zero] at hst
      refine ⟨.slice (some ⟨g, off, none⟩) (n + m) cap, w.setRow g (cur.toList.take (off + n * i.size) ++ ys ++ cur.toList.drop (off + n * i.size + ys.length)).toArray, ?_, ⟨by rw [List.length_append, hown.1, hl, Nat.add_mul], .inr ⟨g, off, cap, _, rfl, hbg, setRow_heap w g cur _ e _ hg, hroom, hcp, ?_, ?_⟩⟩, ⟨rfl, rfl, rfl, by simp, fun b _ hb => setRow_other w g b _ (fun e => hb (by simp [Value.ownBlock, e]))⟩, .inl rfl⟩
      · simp [Builtin.append_, run_underlying ht, sizeOf, typeInfo, hi0, Builtin.lenOf, hroom, hf, Addr.add_lit, hst]
      · simp only [List.size_toArray, List.length_append, List.length_take, List.length_drop, Array.length_toList, hl]
        omega
      · have e1 : (cur.toList.take (off + n * i.size)).drop off = xs := by rw [← htake, List.drop_take]; congr 1; omega
        have e2 : off ≤ (cur.toList.take (off + n * i.size)).length := by rw [List.length_take, Array.length_toList]; omega
        rw [List.append_assoc, List.drop_append_of_le_length e2, e1, ← List.append_assoc, show (n + m) * i.size = (xs ++ ys).length by rw [List.length_append, hown.1, hl, Nat.add_mul]]
        exact List.take_left
    · have holds : ∀ j u, xs[j]? = some u → w.cell? ((⟨g, off, none⟩ : Addr).add j) = some u := fun j u hj => by
        obtain ⟨A', c', e1, _, _, _, h3⟩ := hown.rd
        cases e1
        have hn : 0 < n := by
          rcases Nat.eq_zero_or_pos n with q | q
          · subst q
            have : xs = [] := List.eq_nil_of_length_eq_zero (by simpa using hown.1)
            rw [this] at hj
            cases hj
          · exact q
        obtain ⟨b', o', e2, _, h4⟩ := h3 hn
        cases e2
        rw [add_at]
        exact h4 j u hj
      have hr := run_append_grow (P := P) w t ty e i z ht hi0 hz0 ⟨g, off, none⟩ n cap xs hown.1 holds ⟨ub, uo, none⟩ m c ys hl hnews (by omega) (by omega) (growslice_fits (by omega) hbytes)
      have hge := grownCap_ge w (n + m) cap e
      have hcm' : grownCap w (n + m) cap e ≤ maxLen := grownCap_le_maxLen w (n + m) cap e hlen
      refine ⟨_, _, hr, ⟨by rw [List.length_append, hown.1, hl, Nat.add_mul], .inr ⟨w.heap.size, 0, _, _, rfl, hbase, heap_alloc_new w.drew _, hge, hcm', ?_, ?_⟩⟩, ⟨rfl, rfl, rfl, by simp, fun b hb _ => (Grow.alloc w.drew _).block b hb⟩, .inr rfl⟩
      · simp only [Array.size_append, List.size_toArray, size_zeroCells, hz, hown.1, hl, Nat.zero_add, ← Nat.add_mul]
        exact Nat.le_of_eq (by congr 1; omega)
      · rw [List.drop_zero]
        simp only [Array.toList_append, List.append_assoc]
        rw [← List.append_assoc, show (n + m) * i.size = (xs ++ ys).length by rw [List.length_append, hown.1, hl, Nat.add_mul]]
        exact List.take_left
theorem wpList_appOff {P : Program} (w : World) {ops : Array Oper} {rest : List Oper} {o : Oper} {a : Act} {Q : Exit → Act → World → Prop} (hgd : o.guard = none) (s x : Operand) (t : TypeId)
    (ho : o.op = .call { callee := .builtin .append, args := #[s, x], argTypes := #[t, t] })
    (e : TypeId) (z : Value) (k bytes : Nat) (ht : P.underlying t = some (.slice e)) (hi : (P.info? e).map (fun i => (i.zero, i.size, i.bytes)) = some (some z, k, bytes)) (hz : z.cells.size = k) (hk : 0 < k)
    (base : Nat) (v u : Value) (n m : Nat) (xs ys : List Value) (hs : a.eval s = v) (hx : a.eval x = u) (hown : OffR w base e k v n xs) (hr : RdK w k u m ys) (h1 : ∀ y ∈ ys, y.oneCell' = true)
    (hm : 0 < m) (hbytes : (n + m) * bytes ≤ 140737488355328) (hlen : n + m ≤ maxLen) (hbase : base ≤ w.heap.size)
    (h : ∀ v' w', OffR w' base e k v' (n + m) (xs ++ ys) → w.grownBy w' v.ownBlock → (v'.ownBlock = v.ownBlock ∨ v'.ownBlock = some w.heap.size) → wpList P ops Q rest (a.put o.dst v') w') : wpList P ops Q (o :: rest) a w := by
  obtain ⟨v', w', hrun, h2, h3, h4⟩ := run_appOff (P := P) w base t o.type e z k bytes ht hi hz hk v n xs hown u m ys hr h1 hm hbytes hlen hbase
  refine wpList_plain hgd fun K hK => ?_
  unfold Oper.wp execOp
  simp only [ho, resolve, invoke, builtin, Sem.run_bind, Sem.run_pure, Result.andThen_ok, List.map_toArray, List.map_cons, List.map_nil, hs, hx, hrun]
  exact hK _ _ (h v' w' h2 h3 h4)
end Go.Proofs.Ytkblgigpgpjjlaa
