/- The trie of nets in memory: what its nodes hold, who owns which block; what stays. -/
import Derived.Test.YtfdoofkofljgnaaRtFn
namespace Go.Proofs.Ytfdoofkofljgnaa
set_option linter.unusedVariables false
set_option linter.unusedSimpArgs false
open Go.ChangeShapes Go.WideShapes Go.ChangeAt Go.RowKit

inductive Role where
  | none : Role
  | node (k : Nat) (x : Int) : Role
  | row (k : Nat) (x : Int) : Role
/-- A node: its block, the slice of its routes, and these. -/
structure Nd where
  blk : Nat
  wv : Value
  ws : List Rt
abbrev Net := Nat → Int → Option Nd
def ptrOf : Option Nd → Value
  | Option.none => .pointer Option.none
  | some d => .pointer (some ⟨d.blk, 0, Option.none⟩)
theorem ptrOf_one (d : Option Nd) : (ptrOf d).oneCell' = true := by cases d <;> rfl
/-- x is the first address of a net of k bits. -/
def InNet (k : Nat) (x : Int) : Prop := 0 ≤ x ∧ x ≤ 4294967295 ∧ netOf x k = x
theorem InNet.of {a : Int} (ha : 0 ≤ a ∧ a ≤ 4294967295) (k : Nat) : InNet k (netOf a k) := by
  have h := net_in (k := (k : Int)) ha
  exact ⟨h.1, by omega, net_net a k⟩
theorem sz_half {k : Nat} (hk : k ≤ 31) : sz (k : Int) = 2 * sz ((k : Int) + 1) := by
  unfold sz
  have e : 32 - (k : Int).toNat = (32 - ((k : Int) + 1).toNat) + 1 := by omega
  rw [e, Nat.pow_succ]
  omega
theorem sz_zero : sz 0 = 4294967296 := rfl
theorem netOf_zero {a : Int} (ha : 0 ≤ a ∧ a ≤ 4294967295) : netOf a 0 = 0 := by unfold netOf; rw [sz_zero]; omega
theorem sz_past {k : Int} (hk : 32 ≤ k) : sz k = 1 := by unfold sz; rw [show 32 - k.toNat = 0 from by omega]; rfl
theorem netOf_past {a k : Int} (hk : 32 ≤ k) : netOf a k = a := by unfold netOf; rw [sz_past hk]; omega
theorem net_step (a : Int) (j : Nat) (hj : j ≤ 32) : netOf a ((j : Int) + 1) = netOf a j + bitOf a j * sz ((j : Int) + 1) := by
  rcases Nat.lt_or_ge 31 j with h | h
  · obtain rfl : j = 32 := by omega
    rw [netOf_past (by omega), netOf_past (by omega)]
    unfold bitOf
    simp
  · have hs := sz_half h
    have hp := sz_pos ((j : Int) + 1)
    unfold bitOf
    rw [if_pos h, net_row, net_row, hs]
    generalize sz ((j : Int) + 1) = S at *
    have h1 := Int.mul_ediv_add_emod a (2 * S)
    have e : a / (2 * S) = a / S / 2 := by rw [Int.mul_comm, ← Int.ediv_ediv_of_nonneg (by omega)]
    rw [e]
    generalize a / S = q
    have h2 := Int.mul_ediv_add_emod q 2
    have e3 : S * q = S * (2 * (q / 2) + q % 2) := by rw [h2]
    have e4 : 2 * S * (q / 2) = S * (2 * (q / 2)) := by rw [Int.mul_comm 2 S, Int.mul_assoc]
    rw [e3, e4, Int.mul_add, Int.mul_comm (q % 2) S]
theorem net_up (a : Int) (j : Nat) (hj : j ≤ 32) : netOf (netOf a ((j : Int) + 1)) j = netOf a j := by
  rcases Nat.lt_or_ge 31 j with h | h
  · obtain rfl : j = 32 := by omega
    rw [netOf_past (a := a) (k := ((32 : Nat) : Int) + 1) (by omega)]
  · rw [net_step a j hj]
    have hs := sz_half h
    have hp := sz_pos ((j : Int) + 1)
    have hb := bitOf_two a j
    have := (row_iff (show 0 < sz (j : Int) by omega) (netOf a j + bitOf a j * sz ((j : Int) + 1)) (a / sz j)).2
    rw [← net_row] at this
    refine this ?_
    rcases hb with hb | hb <;> rw [hb] <;> omega
theorem net_mono (a : Int) (i j : Nat) (hij : i ≤ j) (hj : j ≤ 33) : netOf a i ≤ netOf a j := by
  induction j with
  | zero => obtain rfl : i = 0 := by omega
            exact Int.le_refl _
  | succ j ih =>
    rcases Nat.lt_or_ge i (j + 1) with h | h
    · have h1 := ih (by omega) (by omega)
      have h2 := net_step a j (by omega)
      have hp := sz_pos ((j : Int) + 1)
      have e : netOf a ((j + 1 : Nat) : Int) = netOf a ((j : Int) + 1) := by rfl
      rw [e, h2]
      rcases bitOf_two a j with hb | hb <;> rw [hb] <;> omega
    · obtain rfl : i = j + 1 := by omega
      exact Int.le_refl _
theorem net_le {a : Int} (ha : 0 ≤ a) (j : Nat) : netOf a j ≤ a := by
  have := sz_pos (j : Int)
  have h := Int.emod_nonneg a (show sz (j : Int) ≠ 0 by omega)
  unfold netOf
  omega
/-- A net within a wider one: its bits ahead. -/
theorem net_less {a : Int} (ha : 0 ≤ a) (i j : Nat) (hij : i ≤ j) (hj : j ≤ 33) : netOf (netOf a j) i = netOf a i := by
  have h1 := net_mono a i j hij hj
  have h2 := net_le ha j
  have hp := sz_pos (i : Int)
  have h3 := (row_iff (show 0 < sz (i : Int) by omega) a (a / sz i)).1 (net_row a i)
  have h4 := (row_iff (show 0 < sz (i : Int) by omega) (netOf a j) (a / sz i)).2
  rw [← net_row] at h3 h4
  exact h4 (by omega)

/-- A node in memory. -/
structure NodeAt (w : World) (base : Nat) (role : Nat → Role) (M : Net) (k : Nat) (x : Int) (d : Nd) : Prop where
  blk : role d.blk = .node k x
  c0 : w.cell? ⟨d.blk, 0, none⟩ = some (ptrOf (M (k + 1) x))
  c1 : w.cell? ⟨d.blk, 1, none⟩ = some (ptrOf (M (k + 1) (x + sz ((k : Int) + 1))))
  c2 : w.cell? ⟨d.blk, 2, none⟩ = some d.wv
  fz : ∀ i, w.frozen? ⟨d.blk, i, none⟩ = false
  row : Orow 72 w base d.wv d.ws
  mine : ∀ g, d.wv.ownBlock = some g → role g = .row k x
/-- A table in memory. -/
structure Trie (w : World) (base tb : Nat) (n : Int) (M : Net) (role : Nat → Role) : Prop where
  top : ∃ d, M 0 0 = some d ∧ d.blk = tb
  cnt : w.cell? ⟨tb, 3, none⟩ = some (.int .i64 n)
  node : ∀ k x d, M k x = some d → k ≤ 32 ∧ InNet k x ∧ NodeAt w base role M k x d
  up : ∀ (k : Nat) x, M (k + 1) x ≠ none → M k (netOf x k) ≠ none
  low : ∀ b, role b ≠ .none → base ≤ b
  lt : ∀ b, role b ≠ .none → b < w.heap.size

section
variable {w w' : World} {base tb : Nat} {n : Int} {M : Net} {role : Nat → Role}
theorem NodeAt.other {k : Nat} {x : Int} {d : Nd} (h : NodeAt w base role M k x d) (hlt : ∀ b, role b ≠ .none → b < w.heap.size) (hb : ∀ b, role b ≠ .none → w'.heap[b]? = w.heap[b]?) : NodeAt w' base role M k x d := by
  have e := hb d.blk (by rw [h.blk]; simp)
  have c := fun i => World.cell?_of_block (w := w) (w' := w') (a := ⟨d.blk, i, none⟩) e
  have f := fun i => World.frozen?_of_block (w := w) (w' := w') (a := ⟨d.blk, i, none⟩) e
  exact ⟨h.blk, (c 0).trans h.c0, (c 1).trans h.c1, (c 2).trans h.c2, fun i => (f i).trans (h.fz i), h.row.other fun g hg _ => hb g (by rw [h.mine g hg]; simp), h.mine⟩
theorem Trie.topblk (h : Trie w base tb n M role) : role tb = .node 0 0 := by
  obtain ⟨d, hd, rfl⟩ := h.top
  exact (h.node 0 0 d hd).2.2.blk
theorem Trie.other (h : Trie w base tb n M role) (hs : w.heap.size ≤ w'.heap.size) (hb : ∀ b, role b ≠ .none → w'.heap[b]? = w.heap[b]?) : Trie w' base tb n M role :=
  ⟨h.top, (World.cell?_of_block (w := w) (a := ⟨tb, 3, none⟩) (hb tb (by rw [h.topblk]; simp))).trans h.cnt, fun k x d hd => ⟨(h.node k x d hd).1, (h.node k x d hd).2.1, (h.node k x d hd).2.2.other h.lt hb⟩, h.up, h.low, fun b hr => Nat.lt_of_lt_of_le (h.lt b hr) hs⟩
theorem Trie.grow (h : Trie w base tb n M role) (g : Grow w w') : Trie w' base tb n M role := h.other g.size fun b hr => g.block b (h.lt b hr)
/-- A change of blocks that are not the table's. -/
theorem Trie.stays (h : Trie w base tb n M role) (g : Stays (fun b => role b ≠ .none) w w') : Trie w' base tb n M role := h.other g.size fun b hr => g.2 b (h.lt b hr) hr
theorem Trie.free (h : Trie w base tb n M role) {b : Nat} (hb : b < base ∨ w.heap.size ≤ b) : role b = .none := by
  cases hr : role b with
  | none => rfl
  | node k x =>
    have h1 := h.low b (by rw [hr]; simp)
    have h2 := h.lt b (by rw [hr]; simp)
    omega
  | row k x =>
    have h1 := h.low b (by rw [hr]; simp)
    have h2 := h.lt b (by rw [hr]; simp)
    omega
/-- The half of a node on the way to an address. -/
theorem Trie.child (h : Trie w base tb n M role) {a : Int} {k : Nat} {d : Nd} (hd : M k (netOf a k) = some d) :
    w.cell? ⟨d.blk, (bitOf a k).toNat, none⟩ = some (ptrOf (M (k + 1) (netOf a ((k + 1 : Nat) : Int)))) := by
  obtain ⟨hk, _, hn⟩ := h.node _ _ _ hd
  have e := net_step a k hk
  have e1 : netOf a ((k + 1 : Nat) : Int) = netOf a ((k : Int) + 1) := rfl
  rw [e1, e]
  rcases bitOf_two a k with hb | hb
  · rw [hb, Int.zero_mul, Int.add_zero]; exact hn.c0
  · rw [hb, Int.one_mul]; exact hn.c1
theorem Trie.none33 (h : Trie w base tb n M role) (x : Int) (k : Nat) (hk : 33 ≤ k) : M k x = none := by
  cases hm : M k x with
  | none => rfl
  | some d => have := (h.node _ _ _ hm).1; omega
/-- How deep the way to an address goes. -/
theorem Trie.depth (h : Trie w base tb n M role) {a : Int} (ha : 0 ≤ a ∧ a ≤ 4294967295) : ∃ m, 1 ≤ m ∧ m ≤ 33 ∧ (∀ j, j < m → ∃ d, M j (netOf a j) = some d) ∧ ∀ j, m ≤ j → M j (netOf a j) = none := by
  have step : ∀ j : Nat, M j (netOf a j) = none → M (j + 1) (netOf a ((j + 1 : Nat) : Int)) = none := by
    intro j hj
    cases hm : M (j + 1) (netOf a ((j + 1 : Nat) : Int)) with
    | none => rfl
    | some d =>
      have h32 := (h.node _ _ _ hm).1
      have := h.up j _ (by rw [hm]; simp)
      rw [net_less ha.1 j (j + 1) (by omega) (by omega)] at this
      exact absurd hj this
  have all : ∀ c j : Nat, M j (netOf a j) = none → M (j + c) (netOf a ((j + c : Nat) : Int)) = none := by
    intro c
    induction c with
    | zero => intro j hj; exact hj
    | succ c ih => intro j hj; exact step _ (ih j hj)
  obtain ⟨d0, hd0, _⟩ := h.top
  have h0 : M 0 (netOf a ((0 : Nat) : Int)) = some d0 := by
    rw [show netOf a ((0 : Nat) : Int) = 0 from netOf_zero ha]; exact hd0
  have go : ∀ c : Nat, (∃ m, 1 ≤ m ∧ m ≤ c + 1 ∧ (∀ j, j < m → ∃ d, M j (netOf a j) = some d) ∧ M m (netOf a m) = none) ∨ ∀ j, j < c + 2 → ∃ d, M j (netOf a j) = some d := by
    intro c
    induction c with
    | zero =>
      cases hm : M 1 (netOf a ((1 : Nat) : Int)) with
      | none =>
        refine .inl ⟨1, Nat.le_refl _, Nat.le_refl _, fun j hj => ?_, hm⟩
        obtain rfl : j = 0 := by omega
        exact ⟨d0, h0⟩
      | some d =>
        refine .inr fun j hj => ?_
        · rcases Nat.lt_or_ge j 1 with h1 | h1
          · obtain rfl : j = 0 := by omega
            exact ⟨d0, h0⟩
          · obtain rfl : j = 1 := by omega
            exact ⟨d, hm⟩
    | succ c ih =>
      rcases ih with ⟨m, h1, h2, h3, h4⟩ | h1
      · exact .inl ⟨m, h1, by omega, h3, h4⟩
      · cases hm : M (c + 2) (netOf a ((c + 2 : Nat) : Int)) with
        | none => exact .inl ⟨c + 2, by omega, by omega, h1, hm⟩
        | some d =>
          refine .inr fun j hj => ?_
          · rcases Nat.lt_or_ge j (c + 2) with h2 | h2
            · exact h1 j h2
            · obtain rfl : j = c + 2 := by omega
              exact ⟨d, hm⟩
  rcases go 32 with ⟨m, h1, h2, h3, h4⟩ | h1
  · exact ⟨m, h1, h2, h3, fun j hj => by
      have := all (j - m) m h4
      rwa [show m + (j - m) = j from by omega] at this⟩
  · obtain ⟨d, hd⟩ := h1 33 (by omega)
    have := (h.node _ _ _ hd).1
    omega
end
end Go.Proofs.Ytfdoofkofljgnaa
