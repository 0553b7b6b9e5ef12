/- The trie of nets, changed: a node's routes, a node more, a node less, the count. -/
import Derived.Test.YtfdoofkofljgnaaTrie
namespace Go.Proofs.Ytfdoofkofljgnaa
set_option linter.unusedVariables false
set_option linter.unusedSimpArgs false
open Go.ChangeShapes Go.WideShapes Go.ChangeAt Go.RowKit

def upd (M : Net) (k : Nat) (x : Int) (o : Option Nd) : Net := fun k' x' => if k' = k ∧ x' = x then o else M k' x'
theorem upd_same (M : Net) (k : Nat) (x : Int) (o : Option Nd) : upd M k x o k x = o := by unfold upd; rw [if_pos ⟨rfl, rfl⟩]
theorem upd_other (M : Net) (k : Nat) (x : Int) (o : Option Nd) {k' : Nat} {x' : Int} (h : ¬ (k' = k ∧ x' = x)) : upd M k x o k' x' = M k' x' := by unfold upd; rw [if_neg h]

/-- What a change of the table leaves: all blocks that are not the table's, and they are not the table's behind it. -/
def Moves (role : Nat → Role) (w : World) (role' : Nat → Role) (w' : World) : Prop := Stays (fun b => role b = .none) w w' ∧ ∀ b, b < w.heap.size → role b = .none → role' b = .none
theorem Moves.refl (role : Nat → Role) (w : World) : Moves role w role w := ⟨Stays.refl _ _, fun _ _ h => h⟩
theorem Moves.trans {r1 r2 r3 : Nat → Role} {a b c : World} (h : Moves r1 a r2 b) (k : Moves r2 b r3 c) : Moves r1 a r3 c :=
  ⟨⟨h.1.1.trans k.1.1, fun i hi hr => (k.1.2 i (Nat.lt_of_lt_of_le hi h.1.size) (h.2 i hi hr)).trans (h.1.2 i hi hr)⟩, fun i hi hr => k.2 i (Nat.lt_of_lt_of_le hi h.1.size) (h.2 i hi hr)⟩
theorem Moves.grow {role : Nat → Role} {a b : World} (h : Grow a b) : Moves role a role b := ⟨h.stays _, fun _ _ h => h⟩
theorem Moves.below {role role' : Nat → Role} {w w' : World} {base : Nat} (h : Moves role w role' w') (hb : base ≤ w.heap.size) (hr : ∀ b, b < base → role b = .none) : Below base w w' := h.1.below hb hr
theorem Moves.rts {role role' : Nat → Role} {w w' : World} {v : Value} {l : List Rt} (h : Moves role w role' w') (hv : Rts w v l) (hr : ∀ b, v.ownBlock = some b → role b = .none) : Rts w' v l :=
  hv.other h.1.size fun b hb hlt => h.1.2 b hlt (hr b hb)

theorem kid_up {k : Nat} {x : Int} (hx : InNet k x) (hk : k ≤ 31) : netOf (x + sz ((k : Int) + 1)) k = x := by
  have hs := sz_half hk
  have hp := sz_pos ((k : Int) + 1)
  have := (row_iff (show 0 < sz (k : Int) by omega) (x + sz ((k : Int) + 1)) (x / sz k)).2
  rw [← net_row, hx.2.2] at this
  exact this (by omega)
/-- A net is one of the halves of the one around it. -/
theorem kid_of {k : Nat} {y : Int} (hy : InNet (k + 1) y) (hk : k ≤ 32) : y = netOf y k ∨ y = netOf y k + sz ((k : Int) + 1) := by
  have e := net_step y k hk
  have e2 : netOf y ((k : Int) + 1) = y := hy.2.2
  rw [e2] at e
  rcases bitOf_two y k with h | h
  · rw [h] at e; left; omega
  · rw [h] at e; right; omega

section
variable {w w' : World} {base tb : Nat} {n : Int} {M : Net} {role : Nat → Role}
theorem Trie.blk_inj (h : Trie w base tb n M role) {k k' : Nat} {x x' : Int} {d d' : Nd} (hd : M k x = some d) (hd' : M k' x' = some d') (e : d.blk = d'.blk) : k = k' ∧ x = x' := by
  have h1 := (h.node _ _ _ hd).2.2.blk
  have h2 := (h.node _ _ _ hd').2.2.blk
  rw [e, h2] at h1
  injection h1 with e1 e2
  exact ⟨e1.symm, e2.symm⟩
theorem ptrOf_upd (M : Net) {k : Nat} {x : Int} {d d' : Nd} (hd : M k x = some d) (hb : d'.blk = d.blk) (k2 : Nat) (x2 : Int) : ptrOf (upd M k x (some d') k2 x2) = ptrOf (M k2 x2) := by
  unfold upd
  split
  · rename_i h
    obtain ⟨rfl, rfl⟩ := h
    rw [hd]
    show Value.pointer (some ⟨d'.blk, 0, none⟩) = Value.pointer (some ⟨d.blk, 0, none⟩)
    rw [hb]
  · rfl
theorem upd_some_ne {k : Nat} {x : Int} {d d' : Nd} (hd : M k x = some d) (k2 : Nat) (x2 : Int) : upd M k x (some d') k2 x2 ≠ none ↔ M k2 x2 ≠ none := by
  unfold upd
  split
  · rename_i h
    obtain ⟨rfl, rfl⟩ := h
    rw [hd]
    simp
  · exact Iff.rfl
/-- A node's routes, changed. -/
theorem Trie.put (h : Trie w base tb n M role) {k : Nat} {x : Int} {d : Nd} (hd : M k x = some d) (wv' : Value) (ws' : List Rt) (hs : w.heap.size ≤ w'.heap.size)
    (hsame : ∀ b, role b ≠ .none → b ≠ d.blk → role b ≠ .row k x → w'.heap[b]? = w.heap[b]?) (hcell : ∀ i, i ≠ 2 → w'.cell? ⟨d.blk, i, none⟩ = w.cell? ⟨d.blk, i, none⟩)
    (hc2 : w'.cell? ⟨d.blk, 2, none⟩ = some wv') (hfz : ∀ i, w'.frozen? ⟨d.blk, i, none⟩ = false) (hrow : Orow 72 w' base wv' ws') (hnew : ∀ g, wv'.ownBlock = some g → role g = .row k x ∨ role g = .none) :
    Trie w' base tb n (upd M k x (some ⟨d.blk, wv', ws'⟩)) (fun b => if wv'.ownBlock = some b then .row k x else role b) := by
  have hp := fun k2 x2 => ptrOf_upd M (d' := ⟨d.blk, wv', ws'⟩) hd rfl k2 x2
  have hn := h.node _ _ _ hd
  have hmine : ∀ b, role b ≠ .none → role b ≠ .row k x → (if wv'.ownBlock = some b then Role.row k x else role b) = role b := by
    intro b h1 h2
    split
    · rename_i e
      rcases hnew b e with h3 | h3
      · exact absurd h3 h2
      · exact absurd h3 h1
    · rfl
  have hblkrole : (if wv'.ownBlock = some d.blk then Role.row k x else role d.blk) = .node k x := by
    rw [hmine d.blk (by rw [hn.2.2.blk]; simp) (by rw [hn.2.2.blk]; simp), hn.2.2.blk]
  refine ⟨?_, ?_, ?_, ?_, ?_, ?_⟩
  · obtain ⟨d0, hd0, hb0⟩ := h.top
    by_cases hk : (0 : Nat) = k ∧ (0 : Int) = x
    · obtain ⟨rfl, rfl⟩ := hk
      rw [hd] at hd0
      cases hd0
      exact ⟨_, upd_same _ _ _ _, hb0⟩
    · exact ⟨d0, by rw [upd_other _ _ _ _ hk]; exact hd0, hb0⟩
  · by_cases hb : d.blk = tb
    · rw [← hb, hcell 3 (by decide), hb]; exact h.cnt
    · exact (World.cell?_of_block (w := w) (a := ⟨tb, 3, none⟩) (hsame tb (by rw [h.topblk]; simp) (fun e => hb e.symm) (by rw [h.topblk]; simp))).trans h.cnt
  · intro k2 x2 d2 hd2
    by_cases hk : k2 = k ∧ x2 = x
    · obtain ⟨rfl, rfl⟩ := hk
      rw [upd_same] at hd2
      cases hd2
      refine ⟨hn.1, hn.2.1, ⟨hblkrole, ?_, ?_, hc2, hfz, hrow, fun g hg => by show (if wv'.ownBlock = some g then _ else _) = _; rw [if_pos hg]⟩⟩
      · show w'.cell? ⟨d.blk, 0, none⟩ = _
        rw [hp, hcell 0 (by decide)]; exact hn.2.2.c0
      · show w'.cell? ⟨d.blk, 1, none⟩ = _
        rw [hp, hcell 1 (by decide)]; exact hn.2.2.c1
    · rw [upd_other _ _ _ _ hk] at hd2
      obtain ⟨g1, g2, g3⟩ := h.node _ _ _ hd2
      have hne : d2.blk ≠ d.blk := fun e => hk (h.blk_inj hd2 hd e)
      have hb : w'.heap[d2.blk]? = w.heap[d2.blk]? := hsame d2.blk (by rw [g3.blk]; simp) hne (by rw [g3.blk]; simp)
      have c := fun i => World.cell?_of_block (w := w) (w' := w') (a := ⟨d2.blk, i, none⟩) hb
      have f := fun i => World.frozen?_of_block (w := w) (w' := w') (a := ⟨d2.blk, i, none⟩) hb
      have hrr : ∀ g, d2.wv.ownBlock = some g → role g ≠ .none ∧ role g ≠ .row k x ∧ g ≠ d.blk := by
        intro g hg
        have := g3.mine g hg
        refine ⟨by rw [this]; simp, fun e => ?_, fun e => ?_⟩
        · rw [this] at e; injection e with e1 e2; exact hk ⟨e1, e2⟩
        · rw [e, hn.2.2.blk] at this; cases this
      refine ⟨g1, g2, ⟨?_, by rw [hp, c]; exact g3.c0, by rw [hp, c]; exact g3.c1, (c 2).trans g3.c2, fun i => (f i).trans (g3.fz i), g3.row.other fun g hg _ => hsame g (hrr g hg).1 (hrr g hg).2.2 (hrr g hg).2.1, fun g hg => ?_⟩⟩
      · show (if wv'.ownBlock = some d2.blk then Role.row k x else role d2.blk) = _
        rw [hmine d2.blk (by rw [g3.blk]; simp) (by rw [g3.blk]; simp), g3.blk]
      · show (if wv'.ownBlock = some g then Role.row k x else role g) = _
        rw [hmine g (hrr g hg).1 (hrr g hg).2.1, g3.mine g hg]
  · intro k2 x2 h2
    exact (upd_some_ne hd _ _).2 (h.up k2 x2 ((upd_some_ne hd _ _).1 h2))
  · intro b hb
    split at hb
    · rename_i e; exact (hrow.lt b e).1
    · exact h.low b hb
  · intro b hb
    split at hb
    · rename_i e; exact (hrow.lt b e).2
    · exact Nat.lt_of_lt_of_le (h.lt b hb) hs

/-- The count, changed. -/
theorem Trie.count (h : Trie w base tb n M role) (n' : Int) : Trie (w.setCell ⟨tb, 3, none⟩ (.int .i64 n')) base tb n' M role := by
  have hs : (w.setCell ⟨tb, 3, none⟩ (.int .i64 n')).heap.size = w.heap.size := by simp [World.setCell]
  have hob : ∀ b, b ≠ tb → (w.setCell ⟨tb, 3, none⟩ (.int .i64 n')).heap[b]? = w.heap[b]? := fun b hb => Below.heap_setCell _ _ _ _ hb
  have hoc : ∀ b i, ¬ (b = tb ∧ i = 3) → (w.setCell ⟨tb, 3, none⟩ (.int .i64 n')).cell? ⟨b, i, none⟩ = w.cell? ⟨b, i, none⟩ := fun b i hb => World.cell?_setCell_other _ _ _ _ (by
    intro e
    injection e with e1 e2
    exact hb ⟨e1.symm, e2.symm⟩)
  refine ⟨h.top, World.cell?_setCell_same' _ _ _ (by rw [h.cnt]; rfl), fun k x d hd => ?_, h.up, h.low, fun b hb => by rw [hs]; exact h.lt b hb⟩
  obtain ⟨g1, g2, g3⟩ := h.node _ _ _ hd
  refine ⟨g1, g2, ⟨g3.blk, (hoc _ _ (by omega)).trans g3.c0, (hoc _ _ (by omega)).trans g3.c1, (hoc _ _ (by omega)).trans g3.c2, fun i => by rw [World.frozen?_setCell]; exact g3.fz i, g3.row.other fun g hg _ => hob g fun e => ?_, g3.mine⟩⟩
  have := g3.mine g hg
  rw [e, h.topblk] at this
  cases this

/-- A node more, without routes, under one that is there. -/
theorem Trie.more (h : Trie w base tb n M role) {a : Int} (ha : 0 ≤ a ∧ a ≤ 4294967295) {k : Nat} (hk : k ≤ 31) {d : Nd} (hd : M k (netOf a k) = some d) (hno : M (k + 1) (netOf a ((k + 1 : Nat) : Int)) = none) (e : TypeId) :
    Trie ((w.alloc (.cells #[.pointer none, .pointer none, .slice none 0 0] e)).setCell ⟨d.blk, (bitOf a k).toNat, none⟩ (.pointer (some ⟨w.heap.size, 0, none⟩))) base tb n
      (upd M (k + 1) (netOf a ((k + 1 : Nat) : Int)) (some ⟨w.heap.size, .slice none 0 0, []⟩)) (fun b => if b = w.heap.size then .node (k + 1) (netOf a ((k + 1 : Nat) : Int)) else role b) := by
  have hn := h.node _ _ _ hd
  have hx1 : InNet (k + 1) (netOf a ((k + 1 : Nat) : Int)) := InNet.of ha _
  have hpar : netOf (netOf a ((k + 1 : Nat) : Int)) k = netOf a k := net_less ha.1 k (k + 1) (by omega) (by omega)
  have hstep : netOf a ((k + 1 : Nat) : Int) = netOf a k + bitOf a k * sz ((k : Int) + 1) := net_step a k (by omega)
  have hbit := bitOf_two a k
  have hp := sz_pos ((k : Int) + 1)
  have hcA : w.cell? ⟨d.blk, (bitOf a k).toNat, none⟩ = some (ptrOf (M (k + 1) (netOf a ((k + 1 : Nat) : Int)))) := h.child hd
  generalize netOf a ((k + 1 : Nat) : Int) = x1 at *
  generalize netOf a (k : Int) = x0 at *
  generalize bitOf a k = bt at *
  generalize hW : (w.alloc (.cells #[.pointer none, .pointer none, .slice none 0 0] e)).setCell ⟨d.blk, bt.toNat, none⟩ (.pointer (some ⟨w.heap.size, 0, none⟩)) = W
  have hdlt : d.blk < w.heap.size := h.lt _ (by rw [hn.2.2.blk]; simp)
  have hs : W.heap.size = w.heap.size + 1 := by rw [← hW]; simp [World.setCell]
  have hob : ∀ b, b ≠ d.blk → b < w.heap.size → W.heap[b]? = w.heap[b]? := fun b hb hlt => by
    rw [← hW, Below.heap_setCell _ _ _ _ hb, Below.heap_alloc _ _ _ hlt]
  have hnewb : W.heap[w.heap.size]? = some (.cells #[.pointer none, .pointer none, .slice none 0 0] e (0, 0)) := by
    rw [← hW, Below.heap_setCell _ _ _ _ (by simp; omega)]
    exact heap_alloc_new w _
  have hoc : ∀ b i, b < w.heap.size → ¬ (b = d.blk ∧ i = bt.toNat) → W.cell? ⟨b, i, none⟩ = w.cell? ⟨b, i, none⟩ := fun b i hlt hb => by
    rw [← hW, World.cell?_setCell_other _ _ _ _ (by
      intro e
      injection e with e1 e2
      exact hb ⟨e1.symm, e2.symm⟩)]
    exact World.cell?_of_block (w := w) (a := ⟨b, i, none⟩) (Below.heap_alloc _ _ _ hlt)
  have hset : W.cell? ⟨d.blk, bt.toNat, none⟩ = some (.pointer (some ⟨w.heap.size, 0, none⟩)) := by
    rw [← hW]
    refine World.cell?_setCell_same' _ _ _ ?_
    rw [World.cell?_of_block (w := w) (a := ⟨d.blk, bt.toNat, none⟩) (Below.heap_alloc _ _ _ hdlt), hcA]
    rfl
  have hfo : ∀ b i, b < w.heap.size → W.frozen? ⟨b, i, none⟩ = w.frozen? ⟨b, i, none⟩ := fun b i hlt => by
    rw [← hW, World.frozen?_setCell]
    exact World.frozen?_of_block (w := w) (a := ⟨b, i, none⟩) (Below.heap_alloc _ _ _ hlt)
  have hrole : ∀ b, b < w.heap.size → (if b = w.heap.size then Role.node (k + 1) x1 else role b) = role b := fun b hb => if_neg (by omega)
  clear hW
  have kids : ∀ y, (y = x1 ∨ y = x1 + sz (((k + 1 : Nat) : Int) + 1)) → M (k + 1 + 1) y = none := by
    intro y hy
    rcases Nat.lt_or_ge 31 (k + 1) with h1 | h1
    · exact h.none33 y _ (by omega)
    · cases hm : M (k + 1 + 1) y with
      | none => rfl
      | some dd =>
        have := h.up (k + 1) y (by rw [hm]; simp)
        have e : netOf y ((k + 1 : Nat) : Int) = x1 := by
          rcases hy with rfl | rfl
          · exact hx1.2.2
          · exact kid_up hx1 h1
        rw [e] at this
        exact absurd hno this
  refine ⟨?_, ?_, ?_, ?_, ?_, ?_⟩
  · obtain ⟨d0, hd0, hb0⟩ := h.top
    exact ⟨d0, by rw [upd_other _ _ _ _ (by omega)]; exact hd0, hb0⟩
  · rw [hoc tb 3 (h.lt tb (by rw [h.topblk]; simp)) (by rcases hbit with hb | hb <;> rw [hb] <;> omega)]
    exact h.cnt
  · intro k2 x2 d2 hd2
    by_cases hkk : k2 = k + 1 ∧ x2 = x1
    · obtain ⟨rfl, rfl⟩ := hkk
      rw [upd_same] at hd2
      cases hd2
      refine ⟨by omega, hx1, ⟨by show (if w.heap.size = w.heap.size then _ else _) = _; rw [if_pos rfl], ?_, ?_, ?_, fun i => ?_, Orow.nil _ _ _, fun g hg => by cases hg⟩⟩
      · show W.cell? ⟨w.heap.size, 0, none⟩ = _
        rw [upd_other _ _ _ _ (by omega), kids x2 (.inl rfl)]
        unfold World.cell?
        rw [hnewb]
        rfl
      · show W.cell? ⟨w.heap.size, 1, none⟩ = _
        rw [upd_other _ _ _ _ (by omega), kids _ (.inr rfl)]
        unfold World.cell?
        rw [hnewb]
        rfl
      · show W.cell? ⟨w.heap.size, 2, none⟩ = _
        unfold World.cell?
        rw [hnewb]
        rfl
      · show W.frozen? ⟨w.heap.size, i, none⟩ = _
        unfold World.frozen?
        rw [hnewb]
        simp
    · rw [upd_other _ _ _ _ hkk] at hd2
      obtain ⟨g1, g2, g3⟩ := h.node _ _ _ hd2
      have hlt2 : d2.blk < w.heap.size := h.lt _ (by rw [g3.blk]; simp)
      have hrlt : ∀ g, d2.wv.ownBlock = some g → g < w.heap.size ∧ g ≠ d.blk := fun g hg => ⟨(g3.row.lt g hg).2, fun e => by have := g3.mine g hg; rw [e, hn.2.2.blk] at this; cases this⟩
      refine ⟨g1, g2, ⟨by rw [hrole _ hlt2]; exact g3.blk, ?_, ?_, ?_, fun i => by rw [hfo _ _ hlt2]; exact g3.fz i, g3.row.other fun g hg hlt => hob g (hrlt g hg).2 hlt, fun g hg => by rw [hrole _ (hrlt g hg).1]; exact g3.mine g hg⟩⟩
      · by_cases hch : k2 + 1 = k + 1 ∧ x2 = x1
        · obtain ⟨e1, e2⟩ := hch
          obtain rfl : k2 = k := by omega
          have hx02 : x2 = x0 := by rw [e2, ← hpar, ← e2]; exact g2.2.2.symm
          subst hx02
          rw [hd] at hd2
          cases hd2
          have hb0 : bt = 0 := by rcases hbit with hb | hb <;> rw [hb] at hstep ⊢; omega
          rw [hb0] at hset
          rw [e2, upd_same]
          exact hset
        · rw [upd_other _ _ _ _ hch, hoc _ _ hlt2 ?_]
          · exact g3.c0
          · rintro ⟨e1, e2⟩
            obtain ⟨rfl, rfl⟩ := h.blk_inj hd2 hd e1
            rcases hbit with hb | hb
            · rw [hb] at hstep; exact hch ⟨rfl, by omega⟩
            · rw [hb] at e2; exact absurd e2 (by decide)
      · by_cases hch : k2 + 1 = k + 1 ∧ x2 + sz ((k2 : Int) + 1) = x1
        · obtain ⟨e1, e2⟩ := hch
          obtain rfl : k2 = k := by omega
          have hx02 : x2 = x0 := by rw [← hpar, ← e2]; exact (kid_up g2 hk).symm
          subst hx02
          rw [hd] at hd2
          cases hd2
          have hb0 : bt = 1 := by rcases hbit with hb | hb <;> rw [hb] at hstep ⊢; omega
          rw [hb0] at hset
          rw [e2, upd_same]
          exact hset
        · rw [upd_other _ _ _ _ hch, hoc _ _ hlt2 ?_]
          · exact g3.c1
          · rintro ⟨e1, e2⟩
            obtain ⟨rfl, rfl⟩ := h.blk_inj hd2 hd e1
            rcases hbit with hb | hb
            · rw [hb] at e2; exact absurd e2 (by decide)
            · rw [hb] at hstep; exact hch ⟨rfl, by omega⟩
      · rw [hoc _ _ hlt2 (by rcases hbit with hb | hb <;> rw [hb] <;> omega)]
        exact g3.c2
  · intro k2 x2 h2
    by_cases hch : k2 + 1 = k + 1 ∧ x2 = x1
    · obtain ⟨e1, rfl⟩ := hch
      obtain rfl : k2 = k := by omega
      rw [hpar, upd_other _ _ _ _ (by omega), hd]
      simp
    · rw [upd_other _ _ _ _ hch] at h2
      have := h.up k2 x2 h2
      by_cases hch2 : k2 = k + 1 ∧ netOf x2 k2 = x1
      · obtain ⟨rfl, e2⟩ := hch2
        rw [e2, upd_same]
        simp
      · rw [upd_other _ _ _ _ hch2]
        exact this
  · intro b hb
    split at hb
    · rename_i e2
      subst e2
      have := h.low d.blk (by rw [hn.2.2.blk]; simp)
      omega
    · exact h.low b hb
  · intro b hb
    split at hb
    · omega
    · have := h.lt b hb; omega

/-- A node less: one without routes and without nodes in it. -/
theorem Trie.less (h : Trie w base tb n M role) {a : Int} (ha : 0 ≤ a ∧ a ≤ 4294967295) {k : Nat} {d d1 : Nd} (hd : M k (netOf a k) = some d) (hd1 : M (k + 1) (netOf a ((k + 1 : Nat) : Int)) = some d1)
    (h0 : M (k + 1 + 1) (netOf a ((k + 1 : Nat) : Int)) = none) (h1 : M (k + 1 + 1) (netOf a ((k + 1 : Nat) : Int) + sz (((k + 1 : Nat) : Int) + 1)) = none) :
    Trie (w.setCell ⟨d.blk, (bitOf a k).toNat, none⟩ (.pointer none)) base tb n (upd M (k + 1) (netOf a ((k + 1 : Nat) : Int)) none) role := by
  have hn := h.node _ _ _ hd
  have hk : k ≤ 31 := by have := (h.node _ _ _ hd1).1; omega
  have hx1 : InNet (k + 1) (netOf a ((k + 1 : Nat) : Int)) := InNet.of ha _
  have hpar : netOf (netOf a ((k + 1 : Nat) : Int)) k = netOf a k := net_less ha.1 k (k + 1) (by omega) (by omega)
  have hstep : netOf a ((k + 1 : Nat) : Int) = netOf a k + bitOf a k * sz ((k : Int) + 1) := net_step a k (by omega)
  have hbit := bitOf_two a k
  have hp := sz_pos ((k : Int) + 1)
  have hcA : w.cell? ⟨d.blk, (bitOf a k).toNat, none⟩ = some (ptrOf (M (k + 1) (netOf a ((k + 1 : Nat) : Int)))) := h.child hd
  generalize netOf a ((k + 1 : Nat) : Int) = x1 at *
  generalize netOf a (k : Int) = x0 at *
  generalize bitOf a k = bt at *
  generalize hW : w.setCell ⟨d.blk, bt.toNat, none⟩ (.pointer none) = W
  have hs : W.heap.size = w.heap.size := by rw [← hW]; simp [World.setCell]
  have hob : ∀ b, b ≠ d.blk → W.heap[b]? = w.heap[b]? := fun b hb => by rw [← hW]; exact Below.heap_setCell _ _ _ _ hb
  have hoc : ∀ b i, ¬ (b = d.blk ∧ i = bt.toNat) → W.cell? ⟨b, i, none⟩ = w.cell? ⟨b, i, none⟩ := fun b i hb => by
    rw [← hW, World.cell?_setCell_other _ _ _ _ (by
      intro e
      injection e with e1 e2
      exact hb ⟨e1.symm, e2.symm⟩)]
  have hset : W.cell? ⟨d.blk, bt.toNat, none⟩ = some (.pointer none) := by
    rw [← hW]
    exact World.cell?_setCell_same' _ _ _ (by rw [hcA]; rfl)
  have hfo : ∀ b i, W.frozen? ⟨b, i, none⟩ = w.frozen? ⟨b, i, none⟩ := fun b i => by rw [← hW, World.frozen?_setCell]
  clear hW
  refine ⟨?_, ?_, ?_, ?_, h.low, fun b hb => by rw [hs]; exact h.lt b hb⟩
  · obtain ⟨d0, hd0, hb0⟩ := h.top
    exact ⟨d0, by rw [upd_other _ _ _ _ (by omega)]; exact hd0, hb0⟩
  · rw [hoc tb 3 (by rcases hbit with hb | hb <;> rw [hb] <;> omega)]
    exact h.cnt
  · intro k2 x2 d2 hd2
    by_cases hkk : k2 = k + 1 ∧ x2 = x1
    · obtain ⟨rfl, rfl⟩ := hkk
      rw [upd_same] at hd2
      cases hd2
    · rw [upd_other _ _ _ _ hkk] at hd2
      obtain ⟨g1, g2, g3⟩ := h.node _ _ _ hd2
      have hrlt : ∀ g, d2.wv.ownBlock = some g → g ≠ d.blk := fun g hg e => by have := g3.mine g hg; rw [e, hn.2.2.blk] at this; cases this
      refine ⟨g1, g2, ⟨g3.blk, ?_, ?_, ?_, fun i => by rw [hfo]; exact g3.fz i, g3.row.other fun g hg hlt => hob g (hrlt g hg), g3.mine⟩⟩
      · by_cases hch : k2 + 1 = k + 1 ∧ x2 = x1
        · obtain ⟨e1, e2⟩ := hch
          obtain rfl : k2 = k := by omega
          have hx02 : x2 = x0 := by rw [e2, ← hpar, ← e2]; exact g2.2.2.symm
          subst hx02
          rw [hd] at hd2
          cases hd2
          have hb0 : bt = 0 := by rcases hbit with hb | hb <;> rw [hb] at hstep ⊢; omega
          rw [hb0] at hset
          rw [e2, upd_same]
          exact hset
        · rw [upd_other _ _ _ _ hch, hoc _ _ ?_]
          · exact g3.c0
          · rintro ⟨e1, e2⟩
            obtain ⟨rfl, rfl⟩ := h.blk_inj hd2 hd e1
            rcases hbit with hb | hb
            · rw [hb] at hstep; exact hch ⟨rfl, by omega⟩
            · rw [hb] at e2; exact absurd e2 (by decide)
      · by_cases hch : k2 + 1 = k + 1 ∧ x2 + sz ((k2 : Int) + 1) = x1
        · obtain ⟨e1, e2⟩ := hch
          obtain rfl : k2 = k := by omega
          have hx02 : x2 = x0 := by rw [← hpar, ← e2]; exact (kid_up g2 hk).symm
          subst hx02
          rw [hd] at hd2
          cases hd2
          have hb0 : bt = 1 := by rcases hbit with hb | hb <;> rw [hb] at hstep ⊢; omega
          rw [hb0] at hset
          rw [e2, upd_same]
          exact hset
        · rw [upd_other _ _ _ _ hch, hoc _ _ ?_]
          · exact g3.c1
          · rintro ⟨e1, e2⟩
            obtain ⟨rfl, rfl⟩ := h.blk_inj hd2 hd e1
            rcases hbit with hb | hb
            · rw [hb] at e2; exact absurd e2 (by decide)
            · rw [hb] at hstep; exact hch ⟨rfl, by omega⟩
      · rw [hoc _ _ (by rcases hbit with hb | hb <;> rw [hb] <;> omega)]
        exact g3.c2
  · intro k2 x2 h2
    by_cases hch : k2 + 1 = k + 1 ∧ x2 = x1
    · obtain ⟨e1, rfl⟩ := hch
      obtain rfl : k2 = k := by omega
      rw [upd_same] at h2
      exact absurd rfl h2
    · rw [upd_other _ _ _ _ hch] at h2
      have := h.up k2 x2 h2
      by_cases hch2 : k2 = k + 1 ∧ netOf x2 k2 = x1
      · obtain ⟨rfl, e2⟩ := hch2
        obtain ⟨d2, hd2⟩ := Option.ne_none_iff_exists'.1 h2
        have hy := (h.node _ _ _ hd2).2.1
        have hk2 := (h.node _ _ _ hd2).1
        rcases kid_of hy (by omega) with e3 | e3
        · rw [e2] at e3; rw [e3, h0] at hd2; cases hd2
        · rw [e2] at e3; rw [e3, h1] at hd2; cases hd2
      · rw [upd_other _ _ _ _ hch2]
        exact this
end
end Go.Proofs.Ytfdoofkofljgnaa
