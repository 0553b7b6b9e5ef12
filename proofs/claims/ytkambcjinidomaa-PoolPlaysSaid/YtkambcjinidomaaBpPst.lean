/- The program's pool in memory: an array of groups, each a map and a row of numbers; what a change of one group leaves. -/
import Derived.Test.YtkambcjinidomaaBpIf
import Derived.Test.YtkambcjinidomaaBpMap
import Derived.Test.YtkambcjinidomaaOff
namespace Go.Proofs.Ytkambcjinidomaa
set_option linter.unusedVariables false
set_option linter.unusedSimpArgs false
open Go.ChangeShapes Go.WideShapes Go.ChangeAt Go.RowKit

/-- A group's entries: those that are free, those that are out. -/
def ents (x : Gp) : List (Int × Int × Int) := (x.fr.map fun b => (b.id, b.sz, 1)) ++ x.out.map fun b => (b.id, b.sz, 2)
theorem ents_len (x : Gp) : (ents x).length = x.fr.length + x.out.length := by unfold ents; rw [List.length_append, List.length_map, List.length_map]
def iv (b : Bf) : Value := .int .i64 b.id
theorem iv_one (l : List Bf) : ∀ y ∈ l.map iv, y.oneCell' = true := by
  intro y hy
  obtain ⟨b, _, rfl⟩ := List.mem_map.1 hy
  rfl
theorem ents_fr {x : Gp} {b : Bf} (h : b ∈ x.fr) : (b.id, b.sz, 1) ∈ ents x := List.mem_append.2 (.inl (List.mem_map.2 ⟨b, h, rfl⟩))
theorem ents_out {x : Gp} {b : Bf} (h : b ∈ x.out) : (b.id, b.sz, 2) ∈ ents x := List.mem_append.2 (.inr (List.mem_map.2 ⟨b, h, rfl⟩))
theorem ents_mem {x : Gp} {y : Int × Int × Int} (h : y ∈ ents x) : (∃ b ∈ x.fr, y = (b.id, b.sz, 1)) ∨ ∃ b ∈ x.out, y = (b.id, b.sz, 2) := by
  rcases List.mem_append.1 h with h | h
  · obtain ⟨b, hb, rfl⟩ := List.mem_map.1 h
    exact .inl ⟨b, hb, rfl⟩
  · obtain ⟨b, hb, rfl⟩ := List.mem_map.1 h
    exact .inr ⟨b, hb, rfl⟩
theorem ents_none {x : Gp} {i : Int} (h1 : ¬ Hasb x.fr i) (h2 : ¬ Hasb x.out i) : ∀ y ∈ ents x, y.1 ≠ i := by
  intro y hy e
  rcases ents_mem hy with ⟨b, hb, rfl⟩ | ⟨b, hb, rfl⟩
  · exact h1 ⟨b, hb, e⟩
  · exact h2 ⟨b, hb, e⟩
/-- The pool behind the pointer to block pb: its cells gs, the groups' maps m and rows v. -/
structure PpS (w : World) (base pb : Nat) (gs : Array Value) (m : Nat → Nat) (v : Nat → Value) (p : Pls) : Prop where
  blk : w.heap[pb]? = some (.cells gs 64 (0, 0))
  bas : base ≤ pb
  mc : ∀ k, k < 16 → gs[k * 2]? = some (.map (some (m k)))
  vc : ∀ k, k < 16 → gs[k * 2 + 1]? = some (v k)
  map : ∀ k, k < 16 → base ≤ m k ∧ BM w (m k) (ents (p k))
  row : ∀ k, k < 16 → OffR w base 3 1 (v k) (p k).fr.length ((p k).fr.map iv)
  mne : ∀ k j, k < 16 → j < 16 → k ≠ j → m k ≠ m j
  vne : ∀ k j b, k < 16 → j < 16 → k ≠ j → (v k).ownBlock = some b → (v j).ownBlock ≠ some b
section
variable {w w' : World} {base pb : Nat} {gs : Array Value} {m : Nat → Nat} {v : Nat → Value} {p : Pls} {k : Nat}
theorem PpS.keep (h : PpS w base pb gs m v p) (hk : ∀ b o T, w.heap[b]? = some o → objT o = some T → Zp b T → w'.heap[b]? = some o) : PpS w' base pb gs m v p := by
  refine ⟨hk _ _ _ h.blk rfl (by unfold Zp; decide), h.bas, h.mc, h.vc, fun k q => ⟨(h.map k q).1, ?_⟩, fun k q => (h.row k q).other fun b cs _ hh => (hk _ _ _ hh rfl (by unfold Zp; decide)).trans hh.symm, h.mne, h.vne⟩
  obtain ⟨es, ck, e⟩ := (h.map k q).2.blk
  exact (h.map k q).2.keep ((hk _ _ _ e rfl (by unfold Zp; decide)).trans e.symm)
theorem PpS.grow (h : PpS w base pb gs m v p) (g : Grow w w') : PpS w' base pb gs m v p := h.keep fun b o T ho _ _ => (g.block b (Array.getElem?_eq_some_iff.1 ho).1).trans ho
theorem PpS.cellm (h : PpS w base pb gs m v p) (hk : k < 16) : w.cell? ⟨pb, k * 2, none⟩ = some (.map (some (m k))) := (cell_of_row w pb (k * 2) gs _ _ h.blk).trans (h.mc k hk)
theorem PpS.cellv (h : PpS w base pb gs m v p) (hk : k < 16) : w.cell? ⟨pb, k * 2 + 1, none⟩ = some (v k) := (cell_of_row w pb (k * 2 + 1) gs _ _ h.blk).trans (h.vc k hk)
theorem PpS.fro (h : PpS w base pb gs m v p) (o : Nat) : w.frozen? ⟨pb, o, none⟩ = false := frozen_of h.blk
theorem PpS.lt (h : PpS w base pb gs m v p) : pb < w.heap.size := (Array.getElem?_eq_some_iff.1 h.blk).1
theorem PpS.m_ne (h : PpS w base pb gs m v p) (hk : k < 16) : m k ≠ pb := fun e => by
  obtain ⟨es, ck, e2⟩ := (h.map k hk).2.blk
  rw [e, h.blk] at e2
  cases e2
theorem PpS.v_ne (h : PpS w base pb gs m v p) (hk : k < 16) {b : Nat} (hb : (v k).ownBlock = some b) : b ≠ pb := fun e => by
  obtain ⟨cs, e2, _⟩ := (h.row k hk).blk hb
  rw [e, h.blk] at e2
  injection e2 with e2
  injection e2 with _ e2
  exact absurd e2 (by decide)
theorem PpS.mv_ne (h : PpS w base pb gs m v p) {j : Nat} (hk : k < 16) (hj : j < 16) {b : Nat} (hb : (v k).ownBlock = some b) : b ≠ m j := fun e => by
  obtain ⟨cs, e2, _⟩ := (h.row k hk).blk hb
  obtain ⟨es, ck, e3⟩ := (h.map j hj).2.blk
  rw [e, e3] at e2
  cases e2
/-- One group is another one now. -/
theorem PpS.step (h : PpS w base pb gs m v p) (hk : k < 16) {x : Gp} {v' : Value} (hb : w'.heap[pb]? = some (.cells (gs.setIfInBounds (k * 2 + 1) v') 64 (0, 0)))
    (hm : BM w' (m k) (ents x)) (hr : OffR w' base 3 1 v' x.fr.length (x.fr.map iv)) (hv : v'.ownBlock = (v k).ownBlock ∨ ∃ b, v'.ownBlock = some b ∧ w.heap.size ≤ b)
    (hkeep : ∀ b, b < w.heap.size → b ≠ pb → b ≠ m k → (v k).ownBlock ≠ some b → w'.heap[b]? = w.heap[b]?) :
    PpS w' base pb (gs.setIfInBounds (k * 2 + 1) v') m (fun i => if i = k then v' else v i) (upd p k x) := by
  have hsz : k * 2 + 1 < gs.size := (Array.getElem?_eq_some_iff.1 (h.vc k hk)).1
  have hvv : ∀ i j b, i < 16 → j < 16 → i ≠ j → j = k → (v i).ownBlock = some b → v'.ownBlock ≠ some b := fun i j b hi hj hne e hvb e2 => by
    rcases hv with q | ⟨c, q, hc⟩
    · rw [← e] at q
      exact h.vne i j b hi hj hne hvb (q.symm.trans e2)
    · have hcb : c = b := Option.some.inj (q.symm.trans e2)
      have := ((h.row i hi).lt hvb).2
      omega
  refine ⟨hb, h.bas, fun i hi => ?_, fun i hi => ?_, fun i hi => ?_, fun i hi => ?_, h.mne, fun i j b hi hj hne hb => ?_⟩
  · rw [Array.getElem?_setIfInBounds, if_neg (by omega)]
    exact h.mc i hi
  · rw [Array.getElem?_setIfInBounds]
    by_cases e : i = k
    · subst e
      rw [if_pos rfl, if_pos hsz]
      exact congrArg some (if_pos rfl).symm
    · rw [if_neg (by omega)]
      exact (h.vc i hi).trans (congrArg some (if_neg e).symm)
  · by_cases e : i = k
    · subst e
      rw [upd_same]
      exact ⟨(h.map i hi).1, hm⟩
    · rw [upd_other e]
      exact ⟨(h.map i hi).1, (h.map i hi).2.keep (hkeep _ (h.map i hi).2.lt (h.m_ne hi) (h.mne i k hi hk e) fun q => h.mv_ne hk hi q rfl)⟩
  · by_cases e : i = k
    · subst e
      rw [upd_same]
      show OffR w' base _ 1 (if i = i then v' else v i) _ _
      rw [if_pos rfl]
      exact hr
    · rw [upd_other e]
      show OffR w' base _ 1 (if i = k then v' else v i) _ _
      rw [if_neg e]
      exact (h.row i hi).other fun b cs q hh => hkeep b (Array.getElem?_eq_some_iff.1 hh).1 (h.v_ne hi q) (h.mv_ne hi hk q) fun q2 => h.vne i k b hi hk e q q2
  · show (if j = k then v' else v j).ownBlock ≠ some b
    have hb : (if i = k then v' else v i).ownBlock = some b := hb
    by_cases e : i = k
    · rw [if_pos e] at hb
      rw [if_neg (fun q => hne (e.trans q.symm))]
      exact fun q => hvv j i b hj hi (Ne.symm hne) e q hb
    · rw [if_neg e] at hb
      by_cases e2 : j = k
      · rw [if_pos e2]
        exact hvv i j b hi hj hne e2 hb
      · rw [if_neg e2]
        exact h.vne i j b hi hj hne hb
end
/-- The pool as the laws' walks see it. -/
def Bpp (w : World) (base pb : Nat) (p : Pls) : Prop := POk p ∧ ∃ gs m v, PpS w base pb gs m v p
end Go.Proofs.Ytkambcjinidomaa
