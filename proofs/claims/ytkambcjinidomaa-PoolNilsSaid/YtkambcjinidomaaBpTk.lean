/- Contract: Take of the program's pool. -/
import Derived.Test.YtkambcjinidomaaBpRdc
namespace Go.Proofs.Ytkambcjinidomaa
set_option linter.unusedVariables false
set_option linter.unusedSimpArgs false
open Go.ChangeShapes Go.WideShapes Go.ChangeAt Go.RowKit

theorem ents_take {x : Gp} (h : ¬ x.fr.length = 0) : (ents x).Perm (((bp x.fr 0).id, (bp x.fr 0).sz, 1) :: ((x.fr.drop 1).map (fun b => (b.id, b.sz, (1 : Int))) ++ x.out.map fun b => (b.id, b.sz, 2))) ∧
    (((bp x.fr 0).id, (bp x.fr 0).sz, (2 : Int)) :: ((x.fr.drop 1).map (fun b => (b.id, b.sz, (1 : Int))) ++ x.out.map fun b => (b.id, b.sz, 2))).Perm (ents ⟨x.fr.drop 1, x.out ++ [bp x.fr 0]⟩) := by
  have e := fr_head h
  constructor
  · unfold ents
    generalize bp x.fr 0 = b at *
    generalize x.fr.drop 1 = r at *
    rw [e]
    exact List.Perm.refl _
  · unfold ents
    simp only [List.map_append, List.map_cons, List.map_nil]
    rw [← List.append_assoc]
    exact (List.perm_append_singleton _ _).symm
section
variable {w : World} {base pb : Nat} {gs : Array Value} {m : Nat → Nat} {v : Nat → Value} {p : Pls}
set_option maxRecDepth 10000 in
set_option maxHeartbeats 1000000 in
theorem takeP (h : PpS w base pb gs m v p) (hp : POk p) (hb : base ≤ w.heap.size) (g : Int) : Calls Try.prog 11 #[.pointer (some ⟨pb, 0, none⟩), .int .i64 g] w fun e w' => e = .returned (.tuple #[.int .i64 (tkI p g), .int .i64 (tkS p g), .int .i64 (tkE p g)]) ∧ Bpp w' base pb (tkP p g) ∧ Only base Zp w w' := by
  by_cases hg : Bad g
  · have HE : Hid (tkE p g = 1 ∧ tkI p g = 0 ∧ tkS p g = 0 ∧ tkP p g = p) := tkE_bad hg
    have HP : Hid (Bpp w base pb p) := ⟨hp, _, _, _, h⟩
    have c0 := pfind_bad w pb g hg
    clear h hg hp hb
    go_enter Try.func11, Try.ntmps11
    go_wp2_with fail
    refine c0.mono ?_
    rintro e w' ⟨rfl, hw⟩
    subst w'
    go_wp2_with fail
    go_ret3
    obtain ⟨e1, e2, e3, e4⟩ := HE.out
    rw [e1, e2, e3, e4]
    exact ⟨rfl, HP.out, Only.refl _ _ _⟩
  obtain ⟨k, rfl, hk, hk2⟩ := bad_nat hg
  have c0 := pfind_ok w pb k hk
  have l0 := h.cellv hk
  have l1 := h.cellm hk
  by_cases h1 : (p k).fr.length = 0
  · have HE : Hid (tkE p k = 6 ∧ tkI p k = 0 ∧ tkS p k = 0 ∧ tkP p k = p) := tkE_none hg (by rw [hk2]; exact h1)
    have HP : Hid (Bpp w base pb p) := ⟨hp, _, _, _, h⟩
    obtain ⟨A, c, hv, _⟩ := (h.row k hk).form
    rw [hv, h1] at l0
    clear h hg hp hb hv h1
    go_enter Try.func11, Try.ntmps11
    go_wp2_with fail
    refine c0.mono ?_
    rintro e w' ⟨rfl, hw⟩
    subst w'
    go_wp2_with fail
    go_ret3
    obtain ⟨e1, e2, e3, e4⟩ := HE.out
    rw [e1, e2, e3, e4]
    exact ⟨rfl, HP.out, Only.refl _ _ _⟩
  have hE := tkE_ok hg (by rw [hk2]; exact h1)
  rw [hk2] at hE
  obtain ⟨t1, t2⟩ := ents_take h1
  obtain ⟨A, c, hv, hnc, hcm⟩ := (h.row k hk).form
  have hrow := h.row k hk
  rw [hv] at hrow l0
  have hcell : ∃ b off, A = some ⟨b, off, none⟩ ∧ w.cell? ⟨b, off, none⟩ = some (.int .i64 (bp (p k).fr 0).id) := by
    obtain ⟨A', c', e1, _, _, _, h3⟩ := hrow.rd
    cases e1
    obtain ⟨b, off, e2, _, h4⟩ := h3 (by omega)
    refine ⟨b, off, e2, ?_⟩
    show w.cell? _ = some (iv (bp (p k).fr 0))
    have := h4 0 (iv (bp (p k).fr 0)) (by rw [List.getElem?_map, bp_get (by omega)]; rfl)
    simpa using this
  obtain ⟨vb, off, rfl, hc⟩ := hcell
  have hvb : (v k).ownBlock = some vb := by rw [hv]; rfl
  have htail := hrow.tail (j := 1) (by omega)
  rw [Nat.one_mul, ← List.map_drop, show (p k).fr.length - 1 = ((p k).fr.drop 1).length by rw [List.length_drop]] at htail
  have l2 := (h.map k hk).2.look_some (b := ((bp (p k).fr 0).sz, 1)) (ents_fr (bp_mem (by omega)))
  unfold bufV at l2
  have f1 := fun a b => bfield0 a b w
  -- what the stores leave, whichever slice is stored
  have HK : Hid (∀ u, OffR w base 3 1 u ((p k).fr.drop 1).length (((p k).fr.drop 1).map iv) → u.ownBlock = some vb → ∃ w2, (Instr.mapUpdate 59 (.map (some (m k))) (.int .i64 (bp (p k).fr 0).id) (.agg #[.int .i64 (bp (p k).fr 0).sz, .int .i64 2])).run Try.prog (w.setCell ⟨pb, k * 2 + 1, none⟩ u) = .ok () w2 ∧
      (w.setCell ⟨pb, k * 2 + 1, none⟩ u).cell? ⟨pb, k * 2, none⟩ = some (.map (some (m k))) ∧ Bpp w2 base pb (tkP p k) ∧ Only base Zp w w2) := by
    intro u hu hub
    have hb1 := heap_setCell_own (k := k * 2 + 1) h.blk u
    have k1 : ∀ b, b ≠ pb → (w.setCell ⟨pb, k * 2 + 1, none⟩ u).heap[b]? = w.heap[b]? := fun b hb => Below.heap_setCell _ _ _ _ hb
    obtain ⟨es, ck, hm0⟩ := (h.map k hk).2.blk
    have hm1 : (w.setCell ⟨pb, k * 2 + 1, none⟩ u).heap[m k]? = some (.map es ck) := (k1 _ (h.m_ne hk)).trans hm0
    obtain ⟨w2, p1, p2, p3⟩ := BM.put_old (w := w.setCell ⟨pb, k * 2 + 1, none⟩ u) (((h.map k hk).2.perm t1).keep (k1 _ (h.m_ne hk))) ((bp (p k).fr 0).sz, 2)
    have k2 : ∀ b, b ≠ m k → b < (w.setCell ⟨pb, k * 2 + 1, none⟩ u).heap.size → w2.heap[b]? = (w.setCell ⟨pb, k * 2 + 1, none⟩ u).heap[b]? := fun b hb hl => p3.block b hl fun e => hb (Option.some.inj e)
    have hs1 : (w.setCell ⟨pb, k * 2 + 1, none⟩ u).heap.size = w.heap.size := by simp [World.setCell]
    have hb2 := (k2 pb (Ne.symm (h.m_ne hk)) (Array.getElem?_eq_some_iff.1 hb1).1).trans hb1
    refine ⟨w2, p1, (cell_of_row _ pb (k * 2) _ _ _ hb1).trans ?_, ⟨hp.tk _, gs.setIfInBounds (k * 2 + 1) u, m, fun i => if i = k then u else v i, ?_⟩, (Only.set h.blk h.bas zpp_pool _).trans (zpp_map p3 (h.map k hk).1 (by rw [hs1]; exact hb) hm1)⟩
    · rw [Array.getElem?_setIfInBounds, if_neg (by omega)]
      exact h.mc k hk
    · rw [hE.2.2.2]
      refine h.step (x := ⟨(p k).fr.drop 1, (p k).out ++ [bp (p k).fr 0]⟩) hk hb2 (p2.perm t2) ?_ (.inl (hub.trans hvb.symm)) fun b hl q1 q2 q3 => (k2 b q2 (by rw [hs1]; exact hl)).trans (k1 b q1)
      refine hu.other fun b cs q hh => ?_
      rw [hub] at q
      cases q
      exact (k2 vb (h.mv_ne hk hk hvb) (by rw [hs1]; exact (Array.getElem?_eq_some_iff.1 hh).1)).trans (k1 vb (h.v_ne hk hvb))
  have HE : Hid (tkE p k = 0 ∧ tkI p k = (bp (p k).fr 0).id ∧ tkS p k = (bp (p k).fr 0).sz) := ⟨hE.1, hE.2.1, hE.2.2.1⟩
  have fr := h.fro (k * 2 + 1)
  obtain ⟨n, hn⟩ : ∃ n, n = (p k).fr.length := ⟨_, rfl⟩
  rw [← hn] at l0 h1 hnc
  have hdl : ((p k).fr.drop 1).length = n - 1 := by rw [List.length_drop, hn]
  rw [hdl] at htail
  generalize (bp (p k).fr 0).id = i at *
  generalize (bp (p k).fr 0).sz = s at *
  have n1 : 0 < n := by omega
  have n2 : ((n : Int) == 0) = false := by rw [beq_eq_false_iff_ne]; omega
  by_cases hc1 : c = 1
  · rw [if_pos hc1] at htail
    obtain ⟨w2, p1, c1, hQ⟩ := HK.out _ (by rw [hdl]; exact htail) rfl
    have H2 := Lib.hid hQ
    subst hc1
    have hn1 : n = 1 := by omega
    subst hn1
    clear h hg hp hb hv hE t1 t2 hrow hvb htail HK hQ hn hdl h1 hnc
    go_enter Try.func11, Try.ntmps11
    go_wp2_with fail
    refine c0.mono ?_
    rintro e w' ⟨rfl, hw⟩
    subst w'
    go_wp2_with fail
    go_ret3
    obtain ⟨e1, e2, e3⟩ := HE.out
    rw [e1, e2, e3]
    exact ⟨rfl, H2.out⟩
  · rw [if_neg hc1, Option.map_some, show (⟨vb, off, none⟩ : Addr).add 1 = ⟨vb, off + 1, none⟩ from add_at ..] at htail
    obtain ⟨w2, p1, c1, hQ⟩ := HK.out _ (by rw [hdl]; exact htail) rfl
    have H2 := Lib.hid hQ
    clear h hg hp hb hv hE t1 t2 hrow hvb htail HK hQ hn hdl h1
    go_enter Try.func11, Try.ntmps11
    go_wp2_with fail
    refine c0.mono ?_
    rintro e w' ⟨rfl, hw⟩
    subst w'
    go_wp2_with fail
    go_ret3
    obtain ⟨e1, e2, e3⟩ := HE.out
    rw [e1, e2, e3]
    exact ⟨rfl, H2.out⟩
end
end Go.Proofs.Ytkambcjinidomaa
