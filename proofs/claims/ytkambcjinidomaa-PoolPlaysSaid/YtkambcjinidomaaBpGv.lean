/- Contract: Give of the program's pool. -/
import Derived.Test.YtkambcjinidomaaBpTk
namespace Go.Proofs.Ytkambcjinidomaa
set_option linter.unusedVariables false
set_option linter.unusedSimpArgs false
open Go.ChangeShapes Go.WideShapes Go.ChangeAt Go.RowKit

theorem ents_give {x : Gp} {j : Nat} (h : j < x.out.length) : (ents x).Perm (((bp x.out j).id, (bp x.out j).sz, 2) :: (x.fr.map (fun b => (b.id, b.sz, (1 : Int))) ++ (x.out.eraseIdx j).map fun b => (b.id, b.sz, 2))) ∧
    (((bp x.out j).id, (bp x.out j).sz, (1 : Int)) :: (x.fr.map (fun b => (b.id, b.sz, (1 : Int))) ++ (x.out.eraseIdx j).map fun b => (b.id, b.sz, 2))).Perm (ents ⟨x.fr ++ [bp x.out j], x.out.eraseIdx j⟩) := by
  constructor
  · have e := ((erase_perm x.out j h).map fun b => (b.id, b.sz, (2 : Int))).symm
    rw [List.map_cons] at e
    exact (e.append_left _).trans List.perm_middle
  · unfold ents
    simp only [List.map_append, List.map_cons, List.map_nil]
    rw [List.append_assoc]
    exact List.perm_middle.symm
theorem gok_id {x : Gp} (h : GOk x) {a b : Bf} (ha : a ∈ x.fr) (hb : b ∈ x.out) : a.id ≠ b.id := by
  have := h.nd
  rw [List.map_append, List.nodup_append] at this
  exact this.2.2 _ (List.mem_map_of_mem ha) _ (List.mem_map_of_mem hb)
section
variable {w : World} {base pb : Nat} {gs : Array Value} {m : Nat → Nat} {v : Nat → Value} {p : Pls}
set_option maxRecDepth 10000 in
set_option maxHeartbeats 1000000 in
theorem giveP (h : PpS w base pb gs m v p) (hp : POk p) (hb : base ≤ w.heap.size) (g x : Int) : Calls Try.prog 13 #[.pointer (some ⟨pb, 0, none⟩), .int .i64 g, .int .i64 x] w fun e w' => e = .returned (.int .i64 (gvE p g x)) ∧ Bpp w' base pb (gvP p g x) ∧ Only base Zp w w' := by
  by_cases hg : Bad g
  · have HE : Hid (gvE p g x = 1 ∧ gvP p g x = p) := gvE_bad hg
    have HP : Hid (Bpp w base pb p) := ⟨hp, _, _, _, h⟩
    have c0 := pfind_bad w pb g hg
    clear h hg hp hb
    go_enter Try.func13, Try.ntmps13
    go_wp2_with fail
    refine c0.mono ?_
    rintro e w' ⟨rfl, hw⟩
    subst w'
    go_wp2_with fail
    go_ret
    obtain ⟨e1, e2⟩ := HE.out
    rw [e1, e2]
    exact ⟨rfl, HP.out, Only.refl _ _ _⟩
  obtain ⟨k, rfl, hk, hk2⟩ := bad_nat hg
  have c0 := pfind_ok w pb k hk
  have l1 := h.cellm hk
  by_cases h1 : Hasb (p k).out x
  · have hE := gvE_ok hg (by rw [hk2]; exact h1)
    rw [hk2] at hE
    have hj := ix_lt h1
    have hid := ix_id h1
    obtain ⟨t1, t2⟩ := ents_give hj
    have hpg := hp.gv k x
    rw [hE.2] at hpg
    have l2 := (h.map k hk).2.look_some (b := ((bp (p k).out (ix (p k).out x)).sz, 2)) (ents_out (bp_mem hj))
    rw [hid] at l2 t1 t2
    unfold bufV at l2
    generalize (ix (p k).out x) = j at *
    obtain ⟨b, hbb⟩ : ∃ b, b = bp (p k).out j := ⟨_, rfl⟩
    rw [← hbb] at hE hid t1 t2 l2 hpg
    obtain ⟨W, hW⟩ : ∃ W, W = w.alloc (.cells #[.int .i64 b.sz, .int .i64 2] 73) := ⟨_, rfl⟩
    have g1 : Grow w W := by rw [hW]; exact Grow.alloc _ _
    have hh : W.heap[w.heap.size]? = some (.cells #[.int .i64 b.sz, .int .i64 2] 73 (0, 0)) := by rw [hW]; exact heap_alloc_new w _
    have z0 : W.cell? ⟨w.heap.size, 0, none⟩ = some (.int .i64 b.sz) := (cell_of_row W _ 0 _ _ _ hh).trans rfl
    have z1 : W.cell? ⟨w.heap.size, 1, none⟩ = some (.int .i64 2) := (cell_of_row W _ 1 _ _ _ hh).trans rfl
    have hWp := h.grow g1
    have hbeq : b = ⟨x, b.sz⟩ := by rw [← hid]
    obtain ⟨w2, p1, p2, p3⟩ := BM.put_old ((hWp.map k hk).2.perm t1) (b.sz, 1)
    have c2 := add_any W base pb gs m v p hWp (Nat.le_trans hb g1.size) k hk x b.sz ⟨(p k).fr ++ [b], (p k).out.eraseIdx j⟩ (by rw [hbeq]) (by have := (hp k hk).len; omega) ⟨w2, p1, p2.perm t2, p3⟩
    have HE : Hid (gvE p k x = 0 ∧ gvP p k x = upd p k ⟨(p k).fr ++ [b], (p k).out.eraseIdx j⟩ ∧ POk (upd p k ⟨(p k).fr ++ [b], (p k).out.eraseIdx j⟩) ∧ Only base Zp w W) := ⟨hE.1, hE.2, hpg, Only.grow g1 hb _⟩
    obtain ⟨s, hs⟩ : ∃ s, s = b.sz := ⟨_, rfl⟩
    rw [← hs] at l2 hW z0 c2
    clear h hg hp hb hE hid t1 t2 hbb g1 hh hWp hbeq p1 p2 p3 hpg h1 hj hs
    go_enter Try.func13, Try.ntmps13
    go_wp2_with fail
    refine c0.mono ?_
    rintro e w' ⟨rfl, hw⟩
    subst w'
    go_upto_region 5 with fail
    rw [← hW]
    have HW := Lib.hid hW
    clear hW
    go_wp2_with fail
    refine c2.mono ?_
    rintro e w3 ⟨rfl, gs3, v3, h3, o3⟩
    have H3 := Lib.hid (And.intro h3 o3)
    clear h3 o3 c2
    go_wp2_with fail
    go_ret
    obtain ⟨e1, e2, e3, e4⟩ := HE.out
    rw [e1, e2]
    exact ⟨rfl, ⟨e3, _, _, _, H3.out.1⟩, e4.trans H3.out.2⟩
  · have HE : Hid (gvE p k x = 6 ∧ gvP p k x = p) := gvE_none hg (by rw [hk2]; exact h1)
    have hl : ∃ s t, ((t == 2) = false ∧ (t = 0 ∨ t = 1)) ∧ (Instr.lookup 59 (.map (some (m k))) (.int .i64 x) false).run Try.prog w = .ok (.agg #[.int .i64 s, .int .i64 t]) w := by
      have hm := (h.map k hk).2
      by_cases q1 : Hasb (p k).fr x
      · obtain ⟨b, hb, rfl⟩ := q1
        exact ⟨_, _, ⟨rfl, .inr rfl⟩, hm.look_some (ents_fr hb)⟩
      · exact ⟨_, _, ⟨rfl, .inl rfl⟩, hm.look_none (ents_none q1 h1)⟩
    obtain ⟨s, t, ⟨ht, ht2⟩, l2⟩ := hl
    obtain ⟨W, hW⟩ : ∃ W, W = w.alloc (.cells #[.int .i64 s, .int .i64 t] 73) := ⟨_, rfl⟩
    have g1 : Grow w W := by rw [hW]; exact Grow.alloc _ _
    have hh : W.heap[w.heap.size]? = some (.cells #[.int .i64 s, .int .i64 t] 73 (0, 0)) := by rw [hW]; exact heap_alloc_new w _
    have z1 : W.cell? ⟨w.heap.size, 1, none⟩ = some (.int .i64 t) := (cell_of_row W _ 1 _ _ _ hh).trans rfl
    have HP : Hid (Bpp W base pb p ∧ Only base Zp w W) := ⟨⟨hp, _, _, _, h.grow g1⟩, Only.grow g1 hb _⟩
    clear h hg hp hb hh g1 h1 ht2
    go_enter Try.func13, Try.ntmps13
    go_wp2_with fail
    refine c0.mono ?_
    rintro e w' ⟨rfl, hw⟩
    subst w'
    go_upto_region 5 with fail
    rw [← hW]
    have HW := Lib.hid hW
    clear hW
    go_wp2_with fail
    go_ret
    obtain ⟨e1, e2⟩ := HE.out
    rw [e1, e2]
    exact ⟨rfl, HP.out.1, HP.out.2⟩
end
end Go.Proofs.Ytkambcjinidomaa
