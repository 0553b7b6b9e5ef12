/- Contract: Add, of one that replaces a route. -/
import Derived.Test.YtfdoofkofljgnaaRtAdd
namespace Go.Proofs.Ytfdoofkofljgnaa
set_option linter.unusedVariables false
set_option linter.unusedSimpArgs false
open Go.ChangeShapes Go.WideShapes Go.ChangeAt Go.RowKit Go.Shelf

set_option maxRecDepth 10000 in
set_option maxHeartbeats 2000000 in
theorem Add_set (w : World) (base tb : Nat) (r : List Rt) (M : Net) (role : Nat → Role) (h : Trie w base tb (r.length : Int) M role) (hM : Tells M r) (hF : Fine r) (x : Rt) (hx : x.Ok) (hbase : base ≤ w.heap.size) (hgd : x.good = true) (hp : placeOf r x.net x.bits x.cost < r.length) :
    Calls Try.prog 16 #[.pointer (some ⟨tb, 0, none⟩), rtV x] w fun e w' => e = .returned (.int .i64 (raddE r x)) ∧ ∃ (M' : Net) (role' : Nat → Role), Trie w' base tb ((raddL r x).length : Int) M' role' ∧ Tells M' (raddL r x) ∧ Moves role w role' w' := by
  have cS := fun w1 (hg : Grow w w1) => search_any w1 base tb _ M role (h.grow hg) r hM hF x.net x.bits x.cost ⟨hx.n0, hx.n1⟩
  have HT := Lib.hid (And.intro h (And.intro hM hF))
  have HX := Lib.hid hx
  have HP := Lib.hid (And.intro hgd hp)
  clear h hM hF
  have cA := fun w => allowed_any x hx w
  obtain ⟨xn, xb, xv, xi, xc⟩ := x
  unfold rtV at *
  go_enter Try.func16, Try.ntmps16
  go_wp2_with fail
  generalize hW : w.alloc (.cells #[.int .u32 xn, .int .i64 xb, .int .u32 xv, .int .i64 xi, .int .i64 xc] 32) = W
  have hG : Grow w W := by rw [← hW]; exact Grow.alloc _ _
  have hsz : W.heap.size = w.heap.size + 1 := by rw [← hW]; simp
  have b0 : W.cell? ⟨w.heap.size, 0, none⟩ = some (.int .u32 xn) := by rw [← hW]; simp [World.cell?_alloc_new]
  have b1 : W.cell? ⟨w.heap.size, 1, none⟩ = some (.int .i64 xb) := by rw [← hW]; simp [World.cell?_alloc_new]
  have b2 : W.cell? ⟨w.heap.size, 2, none⟩ = some (.int .u32 xv) := by rw [← hW]; simp [World.cell?_alloc_new]
  have b3 : W.cell? ⟨w.heap.size, 3, none⟩ = some (.int .i64 xi) := by rw [← hW]; simp [World.cell?_alloc_new]
  have b4 : W.cell? ⟨w.heap.size, 4, none⟩ = some (.int .i64 xc) := by rw [← hW]; simp [World.cell?_alloc_new]
  have HBX : Hid (∀ w1, Grow W w1 → w1.cell? ⟨w.heap.size, 0, none⟩ = some (.int .u32 xn) ∧ w1.cell? ⟨w.heap.size, 1, none⟩ = some (.int .i64 xb) ∧ w1.cell? ⟨w.heap.size, 2, none⟩ = some (.int .u32 xv) ∧ w1.cell? ⟨w.heap.size, 3, none⟩ = some (.int .i64 xi) ∧ w1.cell? ⟨w.heap.size, 4, none⟩ = some (.int .i64 xc)) :=
    fun w1 hg => ⟨(hg.cell (p := ⟨w.heap.size, 0, none⟩) (by show w.heap.size < _; omega)).trans b0, (hg.cell (p := ⟨w.heap.size, 1, none⟩) (by show w.heap.size < _; omega)).trans b1, (hg.cell (p := ⟨w.heap.size, 2, none⟩) (by show w.heap.size < _; omega)).trans b2, (hg.cell (p := ⟨w.heap.size, 3, none⟩) (by show w.heap.size < _; omega)).trans b3, (hg.cell (p := ⟨w.heap.size, 4, none⟩) (by show w.heap.size < _; omega)).trans b4⟩
  have HG := Lib.hid (And.intro hG hsz)
  clear hW hG hsz
  have hgd' := HP.out.1
  rw [hgd'] at cA
  clear hgd' hgd hp hx b0 b1 b2 b3 b4
  obtain ⟨b0, b1, b2, b3, b4⟩ := HBX.out W (Grow.refl _)
  go_wp2_with (go_at_call 30; refine (cA _).mono ?_; rintro e w1 ⟨rfl, hg1⟩; obtain ⟨c0, c1, c2, c3, c4⟩ := HBX.out w1 hg1; have G1 := Lib.hid hg1; clear hg1 b0 b1 b2 b3 b4)
  refine (cS w1 (HG.out.1.trans G1.out)).mono ?_
  clear cS
  rintro e w2 ⟨⟨_, k, d, p, hbk, hd, ⟨hpl, hpc⟩, rfl⟩ | ⟨hno, _⟩, hg2⟩
  · obtain ⟨hT, hM, hF⟩ := HT.out
    have hbk' : xb = (k : Int) := hbk
    have hd' : M k xn = some d := hd
    have hpc' : d.ws[p].cost = xc := hpc
    have hGG : Grow w w2 := (HG.out.1.trans G1.out).trans hg2
    have hn := (hT.node _ _ _ hd').2.2
    have hblt : d.blk < w.heap.size := hT.lt _ (by rw [hn.blk]; simp)
    obtain ⟨g, cap, hwv, hgb, hgl, hnc, hcm⟩ := hn.row.pos (by omega)
    have hO : Orow 72 w2 base (.slice (some ⟨g, 0, none⟩) d.ws.length cap) d.ws := by rw [← hwv]; exact hn.row.grow hGG
    have hne : g ≠ d.blk := fun e => by
      have := hn.mine g (by rw [hwv]; rfl)
      rw [e, hn.blk] at this
      cases this
    have n2 : w2.cell? ⟨d.blk, 2, none⟩ = some (.slice (some ⟨g, 0, none⟩) d.ws.length cap) := by rw [← hwv]; exact (hGG.cell (p := ⟨d.blk, 2, none⟩) hblt).trans hn.c2
    obtain ⟨a0, a1, a2, a3, a4⟩ : RtAt w2 g (p * 5) d.ws[p] := by
      obtain ⟨b, off, e, hb, hc⟩ := hO.rts.at_ (by omega)
      injection e with e
      injection e with e3 e4
      subst e3 e4
      have := hc p hpl
      rwa [Nat.zero_add] at this
    have fz : ∀ j, w2.frozen? ⟨g, j, none⟩ = false := fun j => World.ownsRow.frozenAt hO j
    obtain ⟨d0, d1, d2, d3, d4⟩ := HBX.out w2 (G1.out.trans hg2)
    have hset := hO.set5 hpl ⟨xn, xb, xv, xi, xc⟩
    have hfin : ∃ (M' : Net) (role' : Nat → Role), Trie (set5 w2 g (p * 5) ⟨xn, xb, xv, xi, xc⟩) base tb ((raddL r ⟨xn, xb, xv, xi, xc⟩).length : Int) M' role' ∧ Tells M' (raddL r ⟨xn, xb, xv, xi, xc⟩) ∧ Moves role w role' (set5 w2 g (p * 5) ⟨xn, xb, xv, xi, xc⟩) := by
      have hgw := hset.2
      have hTw := (hT.grow hGG)
      have same : ∀ b, b < w2.heap.size → b ≠ g → (set5 w2 g (p * 5) ⟨xn, xb, xv, xi, xc⟩).heap[b]? = w2.heap[b]? := fun b hb hn => hgw.block b hb (fun e => hn (Option.some.inj e))
      have hgr : role g = .row k xn := hn.mine g (by rw [hwv]; rfl)
      have hdb := same d.blk (Nat.lt_of_lt_of_le hblt hGG.size) (fun e => hne e.symm)
      have hput := hTw.put hd' (.slice (some ⟨g, 0, none⟩) d.ws.length cap) (d.ws.set p ⟨xn, xb, xv, xi, xc⟩) hgw.size
        (fun b hr _ hrr => same b (hTw.lt b hr) (fun e => hrr (by rw [e]; exact hgr)))
        (fun i _ => World.cell?_of_block (w := w2) (a := ⟨d.blk, i, none⟩) hdb)
        ((World.cell?_of_block (w := w2) (a := ⟨d.blk, 2, none⟩) hdb).trans n2)
        (fun i => (World.frozen?_of_block (w := w2) (a := ⟨d.blk, i, none⟩) hdb).trans ((hGG.frozen (p := ⟨d.blk, i, none⟩) hblt).trans (hn.fz i)))
        hset.1 (fun g' hg' => .inl (by injection hg' with hg'; rw [← hg']; exact hgr))
      have hTl := hM.set hF HP.out.1 hbk' hd' HP.out.2 hpl hpc' d.blk (.slice (some ⟨g, 0, none⟩) d.ws.length cap)
      have hrL : raddL r ⟨xn, xb, xv, xi, xc⟩ = r.set (placeOf r xn xb xc) ⟨xn, xb, xv, xi, xc⟩ := by unfold raddL; rw [if_pos HP.out.1, if_pos HP.out.2]
      rw [hrL, List.length_set]
      refine ⟨_, _, hput, hTl, (Moves.grow hGG).trans ⟨Stays.grown hgw (fun b hb hS => ?_), fun b hb hr => ?_⟩⟩
      · injection hb with hb
        rw [← hb, hgr] at hS
        cases hS
      · show (if (some g = some b) then _ else _) = _
        rw [if_neg (fun e => by injection e with e; rw [← e, hgr] at hr; cases hr)]
        exact hr
    have hE : raddE r ⟨xn, xb, xv, xi, xc⟩ = 0 := by unfold raddE; rw [if_pos HP.out.1, if_pos HP.out.2]
    have HFIN := Lib.hid (And.intro hE hfin)
    have hpI : (p : Int) < (d.ws.length : Int) := by omega
    unfold set5 at HFIN
    generalize d.ws[p] = old at *
    generalize hNN : d.ws.length = N at *
    clear hfin hE hset hO hwv hn hpc hpc' hd hd' hbk hT hM hF hgl hgb hnc hcm hGG hg2 c0 c1 c2 c3 c4 hNN hpl
    clear hbk'
    go_wp2_with fail
    go_region
    all_goals
      go_wp2_with fail
      go_ret
      obtain ⟨M9, role9, q1, q2, q3⟩ := HFIN.out.2
      exact ⟨by rw [HFIN.out.1]; rfl, M9, role9, q1.grow (Grow.drew _), q2, q3.trans (Moves.grow (Grow.drew _))⟩
  · exact absurd HP.out.2 hno
end Go.Proofs.Ytfdoofkofljgnaa
