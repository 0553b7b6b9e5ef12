/- Contract: Add, of a route more, or into a table without room. -/
import Derived.Test.YtfdoofkofljgnaaRtAdd
namespace Go.Proofs.Ytfdoofkofljgnaa
set_option linter.unusedVariables false
set_option linter.unusedSimpArgs false
open Go.ChangeShapes Go.WideShapes Go.ChangeAt Go.RowKit Go.Shelf

set_option maxRecDepth 10000 in
set_option maxHeartbeats 2000000 in
theorem Add_full (w : World) (base tb : Nat) (r : List Rt) (M : Net) (role : Nat → Role) (h : Trie w base tb (r.length : Int) M role) (hM : Tells M r) (hF : Fine r) (x : Rt) (hx : x.Ok) (hbase : base ≤ w.heap.size) (hgd : x.good = true) (hp : ¬ placeOf r x.net x.bits x.cost < r.length) (h64 : 64 ≤ r.length) :
    Calls Try.prog 16 #[.pointer (some ⟨tb, 0, none⟩), rtV x] w fun e w' => e = .returned (.int .i64 (raddE r x)) ∧ ∃ (M' : Net) (role' : Nat → Role), Trie w' base tb ((raddL r x).length : Int) M' role' ∧ Tells M' (raddL r x) ∧ Moves role w role' w' := by
  have cS := fun w1 (hg : Grow w w1) => search_any w1 base tb _ M role (h.grow hg) r hM hF x.net x.bits x.cost ⟨hx.n0, hx.n1⟩
  have HT := Lib.hid (And.intro h (And.intro hM hF))
  have HX := Lib.hid hx
  have HP := Lib.hid (And.intro hgd hp)
  clear h hM hF
  have cA := fun w => allowed_any x hx w
  obtain ⟨xn, xb, xv, xi, xc⟩ := x
  unfold rtV at *
  go_enter Try.func16, Try.ntmps16
  go_wp2_with fail
  generalize hW : w.alloc (.cells #[.int .u32 xn, .int .i64 xb, .int .u32 xv, .int .i64 xi, .int .i64 xc] 32) = W
  have hG : Grow w W := by rw [← hW]; exact Grow.alloc _ _
  have hsz : W.heap.size = w.heap.size + 1 := by rw [← hW]; simp
  have b0 : W.cell? ⟨w.heap.size, 0, none⟩ = some (.int .u32 xn) := by rw [← hW]; simp [World.cell?_alloc_new]
  have b1 : W.cell? ⟨w.heap.size, 1, none⟩ = some (.int .i64 xb) := by rw [← hW]; simp [World.cell?_alloc_new]
  have b2 : W.cell? ⟨w.heap.size, 2, none⟩ = some (.int .u32 xv) := by rw [← hW]; simp [World.cell?_alloc_new]
  have b3 : W.cell? ⟨w.heap.size, 3, none⟩ = some (.int .i64 xi) := by rw [← hW]; simp [World.cell?_alloc_new]
  have b4 : W.cell? ⟨w.heap.size, 4, none⟩ = some (.int .i64 xc) := by rw [← hW]; simp [World.cell?_alloc_new]
  have HBX : Hid (∀ w1, Grow W w1 → w1.cell? ⟨w.heap.size, 0, none⟩ = some (.int .u32 xn) ∧ w1.cell? ⟨w.heap.size, 1, none⟩ = some (.int .i64 xb) ∧ w1.cell? ⟨w.heap.size, 2, none⟩ = some (.int .u32 xv) ∧ w1.cell? ⟨w.heap.size, 3, none⟩ = some (.int .i64 xi) ∧ w1.cell? ⟨w.heap.size, 4, none⟩ = some (.int .i64 xc)) :=
    fun w1 hg => ⟨(hg.cell (p := ⟨w.heap.size, 0, none⟩) (by show w.heap.size < _; omega)).trans b0, (hg.cell (p := ⟨w.heap.size, 1, none⟩) (by show w.heap.size < _; omega)).trans b1, (hg.cell (p := ⟨w.heap.size, 2, none⟩) (by show w.heap.size < _; omega)).trans b2, (hg.cell (p := ⟨w.heap.size, 3, none⟩) (by show w.heap.size < _; omega)).trans b3, (hg.cell (p := ⟨w.heap.size, 4, none⟩) (by show w.heap.size < _; omega)).trans b4⟩
  have HG := Lib.hid (And.intro hG hsz)
  clear hW hG hsz
  have hgd' := HP.out.1
  rw [hgd'] at cA
  clear hgd' hgd hp hx b0 b1 b2 b3 b4
  obtain ⟨b0, b1, b2, b3, b4⟩ := HBX.out W (Grow.refl _)
  go_wp2_with (go_at_call 30; refine (cA _).mono ?_; rintro e w1 ⟨rfl, hg1⟩; obtain ⟨c0, c1, c2, c3, c4⟩ := HBX.out w1 hg1; have G1 := Lib.hid hg1; clear hg1 b0 b1 b2 b3 b4)
  refine (cS w1 (HG.out.1.trans G1.out)).mono ?_
  clear cS
  rintro e w2 ⟨⟨hyes, _⟩ | ⟨_, rfl⟩, hg2⟩
  · exact absurd hyes HP.out.2
  · obtain ⟨hT, hM, hF⟩ := HT.out
    have hG2 : Grow w w2 := (HG.out.1.trans G1.out).trans hg2
    have htb : tb < w.heap.size := hT.lt tb (by rw [hT.topblk]; simp)
    have hcnt : w2.cell? ⟨tb, 3, none⟩ = some (.int .i64 (r.length : Int)) := (hG2.cell (p := ⟨tb, 3, none⟩) htb).trans hT.cnt
    have h64' : r.length = 64 := by have := hF.len; omega
    rw [h64'] at hcnt
    have e1 : raddE r ⟨xn, xb, xv, xi, xc⟩ = 5 := by unfold raddE; rw [if_pos HP.out.1, if_neg HP.out.2, if_pos h64]
    have e2 : raddL r ⟨xn, xb, xv, xi, xc⟩ = r := by unfold raddL; rw [if_pos HP.out.1, if_neg HP.out.2, if_pos h64]
    have H1 := Lib.hid hG2
    have H2 := Lib.hid (And.intro e1 e2)
    clear hG2 hg2 hT hM hF h64' e1 e2 h64
    go_wp2_with fail
    go_ret
    refine ⟨by rw [H2.out.1]; rfl, M, role, ?_, ?_, Moves.grow H1.out⟩
    · rw [H2.out.2]; exact HT.out.1.grow H1.out
    · rw [H2.out.2]; exact HT.out.2.1

set_option maxRecDepth 10000 in
set_option maxHeartbeats 4000000 in
theorem Add_new (w : World) (base tb : Nat) (r : List Rt) (M : Net) (role : Nat → Role) (h : Trie w base tb (r.length : Int) M role) (hM : Tells M r) (hF : Fine r) (x : Rt) (hx : x.Ok) (hbase : base ≤ w.heap.size) (hgd : x.good = true) (hp : ¬ placeOf r x.net x.bits x.cost < r.length) (h64 : ¬ 64 ≤ r.length) :
    Calls Try.prog 16 #[.pointer (some ⟨tb, 0, none⟩), rtV x] w fun e w' => e = .returned (.int .i64 (raddE r x)) ∧ ∃ (M' : Net) (role' : Nat → Role), Trie w' base tb ((raddL r x).length : Int) M' role' ∧ Tells M' (raddL r x) ∧ Moves role w role' w' := by
  have cS := fun w1 (hg : Grow w w1) => search_any w1 base tb _ M role (h.grow hg) r hM hF x.net x.bits x.cost ⟨hx.n0, hx.n1⟩
  have HT := Lib.hid (And.intro h (And.intro hM hF))
  have HX := Lib.hid hx
  have HP := Lib.hid (And.intro hgd hp)
  clear h hM hF
  have cA := fun w => allowed_any x hx w
  obtain ⟨xn, xb, xv, xi, xc⟩ := x
  unfold rtV at *
  go_enter Try.func16, Try.ntmps16
  go_wp2_with fail
  generalize hW : w.alloc (.cells #[.int .u32 xn, .int .i64 xb, .int .u32 xv, .int .i64 xi, .int .i64 xc] 32) = W
  have hG : Grow w W := by rw [← hW]; exact Grow.alloc _ _
  have hsz : W.heap.size = w.heap.size + 1 := by rw [← hW]; simp
  have b0 : W.cell? ⟨w.heap.size, 0, none⟩ = some (.int .u32 xn) := by rw [← hW]; simp [World.cell?_alloc_new]
  have b1 : W.cell? ⟨w.heap.size, 1, none⟩ = some (.int .i64 xb) := by rw [← hW]; simp [World.cell?_alloc_new]
  have b2 : W.cell? ⟨w.heap.size, 2, none⟩ = some (.int .u32 xv) := by rw [← hW]; simp [World.cell?_alloc_new]
  have b3 : W.cell? ⟨w.heap.size, 3, none⟩ = some (.int .i64 xi) := by rw [← hW]; simp [World.cell?_alloc_new]
  have b4 : W.cell? ⟨w.heap.size, 4, none⟩ = some (.int .i64 xc) := by rw [← hW]; simp [World.cell?_alloc_new]
  have HBX : Hid (∀ w1, Grow W w1 → w1.cell? ⟨w.heap.size, 0, none⟩ = some (.int .u32 xn) ∧ w1.cell? ⟨w.heap.size, 1, none⟩ = some (.int .i64 xb) ∧ w1.cell? ⟨w.heap.size, 2, none⟩ = some (.int .u32 xv) ∧ w1.cell? ⟨w.heap.size, 3, none⟩ = some (.int .i64 xi) ∧ w1.cell? ⟨w.heap.size, 4, none⟩ = some (.int .i64 xc)) :=
    fun w1 hg => ⟨(hg.cell (p := ⟨w.heap.size, 0, none⟩) (by show w.heap.size < _; omega)).trans b0, (hg.cell (p := ⟨w.heap.size, 1, none⟩) (by show w.heap.size < _; omega)).trans b1, (hg.cell (p := ⟨w.heap.size, 2, none⟩) (by show w.heap.size < _; omega)).trans b2, (hg.cell (p := ⟨w.heap.size, 3, none⟩) (by show w.heap.size < _; omega)).trans b3, (hg.cell (p := ⟨w.heap.size, 4, none⟩) (by show w.heap.size < _; omega)).trans b4⟩
  have HG := Lib.hid (And.intro hG hsz)
  clear hW hG hsz
  have hgd' := HP.out.1
  rw [hgd'] at cA
  clear hgd' hgd hp hx b0 b1 b2 b3 b4
  obtain ⟨b0, b1, b2, b3, b4⟩ := HBX.out W (Grow.refl _)
  go_wp2_with (go_at_call 30; refine (cA _).mono ?_; rintro e w1 ⟨rfl, hg1⟩; obtain ⟨c0, c1, c2, c3, c4⟩ := HBX.out w1 hg1; have G1 := Lib.hid hg1; clear hg1 b0 b1 b2 b3 b4)
  refine (cS w1 (HG.out.1.trans G1.out)).mono ?_
  clear cS
  rintro e w2 ⟨⟨hyes, _⟩ | ⟨_, rfl⟩, hg2⟩
  · exact absurd hyes HP.out.2
  · obtain ⟨hT, hM, hF⟩ := HT.out
    have hG2 : Grow w w2 := (HG.out.1.trans G1.out).trans hg2
    have htb : tb < w.heap.size := hT.lt tb (by rw [hT.topblk]; simp)
    have hcnt : w2.cell? ⟨tb, 3, none⟩ = some (.int .i64 (r.length : Int)) := (hG2.cell (p := ⟨tb, 3, none⟩) htb).trans hT.cnt
    have hgood := Rt.good_iff.1 HP.out.1
    obtain ⟨k, hk⟩ : ∃ k : Nat, xb = (k : Int) := ⟨xb.toNat, by have : 0 ≤ xb := hgood.1; omega⟩
    subst hk
    have hk32 : k ≤ 32 := by have : (k : Int) ≤ 32 := hgood.2.1; omega
    have hnk : netOf xn (k : Int) = xn := hgood.2.2.1
    have hxn : 0 ≤ xn ∧ xn ≤ 4294967295 := ⟨HX.out.n0, HX.out.n1⟩
    have hTw := hT.grow hG2
    have cG := fun w1 (hg : Grow w2 w1) => grow_any w1 base tb _ M role (hTw.grow hg) xn hxn k hk32
    have hdec : ((r.length : Int) == 64) = false := by
      rw [beq_eq_false_iff_ne]; omega
    have hlen : (r.length : Int) < 64 := by omega
    have hlen0 : 0 ≤ (r.length : Int) := by omega
    have hbx : w.heap.size < w2.heap.size := by have := HG.out.2; have := (G1.out.trans hg2).size; omega
    have hrbx : role w.heap.size = .none := hT.free (.inr (Nat.le_refl _))
    have hbw : base ≤ w2.heap.size := Nat.le_trans hbase hG2.size
    have HB2 := HBX.out w2 (G1.out.trans hg2)
    obtain ⟨b0, b1, b2, b3, b4⟩ := id HB2
    have HBY : Hid (∀ w1, Grow w2 w1 → ∀ w3 role1, Moves role w1 role1 w3 → w3.cell? ⟨w.heap.size, 0, none⟩ = some (.int .u32 xn) ∧ w3.cell? ⟨w.heap.size, 1, none⟩ = some (.int .i64 (k : Int)) ∧ w3.cell? ⟨w.heap.size, 2, none⟩ = some (.int .u32 xv) ∧ w3.cell? ⟨w.heap.size, 3, none⟩ = some (.int .i64 xi) ∧ w3.cell? ⟨w.heap.size, 4, none⟩ = some (.int .i64 xc)) := by
      intro w1 hg w3 role1 hmv
      obtain ⟨q0, q1, q2, q3, q4⟩ := HBX.out w1 ((G1.out.trans hg2).trans hg)
      have hlt : w.heap.size < w1.heap.size := Nat.lt_of_lt_of_le hbx hg.size
      exact ⟨(hmv.1.cell (p := ⟨w.heap.size, 0, none⟩) hlt hrbx).trans q0, (hmv.1.cell (p := ⟨w.heap.size, 1, none⟩) hlt hrbx).trans q1, (hmv.1.cell (p := ⟨w.heap.size, 2, none⟩) hlt hrbx).trans q2, (hmv.1.cell (p := ⟨w.heap.size, 3, none⟩) hlt hrbx).trans q3, (hmv.1.cell (p := ⟨w.heap.size, 4, none⟩) hlt hrbx).trans q4⟩
    -- what 'add' does behind 'grow'
    have HADD : Hid (∀ w1, Grow w2 w1 → ∀ w3 (M1 : Net) role1 d1, M1 k (netOf xn (k : Int)) = some d1 → Trie w3 base tb (r.length : Int) M1 role1 → Moves role w1 role1 w3 → Wider M M1 →
        Calls Try.prog 33 #[.pointer (some ⟨d1.blk, 0, none⟩), .agg #[.int .u32 xn, .int .i64 (k : Int), .int .u32 xv, .int .i64 xi, .int .i64 xc]] w3 fun e w4 => e = .returned (.tuple #[]) ∧
          w4.cell? ⟨tb, 3, none⟩ = some (.int .i64 (r.length : Int)) ∧ w4.frozen? ⟨tb, 3, none⟩ = false ∧
          Hid (∃ (M' : Net) (role' : Nat → Role), Trie (w4.setCell ⟨tb, 3, none⟩ (.int .i64 ((r.length : Int) + 1))) base tb ((raddL r ⟨xn, (k : Int), xv, xi, xc⟩).length : Int) M' role' ∧ Tells M' (raddL r ⟨xn, (k : Int), xv, xi, xc⟩) ∧ Moves role w role' (w4.setCell ⟨tb, 3, none⟩ (.int .i64 ((r.length : Int) + 1))))) := by
      intro w1 hg w3 M1 role1 d1 hd1 hT1 hMv1 hW1
      rw [hnk] at hd1
      have hM1 := hM.wider hF hW1
      have hfew := hM1.few hF hd1
      refine (nodeadd_any w3 base tb _ M1 role1 hT1 k xn d1 hd1 ⟨xn, (k : Int), xv, xi, xc⟩ (by omega) (Nat.le_trans hbw (Nat.le_trans hg.size hMv1.1.size))).mono ?_
      rintro e w4 ⟨rfl, wv', ws', role2, hperm, hsrt, hT2, hMv2⟩
      obtain ⟨dt, hdt, hdtb⟩ := hT2.top
      have hfz := (hT2.node _ _ _ hdt).2.2.fz 3
      rw [hdtb] at hfz
      refine ⟨rfl, hT2.cnt, hfz, ?_⟩
      have hrL : raddL r ⟨xn, (k : Int), xv, xi, xc⟩ = r ++ [⟨xn, (k : Int), xv, xi, xc⟩] := by unfold raddL; rw [if_pos HP.out.1, if_neg HP.out.2, if_neg h64]
      rw [hrL, show (((r ++ [(⟨xn, (k : Int), xv, xi, xc⟩ : Rt)]).length : Nat) : Int) = (r.length : Int) + 1 from by simp]
      refine ⟨_, role2, hT2.count _, hM1.add hF HP.out.1 rfl hd1 HP.out.2 hperm hsrt _ _, (((Moves.grow (hG2.trans hg)).trans hMv1).trans hMv2).trans ⟨Stays.set _ _ _ (by show ¬ role2 tb = .none; rw [hT2.topblk]; simp), fun _ _ h => h⟩⟩
    have hE : raddE r ⟨xn, (k : Int), xv, xi, xc⟩ = 0 := by unfold raddE; rw [if_pos HP.out.1, if_neg HP.out.2, if_neg h64]
    have HE := Lib.hid hE
    clear hG2 hg2 hT hM hF h64 hgood hk32 hnk hxn hTw hbx hrbx hbw HB2 hE hbase HX HBX
    go_wp2_with fail
    go_region_with (first
      | (go_at_call 32; refine (cG _ (Grow.drew _)).mono ?_; rintro e w3 ⟨M1, role1, d1, rfl, hd1, hT1, hMv1, hW1⟩; obtain ⟨q0, q1, q2, q3, q4⟩ := HBY.out _ (Grow.drew _) w3 role1 hMv1; have cN := HADD.out _ (Grow.drew _) w3 M1 role1 d1 hd1 hT1 hMv1 hW1; clear hd1 hT1 hMv1 hW1)
      | (go_at_call 33; refine cN.mono ?_; rintro e w4 ⟨rfl, k3, kf, HZ⟩))
    all_goals
      go_wp2_with fail
      go_ret
      exact ⟨by rw [HE.out]; rfl, HZ.out⟩
end Go.Proofs.Ytfdoofkofljgnaa
