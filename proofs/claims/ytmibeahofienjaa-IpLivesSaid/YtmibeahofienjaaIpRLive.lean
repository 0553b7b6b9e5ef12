/- The document's own answer: a packet that goes on. -/
import Derived.Test.YtmibeahofienjaaIpRGetA
import Derived.Test.YtmibeahofienjaaIpLiveP
import Derived.Test.YtmibeahofienjaaWeave
namespace Go.Proofs.Ytmibeahofienjaa
set_option linter.unusedVariables false
set_option linter.unusedSimpArgs false
open Go.ChangeShapes Go.WideShapes Go.ChangeAt Go.RowKit

theorem Own.spot {w : World} {base g n cap : Nat} {l : List UInt8} (h : Own w base (.slice (some ⟨g, 0, none⟩) n cap) l) (j : Nat) (hj : j < l.length) :
    w.cell? ⟨g, j, none⟩ = some (.int .u8 ((l[j]).toNat : Int)) ∧ w.frozen? ⟨g, j, none⟩ = false ∧ g < w.heap.size := by
  obtain ⟨g', cap', e, _, hlt, _, _, hr⟩ := h.row (by omega)
  simp only [Value.slice.injEq, Option.some.injEq, Addr.mk.injEq] at e
  obtain ⟨⟨rfl, _⟩, _⟩ := e
  exact ⟨(hr j hj).1, (hr j hj).2, hlt⟩

set_option maxRecDepth 10000 in
set_option maxHeartbeats 8000000 in
theorem RLive_any (v : Value) (l : List UInt8) (w : World) (h : Byt w v l) (hl : l.length ≤ 1000000) :
    Calls Try.prog 23 #[v] w fun e w' => ∃ u, e = .returned (.tuple #[u, .int .i64 (lcode l)]) ∧ (lcode l = 0 → Byt w' u (lived l)) ∧ (lcode l ≠ 0 → u = .slice none 0 0) ∧ Grow w w' := by
  obtain ⟨A, c, rfl, hcl, hcm⟩ := h.form
  unfold maxLen at hcm
  by_cases hc : mcode l ≠ 0
  · have e1 : lcode l = mcode l := by unfold lcode; rw [if_pos hc]
    have hr : res l = zeroP := by unfold res; rw [if_neg hc]
    have hcc : 0 ≤ mcode l ∧ mcode l ≤ 4 := by unfold mcode; (repeat' split) <;> decide
    obtain ⟨mc1, mc2⟩ := hcc
    rw [e1]
    have hcb : (mcode l != 0) = true := by simpa using hc
    go_enter Try.func23, Try.ntmps23
    go_wp2_with fail
    refine (RGetP_any _ l _ h hl).mono ?_
    rw [hr]
    rintro e w6 ⟨vo, vd, rfl, bo, bd, hg6⟩
    obtain ⟨A6, n6, c6, rfl, _⟩ := bo.form2
    obtain ⟨B6, m6, d6, rfl, _⟩ := bd.form2
    go_wp2_with (refine wpList_store_ip w6 _ rfl _ _ rfl rfl w6.heap.size rfl zeroP zeroP (.slice A6 n6 c6) (.slice B6 m6 d6) (.slice none 0 0) (.slice none 0 0) (by rfl) rfl rfl (Blk.new w6 zeroP (.slice none 0 0) (.slice none 0 0)) (Grow.alloc _ _) (Nat.le_refl _) ?_; intro w7 hk7 _ hg7)
    go_ret2
    exact ⟨_, rfl, fun h' => absurd h' hc, fun _ => rfl, hg6.trans hg7⟩
  have hc0 : mcode l = 0 := by simpa using hc
  have hgd := (good_iff l).1 hc0
  have hr : res l = got l := by unfold res; rw [if_pos hc0]
  obtain ⟨hck, hlen, hol⟩ := got_check hgd
  obtain ⟨o1, o2, o3, o4, o5⟩ := check_zero' hck
  have hkl : (got l).len = 20 + (got l).opts.length + (got l).data.length := rfl
  have hsm : (got l).Small := ⟨by omega, by omega⟩
  obtain ⟨g1, g2, g3, g4, g5, g6, g7, g8⟩ := hgd
  have hh : 20 ≤ hdr l := by unfold hdr; omega
  have y8 := byt_lt l 8
  have hok := res_ok l
  rw [hr] at hok
  by_cases h8 : byt l 8 < 2
  · have e1 : lcode l = 6 := by unfold lcode; rw [if_neg hc, if_pos h8]
    rw [e1]
    clear hkl
    go_enter Try.func23, Try.ntmps23
    go_wp2_with fail
    refine (RGetP_any _ l _ h hl).mono ?_
    rw [hr, hc0]
    rintro e w6 ⟨vo, vd, rfl, bo, bd, hg6⟩
    obtain ⟨A6, n6, c6, rfl, _⟩ := bo.form2
    obtain ⟨B6, m6, d6, rfl, _⟩ := bd.form2
    go_wp2_with (refine wpList_store_ip w6 _ rfl _ _ rfl rfl w6.heap.size rfl (got l) zeroP (.slice A6 n6 c6) (.slice B6 m6 d6) (.slice none 0 0) (.slice none 0 0) (by rfl) rfl rfl (Blk.new w6 zeroP (.slice none 0 0) (.slice none 0 0)) (Grow.alloc _ _) (Nat.le_refl _) ?_; intro w7 hk7 _ hg7; have dt : w7.cell? ⟨w6.heap.size, 5, none⟩ = some (.int .u8 (byt l 8 : Int)) := hk7.boxd.2.2.2.2.2.1)
    go_ret2
    exact ⟨_, rfl, fun h' => absurd h' (by decide), fun _ => rfl, hg6.trans hg7⟩
  have e1 : lcode l = 0 := by unfold lcode; rw [if_neg hc, if_neg h8]
  rw [e1]
  have y82 := num_lt l 2
  have y88 := num_lt l 8
  have y810 := num_lt l 10
  have i1 : num l 2 ≤ c := by omega
  have i2 : (num l 2 : Int) ≤ (c : Int) := by omega
  obtain ⟨L, hLL⟩ : ∃ L, L = l.take (num l 2) := ⟨_, rfl⟩
  have hLl : L.length = num l 2 := by rw [hLL, List.length_take]; omega
  have fL := h.front g8
  rw [← hLL] at fL
  obtain ⟨L1, hL1⟩ : ∃ L1, L1 = L.set 8 (UInt8.ofNat (byt l 8 - 1)) := ⟨_, rfl⟩
  have hL1l : L1.length = num l 2 := by rw [hL1, List.length_set, hLl]
  have hlv : (L1.set 10 (UInt8.ofNat (lturn l / 256))).set 11 (UInt8.ofNat (lturn l % 256)) = lived l := by rw [hL1, hLL]; rfl
  have nL1 : ((num L1 8 : Nat) : Int) = (num l 8 : Int) - 256 := by
    have q1 : byt L1 8 = byt l 8 - 1 := by
      show (L1[8]?.getD 0).toNat = _
      rw [hL1, List.getElem?_set_self (by omega)]
      simp only [Option.getD_some, UInt8.toNat_ofNat']
      omega
    have q2 : byt L1 9 = byt l 9 := by
      unfold byt
      rw [hL1, List.getElem?_set_ne (by omega), hLL, List.getElem?_take, if_pos (by omega)]
    have q3 : num L1 8 = 256 * byt L1 8 + byt L1 9 := rfl
    have q4 : num l 8 = 256 * byt l 8 + byt l 9 := rfl
    omega
  have elt : lturn l = turn (num l 10 : Nat) (num l 8 : Nat) ((num l 8 : Int) - 256) := rfl
  have hlt6 : lturn l < 65536 := turn_lt _ _ _
  rw [← nL1] at elt
  have y8n := num_lt L1 8
  have NL1 := Lib.hid nL1
  have ELT := Lib.hid elt
  have HLV := Lib.hid hlv
  have HL1 := Lib.hid hL1
  have HLEN := Lib.hid hlen
  clear nL1 elt hlv hL1 hLL hlen hkl hol hck
  go_enter Try.func23, Try.ntmps23
  go_wp2_with fail
  refine (RGetP_any _ l _ h hl).mono ?_
  rw [hr, hc0]
  rintro e w6 ⟨vo, vd, rfl, bo, bd, hg6⟩
  obtain ⟨A6, n6, c6, rfl, _⟩ := bo.form2
  obtain ⟨B6, m6, d6, rfl, _⟩ := bd.form2
  go_wp2_with (refine wpList_store_ip w6 _ rfl _ _ rfl rfl w6.heap.size rfl (got l) zeroP (.slice A6 n6 c6) (.slice B6 m6 d6) (.slice none 0 0) (.slice none 0 0) (by rfl) rfl rfl (Blk.new w6 zeroP (.slice none 0 0) (.slice none 0 0)) (Grow.alloc _ _) (Nat.le_refl _) ?_; intro w7 hk7 _ hg7; have dt : w7.cell? ⟨w6.heap.size, 5, none⟩ = some (.int .u8 (byt l 8 : Int)) := hk7.boxd.2.2.2.2.2.1; have hg07 := hg6.trans hg7; obtain ⟨d0, d1, d2, d3, d4, d5, d6x, d7, d8, d9, d10⟩ := (hk7.grow (Grow.alloc w7 (.cells #[] 5))).boxd)
  have hg78 := Grow.alloc w7 (.cells #[] 5)
  refine (RLen_any _ (got l) _ ⟨_, _, rfl, (bo.grow hg7).grow hg78, (bd.grow hg7).grow hg78, hok⟩ hsm).mono ?_
  rw [HLEN.out]
  rintro e w8 ⟨rfl, hg8⟩
  have hg18 : Grow w7 w8 := hg78.trans hg8
  have hg08 : Grow w w8 := hg07.trans hg18
  have hs7 := hg07.size
  have f1 : ([] : List UInt8).length + L.length ≤ 140737488355328 := by simp; omega
  have hk8 := hk7.grow hg18
  clear d0 d1 d2 d3 d4 d5 d6x d7 d8 d9 d10 dt
  have fL8 := fL.grow hg08
  obtain ⟨hoe, hge⟩ : Own w8 w7.heap.size (.slice (some ⟨w7.heap.size, 0, none⟩) 0 0) [] ∧ True := ⟨Own.grow (Own.empty w7) hg8, trivial⟩
  go_wp2_with (at_builtin; refine wpList_app w7 w8 rfl (.tmp 19) (.tmp 23) rfl _ _ [] L rfl rfl hoe hg18 fL8 f1 ?_; rw [List.nil_append]; intro a1 w9 ho9 hg9; obtain ⟨g, cap, hga, hgb, hglt, hgn, hgm, hgr⟩ := ho9.row (by omega); rw [hLl] at hga hgn; subst hga; obtain ⟨q8, r8⟩ := hgr 8 (by omega); have dt : w9.cell? ⟨w6.heap.size, 5, none⟩ = some (.int .u8 (byt l 8 : Int)) := (hk7.grow hg9).boxd.2.2.2.2.2.1)
  have hoS := ho9.set 8 (UInt8.ofNat (byt l 8 - 1)) ((byt l 8 : Int) - 1) (by rw [UInt8.toNat_ofNat']; omega)
  rw [← HL1.out] at hoS
  have hgS : Grow w (w9.setCell ⟨g, 8, none⟩ (.int .u8 ((byt l 8 : Int) - 1))) := (hg07.trans hg9).setCell (p := ⟨g, 8, none⟩) (show w.heap.size ≤ g by omega) _
  have hzS : (w9.setCell ⟨g, 8, none⟩ (.int .u8 ((byt l 8 : Int) - 1))).heap.size = w9.heap.size := by simp
  refine (number_two _ 10 l _ (h.grow hgS) (by omega) (by omega)).mono ?_
  rintro e wA ⟨rfl, hgA⟩
  have hgwA := hgS.trans hgA
  go_wp2_with fail
  refine (number_two _ 8 l _ (h.grow hgwA) (by omega) (by omega)).mono ?_
  rintro e wB ⟨rfl, hgB⟩
  have hgwB := hgwA.trans hgB
  have hoB := (hoS.grow hgA).grow hgB
  go_wp2_with fail
  refine (number_two _ 8 L1 _ hoB.byt (by omega) (by omega)).mono ?_
  rintro e wC ⟨rfl, hgC⟩
  have hgwC := hgwB.trans hgC
  have hoC := hoB.grow hgC
  have hzA := hgA.size
  have hzB := hgB.size
  have hzC := hgC.size
  go_wp2_with fail
  refine (RTurn_any _ _ _ _).mono ?_
  rw [← ELT.out]
  rintro e w' ⟨rfl, rfl⟩
  go_wp2_with fail
  refine (Two_any _ _ (by omega) (by omega)).mono ?_
  obtain ⟨T1, hT1⟩ : ∃ T1, T1 = UInt8.ofNat (lturn l / 256) := ⟨_, rfl⟩
  obtain ⟨T2, hT2⟩ : ∃ T2, T2 = UInt8.ofNat (lturn l % 256) := ⟨_, rfl⟩
  have etw : two ((lturn l : Nat) : Int) = [T1, T2] := by
    unfold two
    rw [show (((lturn l : Nat) : Int) % 65536).toNat = lturn l by omega, hT1, hT2]
  have HLV2 : Hid ((L1.set 10 T1).set 11 T2 = lived l) := by
    rw [hT1, hT2]
    exact HLV
  clear hT1 hT2
  rw [etw]
  rintro e wc ⟨v7, rfl, ho7, hg7c⟩
  have hgc := hgwC.trans hg7c
  have hoc := hoC.grow hg7c
  obtain ⟨gc, capc, rfl, hgcb, hgcl, hgcn, hgcm, hgcr⟩ := ho7.row (by simp)
  obtain ⟨cc0, _⟩ := hgcr 0 (by simp)
  obtain ⟨cc1, _⟩ := hgcr 1 (by simp)
  simp only [List.getElem_cons_zero, List.getElem_cons_succ, List.length_cons, List.length_nil, Nat.zero_add, Nat.reduceAdd] at cc0 cc1 hgcn ⊢
  have i10 : (10 : Int) < (num l 2 : Int) := by omega
  have i11 : (11 : Int) < (num l 2 : Int) := by omega
  have ne1 : gc ≠ g := by omega
  go_wp2_with fail
  refine wp_region_weave (A := ?frame9) [9, 11] (fun q => q.cell? ⟨gc, 0, none⟩ = some (.int .u8 ((T1.toNat : Nat) : Int)) ∧ q.cell? ⟨gc, 1, none⟩ = some (.int .u8 ((T2.toNat : Nat) : Int)) ∧ Grow w q) (inVals (isW (.slice (some ⟨g, 0, none⟩) (num l 2) cap) :: isW (.slice (some ⟨g, 0, none⟩) (num l 2) cap) :: isW (.slice (some ⟨gc, 0, none⟩) 2 capc) :: isW (.pointer (some ⟨gc, 0, none⟩)) :: isW (.int .u8 ((T1.toNat : Nat) : Int)) :: isW (.slice (some ⟨gc, 0, none⟩) 2 capc) :: isW (.pointer (some ⟨gc, 1, none⟩)) :: isW (.int .u8 ((T2.toNat : Nat) : Int)) :: isW (.pointer (some ⟨g, 10, none⟩)) :: isAll :: isW (.pointer (some ⟨g, 11, none⟩)) :: isAll :: [])) (fun j vs q => match j, vs with | 0, [] => Own q w7.heap.size (.slice (some ⟨g, 0, none⟩) (num l 2) cap) L1 | 1, [_] => Own q w7.heap.size (.slice (some ⟨g, 0, none⟩) (num l 2) cap) (L1.set 10 T1) | 2, [_, _] => Own q w7.heap.size (.slice (some ⟨g, 0, none⟩) (num l 2) cap) ((L1.set 10 T1).set 11 T2) | _, _ => False) (by kernel_rfl) (by kernel_rfl) (by kernel_rfl) (by kernel_rfl) (fun x => ?frameEq9) ⟨((Grow.drew wc).cell (p := ⟨gc, 0, none⟩) hgcl).trans cc0, ((Grow.drew wc).cell (p := ⟨gc, 1, none⟩) hgcl).trans cc1, hgc.trans (Grow.drew wc)⟩ (hoc.grow (Grow.drew wc)) ?_ ?_ ?_
  case frameEq9 => go_simp; rfl
  · refine ⟨fun _ x w1 hI hd post hp => ?_, fun _ x w1 hI hd post hp => ?_, fun _ x w1 hI hd post hp => ?_, fun _ x w1 hI hd post hp => ?_, fun _ x w1 hI hd post hp => ?_, fun _ x w1 hI hd post hp => ?_, fun _ x w1 hI hd post hp => ?_, fun _ x w1 hI hd post hp => ?_, fun _ x w1 hI hd post hp => ?_, fun hn => absurd hn (by decide), fun _ x w1 hI hd post hp => ?_, fun hn => absurd hn (by decide), trivial⟩
    · -- 0: slot 38: Op.move t6
      clear hd
      go_simp
      exact hp _ rfl
    · -- 1: slot 39: Op.move t6
      clear hd
      go_simp
      exact hp _ rfl
    · -- 2: slot 40: Op.move t7
      clear hd
      go_simp
      exact hp _ rfl
    · -- 3: slot 41: Op.indexAddr 25 t40 (const (0:i64))
      have h40 : x 40 = .slice (some ⟨gc, 0, none⟩) 2 capc := hd 2 (by decide) (by decide) _ rfl
      clear hd
      go_simp
      exact hp _ rfl
    · -- 4: slot 42: Op.load 5 t41
      have h41 : x 41 = .pointer (some ⟨gc, 0, none⟩) := hd 3 (by decide) (by decide) _ rfl
      clear hd
      obtain ⟨s1, s2, s3⟩ := hI
      go_simp
      exact hp _ rfl
    · -- 5: slot 43: Op.move t7
      clear hd
      go_simp
      exact hp _ rfl
    · -- 6: slot 44: Op.indexAddr 25 t43 (const (1:i64))
      have h43 : x 43 = .slice (some ⟨gc, 0, none⟩) 2 capc := hd 5 (by decide) (by decide) _ rfl
      clear hd
      go_simp
      exact hp _ rfl
    · -- 7: slot 45: Op.load 5 t44
      have h44 : x 44 = .pointer (some ⟨gc, 1, none⟩) := hd 6 (by decide) (by decide) _ rfl
      clear hd
      obtain ⟨s1, s2, s3⟩ := hI
      go_simp
      exact hp _ rfl
    · -- 8: slot 46: Op.indexAddr 25 t38 (const (10:i64))
      have h38 : x 38 = .slice (some ⟨g, 0, none⟩) (num l 2) cap := hd 0 (by decide) (by decide) _ rfl
      clear hd
      go_simp
      exact hp _ rfl
    · -- 10: slot 47: Op.indexAddr 25 t39 (const (11:i64))
      have h39 : x 39 = .slice (some ⟨g, 0, none⟩) (num l 2) cap := hd 1 (by decide) (by decide) _ rfl
      clear hd
      go_simp
      exact hp _ rfl
  · refine ⟨fun x w1 hI hd hs post hp => ?_, fun x w1 hI hd hs post hp => ?_, trivial⟩
    · -- 9: slot none:0: Op.store 5 t46 t42
      have h46 : x 46 = .pointer (some ⟨g, 10, none⟩) := hd 8 (by decide) (by decide) _ rfl
      have h42 : x 42 = .int .u8 ((T1.toNat : Nat) : Int) := hd 4 (by decide) (by decide) _ rfl
      clear hd
      obtain ⟨s1, s2, s3⟩ := hI
      have s0 : Own w1 w7.heap.size (.slice (some ⟨g, 0, none⟩) (num l 2) cap) L1 := hs
      obtain ⟨t1, t2, t3⟩ := s0.spot 10 (by omega)
      go_simp
      exact hp _ _ ⟨(World.cell?_setCell_other _ _ _ _ (by simp)).trans s1, (World.cell?_setCell_other _ _ _ _ (by simp)).trans s2, s3.setCell (p := ⟨g, 10, none⟩) (show w.heap.size ≤ g by omega) _⟩ (s0.set 10 T1 _ rfl)
    · -- 11: slot none:1: Op.store 5 t47 t45
      have h47 : x 47 = .pointer (some ⟨g, 11, none⟩) := hd 10 (by decide) (by decide) _ rfl
      have h45 : x 45 = .int .u8 ((T2.toNat : Nat) : Int) := hd 7 (by decide) (by decide) _ rfl
      clear hd
      obtain ⟨s1, s2, s3⟩ := hI
      have s0 : Own w1 w7.heap.size (.slice (some ⟨g, 0, none⟩) (num l 2) cap) (L1.set 10 T1) := hs
      obtain ⟨t1, t2, t3⟩ := s0.spot 11 (by simp; omega)
      go_simp
      exact hp _ _ ⟨(World.cell?_setCell_other _ _ _ _ (by simp)).trans s1, (World.cell?_setCell_other _ _ _ _ (by simp)).trans s2, s3.setCell (p := ⟨g, 11, none⟩) (show w.heap.size ≤ g by omega) _⟩ (s0.set 11 T2 _ rfl)
  · intro x w1 hI hd hs
    have hfin : Own w1 w7.heap.size (.slice (some ⟨g, 0, none⟩) (num l 2) cap) ((L1.set 10 T1).set 11 T2) := hs
    obtain ⟨s1, s2, s3⟩ := hI
    clear hd hs
    rw [HLV2.out] at hfin
    go_wp2_with fail
    go_ret2
    exact ⟨_, rfl, fun _ => hfin.byt, fun h' => absurd rfl h', s3⟩
end Go.Proofs.Ytmibeahofienjaa
