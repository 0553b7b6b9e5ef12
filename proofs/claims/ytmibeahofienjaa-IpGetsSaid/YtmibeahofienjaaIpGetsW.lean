/- The walk of the law on bytes as packets. -/
import Derived.Test.YtmibeahofienjaaIpLive
import Derived.Test.YtmibeahofienjaaIpGet
import Derived.Test.YtmibeahofienjaaIpRGetA
import Derived.Test.YtmibeahofienjaaIpSameZ
namespace Go.Proofs.Ytmibeahofienjaa
set_option linter.unusedVariables false
set_option linter.unusedSimpArgs false
open Go.ChangeShapes Go.WideShapes Go.ChangeAt Go.RowKit

theorem mcode_le (l : List UInt8) : 0 ≤ mcode l ∧ mcode l ≤ 4 := by unfold mcode; (repeat' split) <;> decide
theorem xor_255 (a : Nat) (ha : a < 256) : bits .xor .u8 (a : Int) 255 = ((a ^^^ 255 : Nat) : Int) ∧ a ^^^ 255 < 256 := by
  have h : a ^^^ 255 < 2 ^ 8 := Nat.xor_lt_two_pow ha (by omega)
  refine ⟨?_, h⟩
  show IntKind.u8.wrap ((BitVec.ofInt 8 (a : Int) ^^^ BitVec.ofInt 8 ((255 : Nat) : Int)).toNat : Int) = _
  rw [BitVec.toNat_xor, BitVec.toNat_ofInt, BitVec.toNat_ofInt]
  rw [show ((a : Int) % ((2 ^ 8 : Nat) : Int)).toNat = a by omega, show (((255 : Nat) : Int) % ((2 ^ 8 : Nat) : Int)).toNat = 255 by omega]
  simp only [IntKind.wrap, IntKind.signed, IntKind.bits]
  simp
  omega

set_option maxRecDepth 10000 in
set_option maxHeartbeats 8000000 in
theorem ipGets_walk (w : World) {v : Value} {l : List UInt8} (h : Byt w v l) (hl0 : l.length ≤ 140737488351232) :
    Calls Try.prog 4 #[v] w fun e w' => e = .returned (.bool true) ∧ Grow w w' := by
  obtain ⟨A, c, rfl, hcl, hcm⟩ := h.form
  unfold maxLen at hcm
  by_cases hL : 70000 < l.length
  · go_enter Try.func4, Try.ntmps4
    go_wp2_with fail
    refine (ipLive_any _).mono ?_
    rintro e wl ⟨rfl, hgl⟩
    go_wp2_with fail
    go_ret
    exact ⟨rfl, hgl⟩
  have hl : l.length ≤ 1000000 := by omega
  obtain ⟨mc1, mc2⟩ := mcode_le l
  have hok := res_ok l
  have c0 := str1 h
  unfold strV at c0
  go_enter Try.func4, Try.ntmps4
  go_wp2_with fail
  refine (Get_any _ l _ h hl).mono ?_
  generalize hmc : mcode l = mc at *
  generalize hkk : res l = k at *
  rintro e w6 ⟨vo, vd, rfl, hvo, hvd, hg6⟩
  have bo := hvo.byt
  have bd := hvd.byt
  obtain ⟨A6, n6, c6, rfl, _⟩ := bo.form2
  obtain ⟨B6, m6, d6, rfl, hm6⟩ := bd.form2
  have hz6 := hg6.size
  go_wp2_with (refine wpList_store_ip w6 _ rfl _ _ rfl rfl w6.heap.size rfl k zeroP (.slice A6 n6 c6) (.slice B6 m6 d6) (.slice none 0 0) (.slice none 0 0) (by rfl) rfl rfl (Blk.new w6 zeroP (.slice none 0 0) (.slice none 0 0)) (Grow.alloc _ _) (Nat.le_refl _) ?_; intro w7 hk7 _ hg7)
  have hg07 := hg6.trans hg7
  have hR := RGetP_any _ l _ (h.grow hg07) hl
  rw [hmc, hkk] at hR
  refine hR.mono ?_
  rintro e w8 ⟨vo2, vd2, rfl, bo2, bd2, hg8⟩
  obtain ⟨A8, n8, c8, rfl, _⟩ := bo2.form2
  obtain ⟨B8, m8, d8, rfl, _⟩ := bd2.form2
  go_wp2_with (refine wpList_store_ip w8 _ rfl _ _ rfl rfl w8.heap.size rfl k zeroP (.slice A8 n8 c8) (.slice B8 m8 d8) (.slice none 0 0) (.slice none 0 0) (by rfl) rfl rfl (Blk.new w8 zeroP (.slice none 0 0) (.slice none 0 0)) (Grow.alloc _ _) (Nat.le_refl _) ?_; intro w9 hk9 _ hg9)
  refine (code_any mc _ (by omega) (by omega)).mono ?_
  rintro e w' ⟨rfl, rfl⟩
  have hg79 := hg8.trans hg9
  have hkp := hk7.grow hg79
  obtain ⟨d0, d1, d2, d3, d4, d5, d6', d7, d8', d9, d10⟩ := hkp.boxd
  obtain ⟨e0, e1, e2, e3, e4, e5, e6', e7, e8, e9, e10⟩ := hk9.boxd
  have hvd9 := ((hvd.grow hg7).grow hg79)
  go_wp2_with fail
  refine (RSame_yes _ _ k k _ ⟨_, _, rfl, (bo.grow hg7).grow hg79, (bd.grow hg7).grow hg79, hok⟩ ⟨_, _, rfl, bo2.grow hg9, bd2.grow hg9, hok⟩ rfl).mono ?_
  rintro e w10 ⟨rfl, hg10⟩
  have hgA := (hg07.trans hg79).trans hg10
  have hkA := hkp.grow hg10
  have hvA := hvd9.grow hg10
  clear d0 d1 d2 d3 d4 d5 d6' d7 d8' d9 d10 e0 e1 e2 e3 e4 e5 e6' e7 e8 e9 e10 c0
  have hm6' : m6 = k.data.length := hm6.out
  have hdl : k.data.length ≤ 1000000 := by
    rw [← hkk]
    unfold res
    split
    · simp only [got, List.length_drop, List.length_take]; omega
    · simp [zeroP]
  go_wp2_with fail
  go_loopw [8] (fun i wr => ∃ j : Nat, j ≤ m6 ∧ i = .int .i64 (j : Int) ∧ (∃ L', L'.length = m6 ∧ Own wr (w.heap.size + 1) (.slice B6 m6 d6) L') ∧ Blk wr w6.heap.size k (.slice A6 n6 c6) (.slice B6 m6 d6) ∧ Grow w wr) (fun i _ => m6 - (intOf i).toNat)
  case atStart => exact ⟨0, Nat.zero_le _, rfl, ⟨k.data, hm6'.symm, hvA⟩, hkA, hgA⟩
  case round =>
    obtain ⟨j, hj, rfl, ⟨L', hL', hown⟩, hkr, hgr⟩ := hrel
    obtain ⟨d0, d1, d2, d3, d4, d5, d6', d7, d8', d9, d10⟩ := hkr.boxd
    by_cases hlt : j < m6
    · have hL0 : 0 < L'.length := by omega
      obtain ⟨gd, cap, hvv, hgb, hgdlt, hnc, hcm2, hrow⟩ := hown.row hL0
      obtain ⟨gd6, cap6, hv6, _, hlt6, _, _, _⟩ := hvd.row (by omega)
      have e6 : gd6 = gd := by
        have q := hv6.symm.trans hvv
        simp only [Value.slice.injEq, Option.some.injEq, Addr.mk.injEq] at q
        exact q.1.1
      rw [e6] at hlt6
      have hm6b : m6 ≤ 1000000 := by omega
      clear hv6 e6 hm6'
      rw [hL'] at hvv hnc
      cases hvv
      unfold maxLen at hcm2
      have hjl : j < L'.length := by omega
      obtain ⟨cj, fj⟩ := hrow j hjl
      have yl := L'[j].toNat_lt
      obtain ⟨X1, X2⟩ := xor_255 L'[j].toNat yl
      have iN : (j : Int) < (m6 : Int) := by omega
      go_wp2_with fail
      refine wp_region_phase (A := ?frame11) (inList (isV (.pointer (some ⟨w6.heap.size, 10, none⟩)) :: isV (.slice (some ⟨gd, 0, none⟩) m6 d6) :: isV (.int .i64 (j : Int)) :: isV (.pointer (some ⟨w6.heap.size, 10, none⟩)) :: isV (.slice (some ⟨gd, 0, none⟩) m6 d6) :: isV (.int .i64 (j : Int)) :: isV (.pointer (some ⟨gd, j, none⟩)) :: isV (.int .u8 ((L'[j].toNat : Nat) : Int)) :: isV (.int .u8 ((L'[j].toNat ^^^ 255 : Nat) : Int)) :: isV (.pointer (some ⟨gd, j, none⟩)) :: [])) 10 (by kernel_rfl) (by kernel_rfl) (by kernel_rfl) (inList_stays ?_) (fun x => ?frameEq11) ?_ ?_
      case frameEq11 => go_simp; rfl
      · intro f hf
        simp only [List.mem_cons, List.not_mem_nil, or_false] at hf
        rcases hf with rfl | rfl | rfl | rfl | rfl | rfl | rfl | rfl | rfl | rfl <;> first | exact isV_stays _ | exact isB_stays _ | exact isBs_stays _
      · refine ⟨fun x w1 hg hd post hp => ?_, fun x w1 hg hd post hp => ?_, fun x w1 hg hd post hp => ?_, fun x w1 hg hd post hp => ?_, fun x w1 hg hd post hp => ?_, fun x w1 hg hd post hp => ?_, fun x w1 hg hd post hp => ?_, fun x w1 hg hd post hp => ?_, fun x w1 hg hd post hp => ?_, fun x w1 hg hd post hp => ?_, trivial⟩
        · -- 0: slot 42: Op.fieldAddr 27 t4 10
          clear hd
          go_simp
          exact hp _ _ (Grow.refl _) rfl
        · -- 1: slot 43: Op.load 25 t42
          have h42 : x 42 = .pointer (some ⟨w6.heap.size, 10, none⟩) := hd 0 (by decide) _ rfl
          clear hd
          obtain ⟨d0, d1, d2, d3, d4, d5, d6', d7, d8, d9, d10⟩ := (hkr.grow hg).boxd
          go_simp
          exact hp _ _ (Grow.refl _) rfl
        · -- 2: slot 44: Op.move t8
          clear hd
          go_simp
          exact hp _ _ (Grow.refl _) rfl
        · -- 3: slot 45: Op.fieldAddr 27 t4 10
          clear hd
          go_simp
          exact hp _ _ (Grow.refl _) rfl
        · -- 4: slot 46: Op.load 25 t45
          have h45 : x 45 = .pointer (some ⟨w6.heap.size, 10, none⟩) := hd 3 (by decide) _ rfl
          clear hd
          obtain ⟨d0, d1, d2, d3, d4, d5, d6', d7, d8, d9, d10⟩ := (hkr.grow hg).boxd
          go_simp
          exact hp _ _ (Grow.refl _) rfl
        · -- 5: slot 47: Op.move t8
          clear hd
          go_simp
          exact hp _ _ (Grow.refl _) rfl
        · -- 6: slot 48: Op.indexAddr 25 t46 t47
          have h46 : x 46 = .slice (some ⟨gd, 0, none⟩) m6 d6 := hd 4 (by decide) _ rfl
          have h47 : x 47 = .int .i64 (j : Int) := hd 5 (by decide) _ rfl
          clear hd
          go_simp
          exact hp _ _ (Grow.refl _) rfl
        · -- 7: slot 49: Op.load 5 t48
          have h48 : x 48 = .pointer (some ⟨gd, j, none⟩) := hd 6 (by decide) _ rfl
          clear hd
          have q1 := (hg.cell (p := ⟨gd, j, none⟩) hgdlt).trans cj
          go_simp
          exact hp _ _ (Grow.refl _) rfl
        · -- 8: slot 50: Op.binOp BinOp.xor 5 t49 (const (255:u8)) 5
          have h49 : x 49 = .int .u8 ((L'[j].toNat : Nat) : Int) := hd 7 (by decide) _ rfl
          clear hd
          go_simp
          exact hp _ _ (Grow.refl _) rfl
        · -- 9: slot 51: Op.indexAddr 25 t43 t44
          have h43 : x 43 = .slice (some ⟨gd, 0, none⟩) m6 d6 := hd 1 (by decide) _ rfl
          have h44 : x 44 = .int .i64 (j : Int) := hd 2 (by decide) _ rfl
          clear hd
          go_simp
          exact hp _ _ (Grow.refl _) rfl
      · intro x w1 hg hd
        have h50 : x 50 = .int .u8 ((L'[j].toNat ^^^ 255 : Nat) : Int) := hd 8 _ (by decide) rfl
        have h51 : x 51 = .pointer (some ⟨gd, j, none⟩) := hd 9 _ (by decide) rfl
        clear hd
        have hownw := hown.grow hg
        have hgw : Grow w w1 := Grow.trans hgr hg
        have hkw := hkr.grow hg
        have c1 := (hg.cell (p := ⟨gd, j, none⟩) hgdlt).trans cj
        have f1 := (hg.frozen (p := ⟨gd, j, none⟩) hgdlt).trans fj
        simp only [List.drop_succ_cons, List.drop_zero]
        go_wp2_with fail
        have hne : w6.heap.size ≠ gd := by omega
        refine ⟨⟨j + 1, by omega, by simp, ⟨L'.set j (UInt8.ofNat (L'[j].toNat ^^^ 255)), by simp [hL'], hownw.set j _ _ (by rw [UInt8.toNat_ofNat']; omega)⟩, ?_, hgw.setCell (p := ⟨gd, j, none⟩) (show w.heap.size ≤ gd by omega) _⟩, by simp [intOf]; omega⟩
        unfold Blk at hkw ⊢
        rw [← hkw]
        simp [World.setCell, Array.getElem?_modify, Ne.symm hne]
    · have c1 := str1 (h.grow hgr)
      unfold strV at c1
      go_wp2_with fail
      refine (ipLive_any _).mono ?_
      rintro e wl ⟨rfl, hgl⟩
      go_wp2_with fail
      go_ret
      exact ⟨rfl, Grow.trans hgr hgl⟩
end Go.Proofs.Ytmibeahofienjaa
