/- The walk of the law there and back. -/
import Derived.Test.YtmibeahofienjaaIpLive
import Derived.Test.YtmibeahofienjaaIpGet
import Derived.Test.YtmibeahofienjaaIpPure2
namespace Go.Proofs.Ytmibeahofienjaa
set_option linter.unusedVariables false
set_option linter.unusedSimpArgs false
open Go.ChangeShapes Go.WideShapes Go.ChangeAt Go.RowKit

theorem byt_two_hi {A B C : List UInt8} {n : Nat} (hA : A.length = 10) (hn : n < 65536) : byt (A ++ two (n : Int) ++ C) 10 = n / 256 ∧ byt (A ++ two (n : Int) ++ C) 11 = n % 256 := by
  have e10 : (A ++ two (n : Int) ++ C)[10]? = some (UInt8.ofNat (((n : Int) % 65536).toNat / 256)) := by
    rw [List.append_assoc, List.getElem?_append_right (by omega), hA]
    rfl
  have e11 : (A ++ two (n : Int) ++ C)[11]? = some (UInt8.ofNat (((n : Int) % 65536).toNat % 256)) := by
    rw [List.append_assoc, List.getElem?_append_right (by omega), hA]
    rfl
  unfold byt
  rw [e10, e11]
  simp only [Option.getD_some, UInt8.toNat_ofNat']
  omega

theorem take_mid (l : List UInt8) (n : Nat) (h : 12 ≤ n) (hn : n ≤ l.length) : l.take n = l.take 10 ++ two (num l 10 : Nat) ++ (l.take n).drop 12 := by
  have h10 : 10 < l.length := by omega
  have h11 : 11 < l.length := by omega
  have e1 : two ((num l 10 : Nat) : Int) = [l[10], l[11]] := by
    have := two_pair l[10] l[11]
    rw [← this]
    unfold num
    rw [← byt_at h10, ← byt_at h11]
  have e2 : l.take 10 = (l.take n).take 10 := by rw [List.take_take]; congr 1; omega
  have e3 : [l[10], l[11]] = ((l.take n).drop 10).take 2 := by
    apply List.ext_getElem
    · simp; omega
    · intro i h1 h2
      simp only [List.length_cons, List.length_nil] at h1
      match i, h1 with
      | 0, _ => simp
      | 1, _ => simp
  rw [e1, e3, e2]
  have e4 : (l.take n).drop 12 = ((l.take n).drop 10).drop 2 := by rw [List.drop_drop]
  rw [e4, List.append_assoc, List.take_append_drop, List.take_append_drop]

set_option maxRecDepth 10000 in
set_option maxHeartbeats 8000000 in
theorem ipBack_walk (w : World) {v : Value} {l : List UInt8} (h : Byt w v l) (hl0 : l.length ≤ 140737488351232) :
    Calls Try.prog 5 #[v] w fun e w' => e = .returned (.bool true) ∧ Grow w w' := by
  obtain ⟨A, c, rfl, hcl, hcm⟩ := h.form
  unfold maxLen at hcm
  by_cases hL : 70000 < l.length
  · go_enter Try.func5, Try.ntmps5
    go_wp2_with fail
    refine (ipLive_any _).mono ?_
    rintro e wl ⟨rfl, hgl⟩
    go_wp2_with fail
    go_ret
    exact ⟨rfl, hgl⟩
  have hl : l.length ≤ 1000000 := by omega
  by_cases hc : mcode l ≠ 0
  · have hcb : (mcode l != 0) = true := by simpa using hc
    have hr : res l = zeroP := by unfold res; rw [if_neg hc]
    have hcc : 0 ≤ mcode l ∧ mcode l ≤ 4 := by unfold mcode; (repeat' split) <;> decide
    obtain ⟨hc1, hc2⟩ := hcc
    go_enter Try.func5, Try.ntmps5
    go_wp2_with fail
    refine (Get_any _ l _ h hl).mono ?_
    rw [hr]
    rintro e w6 ⟨vo, vd, rfl, hvo, hvd, hg6⟩
    obtain ⟨A6, n6, c6, rfl, _⟩ := hvo.byt.form2
    obtain ⟨B6, m6, d6, rfl, _⟩ := hvd.byt.form2
    go_wp2_with (refine wpList_store_ip w _ rfl _ _ rfl rfl w6.heap.size rfl zeroP zeroP (.slice A6 n6 c6) (.slice B6 m6 d6) (.slice none 0 0) (.slice none 0 0) (by rfl) rfl rfl (Blk.new w6 zeroP (.slice none 0 0) (.slice none 0 0)) (hg6.trans (Grow.alloc _ _)) hg6.size ?_; intro w7 hk7 _ hg7)
    refine (code_any _ _ (by omega) (by omega)).mono ?_
    rintro e w' ⟨rfl, rfl⟩
    go_wp2_with fail
    refine (ipLive_any _).mono ?_
    rintro e wl ⟨rfl, hgl⟩
    go_wp2_with fail
    go_ret
    exact ⟨rfl, hg7.trans hgl⟩
  have hc0 : mcode l = 0 := by simpa using hc
  have hgd := (good_iff l).1 hc0
  have hr : res l = got l := by unfold res; rw [if_pos hc0]
  obtain ⟨hck, hlen, hol⟩ := got_check hgd
  obtain ⟨hB, hcs⟩ := got_bytes hgd
  obtain ⟨o1, o2, o3, o4, o5⟩ := check_zero hck
  have hkl : (got l).len = 20 + (got l).opts.length + (got l).data.length := rfl
  have hbl := bytes_length (got l)
  obtain ⟨g1, g2, g3, g4, g5, g6, g7, g8⟩ := hgd
  have hsm : (got l).Small := ⟨by omega, by omega⟩
  have n10 := num_lt l 10
  have hcl2 : (got l).csum < 65536 := by rcases hcs with h1 | h1 <;> omega
  have hT := byt_two_hi (A := l.take 10) (B := []) (C := (l.take (num l 2)).drop 12) (n := (got l).csum) (by simp; omega) hcl2
  rw [← hB] at hT
  obtain ⟨t10, t11⟩ := hT
  obtain ⟨b, off, rfl, hb, hcell⟩ := h.at_ (by omega)
  have celg : ∀ w', Grow w w' → ∀ i, i < l.length → w'.cell? ⟨b, off + i, none⟩ = some (.int .u8 (byt l i : Int)) := fun w' g i hi => by
    rw [g.cell (p := ⟨b, off + i, none⟩) hb, hcell i hi, byt_at hi]
  go_enter Try.func5, Try.ntmps5
  go_wp2_with fail
  refine (Get_any _ l _ h hl).mono ?_
  rw [hr, hc0]
  rintro e w6 ⟨vo, vd, rfl, hvo, hvd, hg6⟩
  have bo := hvo.byt
  have bd := hvd.byt
  obtain ⟨A6, n6, c6, rfl, _⟩ := bo.form2
  obtain ⟨B6, m6, d6, rfl, _⟩ := bd.form2
  go_wp2_with (refine wpList_store_ip w6 _ rfl _ _ rfl rfl w6.heap.size rfl (got l) zeroP (.slice A6 n6 c6) (.slice B6 m6 d6) (.slice none 0 0) (.slice none 0 0) (by rfl) rfl rfl (Blk.new w6 zeroP (.slice none 0 0) (.slice none 0 0)) (Grow.alloc _ _) (Nat.le_refl _) ?_; intro w7 hk7 _ hg7)
  refine (code_any _ _ (by omega) (by omega)).mono ?_
  rintro e w' ⟨rfl, rfl⟩
  obtain ⟨d0, d1, d2, d3, d4, d5, d6', d7, d8, d9, d10⟩ := hk7.boxd
  have hg07 := hg6.trans hg7
  go_wp2_with fail
  refine (Put_good _ (got l) _ ⟨_, _, rfl, bo.grow hg7, bd.grow hg7, by have := res_ok l; rwa [hr] at this⟩ hsm hck).mono ?_
  rintro e w8 ⟨u, rfl, ho8, hg8⟩
  obtain ⟨g, cap, rfl, hbg, hlt, hnc, hcm8, hrow⟩ := ho8.row (by omega)
  have hg08 := hg07.trans hg8
  obtain ⟨r10, f10⟩ := hrow 10 (by omega)
  obtain ⟨r11, f11⟩ := hrow 11 (by omega)
  rw [byt_at] at r10 r11
  have s10 := celg w8 hg08 10 (by omega)
  have s11 := celg w8 hg08 11 (by omega)
  rw [t10] at r10
  rw [t11] at r11
  have hNl : (got l).bytes.length = num l 2 := by rw [hbl, hlen]
  rw [hNl] at hnc ⊢
  have iN : num l 2 ≤ c := by omega
  have iN3 : 20 ≤ num l 2 := by omega
  have ho8' : Own w8 w7.heap.size (.slice (some ⟨g, 0, none⟩) (num l 2) cap) (got l).bytes := by rw [← hNl]; exact ho8
  clear hrow ho8
  obtain ⟨L, hLL⟩ : ∃ L, L = l.take (num l 2) := ⟨_, rfl⟩
  have hz8 := hg07.size
  have hbw : Byt w8 (.slice (some ⟨b, off, none⟩) (num l 2) c) L := by
    rw [hLL]
    exact (h.grow hg08).front g8
  have e10 : num l 10 = 256 * byt l 10 + byt l 11 := rfl
  have y10 := byt_lt l 10
  have y11 := byt_lt l 11
  have ht12 := take_mid l (num l 2) (by omega) (by omega)
  rw [← hLL] at ht12 hB
  unfold maxLen at hcm8
  clear hbl hkl hlen hol hck hr hNl
  rcases hcs with hcs | ⟨hcs1, hcs2⟩
  · have hBL : (got l).bytes = L := by rw [hB, hcs]; exact ht12.symm
    have hgs := hg08
    have hcw : Byt w8 (.slice (some ⟨g, 0, none⟩) (num l 2) cap) L := by rw [← hBL]; exact ho8'.byt
    rw [hcs, show num l 10 / 256 = byt l 10 by omega] at r10
    rw [hcs, show num l 10 % 256 = byt l 11 by omega] at r11
    clear e10 hB hcs hBL ht12 hLL t10 t11
    by_cases q1 : byt l 10 = 255
    · rw [q1] at s10 r10
      by_cases q2 : byt l 11 = 255
      · rw [q2] at s11 r11
        go_wp2_with fail
        refine (code_any _ _ (by omega) (by omega)).mono ?_
        rintro e w' ⟨rfl, rfl⟩
        go_wp2_with fail
        refine wp_region_loose (A := ?frameK1) (inList (isV (.slice (some ⟨g, 0, none⟩) (num l 2) cap) :: isV (strV L) :: isV (.slice (some ⟨b, off, none⟩) l.length c) :: isV (.slice (some ⟨g, 0, none⟩) (num l 2) cap) :: isV (.int .i64 (num l 2 : Nat)) :: isV (.slice (some ⟨b, off, none⟩) (num l 2) c) :: isV (strV L) :: isV (.bool true) :: isV (.bool true) :: isV (.bool true) :: isV (.bool true) :: isV (.bool true) :: [])) (by kernel_rfl) (by kernel_rfl) (inList_stays ?_) (fun x => ?frameEqK1) ?_ ?_
        case frameEqK1 => go_simp; rfl
        · intro f hf
          simp only [List.mem_cons, List.not_mem_nil, or_false] at hf
          rcases hf with rfl | rfl | rfl | rfl | rfl | rfl | rfl | rfl | rfl | rfl | rfl | rfl <;> first | exact isV_stays _ | exact isB_stays _ | exact isBs_stays _
        · refine ⟨fun x w1 hg hd post hp => ?_, fun x w1 hg hd post hp => ?_, fun x w1 hg hd post hp => ?_, fun x w1 hg hd post hp => ?_, fun x w1 hg hd post hp => ?_, fun x w1 hg hd post hp => ?_, fun x w1 hg hd post hp => ?_, fun x w1 hg hd post hp => ?_, fun x w1 hg hd post hp => ?_, fun x w1 hg hd post hp => ?_, fun x w1 hg hd post hp => ?_, fun x w1 hg hd post hp => ?_, trivial⟩
          · -- 0: slot 66: Op.move t5
            clear hd
            go_simp
            exact hp _ _ (Grow.refl _) rfl
          · -- 1: slot 67: Op.convert 25 9 t66
            have h66 : x 66 = .slice (some ⟨g, 0, none⟩) (num l 2) cap := hd 0 (by decide) _ rfl
            clear hd
            have c1 := str1 (hcw.grow hg)
            go_simp
            exact hp _ _ (Grow.refl _) rfl
          · -- 2: slot 68: Op.move t0
            clear hd
            go_simp
            exact hp _ _ (Grow.refl _) rfl
          · -- 3: slot 69: Op.move t5
            clear hd
            go_simp
            exact hp _ _ (Grow.refl _) rfl
          · -- 4: slot 70: Op.call { builtin len, args := #[t69], argTypes := #[25] }
            have h69 : x 69 = .slice (some ⟨g, 0, none⟩) (num l 2) cap := hd 3 (by decide) _ rfl
            clear hd
            go_simp
            exact hp _ _ (Grow.refl _) rfl
          · -- 5: slot 71: Op.slice 25 t68 none (some t70) none
            have h68 : x 68 = .slice (some ⟨b, off, none⟩) l.length c := hd 2 (by decide) _ rfl
            have h70 : x 70 = .int .i64 (num l 2 : Nat) := hd 4 (by decide) _ rfl
            clear hd
            go_simp
            exact hp _ _ (Grow.refl _) rfl
          · -- 6: slot 72: Op.convert 25 9 t71
            have h71 : x 71 = .slice (some ⟨b, off, none⟩) (num l 2) c := hd 5 (by decide) _ rfl
            clear hd
            have c2 := str1 (hbw.grow hg)
            go_simp
            exact hp _ _ (Grow.refl _) rfl
          · -- 7: slot 73: Op.binOp BinOp.eql 9 t67 t72 9
            have h67 : x 67 = strV L := hd 1 (by decide) _ rfl
            have h72 : x 72 = strV L := hd 6 (by decide) _ rfl
            clear hd
            unfold strV at *
            go_simp
            exact hp _ _ (Grow.refl _) (by show Value.bool _ = Value.bool true; simp)
          · -- 8: slot 74: Op.move t73
            have h73 : x 73 = .bool true := hd 7 (by decide) _ rfl
            clear hd
            go_simp
            exact hp _ _ (Grow.refl _) rfl
          · -- 9: slot 75: Op.call { value (Operand.func 10), args := #[], argTypes := #[] }
            have h74 : x 74 = .bool true := hd 8 (by decide) _ rfl
            clear hd
            go_simp
            refine (ipLive_any _).mono ?_
            rintro e w2 ⟨rfl, hg2⟩
            exact ⟨_, rfl, hp _ _ hg2 rfl⟩
          · -- 10: slot 76: Op.pick t74 t75 (const (Value.bool false))
            have h74 : x 74 = .bool true := hd 8 (by decide) _ rfl
            have h75 : x 75 = .bool true := hd 9 (by decide) _ rfl
            clear hd
            go_simp
            exact hp _ _ (Grow.refl _) rfl
          · -- 11: slot 2: Op.assign t76
            have h76 : x 76 = .bool true := hd 10 (by decide) _ rfl
            clear hd
            go_simp
            exact hp _ _ (Grow.refl _) rfl
        · intro x w1 hg hd
          have h2 : x 2 = .bool true := hd 11 _ rfl
          clear hd
          go_wp2
          go_ret
          exact ⟨by go_simp, hgs.trans hg⟩
      · have q2b : ((byt l 11 : Int) == 255) = false := by simp; omega
        go_wp2_with fail
        refine (code_any _ _ (by omega) (by omega)).mono ?_
        rintro e w' ⟨rfl, rfl⟩
        go_wp2_with fail
        refine wp_region_loose (A := ?frameK2) (inList (isV (.slice (some ⟨g, 0, none⟩) (num l 2) cap) :: isV (strV L) :: isV (.slice (some ⟨b, off, none⟩) l.length c) :: isV (.slice (some ⟨g, 0, none⟩) (num l 2) cap) :: isV (.int .i64 (num l 2 : Nat)) :: isV (.slice (some ⟨b, off, none⟩) (num l 2) c) :: isV (strV L) :: isV (.bool true) :: isV (.bool true) :: isV (.bool true) :: isV (.bool true) :: isV (.bool true) :: [])) (by kernel_rfl) (by kernel_rfl) (inList_stays ?_) (fun x => ?frameEqK2) ?_ ?_
        case frameEqK2 => go_simp; rfl
        · intro f hf
          simp only [List.mem_cons, List.not_mem_nil, or_false] at hf
          rcases hf with rfl | rfl | rfl | rfl | rfl | rfl | rfl | rfl | rfl | rfl | rfl | rfl <;> first | exact isV_stays _ | exact isB_stays _ | exact isBs_stays _
        · refine ⟨fun x w1 hg hd post hp => ?_, fun x w1 hg hd post hp => ?_, fun x w1 hg hd post hp => ?_, fun x w1 hg hd post hp => ?_, fun x w1 hg hd post hp => ?_, fun x w1 hg hd post hp => ?_, fun x w1 hg hd post hp => ?_, fun x w1 hg hd post hp => ?_, fun x w1 hg hd post hp => ?_, fun x w1 hg hd post hp => ?_, fun x w1 hg hd post hp => ?_, fun x w1 hg hd post hp => ?_, trivial⟩
          · -- 0: slot 66: Op.move t5
            clear hd
            go_simp
            exact hp _ _ (Grow.refl _) rfl
          · -- 1: slot 67: Op.convert 25 9 t66
            have h66 : x 66 = .slice (some ⟨g, 0, none⟩) (num l 2) cap := hd 0 (by decide) _ rfl
            clear hd
            have c1 := str1 (hcw.grow hg)
            go_simp
            exact hp _ _ (Grow.refl _) rfl
          · -- 2: slot 68: Op.move t0
            clear hd
            go_simp
            exact hp _ _ (Grow.refl _) rfl
          · -- 3: slot 69: Op.move t5
            clear hd
            go_simp
            exact hp _ _ (Grow.refl _) rfl
          · -- 4: slot 70: Op.call { builtin len, args := #[t69], argTypes := #[25] }
            have h69 : x 69 = .slice (some ⟨g, 0, none⟩) (num l 2) cap := hd 3 (by decide) _ rfl
            clear hd
            go_simp
            exact hp _ _ (Grow.refl _) rfl
          · -- 5: slot 71: Op.slice 25 t68 none (some t70) none
            have h68 : x 68 = .slice (some ⟨b, off, none⟩) l.length c := hd 2 (by decide) _ rfl
            have h70 : x 70 = .int .i64 (num l 2 : Nat) := hd 4 (by decide) _ rfl
            clear hd
            go_simp
            exact hp _ _ (Grow.refl _) rfl
          · -- 6: slot 72: Op.convert 25 9 t71
            have h71 : x 71 = .slice (some ⟨b, off, none⟩) (num l 2) c := hd 5 (by decide) _ rfl
            clear hd
            have c2 := str1 (hbw.grow hg)
            go_simp
            exact hp _ _ (Grow.refl _) rfl
          · -- 7: slot 73: Op.binOp BinOp.eql 9 t67 t72 9
            have h67 : x 67 = strV L := hd 1 (by decide) _ rfl
            have h72 : x 72 = strV L := hd 6 (by decide) _ rfl
            clear hd
            unfold strV at *
            go_simp
            exact hp _ _ (Grow.refl _) (by show Value.bool _ = Value.bool true; simp)
          · -- 8: slot 74: Op.move t73
            have h73 : x 73 = .bool true := hd 7 (by decide) _ rfl
            clear hd
            go_simp
            exact hp _ _ (Grow.refl _) rfl
          · -- 9: slot 75: Op.call { value (Operand.func 10), args := #[], argTypes := #[] }
            have h74 : x 74 = .bool true := hd 8 (by decide) _ rfl
            clear hd
            go_simp
            refine (ipLive_any _).mono ?_
            rintro e w2 ⟨rfl, hg2⟩
            exact ⟨_, rfl, hp _ _ hg2 rfl⟩
          · -- 10: slot 76: Op.pick t74 t75 (const (Value.bool false))
            have h74 : x 74 = .bool true := hd 8 (by decide) _ rfl
            have h75 : x 75 = .bool true := hd 9 (by decide) _ rfl
            clear hd
            go_simp
            exact hp _ _ (Grow.refl _) rfl
          · -- 11: slot 2: Op.assign t76
            have h76 : x 76 = .bool true := hd 10 (by decide) _ rfl
            clear hd
            go_simp
            exact hp _ _ (Grow.refl _) rfl
        · intro x w1 hg hd
          have h2 : x 2 = .bool true := hd 11 _ rfl
          clear hd
          go_wp2
          go_ret
          exact ⟨by go_simp, hgs.trans hg⟩
    · have q1b : ((byt l 10 : Int) == 255) = false := by simp; omega
      go_wp2_with fail
      refine (code_any _ _ (by omega) (by omega)).mono ?_
      rintro e w' ⟨rfl, rfl⟩
      go_wp2_with fail
      refine wp_region_loose (A := ?frameK3) (inList (isV (.slice (some ⟨g, 0, none⟩) (num l 2) cap) :: isV (strV L) :: isV (.slice (some ⟨b, off, none⟩) l.length c) :: isV (.slice (some ⟨g, 0, none⟩) (num l 2) cap) :: isV (.int .i64 (num l 2 : Nat)) :: isV (.slice (some ⟨b, off, none⟩) (num l 2) c) :: isV (strV L) :: isV (.bool true) :: isV (.bool true) :: isV (.bool true) :: isV (.bool true) :: isV (.bool true) :: [])) (by kernel_rfl) (by kernel_rfl) (inList_stays ?_) (fun x => ?frameEqK3) ?_ ?_
      case frameEqK3 => go_simp; rfl
      · intro f hf
        simp only [List.mem_cons, List.not_mem_nil, or_false] at hf
        rcases hf with rfl | rfl | rfl | rfl | rfl | rfl | rfl | rfl | rfl | rfl | rfl | rfl <;> first | exact isV_stays _ | exact isB_stays _ | exact isBs_stays _
      · refine ⟨fun x w1 hg hd post hp => ?_, fun x w1 hg hd post hp => ?_, fun x w1 hg hd post hp => ?_, fun x w1 hg hd post hp => ?_, fun x w1 hg hd post hp => ?_, fun x w1 hg hd post hp => ?_, fun x w1 hg hd post hp => ?_, fun x w1 hg hd post hp => ?_, fun x w1 hg hd post hp => ?_, fun x w1 hg hd post hp => ?_, fun x w1 hg hd post hp => ?_, fun x w1 hg hd post hp => ?_, trivial⟩
        · -- 0: slot 66: Op.move t5
          clear hd
          go_simp
          exact hp _ _ (Grow.refl _) rfl
        · -- 1: slot 67: Op.convert 25 9 t66
          have h66 : x 66 = .slice (some ⟨g, 0, none⟩) (num l 2) cap := hd 0 (by decide) _ rfl
          clear hd
          have c1 := str1 (hcw.grow hg)
          go_simp
          exact hp _ _ (Grow.refl _) rfl
        · -- 2: slot 68: Op.move t0
          clear hd
          go_simp
          exact hp _ _ (Grow.refl _) rfl
        · -- 3: slot 69: Op.move t5
          clear hd
          go_simp
          exact hp _ _ (Grow.refl _) rfl
        · -- 4: slot 70: Op.call { builtin len, args := #[t69], argTypes := #[25] }
          have h69 : x 69 = .slice (some ⟨g, 0, none⟩) (num l 2) cap := hd 3 (by decide) _ rfl
          clear hd
          go_simp
          exact hp _ _ (Grow.refl _) rfl
        · -- 5: slot 71: Op.slice 25 t68 none (some t70) none
          have h68 : x 68 = .slice (some ⟨b, off, none⟩) l.length c := hd 2 (by decide) _ rfl
          have h70 : x 70 = .int .i64 (num l 2 : Nat) := hd 4 (by decide) _ rfl
          clear hd
          go_simp
          exact hp _ _ (Grow.refl _) rfl
        · -- 6: slot 72: Op.convert 25 9 t71
          have h71 : x 71 = .slice (some ⟨b, off, none⟩) (num l 2) c := hd 5 (by decide) _ rfl
          clear hd
          have c2 := str1 (hbw.grow hg)
          go_simp
          exact hp _ _ (Grow.refl _) rfl
        · -- 7: slot 73: Op.binOp BinOp.eql 9 t67 t72 9
          have h67 : x 67 = strV L := hd 1 (by decide) _ rfl
          have h72 : x 72 = strV L := hd 6 (by decide) _ rfl
          clear hd
          unfold strV at *
          go_simp
          exact hp _ _ (Grow.refl _) (by show Value.bool _ = Value.bool true; simp)
        · -- 8: slot 74: Op.move t73
          have h73 : x 73 = .bool true := hd 7 (by decide) _ rfl
          clear hd
          go_simp
          exact hp _ _ (Grow.refl _) rfl
        · -- 9: slot 75: Op.call { value (Operand.func 10), args := #[], argTypes := #[] }
          have h74 : x 74 = .bool true := hd 8 (by decide) _ rfl
          clear hd
          go_simp
          refine (ipLive_any _).mono ?_
          rintro e w2 ⟨rfl, hg2⟩
          exact ⟨_, rfl, hp _ _ hg2 rfl⟩
        · -- 10: slot 76: Op.pick t74 t75 (const (Value.bool false))
          have h74 : x 74 = .bool true := hd 8 (by decide) _ rfl
          have h75 : x 75 = .bool true := hd 9 (by decide) _ rfl
          clear hd
          go_simp
          exact hp _ _ (Grow.refl _) rfl
        · -- 11: slot 2: Op.assign t76
          have h76 : x 76 = .bool true := hd 10 (by decide) _ rfl
          clear hd
          go_simp
          exact hp _ _ (Grow.refl _) rfl
      · intro x w1 hg hd
        have h2 : x 2 = .bool true := hd 11 _ rfl
        clear hd
        go_wp2
        go_ret
        exact ⟨by go_simp, hgs.trans hg⟩
  · rw [hcs2] at r10 r11
    rw [show byt l 10 = 255 by omega] at s10
    rw [show byt l 11 = 255 by omega] at s11
    have hBL : ((got l).bytes.set 10 255).set 11 255 = L := by
      rw [hB, hcs2]
      conv => rhs; rw [ht12, hcs1]
      have hA : (l.take 10).length = 10 := by simp; omega
      rw [show two ((0 : Nat) : Int) = [0, 0] from rfl, show two ((65535 : Nat) : Int) = [255, 255] from rfl]
      generalize l.take 10 = A' at *
      match A', hA with
      | [a0, a1, a2, a3, a4, a5, a6, a7, a8, a9], _ => rfl
    have ho9 := (ho8'.set 10 255 255 rfl).set 11 255 255 rfl
    rw [hBL] at ho9
    have hg09 := (hg08.setCell (p := ⟨g, 10, none⟩) (show w.heap.size ≤ g by omega) (.int .u8 255)).setCell (p := ⟨g, 11, none⟩) (show w.heap.size ≤ g by omega) (.int .u8 255)
    clear e10 hB hcs1 hcs2 hBL ht12 t10 t11
    go_wp2_with fail
    refine (code_any _ _ (by omega) (by omega)).mono ?_
    rintro e w' ⟨rfl, rfl⟩
    go_wp2_with fail
    have hgs : Grow w _ := hg09
    have hcw := ho9.byt
    have hbw2 : Byt ((w8.setCell ⟨g, 10, none⟩ (.int .u8 255)).setCell ⟨g, 11, none⟩ (.int .u8 255)) (.slice (some ⟨b, off, none⟩) (num l 2) c) L := by
      rw [hLL]
      exact (h.grow hg09).front g8
    clear hbw hLL
    have hbw := hbw2
    refine wp_region_loose (A := ?frameK4) (inList (isV (.slice (some ⟨g, 0, none⟩) (num l 2) cap) :: isV (strV L) :: isV (.slice (some ⟨b, off, none⟩) l.length c) :: isV (.slice (some ⟨g, 0, none⟩) (num l 2) cap) :: isV (.int .i64 (num l 2 : Nat)) :: isV (.slice (some ⟨b, off, none⟩) (num l 2) c) :: isV (strV L) :: isV (.bool true) :: isV (.bool true) :: isV (.bool true) :: isV (.bool true) :: isV (.bool true) :: [])) (by kernel_rfl) (by kernel_rfl) (inList_stays ?_) (fun x => ?frameEqK4) ?_ ?_
    case frameEqK4 => go_simp; rfl
    · intro f hf
      simp only [List.mem_cons, List.not_mem_nil, or_false] at hf
      rcases hf with rfl | rfl | rfl | rfl | rfl | rfl | rfl | rfl | rfl | rfl | rfl | rfl <;> first | exact isV_stays _ | exact isB_stays _ | exact isBs_stays _
    · refine ⟨fun x w1 hg hd post hp => ?_, fun x w1 hg hd post hp => ?_, fun x w1 hg hd post hp => ?_, fun x w1 hg hd post hp => ?_, fun x w1 hg hd post hp => ?_, fun x w1 hg hd post hp => ?_, fun x w1 hg hd post hp => ?_, fun x w1 hg hd post hp => ?_, fun x w1 hg hd post hp => ?_, fun x w1 hg hd post hp => ?_, fun x w1 hg hd post hp => ?_, fun x w1 hg hd post hp => ?_, trivial⟩
      · -- 0: slot 66: Op.move t5
        clear hd
        go_simp
        exact hp _ _ (Grow.refl _) rfl
      · -- 1: slot 67: Op.convert 25 9 t66
        have h66 : x 66 = .slice (some ⟨g, 0, none⟩) (num l 2) cap := hd 0 (by decide) _ rfl
        clear hd
        have c1 := str1 (hcw.grow hg)
        go_simp
        exact hp _ _ (Grow.refl _) rfl
      · -- 2: slot 68: Op.move t0
        clear hd
        go_simp
        exact hp _ _ (Grow.refl _) rfl
      · -- 3: slot 69: Op.move t5
        clear hd
        go_simp
        exact hp _ _ (Grow.refl _) rfl
      · -- 4: slot 70: Op.call { builtin len, args := #[t69], argTypes := #[25] }
        have h69 : x 69 = .slice (some ⟨g, 0, none⟩) (num l 2) cap := hd 3 (by decide) _ rfl
        clear hd
        go_simp
        exact hp _ _ (Grow.refl _) rfl
      · -- 5: slot 71: Op.slice 25 t68 none (some t70) none
        have h68 : x 68 = .slice (some ⟨b, off, none⟩) l.length c := hd 2 (by decide) _ rfl
        have h70 : x 70 = .int .i64 (num l 2 : Nat) := hd 4 (by decide) _ rfl
        clear hd
        go_simp
        exact hp _ _ (Grow.refl _) rfl
      · -- 6: slot 72: Op.convert 25 9 t71
        have h71 : x 71 = .slice (some ⟨b, off, none⟩) (num l 2) c := hd 5 (by decide) _ rfl
        clear hd
        have c2 := str1 (hbw.grow hg)
        go_simp
        exact hp _ _ (Grow.refl _) rfl
      · -- 7: slot 73: Op.binOp BinOp.eql 9 t67 t72 9
        have h67 : x 67 = strV L := hd 1 (by decide) _ rfl
        have h72 : x 72 = strV L := hd 6 (by decide) _ rfl
        clear hd
        unfold strV at *
        go_simp
        exact hp _ _ (Grow.refl _) (by show Value.bool _ = Value.bool true; simp)
      · -- 8: slot 74: Op.move t73
        have h73 : x 73 = .bool true := hd 7 (by decide) _ rfl
        clear hd
        go_simp
        exact hp _ _ (Grow.refl _) rfl
      · -- 9: slot 75: Op.call { value (Operand.func 10), args := #[], argTypes := #[] }
        have h74 : x 74 = .bool true := hd 8 (by decide) _ rfl
        clear hd
        go_simp
        refine (ipLive_any _).mono ?_
        rintro e w2 ⟨rfl, hg2⟩
        exact ⟨_, rfl, hp _ _ hg2 rfl⟩
      · -- 10: slot 76: Op.pick t74 t75 (const (Value.bool false))
        have h74 : x 74 = .bool true := hd 8 (by decide) _ rfl
        have h75 : x 75 = .bool true := hd 9 (by decide) _ rfl
        clear hd
        go_simp
        exact hp _ _ (Grow.refl _) rfl
      · -- 11: slot 2: Op.assign t76
        have h76 : x 76 = .bool true := hd 10 (by decide) _ rfl
        clear hd
        go_simp
        exact hp _ _ (Grow.refl _) rfl
    · intro x w1 hg hd
      have h2 : x 2 = .bool true := hd 11 _ rfl
      clear hd
      go_wp2
      go_ret
      exact ⟨by go_simp, hgs.trans hg⟩
end Go.Proofs.Ytmibeahofienjaa
