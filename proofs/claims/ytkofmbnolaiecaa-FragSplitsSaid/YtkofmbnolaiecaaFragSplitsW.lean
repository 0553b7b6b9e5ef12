/- The walk of FragSplits. -/
import Derived.Test.YtkofmbnolaiecaaFrFlip
namespace Go.Proofs.Ytkofmbnolaiecaa
set_option linter.unusedVariables false
set_option linter.unusedSimpArgs false
open Go.ChangeShapes Go.WideShapes Go.ChangeAt Go.RowKit

set_option maxRecDepth 10000 in
set_option maxHeartbeats 8000000 in
theorem fragSplits_walk (w : World) {v : Value} {k : Pkt} (h : Ip w v k) (mtu : Int) (hm : -9223372036854775808 ≤ mtu ∧ mtu ≤ 9223372036854775807) :
    Calls Try.prog 3 #[v, .int .i64 mtu] w fun e w' => e = .returned (.bool true) ∧ Grow w w' := by
  obtain ⟨hm1, hm2⟩ := hm
  obtain ⟨A, c, B, d, rfl, ho, hd, hk⟩ := h.form
  obtain ⟨W1, hW1⟩ : ∃ W1, W1 = w.alloc (.cells #[.int .u8 (k.tos : Int), .int .u16 (k.ident : Int), .bool k.whole, .bool k.more, .int .i64 k.off, .int .u8 (k.ttl : Int), .int .u8 (k.proto : Int), .int .u32 (k.src : Int), .int .u32 (k.dst : Int), .slice A k.opts.length c, .slice B k.data.length d] 27) := ⟨_, rfl⟩
  have hg1 : Grow w W1 := by rw [hW1]; exact Grow.alloc w _
  have hB1 : Blk W1 w.heap.size k (.slice A k.opts.length c) (.slice B k.data.length d) := by rw [hW1]; exact Blk.new _ _ _ _
  have hip := h.grow hg1
  have T := Lib.hid (And.intro hg1 (And.intro hB1 (And.intro hip (And.intro (hd.grow hg1) hk))))
  have cV := fragLive_any
  have cLg := Long_any _ k W1 hip
  clear hg1 hB1 hip h ho hd hk
  go_enter Try.func3, Try.ntmps3
  go_wp2_with fail
  rw [← hW1]
  clear hW1
  refine cLg.mono ?_
  rintro e w2 ⟨rfl, hg2⟩
  by_cases hL : 100 < k.opts.length ∨ 70000 < k.data.length
  · rw [decide_eq_true hL]
    go_wp2_with fail
    refine (cV _).mono ?_
    rintro e wl ⟨rfl, hgl⟩
    go_wp2_with fail
    go_ret
    exact ⟨rfl, (T.out.1.trans hg2).trans hgl⟩
  rw [decide_eq_false hL]
  have hsm : k.Small := ⟨by omega, by omega⟩
  have hcr := fcodeS_in k mtu
  have G2 := Lib.hid hg2
  have cC := fun w => fragCode_any (fcodeS k mtu) w (by omega) (by omega)
  obtain ⟨b0, b1, b2, b3, b4, b5, b6, b7, b8, b9, b10⟩ := (T.out.2.1.grow hg2).boxd
  have s1 := str1 (T.out.2.2.2.1.grow hg2)
  unfold strV at s1
  clear cLg hg2 hL
  go_wp2_with fail
  refine (Split_any _ k mtu w2 (T.out.2.2.1.grow G2.out) hsm hm1 hm2).mono ?_
  rintro e w3 ⟨u, l, rfl, hl, hrow, hmine, hg3⟩
  obtain ⟨A3, c3, rfl, hlc3, hcm3⟩ := hrow.ips.form
  have hll : l.length = (flist k mtu).length := by rw [← hl, List.length_map]
  have F3 : Hid (Flip w2 (.slice A3 l.length c3) l w3) := ⟨hrow, fun q hq => ⟨q.k.data, (hmine q hq).2.1, rfl⟩, hg3⟩
  have M3 := Lib.hid (And.intro hl (And.intro hrow (And.intro hmine hg3)))
  clear b0 b1 b2 b3 b4 b5 b6 b7 b8 b9 b10 s1
  obtain ⟨b0, b1, b2, b3, b4, b5, b6, b7, b8, b9, b10⟩ := (T.out.2.1.grow (G2.out.trans hg3)).boxd
  have HLL := Lib.hid hll
  clear hl hrow hmine hg3 hll
  go_wp2_with fail
  refine (RSplit_any _ k mtu w3 (T.out.2.2.1.grow (G2.out.trans M3.out.2.2.2)) hsm hm1 hm2).mono ?_
  rintro e w4 ⟨u4, rfl, hl4, hg4⟩
  obtain ⟨A4, c4, rfl, hlc4, hcm4⟩ := hl4.form
  have hfl : (flist k mtu).length = l.length := HLL.out.symm
  rw [hfl] at hl4 hlc4 ⊢
  have P4 := Lib.hid (And.intro hl4 hg4)
  clear b0 b1 b2 b3 b4 b5 b6 b7 b8 b9 b10
  obtain ⟨b0, b1, b2, b3, b4, b5, b6, b7, b8, b9, b10⟩ := (T.out.2.1.grow ((G2.out.trans M3.out.2.2.2).trans hg4)).boxd
  clear hl4 hg4 hfl
  go_wp2_with fail
  refine (Many_any _ k mtu w4 (T.out.2.2.1.grow ((G2.out.trans M3.out.2.2.2).trans P4.out.2)) hsm hm1 hm2).mono ?_
  rw [← HLL.out]
  rintro e w5 ⟨rfl, hg5⟩
  have P5 := Lib.hid (P4.out.2.trans hg5)
  have cS := RSame11_any (flist k mtu) _ _ w5 ((Psl.of_mine M3.out.1 M3.out.2.1 M3.out.2.2.1).grow P5.out) (P4.out.1.grow hg5)
  clear b0 b1 b2 b3 b4 b5 b6 b7 b8 b9 b10 hg5
  go_wp2_with fail
  refine cS.mono ?_
  rintro e w6 ⟨rfl, hg6⟩
  have P6 := Lib.hid (P5.out.trans hg6)
  clear cS hg6
  go_wp2_with fail
  refine (cC _).mono ?_
  rintro e w' ⟨rfl, rfl⟩
  go_wp2_with fail
  refine (cC _).mono ?_
  rintro e w' ⟨rfl, rfl⟩
  have F6 := Lib.hid (F3.out.more P6.out)
  clear F3
  go_wp2_with fail
  go_loopg [12] l.length (fun g s12 wr => ∃ i : Nat, i ≤ l.length ∧ g = l.length - i ∧ s12 = .int .i64 (i : Int) ∧ Flip w2 (.slice A3 l.length c3) l wr)
  case atStart => exact ⟨0, Nat.zero_le _, rfl, rfl, F6.out⟩
  case round =>
    obtain ⟨i, hi, rfl, rfl, hF⟩ := hrel
    rcases Nat.lt_or_ge i l.length with hlt | hge
    · obtain ⟨ga, cap, hv, hcap, hcm, hgb, hgl, hat⟩ := hF.row.at_ (by omega)
      cases hv
      obtain ⟨bs, hbs, hbl⟩ := hF.data _ (List.getElem_mem hlt)
      obtain ⟨Ad, nd, cd, hvd, hnd⟩ := hbs.byt.form2
      have hn1 : ∃ x, l[i].vd = x ∧ Byt wr x bs := ⟨_, rfl, hbs.byt⟩
      obtain ⟨_, _, _, _, _, _, _, _, _, _, x10⟩ := hat i hlt
      have hnd' : nd = (l[i]'hlt).k.data.length := hnd.out.trans hbl
      have HQ := Lib.hid (And.intro hvd (And.intro hnd' hlt))
      obtain ⟨_, hx1, hx2⟩ := hn1
      rw [hvd] at x10 hx1
      subst hx1
      obtain ⟨hn2, hn3⟩ := hx2.len.2
      unfold maxLen at hn3 hcm
      have HF := Lib.hid hF
      have hltI : (i : Int) < (l.length : Int) := by omega
      clear hbs hbl hnd hat hF hvd hnd' F6 hx2
      generalize wr = wo at *
      go_wp2_with fail
      go_loopg [13] nd (fun g s13 wr => ∃ j : Nat, j ≤ nd ∧ g = nd - j ∧ s13 = .int .i64 (j : Int) ∧ Flip w2 (.slice (some ⟨ga, 0, none⟩) l.length c3) l wr)
      case atStart => exact ⟨0, Nat.zero_le _, rfl, rfl, HF.out⟩
      case round =>
        obtain ⟨j, hj, rfl, rfl, hF⟩ := hrel
        have x10' : ∃ g' cap', Value.slice (some ⟨ga, 0, none⟩) l.length c3 = .slice (some ⟨g', 0, none⟩) l.length cap' ∧ PkAt wr g' (i * 11) (l[i]'HQ.out.2.2) := by
          obtain ⟨g', cap', hv, _, _, _, _, hat⟩ := hF.row.at_ (by omega)
          exact ⟨g', cap', hv, hat i HQ.out.2.2⟩
        obtain ⟨g', cap', hv, hat⟩ := x10'
        injection hv with hv1 hv2 hv3
        injection hv1 with hv1
        injection hv1 with hv1
        subst hv1 hv3
        obtain ⟨_, _, _, _, _, _, _, _, _, _, z10⟩ := hat
        rw [HQ.out.1] at z10
        clear x10 hv2
        rcases Nat.lt_or_ge j nd with hjl | hjg
        · obtain ⟨bs, hbs, hbl⟩ := hF.data _ (List.getElem_mem HQ.out.2.2)
          rw [HQ.out.1] at hbs
          have hbl' : bs.length = nd := hbl.trans HQ.out.2.1.symm
          obtain ⟨gd, capd, hvd, _, hgdl, _, _, hcells⟩ := hbs.row (by omega)
          injection hvd with e1 e2 e3
          subst e1 e3
          obtain ⟨y0, yf⟩ := hcells j (by omega)
          obtain ⟨bb, hbb⟩ : ∃ bb, bb = (bs[j]'(by omega)).toNat := ⟨_, rfl⟩
          have hb256 : bb < 256 := by rw [hbb]; exact (bs[j]'(by omega)).toNat_lt
          rw [← hbb] at y0
          have K255 := xorByte bb 255 hb256 (by decide)
          have hN256 : bb ^^^ 255 < 2 ^ 8 := Nat.xor_lt_two_pow hb256 (by decide)
          obtain ⟨NB, hNB⟩ : ∃ NB, NB = bb ^^^ 255 := ⟨_, rfl⟩
          rw [← hNB] at K255 hN256
          have K255' : bits .xor .u8 (bb : Int) 255 = (NB : Int) := K255
          have NEXT : Hid (Flip w2 (.slice (some ⟨ga, 0, none⟩) l.length c3) l (wr.setCell ⟨gd, j, none⟩ (.int .u8 (NB : Int)))) := hF.poke hbs j (UInt8.ofNat NB) _ (by rw [UInt8.toNat_ofNat']; omega)
          have hjI : (j : Int) < (nd : Int) := by omega
          clear hF hbs hbl hbl' hcells hbb hNB hN256 K255 e2
          go_wp2_with fail
          go_region
          all_goals
            go_wp2_with fail
            go_roundg (nd - (j + 1))
            case measure => omega
            case rel => exact ⟨j + 1, by omega, rfl, by go_num, by first | exact NEXT.out | exact NEXT.out.more (Grow.drew _)⟩
        · have hje : j = nd := by omega
          have HF2 := Lib.hid hF
          have djn : decide (j < nd) = false := decide_eq_false (by omega)
          clear hF hje
          go_wp2_with fail
          go_roundg (l.length - (i + 1))
          case measure => omega
          case rel => exact ⟨i + 1, by omega, rfl, by go_num, HF2.out⟩
    · have hie : i = l.length := by omega
      subst hie
      have G7 := Lib.hid (G2.out.trans hF.grow)
      obtain ⟨b0, b1, b2, b3, b4, b5, b6, b7, b8, b9, b10⟩ := (T.out.2.1.grow (G2.out.trans hF.grow)).boxd
      have s1 := str1 (T.out.2.2.2.1.grow (G2.out.trans hF.grow))
      unfold strV at s1
      clear hF
      go_wp2_with fail
      refine (cV _).mono ?_
      rintro e wl ⟨rfl, hgl⟩
      go_wp2_with fail
      go_ret
      exact ⟨rfl, (T.out.1.trans G7.out).trans hgl⟩
end Go.Proofs.Ytkofmbnolaiecaa
