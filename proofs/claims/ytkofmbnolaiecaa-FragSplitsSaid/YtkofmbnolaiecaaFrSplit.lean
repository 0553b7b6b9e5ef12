/- Contract: Split. -/
import Derived.Test.YtkofmbnolaiecaaFrSpl
namespace Go.Proofs.Ytkofmbnolaiecaa
set_option linter.unusedVariables false
set_option linter.unusedSimpArgs false
open Go.ChangeShapes Go.WideShapes Go.ChangeAt Go.RowKit

set_option maxRecDepth 10000 in
set_option maxHeartbeats 8000000 in
theorem Split_any (v : Value) (k : Pkt) (mtu : Int) (w : World) (h : Ip w v k) (hs : k.Small) (hm1 : -9223372036854775808 ≤ mtu) (hm2 : mtu ≤ 9223372036854775807) :
    Calls Try.prog 8 #[v, .int .i64 mtu] w (Splitted w k mtu) := by
  obtain ⟨A, ca, B, cb, rfl, ho, hd, hk⟩ := h.form
  have hsm := hs
  obtain ⟨hs1, hs2⟩ := hs
  obtain ⟨W1, hW1⟩ : ∃ W1, W1 = w.alloc (.cells #[.int .u8 (k.tos : Int), .int .u16 (k.ident : Int), .bool k.whole, .bool k.more, .int .i64 k.off, .int .u8 (k.ttl : Int), .int .u8 (k.proto : Int), .int .u32 (k.src : Int), .int .u32 (k.dst : Int), .slice A k.opts.length ca, .slice B k.data.length cb] 27) := ⟨_, rfl⟩
  have hg1 : Grow w W1 := by rw [hW1]; exact Grow.alloc _ _
  have hB : Blk W1 w.heap.size k (.slice A k.opts.length ca) (.slice B k.data.length cb) := by rw [hW1]; exact Blk.new _ _ _ _
  have hip : Ip W1 (ipV k (.slice A k.opts.length ca) (.slice B k.data.length cb)) k := h.grow hg1
  have T := Lib.hid (And.intro hg1 (And.intro hB (And.intro (ho.grow hg1) (hd.grow hg1))))
  have cF := further_any _ k mtu W1 hip hsm hm1 hm2
  have hy := fwhy_in k mtu
  clear hB hip hg1 ho hd h
  by_cases hw : fwhy k mtu ≠ 0
  · obtain ⟨e1, e2⟩ := fsplit_why hw
    have E := Lib.hid (And.intro e1 e2)
    have d0 : (fwhy k mtu != 0) = true := by simpa using hw
    clear e1 e2 hw
    go_enter Try.func8, Try.ntmps8
    go_wp2_with fail
    go_step3
    go_wp2_with fail
    rw [← hW1]
    refine cF.mono ?_
    rintro e w2 ⟨c, u, rfl, hu, _, _, hg2⟩
    go_wp2_with fail
    try rw [Exit.noGoto_ret]
    go_ret2
    exact Splitted.fail E.out.1 E.out.2 (T.out.1.trans hg2)
  have hw0 : fwhy k mtu = 0 := by simpa using hw
  obtain ⟨hck, hmt1, hmt2⟩ := fwhy_ok hw0
  obtain ⟨ck0, ck1, ck2, ck3⟩ := Pkt.check_ok hck
  obtain ⟨m, rfl⟩ := Int.eq_ofNat_of_zero_le (show 0 ≤ mtu by omega)
  have hm68 : 68 ≤ m := by omega
  have hm65 : m ≤ 65535 := by omega
  have hkd : k.data.length ≤ 65535 := by unfold Pkt.len at ck3; omega
  have HR := Lib.hid (fun (h : fgo k (m : Int) = none) => fsplit_none hw0 h)
  have HS := Lib.hid (fun l (h : fgo k (m : Int) = some l) => fsplit_some hw0 h)
  have HW := Lib.hid hw0
  have d0 : (fwhy k (m : Int) != 0) = false := by rw [hw0]; rfl
  have HK := Lib.hid (And.intro ck0 (And.intro ck1 (And.intro ck2 (And.intro hkd hk))))
  clear hw hw0 hck hmt1 hmt2 ck0 ck1 ck2 ck3 hkd hk
  go_enter Try.func8, Try.ntmps8
  go_wp2_with fail
  go_step3
  go_wp2_with fail
  rw [← hW1]
  refine cF.mono ?_
  rintro e w2 ⟨c, u, rfl, hu, hcc, hc40, hg2⟩
  clear hW1 cF
  obtain ⟨Au, nu, cu, rfl, hnu⟩ := hu.form2
  have HU := Lib.hid (And.intro hu (hcc HW.out))
  have HG2 := Lib.hid hg2
  obtain ⟨b0, b1, b2, b3, b4, b5, b6, b7, b8, b9, b10⟩ := (T.out.2.1.grow hg2).boxd
  clear hu hcc hg2
  go_wp2_with (show wpList _ _ _ (⟨none, .store 27 (.tmp 9) (.tmp 20), _, _, _, _⟩ :: _) _ _; refine wpList_store_ip w2 _ rfl _ _ rfl rfl w2.heap.size rfl k zeroPk (.slice A k.opts.length ca) (.slice B k.data.length cb) (.slice none 0 0) (.slice none 0 0) rfl rfl rfl (Blk.new w2 zeroPk (.slice none 0 0) (.slice none 0 0)) (Grow.alloc w2 _) (Nat.le_refl _) ?_; intro w4 hk4 hbut4 hg4; have H4 := Lib.hid (And.intro hk4 hg4); clear hk4 hbut4 hg4)
  clear b0 b1 b2 b3 b4 b5 b6 b7 b8 b9 b10
  go_step3
  go_wp2_with fail
  go_loopg [8] (k.data.length + 1) (fun g s8 wr => ∃ (acc : List Pk) (r : Pkt) (vo vd : Value) (f : Nat), g = f ∧ Spl w2 c m (fgo k (m : Int)) s8 acc r vo vd f wr)
  case atStart =>
    refine ⟨[], k, _, _, _, rfl, ⟨Iprow.nil _ _, fun q hq => by simp at hq, H4.out.1, T.out.2.2.1.grow HG2.out, T.out.2.2.2.grow HG2.out, HK.out.2.2.2.2, ?_, Nat.lt_succ_self _, HK.out.2.2.1, ?_, HK.out.1, ?_, H4.out.2⟩⟩
    · have e : (k.len : Int) ≤ (m : Int) ∨ c = fcar k.opts := HU.out.2
      rw [fpieces_len (c := fcar k.opts) (by rcases e with e | e; exact .inl (by omega); exact .inr e)]
      show fpieces (fcar k.opts) m (k.data.length + 1) k = _
      cases fpieces (fcar k.opts) m (k.data.length + 1) k <;> simp
    · have := HK.out.2.2.2.1
      simp; omega
    · have := HK.out.2.2.2.1
      have := HK.out.2.1
      omega
  case round =>
    obtain ⟨acc, r, vo, vd, f, rfl, row, mine, blk, ro, rd, ok, goes, small, ol, dl, off0, off1, grow⟩ := hrel
    clear H4
    obtain ⟨A1, c1, rfl, hc1, hcm1⟩ := ro.form
    obtain ⟨B1, d1, rfl, hd1, hdm1⟩ := rd.form
    obtain ⟨f, rfl⟩ : ∃ j, gk = j + 1 := ⟨gk - 1, by omega⟩
    rw [fpieces] at goes
    have hgw : Hid (Grow w w2) := T.out.1.trans HG2.out
    have hlt : w2.heap.size < wr.heap.size := blk.lt
    by_cases hoff : 8191 < r.off
    · rw [if_pos hoff] at goes
      have E := Lib.hid (HR.out goes)
      have G := Lib.hid grow
      obtain ⟨b0, b1, b2, b3, b4, b5, b6, b7, b8, b9, b10⟩ := blk.boxd
      clear goes row mine ro rd grow blk HS HR
      go_wp2_with fail
      try rw [Exit.noGoto_ret]
      go_ret2
      exact Splitted.fail E.out.1 E.out.2 (hgw.out.trans G.out)
    rw [if_neg hoff] at goes
    have hrs : r.Small := ⟨by omega, by omega⟩
    have hip : Ip wr (ipV r (.slice A1 r.opts.length c1) (.slice B1 r.data.length d1)) r := ⟨_, _, rfl, ro.grow grow, rd.grow grow, ok⟩
    have cL := Len_any _ r wr hip hrs
    have hlen : r.len ≤ 65636 := by unfold Pkt.len; omega
    by_cases hfit : r.len ≤ m
    · rw [if_pos hfit] at goes
      have E := Lib.hid (HS.out (acc.map Pk.k ++ [r]) (by rw [goes]; rfl))
      obtain ⟨b0, b1, b2, b3, b4, b5, b6, b7, b8, b9, b10⟩ := blk.boxd
      have K := Lib.hid (And.intro row (And.intro mine (And.intro blk grow)))
      have hal := Lib.hid dl
      have hip2 := Lib.hid (And.intro hip ok)
      clear goes row mine ro rd grow blk HS HR hip ok
      go_wp2_with fail
      refine cL.mono ?_
      rintro e w5 ⟨rfl, hg5⟩
      clear b0 b1 b2 b3 b4 b5 b6 b7 b8 b9 b10
      obtain ⟨b0, b1, b2, b3, b4, b5, b6, b7, b8, b9, b10⟩ := (K.out.2.2.1.grow hg5).boxd
      have G5 := Lib.hid hg5
      have cO := own_any _ r w5 (hip2.out.1.grow hg5) hrs
      clear cL hg5
      go_wp2_with fail
      refine cO.mono ?_
      rintro e w6 ⟨vo6, vd6, rfl, ho6, hd6, hg6⟩
      obtain ⟨A6, n6, c6, rfl, hn6⟩ := ho6.byt.form2
      obtain ⟨B6, m6, d6, rfl, hm6⟩ := hd6.byt.form2
      have G6 := Lib.hid (G5.out.trans hg6)
      have M6 := Lib.hid (And.intro ho6 hd6)
      clear ho6 hd6 hg6 cO
      go_wp2_with (at_builtin; refine wpList_app11 _ rfl (.tmp 55) (.tmp 58) rfl (w2.heap.size + 1) _ _ acc [⟨r, _, _⟩] rfl rfl (K.out.1.grow (G6.out.trans (Grow.alloc _ _))) (Iprow.lit w6 ⟨r, _, _⟩ _ rfl _ rfl).ips (fun q hq => by simp at hq; subst hq; exact ⟨rfl, rfl⟩) (by simp; omega) (by have := G6.out.size; simp; omega) ?_; intro v7 w7 ho7 hg7 hat7; have H7 := Lib.hid (And.intro ho7 (And.intro hg7 hat7)); clear ho7 hg7 hat7)
      try rw [Exit.noGoto_ret]
      go_ret2
      have hz5 : w2.heap.size + 1 ≤ w5.heap.size + 2 := by have := G5.out.size; omega
      have hzw := hgw.out.size
      obtain ⟨p1, p2, p3, p4⟩ := appended K.out.1 K.out.2.1 K.out.2.2.1 K.out.2.2.2 G6.out (q6 := ⟨r, _, _⟩) ⟨M6.out.1.base hz5, M6.out.2.base hz5, hip2.out.2⟩ H7.out.1 H7.out.2.1
      exact ⟨_, _, by rw [E.out.1]; rfl, by rw [E.out.2]; simp, H7.out.1.base_ (by omega), fun q hq => (p1 q hq).base_ (by omega), hgw.out.trans p3⟩
    rw [if_neg hfit] at goes
    have hml : m < r.len := by omega
    obtain ⟨r1, r2, r3, r4⟩ := froom_bounds hm68 ol hml
    have cF := fun vo vd w (h1 : Byt w vo r.opts) (h2 : Byt w vd r.data) => first_any vo vd r m w h1 h2 ok hrs hm68 hm65 ol hml
    obtain ⟨R, hR⟩ : ∃ R, R = froom m r := ⟨_, rfl⟩
    obtain ⟨Q, hQ⟩ : ∃ Q, Q = R / 8 := ⟨_, rfl⟩
    obtain ⟨b, off, rfl, hbl, _⟩ := rd.at_ (by omega)
    have eF : (r.data.take (froom m r)).length = R := by rw [List.length_take]; omega
    have eK : frest c m r = { r with opts := c, data := r.data.drop R, off := r.off + (Q : Int) } := by unfold frest; rw [← hR, hQ]
    have eQ : (R : Int) / 8 = (Q : Int) := by omega
    have hQb : Q ≤ 8192 := by omega
    have hRl : R ≤ r.data.length := by omega
    have hRd : R ≤ d1 := by omega
    have hR8 : 8 ≤ R := by omega
    obtain ⟨hA1, hA2⟩ := leftOn rd hRl
    have NEXT : Hid (∀ s' w' vd' vo8 vd8 A' , vd' = .slice A' (r.data.drop R).length (d1 - R) → Byt w2 (.slice A' (r.data.drop R).length (d1 - R)) (r.data.drop R) → Iprow w' (w2.heap.size + 1) s' (acc ++ [⟨ffirst m r, vo8, vd8⟩]) → (∀ q ∈ acc ++ [⟨ffirst m r, vo8, vd8⟩], q.Mine w' (w2.heap.size + 1)) →
        Blk w' w2.heap.size { r with opts := c, data := r.data.drop R, off := r.off + (Q : Int) } (.slice Au nu cu) vd' → Grow w2 w' → Spl w2 c m (fgo k (m : Int)) s' (acc ++ [⟨ffirst m r, vo8, vd8⟩]) (frest c m r) (.slice Au nu cu) vd' f w') := by
      intro s' w' vd' vo8 vd8 A' hv hby hrow hmine hblk hgrow
      rw [hv] at hblk ⊢
      have e1 : (r.data.drop R).length = r.data.length - R := List.length_drop ..
      refine ⟨hrow, hmine, by rw [eK]; exact hblk, by rw [eK]; exact HU.out.1, by rw [eK]; exact hby, by rw [eK]; exact ⟨ok.tos, ok.ident, by show _ ≤ r.off + (Q : Int); omega, by show r.off + (Q : Int) ≤ _; omega, ok.ttl, ok.proto, ok.src, ok.dst⟩, ?_, by rw [eK]; show (r.data.drop R).length < f; omega, by rw [eK]; exact hc40, by rw [eK]; show (acc ++ [_]).length + (r.data.drop R).length ≤ _; rw [e1]; simp; omega, by rw [eK]; show 0 ≤ r.off + (Q : Int); omega, by rw [eK]; show r.off + (Q : Int) + ((r.data.drop R).length : Int) ≤ _; rw [e1]; omega, hgrow⟩
      rw [goes]
      cases fpieces c m f (frest c m r) <;> simp
    have HA := Lib.hid (And.intro hA1 hA2)
    have okF := ffirst_ok (m := m) ok
    have hsF : (ffirst m r).Small := ⟨hrs.1, by show (r.data.take _).length ≤ _; rw [eF]; omega⟩
    have K := Lib.hid (And.intro row (And.intro mine (And.intro blk grow)))
    have hip2 := Lib.hid (And.intro hip (And.intro ok (And.intro okF hsF)))
    have BY := Lib.hid (And.intro ro rd)
    have EF := Lib.hid eF
    obtain ⟨b0, b1, b2, b3, b4, b5, b6, b7, b8, b9, b10⟩ := blk.boxd
    clear goes row mine ro rd grow blk HS HR hip ok hA1 hA2 okF hsF eF eK hR hQ r1 r2 r3 r4 hbl
    go_wp2_with fail
    refine cL.mono ?_
    rintro e w5 ⟨rfl, hg5⟩
    clear b0 b1 b2 b3 b4 b5 b6 b7 b8 b9 b10
    obtain ⟨b0, b1, b2, b3, b4, b5, b6, b7, b8, b9, b10⟩ := (K.out.2.2.1.grow hg5).boxd
    have G5 := Lib.hid hg5
    have C5 := cF _ _ w5 (BY.out.1.grow (K.out.2.2.2.trans hg5)) (BY.out.2.grow (K.out.2.2.2.trans hg5))
    clear cL hg5 cF
    go_wp2_with fail
    refine C5.mono ?_
    rintro e w6 ⟨vd6, rfl, hd6, hg6⟩
    obtain ⟨B6, n6, c6, rfl, hn6⟩ := hd6.form2
    have hn6' : n6 = R := hn6.out.trans EF.out
    subst hn6'
    have G6 := Lib.hid (G5.out.trans hg6)
    have D6 := Lib.hid hd6
    clear C5 hd6 hg6 b0 b1 b2 b3 b4 b5 b6 b7 b8 b9 b10 hn6
    go_wp2_with (show wpList _ _ _ (⟨none, .store 27 (.tmp 10) (.tmp 23), _, _, _, _⟩ :: _) _ _; refine wpList_store_ip w6 _ rfl _ _ rfl rfl w6.heap.size rfl (ffirst m r) zeroPk (.slice A1 r.opts.length c1) (.slice B6 n6 c6) (.slice none 0 0) (.slice none 0 0) rfl rfl rfl (Blk.new w6 zeroPk (.slice none 0 0) (.slice none 0 0)) (Grow.alloc w6 _) (Nat.le_refl _) ?_; intro w7 hF7 hbut7 hg7; have F7 := Lib.hid (And.intro hF7 hg7); obtain ⟨f0, f1, f2, f3, f4, f5, f6, f7, f8, f9, f10⟩ := hF7.boxd; clear hF7 hbut7 hg7)
    have cO := own_any _ (ffirst m r) w7 ⟨_, _, rfl, BY.out.1.grow ((K.out.2.2.2.trans G6.out).trans F7.out.2), D6.out.grow F7.out.2, hip2.out.2.2.1⟩ hip2.out.2.2.2
    refine cO.mono ?_
    rintro e w8 ⟨vo8, vd8, rfl, ho8, hd8, hg8⟩
    obtain ⟨A8, n8, c8, rfl, hn8⟩ := ho8.byt.form2
    obtain ⟨B8, m8, d8, rfl, hm8⟩ := hd8.byt.form2
    have G8 := Lib.hid ((G6.out.trans F7.out.2).trans hg8)
    have F8 := Lib.hid (And.intro (F7.out.1.grow hg8) (And.intro G6.out.size (K.out.2.2.2.trans G6.out).size))
    have hz8 : w2.heap.size + 1 ≤ w7.heap.size + 2 := by have := F7.out.2.size; have := F8.out.2.2; omega
    have M8 := Lib.hid (And.intro (ho8.base hz8) (And.intro (hd8.base hz8) hip2.out.2.2.1))
    clear ho8 hd8 hg8 cO f0 f1 f2 f3 f4 f5 f6 f7 f8 f9 f10 hz8
    go_wp2_with (at_builtin; refine wpList_app11 _ rfl (.tmp 24) (.tmp 27) rfl (w2.heap.size + 1) _ _ acc [⟨ffirst m r, _, _⟩] rfl rfl (K.out.1.grow (G8.out.trans (Grow.alloc _ _))) (Iprow.lit w8 ⟨ffirst m r, _, _⟩ _ rfl _ rfl).ips (fun q hq => by simp at hq; subst hq; exact ⟨rfl, rfl⟩) (by simp; omega) (by have := G8.out.size; simp; omega) ?_; intro v9 w9 ho9 hg9 hat9; have H9 := Lib.hid (And.intro ho9 (appended K.out.1 K.out.2.1 K.out.2.2.1 K.out.2.2.2 G8.out (q6 := ⟨ffirst m r, _, _⟩) M8.out ho9 hg9)); clear ho9 hg9 hat9; change Hid _)
    unfold Hid
    refine Or.inl ?_
    have F9 := Lib.hid (H9.out.2.2.2.2 _ _ _ _ F8.out.1 F8.out.2.1)
    have hne : Hid (w6.heap.size ≠ w2.heap.size) := by have := G6.out.size; show _ ≠ _; omega
    have b4 := H9.out.2.2.1.c4
    have b10 := H9.out.2.2.1.c10
    have f10 := F9.out.c10
    by_cases hc : d1 = n6
    · go_wp2_with (first | (show wpList _ _ _ (⟨none, .store 3 (.tmp 45) (.tmp 44), _, _, _, _⟩ :: _) _ _; refine wpList_store_fld w2 wB rfl _ _ _ rfl rfl w2.heap.size 4 (.int .i64 (r.off + (Q : Int))) rfl rfl { r with opts := c, data := r.data.drop n6 } { r with opts := c, data := r.data.drop n6, off := r.off + (Q : Int) } (.slice Au nu cu) (.slice (some ⟨b, off, none⟩) (r.data.length - n6) 0) (.slice Au nu cu) (.slice (some ⟨b, off, none⟩) (r.data.length - n6) 0) FB.out.2.1 (by kernel_rfl) rfl (by omega) rfl FB.out.2.2.2 (Nat.le_refl _) ?_; intro wC hC hbC gC; have FC := Lib.hid (And.intro hC (And.intro hbC gC)); clear hC hbC gC) | (show wpList _ _ _ (⟨none, .store 25 (.tmp 37) (.tmp 36), _, _, _, _⟩ :: _) _ _; refine wpList_store_fld w2 wA rfl _ _ _ rfl rfl w2.heap.size 10 (.slice (some ⟨b, off, none⟩) (r.data.length - n6) 0) rfl rfl { r with opts := c } { r with opts := c, data := r.data.drop n6 } (.slice Au nu cu) (.slice (some ⟨b, off, none⟩) r.data.length d1) (.slice Au nu cu) (.slice (some ⟨b, off, none⟩) (r.data.length - n6) 0) FA.out.2.1 (by kernel_rfl) rfl (by omega) rfl FA.out.2.2.2 (Nat.le_refl _) ?_; intro wB hB hbB gB; have FB := Lib.hid (And.intro (FA.out.1.but hbB hne.out) (And.intro hB (And.intro hbB gB))); clear hB hbB gB b4 b10 f10; have b4 := FB.out.2.1.c4; have b10 := FB.out.2.1.c10; have f10 := FB.out.1.c10) | (show wpList _ _ _ (⟨none, .store 25 (.tmp 30) (.tmp 29), _, _, _, _⟩ :: _) _ _; refine wpList_store_fld w2 w9 rfl _ _ _ rfl rfl w2.heap.size 9 (.slice Au nu cu) rfl rfl r { r with opts := c } (.slice A1 r.opts.length c1) (.slice (some ⟨b, off, none⟩) r.data.length d1) (.slice Au nu cu) (.slice (some ⟨b, off, none⟩) r.data.length d1) H9.out.2.2.1 (by kernel_rfl) rfl (by omega) rfl H9.out.2.2.2.1 (Nat.le_refl _) ?_; intro wA hA hbA gA; have FA := Lib.hid (And.intro (F9.out.but hbA hne.out) (And.intro hA (And.intro hbA gA))); clear hA hbA gA b4 b10 f10; have b4 := FA.out.2.1.c4; have b10 := FA.out.2.1.c10; have f10 := FA.out.1.c10))
      go_roundg f
      case measure => omega
      case rel => exact ⟨_, _, _, _, f, rfl, NEXT.out _ _ (.slice (some ⟨b, off, none⟩) (r.data.length - n6) 0) _ _ _ (sliceEq rfl (by rw [List.length_drop]) (by omega)) (HA.out.1 hc) (((H9.out.1.but FA.out.2.2.1 (Nat.lt_succ_self _)).but FB.out.2.2.1 (Nat.lt_succ_self _)).but FC.out.2.1 (Nat.lt_succ_self _)) (fun q hq => (((H9.out.2.1 q hq).but FA.out.2.2.1 (Nat.lt_succ_self _)).but FB.out.2.2.1 (Nat.lt_succ_self _)).but FC.out.2.1 (Nat.lt_succ_self _)) FC.out.1 FC.out.2.2⟩
    · go_wp2_with (first | (show wpList _ _ _ (⟨none, .store 3 (.tmp 45) (.tmp 44), _, _, _, _⟩ :: _) _ _; refine wpList_store_fld w2 wB rfl _ _ _ rfl rfl w2.heap.size 4 (.int .i64 (r.off + (Q : Int))) rfl rfl { r with opts := c, data := r.data.drop n6 } { r with opts := c, data := r.data.drop n6, off := r.off + (Q : Int) } (.slice Au nu cu) (.slice (some ⟨b, off + n6, none⟩) (r.data.length - n6) (d1 - n6)) (.slice Au nu cu) (.slice (some ⟨b, off + n6, none⟩) (r.data.length - n6) (d1 - n6)) FB.out.2.1 (by kernel_rfl) rfl (by omega) rfl FB.out.2.2.2 (Nat.le_refl _) ?_; intro wC hC hbC gC; have FC := Lib.hid (And.intro hC (And.intro hbC gC)); clear hC hbC gC) | (show wpList _ _ _ (⟨none, .store 25 (.tmp 37) (.tmp 36), _, _, _, _⟩ :: _) _ _; refine wpList_store_fld w2 wA rfl _ _ _ rfl rfl w2.heap.size 10 (.slice (some ⟨b, off + n6, none⟩) (r.data.length - n6) (d1 - n6)) rfl rfl { r with opts := c } { r with opts := c, data := r.data.drop n6 } (.slice Au nu cu) (.slice (some ⟨b, off, none⟩) r.data.length d1) (.slice Au nu cu) (.slice (some ⟨b, off + n6, none⟩) (r.data.length - n6) (d1 - n6)) FA.out.2.1 (by kernel_rfl) rfl (by omega) rfl FA.out.2.2.2 (Nat.le_refl _) ?_; intro wB hB hbB gB; have FB := Lib.hid (And.intro (FA.out.1.but hbB hne.out) (And.intro hB (And.intro hbB gB))); clear hB hbB gB b4 b10 f10; have b4 := FB.out.2.1.c4; have b10 := FB.out.2.1.c10; have f10 := FB.out.1.c10) | (show wpList _ _ _ (⟨none, .store 25 (.tmp 30) (.tmp 29), _, _, _, _⟩ :: _) _ _; refine wpList_store_fld w2 w9 rfl _ _ _ rfl rfl w2.heap.size 9 (.slice Au nu cu) rfl rfl r { r with opts := c } (.slice A1 r.opts.length c1) (.slice (some ⟨b, off, none⟩) r.data.length d1) (.slice Au nu cu) (.slice (some ⟨b, off, none⟩) r.data.length d1) H9.out.2.2.1 (by kernel_rfl) rfl (by omega) rfl H9.out.2.2.2.1 (Nat.le_refl _) ?_; intro wA hA hbA gA; have FA := Lib.hid (And.intro (F9.out.but hbA hne.out) (And.intro hA (And.intro hbA gA))); clear hA hbA gA b4 b10 f10; have b4 := FA.out.2.1.c4; have b10 := FA.out.2.1.c10; have f10 := FA.out.1.c10))
      go_roundg f
      case measure => omega
      case rel => exact ⟨_, _, _, _, f, rfl, NEXT.out _ _ (.slice (some ⟨b, off + n6, none⟩) (r.data.length - n6) (d1 - n6)) _ _ _ (sliceEq rfl (by rw [List.length_drop]) (by omega)) (HA.out.2 hc) (((H9.out.1.but FA.out.2.2.1 (Nat.lt_succ_self _)).but FB.out.2.2.1 (Nat.lt_succ_self _)).but FC.out.2.1 (Nat.lt_succ_self _)) (fun q hq => (((H9.out.2.1 q hq).but FA.out.2.2.1 (Nat.lt_succ_self _)).but FB.out.2.2.1 (Nat.lt_succ_self _)).but FC.out.2.1 (Nat.lt_succ_self _)) FC.out.1 FC.out.2.2⟩
end Go.Proofs.Ytkofmbnolaiecaa
