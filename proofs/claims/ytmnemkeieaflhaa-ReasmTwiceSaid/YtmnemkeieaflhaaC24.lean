/- The walk of ReasmTwice. -/
import Derived.Test.YtmnemkeieaflhaaC19
namespace Go.Proofs.Ytmnemkeieaflhaa
set_option linter.unusedVariables false
set_option linter.unusedSimpArgs false
open Go.ChangeShapes Go.WideShapes Go.ChangeAt Go.RowKit

set_option maxRecDepth 10000 in
set_option maxHeartbeats 8000000 in
theorem reasmTwice_walk (w : World) {v : Value} {k : Pkt} (h : Ip w v k) (mtu : Int) (hm : -9223372036854775808 ≤ mtu ∧ mtu ≤ 9223372036854775807) (small : Int) (hsl : -9223372036854775808 ≤ small ∧ small ≤ 9223372036854775807) (back : Bool) :
    Calls Try.prog 6 #[v, .int .i64 mtu, .int .i64 small, .bool back] w fun e w' => e = .returned (.bool true) ∧ Grow w w' := by
  obtain ⟨hm1, hm2⟩ := hm
  obtain ⟨hs1, hs2⟩ := hsl
  obtain ⟨A, c, B, d, rfl, ho, hd, hk⟩ := h.form
  obtain ⟨W1, hW1⟩ : ∃ W1, W1 = w.alloc (.cells #[.int .u8 (k.tos : Int), .int .u16 (k.ident : Int), .bool k.whole, .bool k.more, .int .i64 k.off, .int .u8 (k.ttl : Int), .int .u8 (k.proto : Int), .int .u32 (k.src : Int), .int .u32 (k.dst : Int), .slice A k.opts.length c, .slice B k.data.length d] 38) := ⟨_, rfl⟩
  have hg1 : Grow w W1 := by rw [hW1]; exact Grow.alloc w _
  have hB1 : Blk W1 w.heap.size k (.slice A k.opts.length c) (.slice B k.data.length d) := by rw [hW1]; exact Blk.new _ _ _ _
  have hip := h.grow hg1
  have T := Lib.hid (And.intro hg1 (And.intro hB1 hip))
  obtain ⟨b0, b1, b2, b3, b4, b5, b6, b7, b8, b9, b10⟩ := hB1.boxd
  have cV := rsLive_any
  clear hg1 hB1 hip h ho hd
  by_cases q1 : 40 < k.opts.length
  · have d1 : decide ((40 : Int) < (k.opts.length : Int)) = true := decide_eq_true (by omega)
    go_enter Try.func6, Try.ntmps6
    go_upto_region 1 with fail
    rw [← hW1]
    clear hW1
    go_wp2_with fail
    refine (cV _).mono ?_
    rintro e wl ⟨rfl, hgl⟩
    go_wp2_with fail
    go_ret
    exact ⟨rfl, T.out.1.trans hgl⟩
  have d1 : decide ((40 : Int) < (k.opts.length : Int)) = false := decide_eq_false (by omega)
  by_cases q2 : 2500 < k.data.length
  · have d2 : decide ((2500 : Int) < (k.data.length : Int)) = true := decide_eq_true (by omega)
    go_enter Try.func6, Try.ntmps6
    go_upto_region 1 with fail
    rw [← hW1]
    clear hW1
    go_wp2_with fail
    refine (cV _).mono ?_
    rintro e wl ⟨rfl, hgl⟩
    go_wp2_with fail
    go_ret
    exact ⟨rfl, T.out.1.trans hgl⟩
  have d2 : decide ((2500 : Int) < (k.data.length : Int)) = false := decide_eq_false (by omega)
  by_cases q3 : k.off = 0
  case neg =>
    have d3 : (k.off != 0) = true := by simpa using q3
    have d3' : decide (k.off = 0) = false := decide_eq_false q3
    go_enter Try.func6, Try.ntmps6
    go_upto_region 1 with fail
    rw [← hW1]
    clear hW1
    go_wp2_with fail
    refine (cV _).mono ?_
    rintro e wl ⟨rfl, hgl⟩
    go_wp2_with fail
    go_ret
    exact ⟨rfl, T.out.1.trans hgl⟩
  have d3 : (k.off != 0) = false := by simpa using q3
  have d3' : decide (k.off = 0) = true := decide_eq_true q3
  have Q3 := Lib.hid q3
  clear q3
  by_cases q4 : k.more = true
  · rw [q4] at b3
    clear q4
    go_enter Try.func6, Try.ntmps6
    go_upto_region 1 with fail
    rw [← hW1]
    clear hW1
    go_wp2_with fail
    refine (cV _).mono ?_
    rintro e wl ⟨rfl, hgl⟩
    go_wp2_with fail
    go_ret
    exact ⟨rfl, T.out.1.trans hgl⟩
  replace q4 : k.more = false := by simpa using q4
  have Q4 := Lib.hid q4
  rw [q4] at b3
  clear q4
  by_cases q5 : mtu < small
  · have d5 : decide (mtu < small) = true := decide_eq_true q5
    go_enter Try.func6, Try.ntmps6
    go_upto_region 1 with fail
    rw [← hW1]
    clear hW1
    go_wp2_with fail
    refine (cV _).mono ?_
    rintro e wl ⟨rfl, hgl⟩
    go_wp2_with fail
    go_ret
    exact ⟨rfl, T.out.1.trans hgl⟩
  have d5 : decide (mtu < small) = false := decide_eq_false q5
  have hsm : k.Small := ⟨by omega, by omega⟩
  have cS := RSplit_any _ k mtu W1 T.out.2.2 hsm hm1 hm2
  have hcr := fcodeS_in k mtu
  have Q := Lib.hid (And.intro Q3.out (And.intro Q4.out (And.intro q1 q2)))
  unfold ipV at cS
  rw [Q4.out] at cS
  clear q1 q2 q5
  go_enter Try.func6, Try.ntmps6
  go_upto_region 1 with fail
  rw [← hW1]
  clear hW1
  go_wp2_with fail
  refine cS.mono ?_
  rintro e w3 ⟨u3, rfl, hl3, hg3⟩
  obtain ⟨A3, c3, rfl, hlc3, hcm3⟩ := hl3.form
  unfold maxLen at hcm3
  have htw0 : fcodeS k mtu = 0 → TwL k (flist k mtu) := fun he => TwL.of he Q.out.1 Q.out.2.1 (by have := Q.out.2.2.1; omega)
  have HR0 := Lib.hid htw0
  generalize hL : flist k mtu = L at *
  have G3 := Lib.hid (T.out.1.trans hg3)
  have P3 := Lib.hid (And.intro hl3 (And.intro (T.out.2.1.grow hg3) (T.out.2.2.grow hg3)))
  clear htw0 hl3 cS hL hg3 b0 b1 b2 b3 b4 b5 b6 b7 b8 b9 b10
  by_cases hE : fcodeS k mtu ≠ 0
  · have dE : (fcodeS k mtu != 0) = true := by simpa using hE
    have HE := Lib.hid hE
    clear hE
    generalize fcodeS k mtu = E at *
    go_wp2_with fail
    refine (cV _).mono ?_
    rintro e wl ⟨rfl, hgl⟩
    go_wp2_with fail
    go_ret
    exact ⟨rfl, G3.out.trans hgl⟩
  have hE0 : fcodeS k mtu = 0 := by simpa using hE
  have HR := Lib.hid (HR0.out hE0)
  rw [hE0]
  clear hE hE0 hcr HR0
  obtain ⟨n, hn⟩ : ∃ n, n = L.length := ⟨_, rfl⟩
  have hn0 : 0 < n := by
    rcases HR.out with ⟨e, _⟩ | ⟨_, e⟩
    · rw [hn, e]; simp
    · omega
  have hn25 : n ≤ 2501 := by have := HR.out.le; have := Q.out.2.2.2; omega
  rw [← hn] at hlc3 ⊢
  obtain ⟨lp, hlp, hips, hgood⟩ := P3.out.1
  have hlpn : lp.length = n := by rw [hn, ← hlp, List.length_map]
  obtain ⟨b3, o3, rfl, hb3, hat⟩ := hips.at_ (show 0 < L.length by omega)
  have HP := Lib.hid (And.intro hlp (And.intro hgood (And.intro hlpn (And.intro hat hn))))
  clear hlp hips hgood hlpn hat hn
  have H0 := Lib.hid (TwA.start w3 L small)
  go_wp2_with fail
  go_loopg [11, 12] n (fun gk s11 s12 wr => ∃ (i : Nat) (acc : List Pk), i ≤ n ∧ gk = n - i ∧ s12 = .int .i64 (i : Int) ∧ TwA w3 L small i s11 acc wr)
  case atStart => exact ⟨0, [], Nat.zero_le _, rfl, rfl, H0.out⟩
  case round =>
    obtain ⟨i, acc, hi, rfl, rfl, hA⟩ := hrel
    rcases Nat.lt_or_ge i n with hlt | hge
    · have dlt : decide ((i : Int) < (n : Int)) = true := decide_eq_true (by omega)
      have hil : i < lp.length := by rw [HP.out.2.2.1]; exact hlt
      have hqg := HP.out.2.1 _ (List.getElem_mem hil)
      have hqat := (HP.out.2.2.2.1 i hil).grow hA.grow hb3
      have hqL : L[i]? = some (lp[i]'hil).k := by rw [← HP.out.1, List.getElem?_map, List.getElem?_eq_getElem hil]; rfl
      generalize hqq : lp[i]'hil = q at *
      have hmem := HR.out.mem (by have := Q.out.2.2.1; omega) (List.mem_of_getElem? hqL)
      have hkl := Q.out.2.2.2
      have cS := RSplit_low (ipV q.k q.vo q.vd) q.k small wr (hqg.grow hA.grow).ip ⟨by omega, by omega⟩ hs1 hs2
      unfold ipV at cS
      have hcr := fcodeS_in q.k small
      obtain ⟨A5, c5, hs11, _⟩ := hA.row.ips.form
      have HA := Lib.hid (And.intro hA (And.intro hqL (And.intro hqg hlt)))
      obtain ⟨x0, x1, x2, x3, x4, x5, x6, x7, x8, x9, x10⟩ := hqat
      have hic : (i : Int) < (n : Int) := by omega
      have hb3r : b3 < wr.heap.size := Nat.lt_of_lt_of_le hb3 hA.grow.size
      clear hA hqL hqg hmem hkl hqq hs11
      go_wp2_with fail
      refine cS.mono ?_
      rintro e wm ⟨um, l, rfl, hl, hips, hgl, hgm⟩
      obtain ⟨Am, cm, rfl, hlm, hcmm⟩ := hips.form
      have HM := Lib.hid (And.intro hl (And.intro hips (And.intro hgl hgm)))
      clear hl hips hgl hgm cS x0 x1 x2 x3 x4 x5 x6 x7 x8 x9 x10 hb3r
      by_cases hE : fcodeS q.k small ≠ 0
      · have dE : (fcodeS q.k small != 0) = true := by simpa using hE
        have HE := Lib.hid hE
        clear hE
        have GM := Lib.hid (G3.out.trans (HA.out.1.grow.trans HM.out.2.2.2))
        generalize fcodeS q.k small = E at *
        go_wp2_with fail
        refine (cV _).mono ?_
        rintro e wl ⟨rfl, hgl⟩
        go_wp2_with fail
        go_ret
        exact ⟨rfl, GM.out.trans hgl⟩
      have hE0 : fcodeS q.k small = 0 := by simpa using hE
      have HC := Lib.hid hE0
      have hfew : acc.length + l.length ≤ 2501 := by
        have hcd : ∀ x ∈ L.take (i + 1), fcodeS x small = 0 := by
          intro x hx
          obtain ⟨h1, h2⟩ := List.getElem?_eq_some_iff.1 HA.out.2.1
          rw [List.take_succ_eq_append_getElem h1, h2] at hx
          rcases List.mem_append.1 hx with h3 | h3
          · exact HA.out.1.code x h3
          · rw [List.mem_singleton.1 h3]; exact hE0
        have h4 := HR.out.flat (i + 1) hcd
        obtain ⟨h1, h2⟩ := List.getElem?_eq_some_iff.1 HA.out.2.1
        rw [List.take_succ_eq_append_getElem h1, h2, List.flatMap_append, List.length_append, ← HA.out.1.ks, List.length_map] at h4
        have h5 : ([q.k].flatMap fun q => flist q small).length = l.length := by rw [List.flatMap_cons, List.flatMap_nil, List.append_nil, ← HM.out.1, List.length_map]
        have := Q.out.2.2.2
        omega
      have HAP : Hid (∀ s' w', Iprow w' w3.heap.size s' (acc ++ l) → wm.grownBy w' u11.ownBlock → (s'.ownBlock = u11.ownBlock ∨ s'.ownBlock = some wm.heap.size) → TwA w3 L small (i + 1) s' (acc ++ l) w') := fun s' w' h1 h2 h3 =>
        HA.out.1.next (by have := HP.out.2.2.2.2; have := HA.out.2.2.2; omega) HA.out.2.1 HA.out.2.2.1 HC.out HM.out.1 HM.out.2.2.1 HM.out.2.2.2 h1 h2 h3
      have HF := Lib.hid (And.intro (HA.out.1.row.grow HM.out.2.2.2) (And.intro HM.out.2.1 (And.intro (show ∀ x ∈ l, x.One from fun x hx => (HM.out.2.2.1 x hx).1.one) (And.intro (show acc.length + l.length ≤ 100000000 by omega) (Nat.le_trans HA.out.1.grow.size HM.out.2.2.2.size)))))
      rw [hE0]
      clear hE hE0 hcr hfew
      go_wp2_with (at_builtin; refine wpList_app11 wm rfl (.tmp 74) (.tmp 75) rfl w3.heap.size u11 (.slice Am l.length cm) acc l rfl rfl HF.out.1 HF.out.2.1 HF.out.2.2.1 HF.out.2.2.2.1 HF.out.2.2.2.2 ?_; intro v9 w9 hr9 hg9 hb9; have H9 := Lib.hid (HAP.out v9 w9 hr9 hg9 hb9); clear hr9 hg9 hb9)
      go_roundg (n - (i + 1))
      case measure => omega
      case rel => exact ⟨i + 1, _, hlt, rfl, by go_num, H9.out⟩
    · obtain rfl : i = n := by omega
      have dlt : decide ((i : Int) < (i : Int)) = false := decide_eq_false (by omega)
      have hall := HR.out.all (small := small) Q.out.1 Q.out.2.1 (fun x hx => hA.code x (by rw [HP.out.2.2.2.2, List.take_length]; exact hx))
      have hks := hA.ks
      rw [HP.out.2.2.2.2, List.take_length] at hks
      obtain ⟨M, hM⟩ : ∃ M, M = (L.flatMap fun q => flist q small) := ⟨_, rfl⟩
      rw [← hM] at hall hks
      obtain ⟨w5, rfl⟩ : ∃ x, x = wr := ⟨_, rfl⟩
      have hN : M.length = acc.length := by rw [← hks, List.length_map]
      have hM25 : acc.length ≤ 2501 := by
        have h4 := HR.out.flat _ (fun x hx => hA.code x hx)
        rw [HP.out.2.2.2.2, List.take_length, ← hM, hN] at h4
        have := Q.out.2.2.2
        omega
      have hpos : 0 < acc.length := by
        rcases hall with e | ⟨e, _⟩
        · rw [← hN, e]; simp
        · omega
      obtain ⟨A5, c5, hs11, hlc5, hcm5⟩ := hA.row.ips.form
      unfold maxLen at hcm5
      subst hs11
      obtain ⟨b5, o5, rfl, hb5, hat5⟩ := hA.row.ips.at_ hpos
      obtain ⟨m, hm⟩ : ∃ m, m = acc.length := ⟨_, rfl⟩
      have HA := Lib.hid (And.intro hA.grow (And.intro hA.good (And.intro hks (And.intro hall (And.intro (hN.trans hm.symm) (And.intro hat5 hm))))))
      have G4 := Lib.hid (G3.out.trans hA.grow)
      rw [← hm] at hM25 hpos hlc5 ⊢
      have cN := RsNew_any w5 w5.heap.size (Nat.le_refl _) 1 100 (by decide)
      clear hA hat5 hks hall hN hm hM
      go_wp2_with fail
      refine cN.mono ?_
      rintro e w4 ⟨tb, rfl, hT4, hg4⟩
      have T4 := Lib.hid (And.intro hT4 hg4)
      clear cN hT4 hg4
      go_wp2_with fail
      refine (rsLawCode_any 0 _ (by decide) (by decide)).mono ?_
      rintro e w' ⟨rfl, rfl⟩
      have HB0 : Hid (TwB w5 tb k M back 0 [] w4) := ⟨T4.out.1, fun _ => TwS.start HA.out.2.2.2.1, fun _ => rfl, T4.out.2⟩
      clear dlt
      go_wp2_with fail
      go_loopg [17] m (fun gk s17 wr => ∃ (i : Nat) (Z : List Wt), i ≤ m ∧ gk = m - i ∧ s17 = .int .i64 (i : Int) ∧ TwB w5 tb k M back i Z wr)
      case atStart => exact ⟨0, [], Nat.zero_le _, rfl, rfl, HB0.out⟩
      case round =>
        obtain ⟨i, Z, hi, rfl, rfl, hB⟩ := hrel
        have HBx := Lib.hid hB
        clear hB HB0
        rcases Nat.lt_or_ge i m with hlt | hge
        · have dlt : decide ((i : Int) < (m : Int)) = true := decide_eq_true (by omega)
          obtain ⟨kk, hkk⟩ : ∃ kk, kk = nth back m i := ⟨_, rfl⟩
          have hkm : kk < m := by rw [hkk]; exact nth_lt hlt
          have HK := Lib.hid hkk
          obtain ⟨m1, hm1⟩ : ∃ m1, m1 = m - 1 := ⟨_, rfl⟩
          have em1 : (m : Int) - 1 = (m1 : Int) := by omega
          have hm1b : m1 ≤ 2501 := by omega
          have HM1 := Lib.hid hm1
          clear hkk hm1
          go_upto_if 95 with fail
          go_cut [18] from 88 to 133 (fun s18 wx => s18 = .int .i64 (kk : Int) ∧ wr = wx)
          case first =>
            cases back with
            | true =>
              have ek : (m1 : Int) - (i : Int) = (kk : Int) := by
                have h1 := HK.out
                have h2 := HM1.out
                rw [nth, if_pos rfl] at h1
                omega
              go_wp2_with fail
              go_meet
              exact ⟨by first | rfl | rw [ek], rfl⟩
            | false =>
              have ek : i = kk := by
                have h1 := HK.out
                rw [nth, if_neg (by decide)] at h1
                exact h1.symm
              go_wp2_with fail
              go_meet
              exact ⟨by first | rfl | rw [ek], rfl⟩
          case rest =>
            obtain ⟨rfl, rfl⟩ := hcut
            have hkl : kk < acc.length := by rw [← HA.out.2.2.2.2.2.2]; exact hkm
            have hqg := HA.out.2.1 _ (List.getElem_mem hkl)
            have hqat := (HA.out.2.2.2.2.2.1 kk hkl).grow HBx.out.grow hb5
            have hqM : M[nth back M.length i]? = some (acc[kk]'hkl).k := by rw [HA.out.2.2.2.2.1, ← HK.out, ← HA.out.2.2.1, List.getElem?_map, List.getElem?_eq_getElem hkl]; rfl
            generalize hqq : acc[kk]'hkl = q at *
            have hfm : ∀ v l, Byt w5 v l → Firm w5.heap.size wr v l := fun v l h => (Firm.below h (Nat.le_refl _)).grow HBx.out.grow (Nat.le_refl _)
            obtain ⟨nw, hnw⟩ : ∃ nw, nw = i % 90 := ⟨_, rfl⟩
            have em2 : ((i : Int)).tmod 90 = (nw : Int) := by rw [hnw]; exact (Int.ofNat_tmod i 90).symm
            have em3 : ((i : Int)) % 90 = (nw : Int) := by omega
            have hnw9 : nw < 90 := by omega
            have hsq : q.k.Small := by
              have hx := List.mem_of_getElem? hqM
              have := Q.out.2.2.1
              have := Q.out.2.2.2
              rcases HA.out.2.2.2.1 with e | ⟨_, e⟩
              · rw [e, List.mem_singleton] at hx
                rw [hx]
                exact ⟨by omega, by omega⟩
              · have hp := e.mem _ hx
                exact ⟨by have := hp.few; omega, by have := hp.fit; omega⟩
            have cA := two_call wr w5.heap.size tb Z k q.k M back i HBx.out.tab Q.out.1 Q.out.2.1 (by have := Q.out.2.2.2; omega) (by have := Q.out.2.2.2; have := Q.out.2.2.1; unfold Pkt.len; omega) (HBx.out.st (by rw [HA.out.2.2.2.2.1]; exact hlt)) (by rw [HA.out.2.2.2.2.1]; exact hlt) hqM (nw : Int) (by omega) q.vo q.vd ⟨hfm _ _ hqg.1, hfm _ _ hqg.2.1, hqg.2.2, hsq⟩
            unfold ipV at cA
            obtain ⟨x0, x1, x2, x3, x4, x5, x6, x7, x8, x9, x10⟩ := hqat
            have hb5c : b5 < wr.heap.size := Nat.lt_of_lt_of_le hb5 HBx.out.grow.size
            have hkc : (kk : Int) < (m : Int) := by omega
            clear hqM hqg hfm hnw hqq hsq
            go_wp2_with fail
            refine cA.mono ?_
            rintro e w6 ⟨fl, r, Z', vo', vd', rfl, hip6, hT6, hO6, hfl, htr, hfa⟩
            obtain ⟨Ar, cr, Br, dr, hv, _⟩ := hip6.form
            have hip6' := hip6
            rw [hv] at hip6'
            unfold ipV at hv
            rw [hv]
            have HF := Lib.hid (And.intro hT6 (And.intro hO6 (And.intro hfl (And.intro htr (And.intro hfa hip6')))))
            clear cA hip6 hip6' hv hT6 hO6 hfl htr hfa x0 x1 x2 x3 x4 x5 x6 x7 x8 x9 x10 hb5c em2 em3
            go_upto_region 24 with fail
            obtain ⟨w7, hw7⟩ : ∃ w7, w7 = w6.alloc (.cells #[.int .u8 (r.tos : Int), .int .u16 (r.ident : Int), .bool r.whole, .bool r.more, .int .i64 r.off, .int .u8 (r.ttl : Int), .int .u8 (r.proto : Int), .int .u32 (r.src : Int), .int .u32 (r.dst : Int), .slice Ar r.opts.length cr, .slice Br r.data.length dr] 38) := ⟨_, rfl⟩
            rw [← hw7]
            have g67 : Grow w6 w7 := by rw [hw7]; exact Grow.alloc _ _
            have hB7 : Blk w7 w6.heap.size r (.slice Ar r.opts.length cr) (.slice Br r.data.length dr) := by rw [hw7]; exact Blk.new _ _ _ _
            have g37 : Grow w5 w7 := (HF.out.2.1.on HBx.out.grow).trans g67
            have HG := Lib.hid (And.intro g67 (And.intro hB7 g37))
            clear g67 hB7 hw7 g37
            obtain ⟨i1, hi1⟩ : ∃ i1, i1 = i + 1 := ⟨_, rfl⟩
            have ei1 : (i : Int) + 1 = (i1 : Int) := by omega
            have HI1 := Lib.hid hi1
            have hi1b : i1 ≤ 2502 := by omega
            cases fl with
            | true =>
              obtain ⟨hr, rfl⟩ := HF.out.2.2.2.1 rfl
              have hlast : i1 = m := by rw [hi1, HF.out.2.2.1.1 rfl, HA.out.2.2.2.2.1]
              clear hi1
              have ez : decide ((i1 : Int) = (m : Int)) = true := decide_eq_true (by omega)
              have ez2 : ((i1 : Int) == (m : Int)) = true := by rw [beq_iff_eq]; omega
              obtain ⟨y0, y1, y2, y3, y4, y5, y6, y7, y8, y9, y10⟩ := HG.out.2.1.boxd
              obtain ⟨z0, z1, z2, z3, z4, z5, z6, z7, z8, z9, z10⟩ := (P3.out.2.1.grow (HA.out.1.trans HG.out.2.2)).boxd
              have cS := RSame_yes _ _ k r w7 (P3.out.2.2.grow (HA.out.1.trans HG.out.2.2)) (HF.out.2.2.2.2.2.grow HG.out.1) hr.symm
              unfold ipV at cS
              have HRK := Lib.hid hr
              have HL := Lib.hid hlast
              clear hr hlast
              go_wp2_with fail
              refine (rsLawCode_any 0 _ (by decide) (by decide)).mono ?_
              rintro e w' ⟨rfl, rfl⟩
              go_wp2_with fail
              refine cS.mono ?_
              rintro e w8 ⟨rfl, hg8⟩
              have H8 : Hid (TwB w5 tb k M back i1 [] w8) := ⟨(HF.out.1.grow HG.out.1).grow hg8, fun h => absurd h (by rw [HA.out.2.2.2.2.1, HL.out]; omega), fun _ => rfl, HG.out.2.2.trans hg8⟩
              clear cS hg8 y0 y1 y2 y3 y4 y5 y6 y7 y8 y9 y10 z0 z1 z2 z3 z4 z5 z6 z7 z8 z9 z10
              go_wp2_with fail
              go_roundg (m - i1)
              case measure => have := HI1.out; omega
              case rel => exact ⟨i1, _, by have := HL.out; omega, rfl, by go_num, H8.out⟩
            | false =>
              have hne : i1 ≠ m := fun e => by
                have h1 := HF.out.2.2.1.2 (by rw [HA.out.2.2.2.2.1, ← e, hi1])
                cases h1
              clear hi1
              have ez : decide ((i1 : Int) = (m : Int)) = false := decide_eq_false (by omega)
              have ez2 : ((i1 : Int) == (m : Int)) = false := by simp; omega
              have H8 : Hid (TwB w5 tb k M back i1 Z' w7) := ⟨HF.out.1.grow HG.out.1, fun _ => by rw [HI1.out]; exact HF.out.2.2.2.2.1 rfl, fun h => absurd h (by rw [HA.out.2.2.2.2.1]; exact hne), HG.out.2.2⟩
              have hle : i1 ≤ m := by have := HI1.out; omega
              clear hne
              go_wp2_with fail
              refine (rsLawCode_any 0 _ (by decide) (by decide)).mono ?_
              rintro e w' ⟨rfl, rfl⟩
              go_wp2_with fail
              go_roundg (m - i1)
              case measure => have := HI1.out; omega
              case rel => exact ⟨i1, _, hle, rfl, by go_num, H8.out⟩
        · obtain rfl : i = m := by omega
          have dlt : decide ((i : Int) < (i : Int)) = false := decide_eq_false (by omega)
          have hZ := HBx.out.nil HA.out.2.2.2.2.1.symm
          have cL := RsLen_any wr w5.heap.size tb 1 100 [] (by rw [← hZ]; exact HBx.out.tab)
          clear hZ
          go_wp2_with fail
          refine cL.mono ?_
          rintro e w9 ⟨rfl, hg9⟩
          have H9 := Lib.hid (G4.out.trans (HBx.out.grow.trans hg9))
          clear hg9 cL
          go_wp2_with fail
          refine (cV _).mono ?_
          rintro e wl ⟨rfl, hgl⟩
          go_wp2_with fail
          go_ret
          exact ⟨rfl, H9.out.trans hgl⟩
end Go.Proofs.Ytmnemkeieaflhaa
