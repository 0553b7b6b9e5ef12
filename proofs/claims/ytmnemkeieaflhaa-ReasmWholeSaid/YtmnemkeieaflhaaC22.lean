/- The walk of ReasmWhole. -/
import Derived.Test.YtmnemkeieaflhaaC17
import Derived.Test.YtmnemkeieaflhaaC18
namespace Go.Proofs.Ytmnemkeieaflhaa
set_option linter.unusedVariables false
set_option linter.unusedSimpArgs false
open Go.ChangeShapes Go.WideShapes Go.ChangeAt Go.RowKit

set_option maxRecDepth 10000 in
set_option maxHeartbeats 8000000 in
theorem reasmWhole_walk (w : World) {v : Value} {k : Pkt} (h : Ip w v k) (mtu : Int) (hm : -9223372036854775808 ≤ mtu ∧ mtu ≤ 9223372036854775807) {u : Value} {l : List UInt8} (hb : Byt w u l) (hl : l.length ≤ 140737488351232) :
    Calls Try.prog 4 #[v, .int .i64 mtu, u] w fun e w' => e = .returned (.bool true) ∧ Grow w w' := by
  obtain ⟨hm1, hm2⟩ := hm
  obtain ⟨A, c, B, d, rfl, ho, hd, hk⟩ := h.form
  obtain ⟨Ao, mo, co, rfl, HMO⟩ := hb.form2
  obtain ⟨W1, hW1⟩ : ∃ W1, W1 = w.alloc (.cells #[.int .u8 (k.tos : Int), .int .u16 (k.ident : Int), .bool k.whole, .bool k.more, .int .i64 k.off, .int .u8 (k.ttl : Int), .int .u8 (k.proto : Int), .int .u32 (k.src : Int), .int .u32 (k.dst : Int), .slice A k.opts.length c, .slice B k.data.length d] 38) := ⟨_, rfl⟩
  have hg1 : Grow w W1 := by rw [hW1]; exact Grow.alloc w _
  have hB1 : Blk W1 w.heap.size k (.slice A k.opts.length c) (.slice B k.data.length d) := by rw [hW1]; exact Blk.new _ _ _ _
  have hip := h.grow hg1
  have T := Lib.hid (And.intro hg1 (And.intro hB1 (And.intro hip (hb.grow hg1))))
  obtain ⟨b0, b1, b2, b3, b4, b5, b6, b7, b8, b9, b10⟩ := hB1.boxd
  have cV := rsLive_any
  clear hg1 hB1 hip h ho hd hb
  by_cases q1 : 40 < k.opts.length
  · have d1 : decide ((40 : Int) < (k.opts.length : Int)) = true := decide_eq_true (by omega)
    go_enter Try.func4, Try.ntmps4
    go_upto_region 1 with fail
    rw [← hW1]
    clear hW1
    go_wp2_with fail
    refine (cV _).mono ?_
    rintro e wl ⟨rfl, hgl⟩
    go_wp2_with fail
    go_ret
    exact ⟨rfl, T.out.1.trans hgl⟩
  have d1 : decide ((40 : Int) < (k.opts.length : Int)) = false := decide_eq_false (by omega)
  by_cases q2 : 3000 < k.data.length
  · have d2 : decide ((3000 : Int) < (k.data.length : Int)) = true := decide_eq_true (by omega)
    go_enter Try.func4, Try.ntmps4
    go_upto_region 1 with fail
    rw [← hW1]
    clear hW1
    go_wp2_with fail
    refine (cV _).mono ?_
    rintro e wl ⟨rfl, hgl⟩
    go_wp2_with fail
    go_ret
    exact ⟨rfl, T.out.1.trans hgl⟩
  have d2 : decide ((3000 : Int) < (k.data.length : Int)) = false := decide_eq_false (by omega)
  by_cases q3 : k.off = 0
  case neg =>
    have d3 : (k.off != 0) = true := by simpa using q3
    have d3' : decide (k.off = 0) = false := decide_eq_false q3
    go_enter Try.func4, Try.ntmps4
    go_upto_region 1 with fail
    rw [← hW1]
    clear hW1
    go_wp2_with fail
    refine (cV _).mono ?_
    rintro e wl ⟨rfl, hgl⟩
    go_wp2_with fail
    go_ret
    exact ⟨rfl, T.out.1.trans hgl⟩
  have d3 : (k.off != 0) = false := by simpa using q3
  have d3' : decide (k.off = 0) = true := decide_eq_true q3
  have Q3 := Lib.hid q3
  clear q3
  by_cases q4 : k.more = true
  · rw [q4] at b3
    clear q4
    go_enter Try.func4, Try.ntmps4
    go_upto_region 1 with fail
    rw [← hW1]
    clear hW1
    go_wp2_with fail
    refine (cV _).mono ?_
    rintro e wl ⟨rfl, hgl⟩
    go_wp2_with fail
    go_ret
    exact ⟨rfl, T.out.1.trans hgl⟩
  replace q4 : k.more = false := by simpa using q4
  have Q4 := Lib.hid q4
  rw [q4] at b3
  clear q4
  by_cases q5 : 300 < mo
  · have d5 : decide ((300 : Int) < (mo : Int)) = true := decide_eq_true (by omega)
    go_enter Try.func4, Try.ntmps4
    go_upto_region 1 with fail
    rw [← hW1]
    clear hW1
    go_wp2_with fail
    refine (cV _).mono ?_
    rintro e wl ⟨rfl, hgl⟩
    go_wp2_with fail
    go_ret
    exact ⟨rfl, T.out.1.trans hgl⟩
  have d5 : decide ((300 : Int) < (mo : Int)) = false := decide_eq_false (by omega)
  have hsm : k.Small := ⟨by omega, by omega⟩
  have cS := RSplit_any _ k mtu W1 T.out.2.2.1 hsm hm1 hm2
  have hcr := fcodeS_in k mtu
  have Q := Lib.hid (And.intro Q3.out (And.intro Q4.out (And.intro q1 (And.intro q2 q5))))
  unfold ipV at cS
  rw [Q4.out] at cS
  clear q1 q2 q5
  go_enter Try.func4, Try.ntmps4
  go_upto_region 1 with fail
  rw [← hW1]
  clear hW1
  go_wp2_with fail
  refine cS.mono ?_
  rintro e w3 ⟨u3, rfl, hl3, hg3⟩
  obtain ⟨A3, c3, rfl, hlc3, hcm3⟩ := hl3.form
  unfold maxLen at hcm3
  have hrun0 : fcodeS k mtu = 0 → 2 ≤ (flist k mtu).length → Run k 0 (flist k mtu) k.data.length := fun he h2 => by
    have hne : k.data ≠ [] := fun e => by rw [flist_nil he e] at h2; simp at h2
    have h := flist_run he (Pc.self Q.out.1 Q.out.2.1 hne (by have := Q.out.2.2.1; omega))
    have e : k.at_ = 0 := by unfold Pkt.at_; rw [Q.out.1]; rfl
    rwa [e, Nat.zero_add] at h
  have HR0 := Lib.hid hrun0
  generalize hL : flist k mtu = L at *
  have G3 := Lib.hid (T.out.1.trans hg3)
  have P3 := Lib.hid (And.intro hl3 (And.intro (T.out.2.2.2.grow hg3) (And.intro (T.out.2.1.grow hg3) (T.out.2.2.1.grow hg3))))
  clear hrun0 hl3 cS hL hg3 b0 b1 b2 b3 b4 b5 b6 b7 b8 b9 b10
  by_cases hE : fcodeS k mtu ≠ 0
  · have dE : (fcodeS k mtu != 0) = true := by simpa using hE
    have HE := Lib.hid hE
    clear hE
    generalize fcodeS k mtu = E at *
    go_wp2_with fail
    refine (cV _).mono ?_
    rintro e wl ⟨rfl, hgl⟩
    go_wp2_with fail
    go_ret
    exact ⟨rfl, G3.out.trans hgl⟩
  have hE0 : fcodeS k mtu = 0 := by simpa using hE
  have HR := Lib.hid (HR0.out hE0)
  rw [hE0]
  clear hE hE0 hcr HR0
  obtain ⟨n, hn⟩ : ∃ n, n = L.length := ⟨_, rfl⟩
  rw [← hn] at hlc3 ⊢
  by_cases h2 : n < 2
  · have d6 : decide ((n : Int) < 2) = true := decide_eq_true (by omega)
    clear hn
    go_wp2_with fail
    refine (cV _).mono ?_
    rintro e wl ⟨rfl, hgl⟩
    go_wp2_with fail
    go_ret
    exact ⟨rfl, G3.out.trans hgl⟩
  have d6 : decide ((n : Int) < 2) = false := decide_eq_false (by omega)
  have hrun := HR.out (by omega)
  have hn65 : n ≤ 3000 := by have := hrun.le; have := Q.out.2.2.2.1; omega
  have HL := Lib.hid (And.intro hn (And.intro hrun (run_part hrun (by omega))))
  have hn2 : 2 ≤ n := by omega
  have cN := RsNew_any w3 w3.heap.size (Nat.le_refl _) 1 100 (by decide)
  clear HR hn h2 hrun
  go_wp2_with fail
  refine cN.mono ?_
  rintro e w4 ⟨tb, rfl, hT4, hg4⟩
  have T4 := Lib.hid (And.intro hT4 hg4)
  clear cN hT4 hg4
  go_wp2_with fail
  refine (rsLawCode_any 0 _ (by decide) (by decide)).mono ?_
  rintro e w' ⟨rfl, rfl⟩
  obtain ⟨i0, hi, hz0, hz1, hz2⟩ : ∃ i0 : TypeInfo, Try.prog.info? 4 = some i0 ∧ i0.zero = some (.bool false) ∧ i0.size = 1 ∧ i0.bytes = 1 := info_parts infoBool
  have f1 : i0.bytes * n ≤ 281474976710656 := by rw [hz2]; omega
  have f2 : n ≤ maxLen := by unfold maxLen; omega
  go_wp2_with (at_make; refine wpList_make_full _ rfl _ _ 59 rfl w3.heap.size 4 i0 (.bool false) 1 Try.underlying59 hi hz0 hz1 .i64 .i64 _ _ n rfl rfl rfl rfl f1 f2 T4.out.2.size ?_; intro w5 hown hg5)
  have H5 : Hid (Whl w3 tb w4.heap.size n mo k L 0 (List.replicate n false) [] [] w5) := by
    have g45 : Grow w4 w5 := (Below.refl _ _).grown hg5 (Nat.le_refl _) (by simp)
    refine ⟨T4.out.1.grow g45, .inl ⟨rfl, rfl⟩, Bools.made hown, List.length_replicate, fun x => ⟨fun h => (by cases h), fun ⟨j, h1, _⟩ => ?_⟩, ?_, fun j _ h => absurd h (by omega), T4.out.2.trans g45⟩
    · rw [List.getElem?_replicate] at h1
      split at h1 <;> cases h1
    · rw [List.count_replicate_self]; omega
  have hmc : n ≤ c3 := hlc3
  obtain ⟨lp, hlp, hips, hgood⟩ := P3.out.1
  have hlpn : lp.length = n := by rw [HL.out.1, ← hlp, List.length_map]
  obtain ⟨b3, o3, rfl, hb3, hat⟩ := hips.at_ (show 0 < L.length by have := HL.out.1; omega)
  have HP := Lib.hid (And.intro hlp (And.intro hgood (And.intro hlpn hat)))
  clear hlp hips hgood hlpn hat
  clear hown hg5 hi hz0 hz1 hz2 f1 f2
  go_loopg [12, 13] (mo + n) (fun gk s12 s13 wr => ∃ (i : Nat) (hs : List Bool) (dn : List Pkt) (A : List Wt), i ≤ mo + n ∧ gk = mo + n - i ∧ s12 = .int .i64 (hs.count false : Nat) ∧ s13 = .int .i64 (i : Int) ∧ Whl w3 tb w4.heap.size n mo k L i hs dn A wr)
  case atStart => exact ⟨0, _, _, _, Nat.zero_le _, rfl, by rw [List.count_replicate_self], rfl, H5.out⟩
  case round =>
    obtain ⟨i, hs, dn, A, hi, rfl, rfl, rfl, hW⟩ := hrel
    rcases Nat.lt_or_ge i (mo + n) with hlt | hge
    · obtain ⟨kk, hkk, hkn⟩ : ∃ kk, kk = (if h : i < mo then (l[i]'(by rw [← HMO.out]; exact h)).toNat % n else i - mo) ∧ kk < n := by
        refine ⟨_, rfl, ?_⟩
        split
        · exact Nat.mod_lt _ (by omega)
        · omega
      have hks : kk < hs.length := by rw [hW.len]; exact hkn
      obtain ⟨hgl, hgb, hcel⟩ := hW.row.cell
      obtain ⟨hc1, hc2⟩ := hcel kk hks
      have hmo3 : mo ≤ 300 := by have := Q.out.2.2.2.2; omega
      obtain ⟨S, hS⟩ : ∃ S : Nat, S = mo + n := ⟨_, rfl⟩
      have eS : (mo : Int) + (n : Int) = (S : Int) := by omega
      have hS33 : S ≤ 3300 := by omega
      have hiS : i < S := by omega
      have dlt : decide ((i : Int) < (S : Int)) = true := decide_eq_true (by omega)
      obtain ⟨bx, hbx⟩ : ∃ bx, bx = hs[kk]'hks := ⟨_, rfl⟩
      rw [← hbx] at hc1
      have hby := P3.out.2.1.grow hW.grow
      have HX := Lib.hid (And.intro hW (And.intro hkk (And.intro hlt (And.intro hks (And.intro hbx hi)))))
      have hkc : (kk : Int) < (n : Int) := by omega
      obtain ⟨ct, hct⟩ : ∃ ct, ct = hs.count false := ⟨_, rfl⟩
      have hct1 : 0 < ct := by rw [hct]; exact hW.some_
      have hct2 : ct ≤ 3000 := by have := List.count_le_length (a := false) (l := hs); have := hW.len; omega
      rw [← hct]
      have HCT := Lib.hid hct
      clear hW hkk hlt hcel hi hS hbx hct
      go_upto_if 89 with fail
      go_cut [14] from 73 to 140 (fun s14 wx => s14 = .int .i64 (kk : Int) ∧ wr = wx)
      case first =>
        by_cases him : i < mo
        · have dim : decide ((i : Int) < (mo : Int)) = true := decide_eq_true (by omega)
          obtain ⟨bo, oo, rfl, hbo, hco⟩ := hby.at_ (show 0 < mo by omega)
          have hil : i < l.length := by rw [← HMO.out]; exact him
          have hcx := hco i hil
          obtain ⟨x, hx⟩ : ∃ x, x = (l[i]'hil).toNat := ⟨_, rfl⟩
          have hx8 : x < 256 := by rw [hx]; exact UInt8.toNat_lt _
          have hxk : x % n = kk := by
            have h1 := HX.out.2.1
            rw [dif_pos him] at h1
            rw [hx, h1]
          rw [← hx] at hcx
          have ht1 : ((x : Int)).tmod (n : Int) = (kk : Int) := by rw [← Int.ofNat_tmod, hxk]
          have ht2 : ((x : Int)) % (n : Int) = (kk : Int) := by omega
          have hn0 : ¬ ((n : Int) = 0) := by omega
          clear hx hxk hco hby
          go_wp2_with fail
          go_meet
          exact ⟨rfl, rfl⟩
        · have dim : decide ((i : Int) < (mo : Int)) = false := decide_eq_false (by omega)
          have hxk : i - mo = kk := by
            have h1 := HX.out.2.1
            rw [dif_neg him] at h1
            exact h1.symm
          have ek : (i : Int) - (mo : Int) = (kk : Int) := by omega
          clear hby hxk
          go_wp2_with fail
          go_meet
          exact ⟨by rw [ek], rfl⟩
      case rest =>
        obtain ⟨rfl, rfl⟩ := hcut
        clear hby dlt eS
        obtain ⟨cn, hcn⟩ : ∃ cn, cn = (hs.set kk true).count false := ⟨_, rfl⟩
        have HCN := Lib.hid hcn
        clear hcn
        go_upto_if 102 with fail
        go_cut [12] from 73 to 140 (fun s12 wx => s12 = .int .i64 (cn : Int) ∧ Hid (Bools wx w3.heap.size (.slice (some ⟨w4.heap.size, 0, none⟩) n n) (hs.set kk true) ∧ Only w3.heap.size (fun _ T => T = 4) wr wx))
        case first =>
          cases bx with
          | true =>
            go_wp2_with fail
            go_meet
            have e := set_same (hs := hs) (j := kk) (by rw [List.getElem?_eq_getElem HX.out.2.2.2.1, ← HX.out.2.2.2.2.1])
            refine ⟨by rw [HCN.out, HCT.out, e], ?_⟩
            rw [e]
            exact ⟨HX.out.1.row, Only.refl _ _ _⟩
          | false =>
            have ec := count_set (hs := hs) (j := kk) (by rw [List.getElem?_eq_getElem HX.out.2.2.2.1, ← HX.out.2.2.2.2.1])
            have e1 : (ct : Int) - 1 = (cn : Int) := by have := HCN.out; have := HCT.out; omega
            clear ec
            go_wp2_with fail
            go_meet
            exact ⟨rfl, HX.out.1.row.set kk true⟩
        case rest =>
          obtain ⟨rfl, hH⟩ := hcut
          have HB := Lib.hid (Hid.out hH)
          clear hH hc1 hc2 hgl hgb hct1 hct2
          have hgw : Grow w3 wc := HB.out.2.on HX.out.1.grow
          have hkl : kk < lp.length := by rw [HP.out.2.2.1]; exact hkn
          have hqg := HP.out.2.1 _ (List.getElem_mem hkl)
          have hqat := (HP.out.2.2.2 kk hkl).grow hgw hb3
          have hqL : L[kk]? = some (lp[kk]'hkl).k := by rw [← HP.out.1, List.getElem?_map, List.getElem?_eq_getElem hkl]; rfl
          generalize hqq : lp[kk]'hkl = q at *
          have hmem : q.k ∈ L := List.mem_of_getElem? hqL
          have hpc := HL.out.2.1.mem _ hmem
          have hT := HX.out.1.tab.only HB.out.2 (fun b => by decide) (fun b => by decide) (fun b => by decide) (fun b => by decide) (fun b => by decide) (fun b => by decide) (fun b => by decide)
          have hfm : ∀ v l, Byt w3 v l → Firm w3.heap.size wc v l := fun v l h => (Firm.below h (Nat.le_refl _)).grow hgw (Nat.le_refl _)
          have hdn : ∀ x ∈ dn, Pc k x := fun x hx => by
            obtain ⟨j, _, h2⟩ := (HX.out.1.dn x).1 hx
            exact HL.out.2.1.mem _ (List.mem_of_getElem? h2)
          have hdn2 := dn_set (q := q.k) HX.out.1.dn HX.out.2.2.2.1 hqL
          obtain ⟨nw, hnw⟩ : ∃ nw, nw = i % 50 := ⟨_, rfl⟩
          have em1 : ((i : Int)).tmod 50 = (nw : Int) := by rw [hnw]; exact (Int.ofNat_tmod i 50).symm
          have em2 : ((i : Int)) % 50 = (nw : Int) := by omega
          have hnw5 : nw < 50 := by omega
          have cA := cov_call wc w3.heap.size tb A k q.k dn hT Q.out.1 Q.out.2.1 (by have := Q.out.2.2.2.1; omega) (by have := Q.out.2.2.2.1; have := Q.out.2.2.1; unfold Pkt.len; omega) HX.out.1.cov hdn hpc (HL.out.2.2 _ hmem) (nw : Int) (by omega) q.vo q.vd ⟨hfm _ _ hqg.1, hfm _ _ hqg.2.1, hqg.2.2, ⟨by have := hpc.few; omega, by have := hpc.fit; have := Q.out.2.2.2.1; omega⟩⟩
          unfold ipV at cA
          have HD := Lib.hid (And.intro hdn2 (And.intro hgw hqq))
          obtain ⟨x0, x1, x2, x3, x4, x5, x6, x7, x8, x9, x10⟩ := hqat
          have hb3c : b3 < wc.heap.size := Nat.lt_of_lt_of_le hb3 hgw.size
          clear hqL hqg hmem hpc hT hfm hdn hdn2 hnw hgw hqq
          go_wp2_with fail
          refine cA.mono ?_
          rintro e w6 ⟨fl, r, A', vo', vd', rfl, hip6, hT6, hO6, hfl, htr, hfa⟩
          obtain ⟨Ar, cr, Br, dr, hv, _⟩ := hip6.form
          have hip6' := hip6
          rw [hv] at hip6'
          unfold ipV at hv
          rw [hv]
          have HF := Lib.hid (And.intro hT6 (And.intro hO6 (And.intro hfl (And.intro htr (And.intro hfa hip6')))))
          clear cA hip6 hip6' hv hT6 hO6 hfl htr hfa x0 x1 x2 x3 x4 x5 x6 x7 x8 x9 x10 hb3c em1 em2
          go_upto_region 21 with fail
          obtain ⟨w7, hw7⟩ : ∃ w7, w7 = w6.alloc (.cells #[.int .u8 (r.tos : Int), .int .u16 (r.ident : Int), .bool r.whole, .bool r.more, .int .i64 r.off, .int .u8 (r.ttl : Int), .int .u8 (r.proto : Int), .int .u32 (r.src : Int), .int .u32 (r.dst : Int), .slice Ar r.opts.length cr, .slice Br r.data.length dr] 38) := ⟨_, rfl⟩
          rw [← hw7]
          have g67 : Grow w6 w7 := by rw [hw7]; exact Grow.alloc _ _
          have hB7 : Blk w7 w6.heap.size r (.slice Ar r.opts.length cr) (.slice Br r.data.length dr) := by rw [hw7]; exact Blk.new _ _ _ _
          have g37 : Grow w3 w7 := (HF.out.2.1.on HD.out.2.1).trans g67
          have HG := Lib.hid (And.intro g67 (And.intro hB7 g37))
          clear g67 hB7 hw7 g37
          cases fl with
          | true =>
            obtain ⟨hr, rfl⟩ := HF.out.2.2.2.1 rfl
            have hall := (run_full HL.out.2.1 HD.out.1).1 (HF.out.2.2.1.1 rfl)
            have cn0 : cn = 0 := by
              rw [HCN.out]
              exact none_left.2 fun j hj => hall j (by rw [← HL.out.1]; rw [List.length_set] at hj; have := HX.out.1.len; omega)
            have ez : decide ((cn : Int) = 0) = true := decide_eq_true (by omega)
            have ez2 : ((cn : Int) == 0) = true := by simpa using cn0
            obtain ⟨y0, y1, y2, y3, y4, y5, y6, y7, y8, y9, y10⟩ := HG.out.2.1.boxd
            obtain ⟨z0, z1, z2, z3, z4, z5, z6, z7, z8, z9, z10⟩ := (P3.out.2.2.1.grow HG.out.2.2).boxd
            have cS := RSame_yes _ _ k r w7 (P3.out.2.2.2.grow HG.out.2.2) (HF.out.2.2.2.2.2.grow HG.out.1) hr.symm
            unfold ipV at cS
            have HRK := Lib.hid hr
            clear hr hall cn0
            go_wp2_with fail
            refine (rsLawCode_any 0 _ (by decide) (by decide)).mono ?_
            rintro e w' ⟨rfl, rfl⟩
            go_wp2_with fail
            refine cS.mono ?_
            rintro e w8 ⟨rfl, hg8⟩
            have H8 := Lib.hid (And.intro (HG.out.2.2.trans hg8) ((HF.out.1.grow HG.out.1).grow hg8))
            clear cS hg8 y0 y1 y2 y3 y4 y5 y6 y7 y8 y9 y10 z0 z1 z2 z3 z4 z5 z6 z7 z8 z9 z10
            go_wp2_with fail
            refine (RsLen_any w8 w3.heap.size tb 1 100 [] H8.out.2).mono ?_
            rintro e w9 ⟨rfl, hg9⟩
            have H9 := Lib.hid (G3.out.trans (H8.out.1.trans hg9))
            clear hg9
            go_wp2_with fail
            refine (cV _).mono ?_
            rintro e wl ⟨rfl, hgl⟩
            go_wp2_with fail
            go_ret
            exact ⟨rfl, H9.out.trans hgl⟩
          | false =>
            have hcp : 0 < cn := by
              rcases Nat.eq_zero_or_pos cn with h0 | h0
              · rw [HCN.out] at h0
                have h1 := none_left.1 h0
                have h2 := HF.out.2.2.1.2 ((run_full HL.out.2.1 HD.out.1).2 fun j hj => h1 j (by rw [List.length_set]; have := HX.out.1.len; have := HL.out.1; omega))
                cases h2
              · exact h0
            have ez : decide ((cn : Int) = 0) = false := decide_eq_false (by omega)
            have ez2 : ((cn : Int) == 0) = false := by simp; omega
            have hrow : Bools w7 w3.heap.size (.slice (some ⟨w4.heap.size, 0, none⟩) n n) (hs.set kk true) := (Only.grow HG.out.1 HF.out.1.sz (fun _ _ => False)).row (HF.out.2.1.row HB.out.1 (fun b _ => bool_za b)) (fun _ _ h => h)
            have hw7 : Whl w3 tb w4.heap.size n mo k L (i + 1) (hs.set kk true) (dn ++ [q.k]) A' w7 := by
              refine ⟨HF.out.1.grow HG.out.1, HF.out.2.2.2.2.1 rfl, hrow, by rw [List.length_set]; exact HX.out.1.len, HD.out.1, by rw [← HCN.out]; exact hcp, fun j hj hji => ?_, HG.out.2.2⟩
              by_cases hjk : kk = j
              · subst hjk
                exact List.getElem?_set_self HX.out.2.2.2.1
              · rw [List.getElem?_set_ne hjk]
                refine HX.out.1.seen j hj ?_
                have h1 := HX.out.2.1
                by_cases him : i < mo
                · omega
                · rw [dif_neg him] at h1
                  omega
            have HW := Lib.hid hw7
            clear hrow hw7
            go_wp2_with fail
            refine (rsLawCode_any 0 _ (by decide) (by decide)).mono ?_
            rintro e w' ⟨rfl, rfl⟩
            go_wp2_with fail
            go_roundg (mo + n - (i + 1))
            case measure => have := HX.out.2.2.1; omega
            case rel => exact ⟨i + 1, _, _, _, by have := HX.out.2.2.1; omega, rfl, by rw [HCN.out], by go_num, HW.out⟩
    · exfalso
      have h1 := none_left.2 fun j hj => hW.seen j (by rw [← hW.len]; exact hj) (by have := hW.len; omega)
      have := hW.some_
      omega
end Go.Proofs.Ytmnemkeieaflhaa
