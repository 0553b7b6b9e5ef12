/- The reference's Same, of packets that are the same; Many; Split of both as one. -/
import Derived.Test.YtkofmbnolaiecaaFrSplit
import Derived.Test.YtkofmbnolaiecaaFrRSplit
import Derived.Test.YtkofmbnolaiecaaGw
namespace Go.Proofs.Ytkofmbnolaiecaa
set_option linter.unusedVariables false
set_option linter.unusedSimpArgs false
open Go.ChangeShapes Go.WideShapes Go.ChangeAt Go.RowKit
attribute [local irreducible] wpQuiet

/-- Eleven cells in every world of the class. -/
theorem PkAt.gw {w : World} {b o : Nat} {q : Pk} (h : PkAt w b o q) (hb : b < w.heap.size) :
    (∀ p : Gw w, p.v.cell? ⟨b, o, none⟩ = some (.int .u8 (q.k.tos : Int))) ∧ (∀ p : Gw w, p.v.cell? ⟨b, o + 1, none⟩ = some (.int .u16 (q.k.ident : Int))) ∧ (∀ p : Gw w, p.v.cell? ⟨b, o + 2, none⟩ = some (.bool q.k.whole)) ∧ (∀ p : Gw w, p.v.cell? ⟨b, o + 3, none⟩ = some (.bool q.k.more)) ∧
    (∀ p : Gw w, p.v.cell? ⟨b, o + 4, none⟩ = some (.int .i64 q.k.off)) ∧ (∀ p : Gw w, p.v.cell? ⟨b, o + 5, none⟩ = some (.int .u8 (q.k.ttl : Int))) ∧ (∀ p : Gw w, p.v.cell? ⟨b, o + 6, none⟩ = some (.int .u8 (q.k.proto : Int))) ∧ (∀ p : Gw w, p.v.cell? ⟨b, o + 7, none⟩ = some (.int .u32 (q.k.src : Int))) ∧
    (∀ p : Gw w, p.v.cell? ⟨b, o + 8, none⟩ = some (.int .u32 (q.k.dst : Int))) ∧ (∀ p : Gw w, p.v.cell? ⟨b, o + 9, none⟩ = some q.vo) ∧ (∀ p : Gw w, p.v.cell? ⟨b, o + 10, none⟩ = some q.vd) := by
  refine ⟨fun p => ?_, fun p => ?_, fun p => ?_, fun p => ?_, fun p => ?_, fun p => ?_, fun p => ?_, fun p => ?_, fun p => ?_, fun p => ?_, fun p => ?_⟩ <;>
  · obtain ⟨h0, h1, h2, h3, h4, h5, h6, h7, h8, h9, h10⟩ := h.grow p.h hb
    assumption

set_option maxRecDepth 10000 in
set_option maxHeartbeats 4000000 in
theorem RSame11_any (ks : List Pkt) (a b : Value) (w : World) (ha : Psl w a ks) (hz : Psl w b ks) :
    Calls Try.prog 11 #[a, b] w fun e w' => e = .returned (.bool true) ∧ Grow w w' := by
  obtain ⟨la, ela, hia, hga⟩ := ha
  obtain ⟨lb, elb, hib, hgb⟩ := hz
  obtain ⟨A, c, rfl, hlc, hcm⟩ := hia.form
  obtain ⟨A2, c2, rfl, hlc2, hcm2⟩ := hib.form
  have hll : la.length = lb.length := by
    have h1 := congrArg List.length ela
    have h2 := congrArg List.length elb
    rw [List.length_map] at h1 h2
    omega
  have hm : la.length ≤ 9223372036854775807 := Nat.le_trans hlc hcm
  have HA := Lib.hid (And.intro hia (And.intro hib (And.intro hga (And.intro hgb (And.intro ela elb)))))
  obtain ⟨n, hn⟩ : ∃ n, n = lb.length := ⟨_, rfl⟩
  rw [← hn] at hll hlc2 HA ⊢
  have HN := Lib.hid hn
  obtain rfl := hll
  clear hia hib hga hgb ela elb hn
  go_enter Try.func11, Try.ntmps11
  go_wp2_with fail
  go_loopg [5] la.length (fun g s5 wr => ∃ k : Nat, k ≤ la.length ∧ g = la.length - k ∧ s5 = .int .i64 (k : Int) ∧ Grow w wr)
  case atStart => exact ⟨0, Nat.zero_le _, rfl, rfl, Grow.refl _⟩
  case round =>
    obtain ⟨i, hk, rfl, rfl, hgr⟩ := hrel
    rcases Nat.lt_or_ge i la.length with hlt | hge
    · obtain ⟨hia, hib, hga, hgb, ela, elb⟩ := HA.out
      obtain ⟨b, off, rfl, hb, hc⟩ := hia.at_ (by omega)
      obtain ⟨b2, off2, rfl, hb2, hc2⟩ := hib.at_ (by omega)
      have hlt2 : i < lb.length := by have := HN.out; omega
      have X := hc i hlt
      have Y := hc2 i hlt2
      have gx := hga _ (List.getElem_mem hlt)
      have gy := hgb _ (List.getElem_mem hlt2)
      have ek : (la[i]'hlt).k = (lb[i]'hlt2).k := by
        have h1 : (la.map Pk.k)[i]? = (lb.map Pk.k)[i]? := by rw [ela, elb]
        rw [List.getElem?_map, List.getElem?_map, List.getElem?_eq_getElem hlt, List.getElem?_eq_getElem hlt2] at h1
        simpa using h1
      generalize la[i]'hlt = x at *
      generalize lb[i]'hlt2 = y at *
      have hbr : b < wr.heap.size := Nat.lt_of_lt_of_le hb hgr.size
      have hbr2 : b2 < wr.heap.size := Nat.lt_of_lt_of_le hb2 hgr.size
      obtain ⟨x0, x1, x2, x3, x4, x5, x6, x7, x8, x9, x10⟩ := (X.grow hgr hb).gw hbr
      obtain ⟨y0, y1, y2, y3, y4, y5, y6, y7, y8, y9, y10⟩ := (Y.grow hgr hb2).gw hbr2
      have cS : ∀ p : Gw wr, Calls Try.prog 21 #[ipV x.k x.vo x.vd, ipV y.k y.vo y.vd] p.v fun e w' => e = .returned (.bool true) ∧ ∃ q : Gw wr, w' = q.v := fun p =>
        Calls.gw (RSame_yes _ _ x.k y.k p.v (gx.grow (hgr.trans p.h)).ip (gy.grow (hgr.trans p.h)).ip ek)
      have A1 := Lib.hid hgr
      have hkI : (i : Int) < (la.length : Int) := by omega
      clear hc hc2 hgr hb hb2 X Y gx gy ek hia hib hga hgb ela elb hbr hbr2
      go_wp2_with fail
      refine wp_region_gw (by kernel_rfl) (by kernel_rfl) ?_
      repeat (quiet_step ((go_at_call 21; exact cS _)))
      refine wpQuiet_nil ?_
      intro _ hw'
      obtain ⟨⟨wq, hgq⟩, hw2⟩ := hw'
      subst hw2
      clear x0 x1 x2 x3 x4 x5 x6 x7 x8 x9 x10 y0 y1 y2 y3 y4 y5 y6 y7 y8 y9 y10 cS
      go_wp2_with fail
      go_roundg (la.length - (i + 1))
      case measure => omega
      case rel => exact ⟨i + 1, by omega, rfl, by go_num, A1.out.trans hgq⟩
    · have A1 := Lib.hid hgr
      have hkk : i = la.length := by omega
      subst hkk
      clear hgr
      go_wp2_with fail
      go_ret
      exact ⟨rfl, A1.out⟩

theorem RSplit_any (v : Value) (k : Pkt) (mtu : Int) (w : World) (h : Ip w v k) (hs : k.Small) (hm1 : -9223372036854775808 ≤ mtu) (hm2 : mtu ≤ 9223372036854775807) :
    Calls Try.prog 9 #[v, .int .i64 mtu] w (Rsplitted w k mtu) := by
  by_cases h1 : fwhy k mtu ≠ 0
  · exact RSplit_early v k mtu w h hs hm1 hm2 (.inl h1)
  by_cases h2 : (k.len : Int) ≤ mtu
  · exact RSplit_early v k mtu w h hs hm1 hm2 (.inr h2)
  have h0 : fwhy k mtu = 0 := by simpa using h1
  obtain ⟨_, h3, _⟩ := fwhy_ok h0
  obtain ⟨m, rfl⟩ := Int.eq_ofNat_of_zero_le (show 0 ≤ mtu by omega)
  exact RSplit_late v k m w h hs h0 (by omega)

theorem Psl.of_mine {w : World} {base : Nat} {v : Value} {l : List Pk} {ks : List Pkt} (h1 : l.map Pk.k = ks) (h2 : Iprow w base v l) (h3 : ∀ q ∈ l, q.Mine w base) : Psl w v ks :=
  ⟨l, h1, h2.ips, fun q hq => (h3 q hq).good⟩

set_option maxHeartbeats 2000000 in
theorem Many_any (v : Value) (k : Pkt) (mtu : Int) (w : World) (h : Ip w v k) (hs : k.Small) (hm1 : -9223372036854775808 ≤ mtu) (hm2 : mtu ≤ 9223372036854775807) :
    Calls Try.prog 10 #[v, .int .i64 mtu] w fun e w' => e = .returned (.tuple #[.int .i64 ((flist k mtu).length : Nat), .int .i64 (fcodeS k mtu)]) ∧ Grow w w' := by
  obtain ⟨A, c, B, d, rfl, ho, hd, hk⟩ := h.form
  have hc := fcodeS_in k mtu
  have hg1 := Grow.alloc w (.cells #[.int .u8 (k.tos : Int), .int .u16 (k.ident : Int), .bool k.whole, .bool k.more, .int .i64 k.off, .int .u8 (k.ttl : Int), .int .u8 (k.proto : Int), .int .u32 (k.src : Int), .int .u32 (k.dst : Int), .slice A k.opts.length c, .slice B k.data.length d] 27)
  have cS := Split_any _ k mtu _ (h.grow hg1) hs hm1 hm2
  have HG := Lib.hid hg1
  clear h ho hd hg1
  go_enter Try.func10, Try.ntmps10
  go_wp2_with fail
  refine cS.mono ?_
  rintro e w2 ⟨u, l, rfl, hl, hrow, hmine, hg2⟩
  obtain ⟨A2, c2, rfl, hlc, hcm⟩ := hrow.ips.form
  have hll : l.length = (flist k mtu).length := by rw [← hl, List.length_map]
  have HL := Lib.hid hll
  clear hll
  have H2 := Lib.hid hg2
  clear hg2 hrow hmine hl
  unfold maxLen at hcm
  go_wp2_with fail
  go_ret2
  exact ⟨by rw [← HL.out]; rfl, HG.out.trans H2.out⟩
end Go.Proofs.Ytkofmbnolaiecaa
