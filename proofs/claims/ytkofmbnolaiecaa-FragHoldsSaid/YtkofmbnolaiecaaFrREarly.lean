/- Contract: the reference's Split, of packets that are not cut. -/
import Derived.Test.YtkofmbnolaiecaaFrSpl
import Derived.Test.YtkofmbnolaiecaaFrRCar
namespace Go.Proofs.Ytkofmbnolaiecaa
set_option linter.unusedVariables false
set_option linter.unusedSimpArgs false
open Go.ChangeShapes Go.WideShapes Go.ChangeAt Go.RowKit

/-- What the reference's Split hands back. -/
def Rsplitted (w : World) (k : Pkt) (mtu : Int) (e : Ending) (w' : World) : Prop :=
  ∃ u, e = .returned (.tuple #[u, .int .i64 (fcodeS k mtu)]) ∧ Psl w' u (flist k mtu) ∧ Grow w w'
theorem Rsplitted.fail {w w' : World} {k : Pkt} {mtu : Int} {n : Int} (h : fcodeS k mtu = n) (h2 : flist k mtu = []) (hg : Grow w w') : Rsplitted w k mtu (.returned (.tuple #[.slice none 0 0, .int .i64 n])) w' :=
  ⟨_, by rw [h], by rw [h2]; exact Psl.nil _, hg⟩

set_option maxHeartbeats 4000000 in
theorem RSplit_early (v : Value) (k : Pkt) (mtu : Int) (w : World) (h : Ip w v k) (hs : k.Small) (hm1 : -9223372036854775808 ≤ mtu) (hm2 : mtu ≤ 9223372036854775807) (hx : fwhy k mtu ≠ 0 ∨ (k.len : Int) ≤ mtu) :
    Calls Try.prog 9 #[v, .int .i64 mtu] w (Rsplitted w k mtu) := by
  obtain ⟨A, c, B, d, rfl, ho, hd, hk⟩ := h.form
  have hsm := hs
  obtain ⟨hs1, hs2⟩ := hs
  have hlen : k.len ≤ 2000020 := by unfold Pkt.len; omega
  have hc9 := k.check_in
  obtain ⟨W1, hW1⟩ : ∃ W1, W1 = w.alloc (.cells #[.int .u8 (k.tos : Int), .int .u16 (k.ident : Int), .bool k.whole, .bool k.more, .int .i64 k.off, .int .u8 (k.ttl : Int), .int .u8 (k.proto : Int), .int .u32 (k.src : Int), .int .u32 (k.dst : Int), .slice A k.opts.length c, .slice B k.data.length d] 27) := ⟨_, rfl⟩
  have hg1 : Grow w W1 := by rw [hW1]; exact Grow.alloc _ _
  have hB : Blk W1 w.heap.size k (.slice A k.opts.length c) (.slice B k.data.length d) := by rw [hW1]; exact Blk.new _ _ _ _
  have hip : Ip W1 (ipV k (.slice A k.opts.length c) (.slice B k.data.length d)) k := h.grow hg1
  have T := Lib.hid (And.intro hg1 (And.intro hB (And.intro (ho.grow hg1) (And.intro (hd.grow hg1) hk))))
  have cC := RCheck_ip _ k W1 hip hsm
  have cL := fun w' (g : Grow W1 w') => RLen_any _ k w' (hip.grow g) hsm
  have cR := fun w' (g : Grow W1 w') => RCarried_any _ k.opts w' ((ho.grow hg1).grow g) hs1
  have fin : ∀ n, n = fwhy k mtu → n ≠ 0 → Hid (fcodeS k mtu = n ∧ flist k mtu = []) := fun n h hn => by
    rw [h]; rw [h] at hn; exact fsplit_why hn
  have fin0 : fwhy k mtu = 0 → (k.len : Int) ≤ mtu → Hid (fcodeS k mtu = 0 ∧ flist k mtu = [k]) := fun h1 h2 => by
    obtain ⟨q1, q2, q3⟩ := fwhy_ok h1
    obtain ⟨q4, q5, q6, q7⟩ := Pkt.check_ok q1
    refine fsplit_some h1 ?_
    unfold fgo
    rw [fpieces, if_neg (by omega), if_pos (by omega)]
  have hx' := Lib.hid hx
  have FW : fwhy k mtu = fwhy k mtu := rfl
  unfold fwhy at FW
  clear hB hip hg1 ho hd h hx
  by_cases h0 : k.check ≠ 0
  · have F := fin k.check (by unfold fwhy; rw [if_pos h0]) h0
    have d0 : (k.check != 0) = true := by simpa using h0
    clear fin fin0 cL cR h0 FW
    generalize k.check = n at *
    go_enter Try.func9, Try.ntmps9
    go_wp2_with fail
    rw [← hW1]
    refine cC.mono ?_
    rintro e w2 ⟨rfl, hg2⟩
    go_wp2_with fail
    go_ret2
    exact Rsplitted.fail F.out.1 F.out.2 (T.out.1.trans hg2)
  have h0' : k.check = 0 := by omega
  rw [h0'] at cC
  by_cases h1 : mtu < 68
  · have F := fin 1 (by unfold fwhy; rw [if_neg h0, if_pos (.inl h1)]) (by decide)
    clear fin fin0 cL cR h0 h0' FW hc9
    go_enter Try.func9, Try.ntmps9
    go_wp2_with fail
    rw [← hW1]
    refine cC.mono ?_
    rintro e w2 ⟨rfl, hg2⟩
    go_wp2_with fail
    go_ret2
    exact Rsplitted.fail F.out.1 F.out.2 (T.out.1.trans hg2)
  by_cases h2 : 65535 < mtu
  · have F := fin 1 (by unfold fwhy; rw [if_neg h0, if_pos (.inr h2)]) (by decide)
    clear fin fin0 cL cR h0 h0' FW hc9
    go_enter Try.func9, Try.ntmps9
    go_wp2_with fail
    rw [← hW1]
    refine cC.mono ?_
    rintro e w2 ⟨rfl, hg2⟩
    go_wp2_with fail
    go_ret2
    exact Rsplitted.fail F.out.1 F.out.2 (T.out.1.trans hg2)
  have h12 : ¬ (mtu < 68 ∨ 65535 < mtu) := by omega
  by_cases h3 : (k.len : Int) ≤ mtu
  · have F := fin0 (by unfold fwhy; rw [if_neg h0, if_neg h12, if_pos h3]) h3
    clear fin fin0 cR h0 h0' FW hc9 h12
    go_enter Try.func9, Try.ntmps9
    go_wp2_with fail
    rw [← hW1]
    refine cC.mono ?_
    rintro e w2 ⟨rfl, hg2⟩
    clear hW1
    obtain ⟨b0, b1, b2, b3, b4, b5, b6, b7, b8, b9, b10⟩ := (T.out.2.1.grow hg2).boxd
    have C2 := cL w2 hg2
    clear cL cC
    go_wp2_with fail
    refine C2.mono ?_
    rintro e w3 ⟨rfl, hg3⟩
    clear b0 b1 b2 b3 b4 b5 b6 b7 b8 b9 b10
    obtain ⟨b0, b1, b2, b3, b4, b5, b6, b7, b8, b9, b10⟩ := (T.out.2.1.grow (hg2.trans hg3)).boxd
    go_wp2_with fail
    go_ret2
    have hG := fun o => (hg2.trans hg3).trans (Grow.alloc w3 o)
    exact ⟨_, by rw [F.out.1]; rfl, by rw [F.out.2]; exact ⟨[⟨k, _, _⟩], rfl, (Iprow.lit _ ⟨k, _, _⟩ _ rfl _ rfl).ips, fun q hq => by rw [List.mem_singleton.1 hq]; exact ⟨T.out.2.2.1.grow (hG _), T.out.2.2.2.1.grow (hG _), T.out.2.2.2.2⟩⟩, T.out.1.trans (hG _)⟩
  by_cases h4 : k.whole = true
  · have F := fin 110 (by unfold fwhy; rw [if_neg h0, if_neg h12, if_neg h3, if_pos h4]) (by decide)
    have H4 := Lib.hid h4
    clear fin fin0 cR h0 h0' FW hc9 h12 h4
    go_enter Try.func9, Try.ntmps9
    go_wp2_with fail
    rw [← hW1]
    refine cC.mono ?_
    rintro e w2 ⟨rfl, hg2⟩
    clear hW1
    obtain ⟨b0, b1, b2, b3, b4, b5, b6, b7, b8, b9, b10⟩ := (T.out.2.1.grow hg2).boxd
    have C2 := cL w2 hg2
    clear cL cC
    go_wp2_with fail
    refine C2.mono ?_
    rintro e w3 ⟨rfl, hg3⟩
    clear b0 b1 b2 b3 b4 b5 b6 b7 b8 b9 b10
    obtain ⟨b0, b1, b2, b3, b4, b5, b6, b7, b8, b9, b10⟩ := (T.out.2.1.grow (hg2.trans hg3)).boxd
    rw [H4.out] at b2
    go_wp2_with fail
    go_ret2
    exact Rsplitted.fail F.out.1 F.out.2 ((T.out.1.trans hg2).trans hg3)
  have h4' : k.whole = false := by simpa using h4
  have eF : fwhy k mtu = fcode k.opts := by unfold fwhy; rw [if_neg h0, if_neg h12, if_neg h3, if_neg h4]
  have hfn : fcode k.opts ≠ 0 := by
    rcases hx'.out with hx | hx
    · rw [← eF]; exact hx
    · exact absurd hx h3
  have F := fin (fcode k.opts) eF.symm hfn
  have hc3 := fcode_in k.opts
  have H4 := Lib.hid h4'
  have dn : (fcode k.opts != 0) = true := by simpa using hfn
  clear fin fin0 h0 h0' FW hc9 h12 h4 h4' eF hfn
  go_enter Try.func9, Try.ntmps9
  go_wp2_with fail
  rw [← hW1]
  refine cC.mono ?_
  rintro e w2 ⟨rfl, hg2⟩
  clear hW1
  obtain ⟨b0, b1, b2, b3, b4, b5, b6, b7, b8, b9, b10⟩ := (T.out.2.1.grow hg2).boxd
  have C2 := cL w2 hg2
  clear cL cC
  go_wp2_with fail
  refine C2.mono ?_
  rintro e w3 ⟨rfl, hg3⟩
  clear b0 b1 b2 b3 b4 b5 b6 b7 b8 b9 b10
  obtain ⟨b0, b1, b2, b3, b4, b5, b6, b7, b8, b9, b10⟩ := (T.out.2.1.grow (hg2.trans hg3)).boxd
  rw [H4.out] at b2
  have C3 := cR w3 (hg2.trans hg3)
  clear cR
  go_wp2_with fail
  refine C3.mono ?_
  rintro e w4 ⟨u, rfl, hb4, hg4⟩
  go_wp2_with fail
  go_ret2
  exact Rsplitted.fail F.out.1 F.out.2 (((T.out.1.trans hg2).trans hg3).trans hg4)
end Go.Proofs.Ytkofmbnolaiecaa
