/- Contract: further. -/
import Derived.Test.YtkofmbnolaiecaaFrCar
import Derived.Test.YtkofmbnolaiecaaFrPiece
namespace Go.Proofs.Ytkofmbnolaiecaa
set_option linter.unusedVariables false
set_option linter.unusedSimpArgs false
open Go.ChangeShapes Go.WideShapes Go.ChangeAt Go.RowKit

/-- What further hands back. -/
def Further (w : World) (k : Pkt) (mtu : Int) (e : Ending) (w' : World) : Prop :=
  ∃ c u, e = .returned (.tuple #[u, .int .i64 (fwhy k mtu)]) ∧ Byt w' u c ∧ (fwhy k mtu = 0 → (k.len : Int) ≤ mtu ∨ c = fcar k.opts) ∧ c.length ≤ 40 ∧ Grow w w'
theorem Further.fail {w w' : World} {k : Pkt} {mtu : Int} {n : Int} (h : fwhy k mtu = n) (hn : n ≠ 0) (hg : Grow w w') : Further w k mtu (.returned (.tuple #[.slice none 0 0, .int .i64 n])) w' :=
  ⟨[], _, by rw [h], Byt.nil _, fun h0 => absurd (h.symm.trans h0) hn, by simp, hg⟩

def Fw (k : Pkt) (mtu n : Int) : Prop := fwhy k mtu = n

set_option maxHeartbeats 4000000 in
theorem further_any (v : Value) (k : Pkt) (mtu : Int) (w : World) (h : Ip w v k) (hs : k.Small) (hm1 : -9223372036854775808 ≤ mtu) (hm2 : mtu ≤ 9223372036854775807) :
    Calls Try.prog 16 #[v, .int .i64 mtu] w (Further w k mtu) := by
  obtain ⟨A, c, B, d, rfl, ho, hd, hk⟩ := h.form
  have hsm := hs
  obtain ⟨hs1, hs2⟩ := hs
  have hlen : k.len ≤ 2000020 := by unfold Pkt.len; omega
  have hc9 := k.check_in
  obtain ⟨W1, hW1⟩ : ∃ W1, W1 = w.alloc (.cells #[.int .u8 (k.tos : Int), .int .u16 (k.ident : Int), .bool k.whole, .bool k.more, .int .i64 k.off, .int .u8 (k.ttl : Int), .int .u8 (k.proto : Int), .int .u32 (k.src : Int), .int .u32 (k.dst : Int), .slice A k.opts.length c, .slice B k.data.length d] 27) := ⟨_, rfl⟩
  have hg1 : Grow w W1 := by rw [hW1]; exact Grow.alloc _ _
  have hB : Blk W1 w.heap.size k (.slice A k.opts.length c) (.slice B k.data.length d) := by rw [hW1]; exact Blk.new _ _ _ _
  have hip : Ip W1 (ipV k (.slice A k.opts.length c) (.slice B k.data.length d)) k := h.grow hg1
  have T := Lib.hid (And.intro hg1 (And.intro hB (And.intro hip (ho.grow hg1))))
  have cC := Check_ip _ k W1 hip hsm
  have cL := fun w' (g : Grow W1 w') => Len_any _ k w' (hip.grow g) hsm
  have cR := fun w' (g : Grow W1 w') => Carried_any _ k.opts w' ((ho.grow hg1).grow g) hs1
  have fin : ∀ n, n = fwhy k mtu → Hid (Fw k mtu n) := fun n h => h.symm
  unfold fwhy at fin
  clear hB hip hg1 ho hd h
  by_cases h0 : k.check ≠ 0
  · have F := fin k.check (by rw [if_pos h0])
    have d0 : (k.check != 0) = true := by simpa using h0
    have HN := Lib.hid h0
    clear fin cL cR h0
    generalize k.check = n at *
    go_enter Try.func16, Try.ntmps16
    go_wp2_with fail
    rw [← hW1]
    refine cC.mono ?_
    rintro e w2 ⟨rfl, hg2⟩
    go_wp2_with fail
    go_ret2
    exact Further.fail F.out HN.out (T.out.1.trans hg2)
  have h0' : k.check = 0 := by omega
  rw [if_neg h0] at fin
  rw [h0'] at cC
  clear h0 h0' hc9
  by_cases h1 : mtu < 68
  · have F := fin 1 (by rw [if_pos (.inl h1)])
    clear fin cL cR
    go_enter Try.func16, Try.ntmps16
    go_wp2_with fail
    rw [← hW1]
    refine cC.mono ?_
    rintro e w2 ⟨rfl, hg2⟩
    go_wp2_with fail
    go_ret2
    exact Further.fail F.out (by decide) (T.out.1.trans hg2)
  by_cases h2 : 65535 < mtu
  · have F := fin 1 (by rw [if_pos (.inr h2)])
    clear fin cL cR
    go_enter Try.func16, Try.ntmps16
    go_wp2_with fail
    rw [← hW1]
    refine cC.mono ?_
    rintro e w2 ⟨rfl, hg2⟩
    go_wp2_with fail
    go_ret2
    exact Further.fail F.out (by decide) (T.out.1.trans hg2)
  rw [if_neg (by omega)] at fin
  by_cases h3 : (k.len : Int) ≤ mtu
  · have F := fin 0 (by rw [if_pos h3])
    clear fin cR
    go_enter Try.func16, Try.ntmps16
    go_wp2_with fail
    rw [← hW1]
    refine cC.mono ?_
    rintro e w2 ⟨rfl, hg2⟩
    clear hW1
    obtain ⟨b0, b1, b2, b3, b4, b5, b6, b7, b8, b9, b10⟩ := (T.out.2.1.grow hg2).boxd
    have C2 := cL w2 hg2
    clear cL cC
    go_wp2_with fail
    refine C2.mono ?_
    rintro e w3 ⟨rfl, hg3⟩
    go_wp2_with fail
    go_ret2
    exact ⟨[], _, by rw [show fwhy k mtu = _ from F.out]; try rfl, Byt.nil _, fun _ => .inl h3, by simp, (T.out.1.trans hg2).trans hg3⟩
  rw [if_neg h3] at fin
  by_cases h4 : k.whole = true
  · have F := fin 110 (by rw [if_pos h4])
    have H4 := Lib.hid h4
    clear fin cR h4
    go_enter Try.func16, Try.ntmps16
    go_wp2_with fail
    rw [← hW1]
    refine cC.mono ?_
    rintro e w2 ⟨rfl, hg2⟩
    clear hW1
    obtain ⟨b0, b1, b2, b3, b4, b5, b6, b7, b8, b9, b10⟩ := (T.out.2.1.grow hg2).boxd
    have C2 := cL w2 hg2
    clear cL cC
    go_wp2_with fail
    refine C2.mono ?_
    rintro e w3 ⟨rfl, hg3⟩
    clear b0 b1 b2 b3 b4 b5 b6 b7 b8 b9 b10
    obtain ⟨b0, b1, b2, b3, b4, b5, b6, b7, b8, b9, b10⟩ := (T.out.2.1.grow (hg2.trans hg3)).boxd
    rw [H4.out] at b2
    go_wp2_with fail
    go_ret2
    exact Further.fail F.out (by decide) ((T.out.1.trans hg2).trans hg3)
  have h4' : k.whole = false := by simpa using h4
  rw [if_neg h4] at fin
  have F := fin _ rfl
  have hc3 := fcode_in k.opts
  have H4 := Lib.hid h4'
  clear fin h4 h4'
  go_enter Try.func16, Try.ntmps16
  go_wp2_with fail
  rw [← hW1]
  refine cC.mono ?_
  rintro e w2 ⟨rfl, hg2⟩
  clear hW1
  obtain ⟨b0, b1, b2, b3, b4, b5, b6, b7, b8, b9, b10⟩ := (T.out.2.1.grow hg2).boxd
  have C2 := cL w2 hg2
  clear cL cC
  go_wp2_with fail
  refine C2.mono ?_
  rintro e w3 ⟨rfl, hg3⟩
  clear b0 b1 b2 b3 b4 b5 b6 b7 b8 b9 b10
  obtain ⟨b0, b1, b2, b3, b4, b5, b6, b7, b8, b9, b10⟩ := (T.out.2.1.grow (hg2.trans hg3)).boxd
  rw [H4.out] at b2
  have C3 := cR w3 (hg2.trans hg3)
  clear cR
  go_wp2_with fail
  refine C3.mono ?_
  rintro e w4 ⟨u, rfl, hb4, hg4⟩
  go_wp2_with fail
  go_ret2
  exact ⟨_, _, by rw [show fwhy k mtu = _ from F.out]; try rfl, hb4, fun _ => .inr rfl, (fcar_length _).1, ((T.out.1.trans hg2).trans hg3).trans hg4⟩
end Go.Proofs.Ytkofmbnolaiecaa
