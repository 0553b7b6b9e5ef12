/- Calls played on the table and on the document's list. -/
import Derived.Test.YtfdoofkofljgnaaRtHalfA
import Derived.Test.YtfdoofkofljgnaaRtOpen
import Derived.Test.YtfdoofkofljgnaaRtLive
namespace Go.Proofs.Ytfdoofkofljgnaa
set_option linter.unusedVariables false
set_option linter.unusedSimpArgs false
open Go.ChangeShapes Go.WideShapes Go.ChangeAt Go.RowKit Go.Shelf

set_option maxRecDepth 10000 in
set_option maxHeartbeats 400000 in
theorem played_any (w : World) (v : Value) (l : List (Bool × Rt)) (ha : Acts w v l) (hlen : l.length ≤ 150) :
    Calls Try.prog 8 #[v] w fun e w' => ∃ v' r, e = .returned (.tuple #[.pointer (some ⟨w.heap.size, 0, none⟩), v', .bool true]) ∧ Half w w' v' r r := by
  obtain ⟨A, cp, rfl, hlc, hcm, hcell, hok⟩ := ha
  have hcm2 : cp ≤ 9223372036854775807 := hcm
  have HA := Lib.hid (And.intro hcell hok)
  clear hcell hok
  have cN := Half.new w
  have cC := code_any
  go_enter Try.func8, Try.ntmps8
  go_wp2_with (go_at_call 19; refine cN.mono ?_; rintro e w1 ⟨rfl, hh⟩; have H1 := Lib.hid hh; clear hh cN)
  go_loopg [6, 7] l.length (fun g s6 s7 wr => ∃ (k : Nat) (r : List Rt), k ≤ l.length ∧ g = l.length - k ∧ s7 = .int .i64 (k : Int) ∧ Half w wr s6 r r)
  case atStart => exact ⟨0, [], Nat.zero_le _, rfl, rfl, H1.out⟩
  case round =>
    obtain ⟨k, r, hk, rfl, rfl, hh⟩ := hrel
    rcases Nat.lt_or_ge k l.length with hlt | hge
    · obtain ⟨b, off, rfl, hb, hc⟩ := HA.out.1 (by omega)
      have hx : (l[k]).2.Ok := HA.out.2 _ (List.getElem_mem hlt)
      obtain ⟨hg, hr⟩ := hc k hlt
      have hGr := hh.out
      have g0 := (hGr.cell (p := ⟨b, off + k * 6, none⟩) hb).trans hg
      have hr2 := hr.grow hGr hb
      have hbW : b < wr.heap.size := Nat.lt_of_lt_of_le hb hGr.size
      generalize l[k] = a at *
      obtain ⟨gone, x⟩ := a
      simp only at hx g0 hr2
      obtain ⟨x0, x1, x2, x3, x4⟩ := hr2
      have RX := RtAt.new wr x 32
      have HX := Lib.hid RX
      have HH := Lib.hid hh
      obtain ⟨b0, b1, b2, b3, b4⟩ := RX
      simp only [Nat.zero_add] at b1 b2 b3 b4
      have cA := hh.add (Grow.alloc wr (.cells #[.int .u32 x.net, .int .i64 x.bits, .int .u32 x.via, .int .i64 x.iface, .int .i64 x.cost] 32)) x hx
      have cR := hh.rem (Grow.alloc wr (.cells #[.int .u32 x.net, .int .i64 x.bits, .int .u32 x.via, .int .i64 x.iface, .int .i64 x.cost] 32)) x.net x.bits x.cost ⟨hx.n0, hx.n1⟩
      have cRA := hh.radds hx
      have cRR := hh.rrems x.net x.bits x.cost
      have hlr : (raddL r x).length ≤ 64 := (hh.fine.add hx).len
      have hlm : (rremL r x.net x.bits x.cost).length ≤ 64 := (hh.fine.rem _ _ _).len
      have hltI : (k : Int) < (l.length : Int) := by omega
      clear hc hg hr hh hGr H1 hx hb hcm hlc hltI
      have hltI : (k : Int) < (l.length : Int) := by omega
      generalize raddL r x = ra at *
      generalize raddE r x = ea at *
      generalize rremL r x.net x.bits x.cost = rm at *
      generalize rremE r x.net x.bits x.cost = em at *
      obtain ⟨xn, xb, xv, xi, xc⟩ := x
      unfold rtV at cA cRA
      simp only at *
      cases gone with
      | true =>
        clear cA cRA hlr
        go_wp2_with (first
          | (go_at_call 15; refine (cC _ _).mono ?_; rintro e w' ⟨rfl, rfl⟩)
          | (go_at_call 17; refine cR.mono ?_; rintro e w1 ⟨rfl, hh1, hkp⟩; obtain ⟨q0, q1, q2, q3, q4⟩ := HX.out.kept (hkp wr.heap.size (Nat.le_refl _) (by simp)); simp only [Nat.zero_add] at q1 q2 q3 q4; have cRR1 := cRR w1 hh1; clear cR hkp hh1 cRR)
          | (go_at_call 20; refine cRR1.mono ?_; rintro e w2 ⟨v2, rfl, hh2⟩; obtain ⟨A2, c2, rfl, hl2, hm2⟩ := hh2.rts.form; have cS := hh2.size; have H2 := Lib.hid hh2; clear hh2 cRR1 q0 q1 q2 q3 q4)
          | (go_at_call 18; refine cS.mono ?_; rintro e w' ⟨rfl, rfl⟩))
        go_roundg (l.length - (k + 1))
        case measure => omega
        case rel => exact ⟨k + 1, rm, by omega, rfl, by go_num, H2.out⟩
      | false =>
        clear cR cRR hlm
        go_wp2_with (first
          | (go_at_call 15; refine (cC _ _).mono ?_; rintro e w' ⟨rfl, rfl⟩)
          | (go_at_call 16; refine cA.mono ?_; rintro e w1 ⟨rfl, hh1, hkp⟩; obtain ⟨q0, q1, q2, q3, q4⟩ := HX.out.kept (hkp wr.heap.size (Nat.le_refl _) (by simp)); simp only [Nat.zero_add] at q1 q2 q3 q4; have cRA1 := cRA w1 hh1; clear cA hkp hh1 cRA)
          | (go_at_call 21; refine cRA1.mono ?_; rintro e w2 ⟨v2, rfl, hh2⟩; obtain ⟨A2, c2, rfl, hl2, hm2⟩ := hh2.rts.form; have cS := hh2.size; have H2 := Lib.hid hh2; clear hh2 cRA1 q0 q1 q2 q3 q4)
          | (go_at_call 18; refine cS.mono ?_; rintro e w' ⟨rfl, rfl⟩))
        go_roundg (l.length - (k + 1))
        case measure => omega
        case rel => exact ⟨k + 1, ra, by omega, rfl, by go_num, H2.out⟩
    · obtain rfl : k = l.length := by omega
      have HH := Lib.hid hh
      clear hh
      go_wp2_with fail
      go_ret3
      exact ⟨_, _, rfl, HH.out⟩
end Go.Proofs.Ytfdoofkofljgnaa
