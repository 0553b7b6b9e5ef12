/- RouteWider, walked. -/
import Derived.Test.YtfdoofkofljgnaaRtActs
import Derived.Test.YtfdoofkofljgnaaRtPure
namespace Go.Proofs.Ytfdoofkofljgnaa
set_option linter.unusedVariables false
set_option linter.unusedSimpArgs false
open Go.ChangeShapes Go.WideShapes Go.ChangeAt Go.RowKit Go.Shelf

set_option maxRecDepth 10000 in
set_option maxHeartbeats 2000000 in
theorem routeWider_walk (w : World) {v : Value} {l : List (Bool × Rt)} (ha : Acts w v l) {u : Value} {x : Rt} (hx : u = rtV x ∧ x.Ok) (n : Int) (hn : 0 ≤ n ∧ n ≤ 4294967295) :
    Calls Try.prog 6 #[v, u, .int .u32 n] w fun e w' => e = .returned (.bool true) ∧ Grow w w' := by
  obtain ⟨rfl, hok⟩ := hx
  have cL := live_any
  have cC := code_any
  have HA := Lib.hid ha
  obtain ⟨A, cp, rfl, hlc, hcm, _, _⟩ := ha
  have hcm2 : cp ≤ 9223372036854775807 := hcm
  have HOK := Lib.hid hok
  unfold rtV
  by_cases hlen : 150 < l.length
  · have hd : decide ((150 : Int) < (l.length : Int)) = true := decide_eq_true (by omega)
    clear hok
    go_enter Try.func6, Try.ntmps6
    go_wp2_with (go_at_call 7; refine (cL _).mono ?_; rintro e w3 ⟨rfl, hg3⟩; have HG3 := Lib.hid hg3; clear hg3)
    go_ret
    exact ⟨rfl, (Grow.alloc _ _).trans HG3.out⟩
  have hd : decide ((150 : Int) < (l.length : Int)) = false := decide_eq_false (by omega)
  have hle : l.length ≤ 150 := by omega
  clear hlen hok hcm hlc
  go_enter Try.func6, Try.ntmps6
  go_wp2_with fail
  generalize hW : w.alloc (.cells #[.int .u32 x.net, .int .i64 x.bits, .int .u32 x.via, .int .i64 x.iface, .int .i64 x.cost] 32) = W
  have hG : Grow w W := by rw [← hW]; exact Grow.alloc _ _
  have hsz : w.heap.size < W.heap.size := by rw [← hW]; simp
  have RX : RtAt W w.heap.size 0 x := by rw [← hW]; exact RtAt.new w x _
  clear hW
  have HBX := Lib.hid (fun w1 (hg : Grow W w1) => RX.grow hg hsz)
  have HAW : Hid (Acts W (.slice A l.length cp) l) := HA.out.grow hG
  have HG := Lib.hid hG
  clear hG RX
  refine (played_any W _ l HAW.out hle).mono ?_
  rintro e w1 ⟨v1, r, rfl, hh⟩
  have H1 := Lib.hid hh
  have HD := Lib.hid (wider_all hh.fine HOK.out n)
  clear hh hd hcm2 hle
  have cF := H1.out.find n hn
  have cF2 := fun w4 (h : Half W w4 v1 r (raddL r x)) => h.find n hn
  have cA := fun w3 (hg : Grow w1 w3) => H1.out.add hg x HOK.out
  have HE := Lib.hid (raddE_val r x)
  generalize raddL r x = r' at *
  generalize raddE r x = f at *
  generalize findR (rwaysL r n) = y at *
  generalize findE (rwaysL r n) = e1 at *
  generalize findR (rwaysL r' n) = z at *
  generalize findE (rwaysL r' n) = e2 at *
  unfold rtV at cF cF2 cA
  go_wp2_with fail
  refine cF.mono ?_
  clear cF
  rintro e w2 ⟨rfl, hg2⟩
  have RY := RtAt.new w2 y 32
  have HW3 : Hid (∃ W3, W3 = w2.alloc (.cells #[.int .u32 y.net, .int .i64 y.bits, .int .u32 y.via, .int .i64 y.iface, .int .i64 y.cost] 32) ∧ Grow w1 W3 ∧ RtAt W3 w2.heap.size 0 y ∧ w2.heap.size < W3.heap.size) := ⟨_, rfl, hg2.trans (Grow.alloc _ _), RY, by simp⟩
  have hg3 : Grow w1 (w2.alloc (.cells #[.int .u32 y.net, .int .i64 y.bits, .int .u32 y.via, .int .i64 y.iface, .int .i64 y.cost] 32)) := hg2.trans (Grow.alloc _ _)
  obtain ⟨q0, q1, q2, q3, q4⟩ := HBX.out _ (H1.out.out.trans hg3)
  simp only [Nat.zero_add] at q1 q2 q3 q4
  have hA := cA _ hg3
  have HS2 := Lib.hid hg2.size
  have HY := Lib.hid RY
  clear RY cA hg2 hg3
  go_wp2_with fail
  refine hA.mono ?_
  clear hA q0 q1 q2 q3 q4
  rintro e w4 ⟨rfl, hh4, hkp⟩
  have RY4 := HY.out.kept (hkp w2.heap.size HS2.out (by simp))
  have hs4 : w2.heap.size < w4.heap.size := by
    obtain ⟨c, _⟩ := RY4
    exact block_of_cell c
  have HY4 := Lib.hid (And.intro RY4 hs4)
  have H4 := Lib.hid hh4
  clear RY4 hkp HY hh4 hs4 HW3 HS2
  go_wp2_with fail
  refine (cF2 _ H4.out).mono ?_
  clear cF2
  rintro e w5 ⟨rfl, hg5⟩
  have hg6 : Grow w4 (w5.alloc (.cells #[.int .u32 z.net, .int .i64 z.bits, .int .u32 z.via, .int .i64 z.iface, .int .i64 z.cost] 32)) := hg5.trans (Grow.alloc _ _)
  obtain ⟨q0, q1, q2, q3, q4⟩ := HBX.out _ (H4.out.out.trans hg6)
  obtain ⟨y0, y1, y2, y3, y4⟩ := HY4.out.1.grow hg6 HY4.out.2
  obtain ⟨z0, z1, z2, z3, z4⟩ := RtAt.new w5 z 32
  simp only [Nat.zero_add] at q1 q2 q3 q4 y1 y2 y3 y4 z1 z2 z3 z4
  have HEND : Hid (Grow w (w5.alloc (.cells #[.int .u32 z.net, .int .i64 z.bits, .int .u32 z.via, .int .i64 z.iface, .int .i64 z.cost] 32))) := HG.out.trans (H4.out.out.trans hg6)
  clear hg5 hg6 HY4 H4 H1 HBX
  have hd := HD.out
  have hf := HE.out
  clear HD HE
  rcases hd with ⟨rfl, rfl | ⟨rfl, rfl⟩⟩ | ⟨rfl, rfl, ⟨hne, rfl⟩ | ⟨rfl, rfl | ⟨rfl, hyb⟩⟩⟩
  · rcases hf with rfl | rfl | rfl
    all_goals
      go_wp2_with (first
        | (go_at_call 15; refine (cC _ _).mono ?_; rintro e w' ⟨rfl, rfl⟩)
        | (go_at_call 7; refine (cL _).mono ?_; rintro e w9 ⟨rfl, hg9⟩; have HG9 := Lib.hid hg9; clear hg9))
      go_ret
      first
        | exact ⟨rfl, HEND.out.trans HG9.out⟩
        | exact ⟨rfl, HEND.out⟩
  · rcases hf with rfl | rfl | rfl
    all_goals
      go_wp2_with (first
        | (go_at_call 15; refine (cC _ _).mono ?_; rintro e w' ⟨rfl, rfl⟩)
        | (go_at_call 7; refine (cL _).mono ?_; rintro e w9 ⟨rfl, hg9⟩; have HG9 := Lib.hid hg9; clear hg9))
      go_ret
      first
        | exact ⟨rfl, HEND.out.trans HG9.out⟩
        | exact ⟨rfl, HEND.out⟩
  · rcases hf with rfl | rfl | rfl
    · exact absurd rfl hne
    all_goals
      go_wp2_with (first
        | (go_at_call 15; refine (cC _ _).mono ?_; rintro e w' ⟨rfl, rfl⟩)
        | (go_at_call 7; refine (cL _).mono ?_; rintro e w9 ⟨rfl, hg9⟩; have HG9 := Lib.hid hg9; clear hg9))
      go_ret
      first
        | exact ⟨rfl, HEND.out.trans HG9.out⟩
        | exact ⟨rfl, HEND.out⟩
  · clear hf
    by_cases hb : z.bits ≤ x.bits
    · have hb1 : decide (z.bits ≤ x.bits) = true := decide_eq_true hb
      go_wp2_with (first
        | (go_at_call 15; refine (cC _ _).mono ?_; rintro e w' ⟨rfl, rfl⟩)
        | (go_at_call 7; refine (cL _).mono ?_; rintro e w9 ⟨rfl, hg9⟩; have HG9 := Lib.hid hg9; clear hg9))
      go_ret
      first
        | exact ⟨rfl, HEND.out.trans HG9.out⟩
        | exact ⟨rfl, HEND.out⟩
    · have hb1 : decide (z.bits ≤ x.bits) = false := decide_eq_false hb
      go_wp2_with (first
        | (go_at_call 15; refine (cC _ _).mono ?_; rintro e w' ⟨rfl, rfl⟩)
        | (go_at_call 7; refine (cL _).mono ?_; rintro e w9 ⟨rfl, hg9⟩; have HG9 := Lib.hid hg9; clear hg9))
      go_ret
      first
        | exact ⟨rfl, HEND.out.trans HG9.out⟩
        | exact ⟨rfl, HEND.out⟩
  · clear hf
    have hb1 : decide (y.bits ≤ z.bits) = true := decide_eq_true hyb
    by_cases h0 : z.net = y.net
    · have g0 : (z.net == y.net) = true := beq_iff_eq.2 h0
      have k0 : decide (z.net = y.net) = true := decide_eq_true h0
      by_cases h1 : z.bits = y.bits
      · have g1 : (z.bits == y.bits) = true := beq_iff_eq.2 h1
        have k1 : decide (z.bits = y.bits) = true := decide_eq_true h1
        by_cases h2 : z.via = y.via
        · have g2 : (z.via == y.via) = true := beq_iff_eq.2 h2
          have k2 : decide (z.via = y.via) = true := decide_eq_true h2
          by_cases h3 : z.iface = y.iface
          · have g3 : (z.iface == y.iface) = true := beq_iff_eq.2 h3
            have k3 : decide (z.iface = y.iface) = true := decide_eq_true h3
            by_cases h4 : z.cost = y.cost
            · have g4 : (z.cost == y.cost) = true := beq_iff_eq.2 h4
              have k4 : decide (z.cost = y.cost) = true := decide_eq_true h4
              clear h0 h1 h2 h3 h4
              go_wp2_with (first
                | (go_at_call 15; refine (cC _ _).mono ?_; rintro e w' ⟨rfl, rfl⟩)
                | (go_at_call 7; refine (cL _).mono ?_; rintro e w9 ⟨rfl, hg9⟩; have HG9 := Lib.hid hg9; clear hg9))
              go_ret
              first
                | exact ⟨rfl, HEND.out.trans HG9.out⟩
                | exact ⟨rfl, HEND.out⟩
            · have g4 : (z.cost == y.cost) = false := beq_eq_false_iff_ne.2 h4
              have k4 : decide (z.cost = y.cost) = false := decide_eq_false h4
              clear h0 h1 h2 h3 h4
              go_wp2_with (first
                | (go_at_call 15; refine (cC _ _).mono ?_; rintro e w' ⟨rfl, rfl⟩)
                | (go_at_call 7; refine (cL _).mono ?_; rintro e w9 ⟨rfl, hg9⟩; have HG9 := Lib.hid hg9; clear hg9))
              go_ret
              first
                | exact ⟨rfl, HEND.out.trans HG9.out⟩
                | exact ⟨rfl, HEND.out⟩
          · have g3 : (z.iface == y.iface) = false := beq_eq_false_iff_ne.2 h3
            have k3 : decide (z.iface = y.iface) = false := decide_eq_false h3
            clear h0 h1 h2 h3
            go_wp2_with (first
              | (go_at_call 15; refine (cC _ _).mono ?_; rintro e w' ⟨rfl, rfl⟩)
              | (go_at_call 7; refine (cL _).mono ?_; rintro e w9 ⟨rfl, hg9⟩; have HG9 := Lib.hid hg9; clear hg9))
            go_ret
            first
              | exact ⟨rfl, HEND.out.trans HG9.out⟩
              | exact ⟨rfl, HEND.out⟩
        · have g2 : (z.via == y.via) = false := beq_eq_false_iff_ne.2 h2
          have k2 : decide (z.via = y.via) = false := decide_eq_false h2
          clear h0 h1 h2
          go_wp2_with (first
            | (go_at_call 15; refine (cC _ _).mono ?_; rintro e w' ⟨rfl, rfl⟩)
            | (go_at_call 7; refine (cL _).mono ?_; rintro e w9 ⟨rfl, hg9⟩; have HG9 := Lib.hid hg9; clear hg9))
          go_ret
          first
            | exact ⟨rfl, HEND.out.trans HG9.out⟩
            | exact ⟨rfl, HEND.out⟩
      · have g1 : (z.bits == y.bits) = false := beq_eq_false_iff_ne.2 h1
        have k1 : decide (z.bits = y.bits) = false := decide_eq_false h1
        clear h0 h1
        go_wp2_with (first
          | (go_at_call 15; refine (cC _ _).mono ?_; rintro e w' ⟨rfl, rfl⟩)
          | (go_at_call 7; refine (cL _).mono ?_; rintro e w9 ⟨rfl, hg9⟩; have HG9 := Lib.hid hg9; clear hg9))
        go_ret
        first
          | exact ⟨rfl, HEND.out.trans HG9.out⟩
          | exact ⟨rfl, HEND.out⟩
    · have g0 : (z.net == y.net) = false := beq_eq_false_iff_ne.2 h0
      have k0 : decide (z.net = y.net) = false := decide_eq_false h0
      clear h0
      go_wp2_with (first
        | (go_at_call 15; refine (cC _ _).mono ?_; rintro e w' ⟨rfl, rfl⟩)
        | (go_at_call 7; refine (cL _).mono ?_; rintro e w9 ⟨rfl, hg9⟩; have HG9 := Lib.hid hg9; clear hg9))
      go_ret
      first
        | exact ⟨rfl, HEND.out.trans HG9.out⟩
        | exact ⟨rfl, HEND.out⟩
end Go.Proofs.Ytfdoofkofljgnaa
