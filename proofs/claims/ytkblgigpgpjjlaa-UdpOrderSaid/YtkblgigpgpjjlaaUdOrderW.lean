/- UdpOrder: its walk. -/
import Derived.Test.YtkblgigpgpjjlaaUdOrd
namespace Go.Proofs.Ytkblgigpgpjjlaa
set_option linter.unusedVariables false
set_option linter.unusedSimpArgs false
open Go.ChangeShapes Go.WideShapes Go.ChangeAt Go.RowKit

theorem u8_nat {i : Nat} (h : i < 256) : (UInt8.ofNat i).toNat = i := by simp [UInt8.toNat_ofNat']; omega
/-- The bytes of round i's datagram, just made. -/
theorem made_u (w : World) (n i : Nat) (hn : 0 < n) (hn2 : n ≤ 1000) (hi : i < 256) {W : World} (hW : W = w.alloc (.cells ((zer n).set 0 (.int .u8 (i : Int))).toArray 5)) :
    Grow w W ∧ Byt W (.slice (some ⟨w.heap.size, 0, none⟩) n n) (UInt8.ofNat i :: List.replicate (n - 1) 0) := by
  have h1 : W.heap[w.heap.size]? = some (.cells ((zer n).set 0 (.int .u8 (i : Int))).toArray 5 (0, 0)) := by rw [hW]; exact heap_alloc_new w _
  refine ⟨by rw [hW]; exact Grow.alloc _ _, ?_⟩
  have hl : (UInt8.ofNat i :: List.replicate (n - 1) 0).length = n := by rw [List.length_cons, List.length_replicate]; omega
  have hx : (zer n).set 0 (Value.int .u8 (i : Int)) = (UInt8.ofNat i :: List.replicate (n - 1) 0).map bv := by
    obtain ⟨m, rfl⟩ : ∃ m, n = m + 1 := ⟨n - 1, by omega⟩
    simp [zer, List.replicate_succ, bv]
    omega
  have := Own.of_block (w := W) (base := 0) (b := w.heap.size) (l := UInt8.ofNat i :: List.replicate (n - 1) 0) hx (Nat.zero_le _) h1 (by rw [hl]; omega)
  have hb := this.byt
  rw [hl] at hb
  exact hb
theorem zer_cell (w : World) (n : Nat) (hn : 0 < n) : (w.alloc (.cells (zer n).toArray 5)).cell? ⟨w.heap.size, 0, none⟩ = some (.int .u8 0) := by
  have hh := heap_alloc_new w (.cells (zer n).toArray 5)
  refine (cell_of_row _ _ 0 _ _ _ hh).trans ?_
  simp [zer, hn]
set_option maxRecDepth 100000 in
set_option maxHeartbeats 4000000 in
theorem udpOrder_if {Up : UbT} (I : UIf Up) (w : World) (r : Int) (hr : 0 ≤ r ∧ r ≤ 65535) {v1 : Value} {l1 : List UInt8} (h1 : Byt w v1 l1) {v2 : Value} {l2 : List Bool} (h2 : Bls w v2 l2) : Calls Try.prog 4 #[.int .u16 r, v1, v2] w fun e w' => e = .returned (.bool true) ∧ Below w.heap.size w w' := by
  have HI := Lib.hid I
  have HC := Lib.hid (fun x w => ucode_any x w)
  obtain ⟨A1, c1, hv1, hc1, hm1⟩ := h1.form
  obtain ⟨A2, c2, hv2, hc2, hm2, hat2⟩ := id h2
  obtain ⟨N, hN⟩ : ∃ N, N = l1.length := ⟨_, rfl⟩
  obtain ⟨M, hM⟩ : ∃ M, M = l2.length := ⟨_, rfl⟩
  rw [← hN] at hv1 hc1
  rw [← hM] at hv2 hc2
  subst hv1 hv2
  have HB := Lib.hid (And.intro h1 (And.intro hN (And.intro hM hat2)))
  by_cases hbig : 100 < N
  · have d1 : decide ((100 : Int) < (N : Int)) = true := decide_eq_true (by omega)
    have cl := ulive_any I w
    clear h1 h2 hN hM hat2 I
    go_enter Try.func4, Try.ntmps4
    go_wp2_with fail
    refine cl.mono ?_
    rintro e w1 ⟨rfl, g1⟩
    go_wp2_with fail
    go_ret
    exact ⟨rfl, g1⟩
  have d1 : decide ((100 : Int) < (N : Int)) = false := decide_eq_false (by omega)
  obtain ⟨R, hR⟩ : ∃ R : Int, R = 1 + r := ⟨_, rfl⟩
  have w1 : IntKind.i64.wrap (1 + r) = R := by rw [hR]; exact IntWalk.i64_in _ (by omega)
  have w0 : IntKind.i64.wrap r = r := IntWalk.i64_in _ (by omega)
  have c0 := I.new w 20 R (by omega) (by omega)
  have HNM := Lib.hid (And.intro hbig (And.intro hc1 hm1))
  clear h1 h2 hN hM hat2 I hbig hR hr
  go_enter Try.func4, Try.ntmps4
  go_wp2_with fail
  refine c0.mono ?_
  rintro e wn ⟨pb, S1, rfl, hn, ln, gn⟩
  have H0 : Hid (∃ u, UpL Up w wn pb u ∧ OrU u 0 0 0 0) := ⟨_, ⟨⟨S1, hn, ln⟩, gn⟩, OrU.start R⟩
  clear c0 hn ln gn w0 w1 d1
  go_wp2_with fail
  refine (HC.out _ _).mono ?_
  rintro e w' ⟨rfl, hw⟩
  subst w'
  go_wp2_with fail
  go_loopg [9, 10, 11, 12] N (fun gk s9 s10 s11 s12 wr => ∃ (i next put taken : Nat), gk = N - i ∧ s9 = .int .i64 (next : Int) ∧ s10 = .int .i64 (put : Int) ∧ s11 = .int .i64 (taken : Int) ∧ s12 = .int .i64 (i : Int) ∧ Hid (i ≤ N ∧ ∃ u, UpL Up w wr pb u ∧ OrU u i next put taken))
  case atStart => exact ⟨0, 0, 0, 0, rfl, rfl, rfl, rfl, rfl, Nat.zero_le _, H0.out⟩
  case round =>
    obtain ⟨i, next, put, taken, rfl, rfl, rfl, rfl, rfl, HR⟩ := hrel
    rename World => wo
    clear H0
    obtain ⟨hiN, u, hU, hO⟩ := HR.out
    rcases Nat.lt_or_ge i N with hlt | hge
    · have hl : i < l1.length := by have := HB.out.2.1; omega
      have hi100 : i < 100 := by have := HNM.out.1; omega
      obtain ⟨b, off, hA, hb, hc⟩ := HB.out.1.at_ (by omega)
      subst hA
      have x0 := (hU.2.cell (p := ⟨b, off + i, none⟩) hb).trans (hc i hl)
      obtain ⟨n0, hn0⟩ : ∃ n0, n0 = (l1[i]'hl).toNat := ⟨_, rfl⟩
      rw [← hn0] at x0
      have hn0b : n0 ≤ 255 := by rw [hn0]; have := (l1[i]'hl).toNat_lt; omega
      obtain ⟨n, hn⟩ : ∃ n, n = 1 + n0 % 40 := ⟨_, rfl⟩
      have i0 : (i : Int) < (N : Int) := by omega
      have s0 : IntKind.i64.wrap (n0 : Int) = (n0 : Int) := IntWalk.i64_in _ (by omega)
      have s1 : (1 : Int) + (n0 : Int) % 40 = (n : Int) := by omega
      have s2 : IntKind.u8.wrap (i : Int) = (i : Int) := by show (i : Int) % 256 = _; omega
      have rm := run_mku n (by omega)
      have z0 := zer_cell wo n (by omega)
      have z1 : (wo.alloc (.cells (zer n).toArray 5)).frozen? ⟨wo.heap.size, 0, none⟩ = false := frozen_of (heap_alloc_new wo _)
      have p0 : 0 < n := by omega
      obtain ⟨W2, hW2⟩ : ∃ W2, W2 = wo.alloc (.cells ((zer n).set 0 (.int .u8 (i : Int))).toArray 5) := ⟨_, rfl⟩
      obtain ⟨g2, hB2⟩ := made_u wo n i p0 (by omega) (by omega) hW2
      obtain ⟨rest, hrest⟩ : ∃ rest : List UInt8, rest = List.replicate (n - 1) 0 := ⟨_, rfl⟩
      rw [← hrest] at hB2
      have hrl : rest.length = n - 1 := by rw [hrest, List.length_replicate]
      have cP := ul_put HI.out hU g2 (hO.few (by omega)) noE noE_ok _ _ hB2 (fun k hk => .inl (by have e := Option.some.inj hk; simp only at e; omega)) (by rw [List.length_cons, hrl]; omega)
      have HX := Lib.hid (And.intro hlt (And.intro hi100 hO))
      clear hc hn0 hn0b hn hB2 hb hl hU hiN HR hrest hrl
      by_cases hf : fullU u ⟨noE, UInt8.ofNat i :: rest⟩
      · obtain ⟨q1, q2⟩ := hO.put_no rest hf
        rw [q1] at cP
        have cP' : Calls Try.prog 10 #[.pointer (some ⟨pb, 0, none⟩), .agg #[.int .u32 0, .int .u16 0, .slice (some ⟨wo.heap.size, 0, none⟩) n n]] W2 fun e' w2 => e' = .returned (.int .i64 5) ∧ UpL Up w w2 pb (puU u ⟨noE, UInt8.ofNat i :: rest⟩) := cP
        have HO2 := Lib.hid q2
        clear cP q1 q2 hO hf
        generalize puU u ⟨noE, UInt8.ofNat i :: rest⟩ = u2 at cP' HO2
        go_upto_region 12 with fail
        rw [← hW2]
        have HW2 := Lib.hid hW2
        clear hW2 z0 z1 rm x0 s0 s1 s2 g2
        go_wp2_with fail
        refine cP'.mono ?_
        rintro e w3 ⟨rfl, hU3⟩
        have H3 := Lib.hid hU3
        clear cP' hU3
        go_wp2_with fail
        refine (HC.out _ _).mono ?_
        rintro e w' ⟨rfl, hw⟩
        subst w'
        by_cases hM : i < M
        · obtain ⟨b2, o2, hA2, hb2, hc2⟩ := HB.out.2.2.2 (by have := HB.out.2.2.1; omega)
          obtain ⟨t, ht⟩ : ∃ t, l2[i]? = some t := ⟨_, List.getElem?_eq_getElem (by have := HB.out.2.2.1; omega)⟩
          have x1 := (H3.out.2.cell (p := ⟨b2, o2 + i, none⟩) hb2).trans (hc2 i t ht)
          have m0 : decide ((i : Int) < (M : Int)) = true := decide_eq_true (by omega)
          have m1 : (i : Int) < (M : Int) := by omega
          have m2 : decide (i < M) = true := decide_eq_true hM
          subst hA2
          clear hb2 hc2 ht
          cases t with
          | false =>
            have si : IntKind.i64.wrap ((i : Int) + 1) = ((i + 1 : Nat) : Int) := by rw [IntWalk.i64_in _ (by have := HX.out.2.1; omega)]; omega
            go_wp2_with fail
            go_roundg (N - (i + 1))
            case measure => have := HX.out.1; omega
            case rel => exact ⟨i + 1, next, put, taken, rfl, rfl, rfl, rfl, by first | rfl | exact congrArg _ (by omega), by have := HX.out.1; omega, ⟨_, H3.out, HO2.out⟩⟩
          | true =>
            have cT := ul_take HI.out H3.out 1 (i64_small (by omega))
            by_cases hL : u2.L = []
            · obtain ⟨q1, q2⟩ := HO2.out.take_none hL
              rw [q1, q2] at cT
              generalize tkuM u2 1 = tm at cT
              generalize tkuN u2 1 = tn at cT
              obtain ⟨⟨fa, fp⟩, td⟩ := tm
              clear hL q1 q2
              go_wp2_with fail
              refine cT.mono ?_
              rintro e w4 ⟨v, rfl, hb4, hU4⟩
              obtain ⟨A4, n4, c4, rfl, -⟩ := hb4.form2
              have H4 := Lib.hid (hU4.grow HI.out (Grow.alloc w4 (.cells #[.int .u32 fa, .int .u16 fp, .slice A4 n4 c4] 40)))
              clear cT hb4 hU4 x1
              go_wp2_with fail
              refine (HC.out _ _).mono ?_
              rintro e w' ⟨rfl, hw⟩
              subst w'
              have si : IntKind.i64.wrap ((i : Int) + 1) = ((i + 1 : Nat) : Int) := by rw [IntWalk.i64_in _ (by have := HX.out.2.1; omega)]; omega
              go_wp2_with fail
              go_roundg (N - (i + 1))
              case measure => have := HX.out.1; omega
              case rel => exact ⟨i + 1, next, put, taken, rfl, rfl, rfl, rfl, by first | rfl | exact congrArg _ (by omega), by have := HX.out.1; omega, ⟨_, H4.out, HO2.out⟩⟩
            · obtain ⟨q1, j, j1, j2, q2, q3⟩ := HO2.out.take_ok hL
              rw [q1, q2] at cT
              have H5O := Lib.hid q3
              generalize tkuU u2 1 = u5 at cT H5O
              generalize (tkuM u2 1).f = tf at cT
              generalize tkuN u2 1 = tn at cT
              obtain ⟨fa, fp⟩ := tf
              clear hL q1 q2 q3
              go_wp2_with fail
              refine cT.mono ?_
              rintro e w4 ⟨v, rfl, hb4, hU4⟩
              obtain ⟨A4, c4, hv4, -⟩ := hb4.form
              have hv4 : v = .slice A4 1 c4 := hv4
              subst hv4
              obtain ⟨b4, o4, hA4, hlt4, hc4⟩ := hb4.at_ (by decide)
              subst hA4
              obtain ⟨W5, hW5⟩ : ∃ W5, W5 = w4.alloc (.cells #[.int .u32 fa, .int .u16 fp, .slice (some ⟨b4, o4, none⟩) 1 c4] 40) := ⟨_, rfl⟩
              have g5 : Grow w4 W5 := by rw [hW5]; exact Grow.alloc _ _
              have hh5 : W5.heap[w4.heap.size]? = some (.cells #[.int .u32 fa, .int .u16 fp, .slice (some ⟨b4, o4, none⟩) 1 c4] 40 (0, 0)) := by rw [hW5]; exact heap_alloc_new w4 _
              have y2 : W5.cell? ⟨w4.heap.size, 2, none⟩ = some (.slice (some ⟨b4, o4, none⟩) 1 c4) := (cell_of_row W5 _ 2 _ _ _ hh5).trans rfl
              have y3 : W5.cell? ⟨b4, o4, none⟩ = some (.int .u8 (j : Int)) := by
                have := (g5.cell (p := ⟨b4, o4 + 0, none⟩) hlt4).trans (hc4 0 (Nat.succ_pos _))
                rw [Nat.add_zero] at this
                rw [this]
                show some (Value.int .u8 ((UInt8.ofNat j).toNat : Int)) = _
                rw [u8_nat (by have := HX.out.2.1; omega)]
              have H5 := Lib.hid (hU4.grow HI.out g5)
              have e1 : IntKind.i64.wrap (j : Int) = (j : Int) := IntWalk.i64_in _ (by have := HX.out.2.1; omega)
              have e2 : decide ((j : Int) < (next : Int)) = false := decide_eq_false (by omega)
              have e3 : decide ((i : Int) < (j : Int)) = false := decide_eq_false (by omega)
              have e4 : decide (j < next) = false := decide_eq_false (by omega)
              have e5 : decide (i < j) = false := decide_eq_false (by omega)
              have e6 : IntKind.i64.wrap ((j : Int) + 1) = ((j + 1 : Nat) : Int) := by rw [IntWalk.i64_in _ (by have := HX.out.2.1; omega)]; omega
              have e7 : IntKind.i64.wrap ((taken : Int) + 1) = ((taken + 1 : Nat) : Int) := by rw [IntWalk.i64_in _ (by have := HO2.out.pl; have := HO2.out.cnt; have := HX.out.2.1; omega)]; omega
              clear cT hb4 hU4 hh5 hlt4 hc4 g5 j1 x1
              go_upto_region 16 with fail
              rw [← hW5]
              have HW5 := Lib.hid hW5
              clear hW5
              go_wp2_with fail
              refine (HC.out _ _).mono ?_
              rintro e w' ⟨rfl, hw⟩
              subst w'
              have si : IntKind.i64.wrap ((i : Int) + 1) = ((i + 1 : Nat) : Int) := by rw [IntWalk.i64_in _ (by have := HX.out.2.1; omega)]; omega
              go_wp2_with fail
              go_roundg (N - (i + 1))
              case measure => have := HX.out.1; omega
              case rel => exact ⟨i + 1, j + 1, put, taken + 1, by first | rfl | exact congrArg _ (by omega), by first | rfl | exact congrArg _ (by omega), by first | rfl | exact congrArg _ (by omega), by first | rfl | exact congrArg _ (by omega), by first | rfl | exact congrArg _ (by omega), by have := HX.out.1; omega, ⟨_, H5.out, H5O.out⟩⟩
        · have m0 : decide ((i : Int) < (M : Int)) = false := decide_eq_false (by omega)
          have m2 : decide (i < M) = false := decide_eq_false hM
          have m3 : M ≤ i := by omega
          have si : IntKind.i64.wrap ((i : Int) + 1) = ((i + 1 : Nat) : Int) := by rw [IntWalk.i64_in _ (by have := HX.out.2.1; omega)]; omega
          go_wp2_with fail
          go_roundg (N - (i + 1))
          case measure => have := HX.out.1; omega
          case rel => exact ⟨i + 1, next, put, taken, rfl, rfl, rfl, rfl, by first | rfl | exact congrArg _ (by omega), by have := HX.out.1; omega, ⟨_, H3.out, HO2.out⟩⟩
      · obtain ⟨q1, q2⟩ := hO.put_ok rest hf
        rw [q1] at cP
        have cP' : Calls Try.prog 10 #[.pointer (some ⟨pb, 0, none⟩), .agg #[.int .u32 0, .int .u16 0, .slice (some ⟨wo.heap.size, 0, none⟩) n n]] W2 fun e' w2 => e' = .returned (.int .i64 0) ∧ UpL Up w w2 pb (puU u ⟨noE, UInt8.ofNat i :: rest⟩) := cP
        have HO2 := Lib.hid q2
        clear cP q1 q2 hO hf
        generalize puU u ⟨noE, UInt8.ofNat i :: rest⟩ = u2 at cP' HO2
        go_upto_region 12 with fail
        rw [← hW2]
        have HW2 := Lib.hid hW2
        clear hW2 z0 z1 rm x0 s0 s1 s2 g2
        go_wp2_with fail
        refine cP'.mono ?_
        rintro e w3 ⟨rfl, hU3⟩
        have H3 := Lib.hid hU3
        clear cP' hU3
        go_wp2_with fail
        refine (HC.out _ _).mono ?_
        rintro e w' ⟨rfl, hw⟩
        subst w'
        have sp : IntKind.i64.wrap ((put : Int) + 1) = ((put + 1 : Nat) : Int) := by rw [IntWalk.i64_in _ (by have := HO2.out.pl; have := HX.out.2.1; omega)]; omega
        by_cases hM : i < M
        · obtain ⟨b2, o2, hA2, hb2, hc2⟩ := HB.out.2.2.2 (by have := HB.out.2.2.1; omega)
          obtain ⟨t, ht⟩ : ∃ t, l2[i]? = some t := ⟨_, List.getElem?_eq_getElem (by have := HB.out.2.2.1; omega)⟩
          have x1 := (H3.out.2.cell (p := ⟨b2, o2 + i, none⟩) hb2).trans (hc2 i t ht)
          have m0 : decide ((i : Int) < (M : Int)) = true := decide_eq_true (by omega)
          have m1 : (i : Int) < (M : Int) := by omega
          have m2 : decide (i < M) = true := decide_eq_true hM
          subst hA2
          clear hb2 hc2 ht
          cases t with
          | false =>
            have si : IntKind.i64.wrap ((i : Int) + 1) = ((i + 1 : Nat) : Int) := by rw [IntWalk.i64_in _ (by have := HX.out.2.1; omega)]; omega
            go_wp2_with fail
            go_roundg (N - (i + 1))
            case measure => have := HX.out.1; omega
            case rel => exact ⟨i + 1, next, (put + 1), taken, rfl, rfl, by first | rfl | exact congrArg _ (by omega), rfl, by first | rfl | exact congrArg _ (by omega), by have := HX.out.1; omega, ⟨_, H3.out, HO2.out⟩⟩
          | true =>
            have cT := ul_take HI.out H3.out 1 (i64_small (by omega))
            by_cases hL : u2.L = []
            · obtain ⟨q1, q2⟩ := HO2.out.take_none hL
              rw [q1, q2] at cT
              generalize tkuM u2 1 = tm at cT
              generalize tkuN u2 1 = tn at cT
              obtain ⟨⟨fa, fp⟩, td⟩ := tm
              clear hL q1 q2
              go_wp2_with fail
              refine cT.mono ?_
              rintro e w4 ⟨v, rfl, hb4, hU4⟩
              obtain ⟨A4, n4, c4, rfl, -⟩ := hb4.form2
              have H4 := Lib.hid (hU4.grow HI.out (Grow.alloc w4 (.cells #[.int .u32 fa, .int .u16 fp, .slice A4 n4 c4] 40)))
              clear cT hb4 hU4 x1
              go_wp2_with fail
              refine (HC.out _ _).mono ?_
              rintro e w' ⟨rfl, hw⟩
              subst w'
              have si : IntKind.i64.wrap ((i : Int) + 1) = ((i + 1 : Nat) : Int) := by rw [IntWalk.i64_in _ (by have := HX.out.2.1; omega)]; omega
              go_wp2_with fail
              go_roundg (N - (i + 1))
              case measure => have := HX.out.1; omega
              case rel => exact ⟨i + 1, next, (put + 1), taken, rfl, rfl, by first | rfl | exact congrArg _ (by omega), rfl, by first | rfl | exact congrArg _ (by omega), by have := HX.out.1; omega, ⟨_, H4.out, HO2.out⟩⟩
            · obtain ⟨q1, j, j1, j2, q2, q3⟩ := HO2.out.take_ok hL
              rw [q1, q2] at cT
              have H5O := Lib.hid q3
              generalize tkuU u2 1 = u5 at cT H5O
              generalize (tkuM u2 1).f = tf at cT
              generalize tkuN u2 1 = tn at cT
              obtain ⟨fa, fp⟩ := tf
              clear hL q1 q2 q3
              go_wp2_with fail
              refine cT.mono ?_
              rintro e w4 ⟨v, rfl, hb4, hU4⟩
              obtain ⟨A4, c4, hv4, -⟩ := hb4.form
              have hv4 : v = .slice A4 1 c4 := hv4
              subst hv4
              obtain ⟨b4, o4, hA4, hlt4, hc4⟩ := hb4.at_ (by decide)
              subst hA4
              obtain ⟨W5, hW5⟩ : ∃ W5, W5 = w4.alloc (.cells #[.int .u32 fa, .int .u16 fp, .slice (some ⟨b4, o4, none⟩) 1 c4] 40) := ⟨_, rfl⟩
              have g5 : Grow w4 W5 := by rw [hW5]; exact Grow.alloc _ _
              have hh5 : W5.heap[w4.heap.size]? = some (.cells #[.int .u32 fa, .int .u16 fp, .slice (some ⟨b4, o4, none⟩) 1 c4] 40 (0, 0)) := by rw [hW5]; exact heap_alloc_new w4 _
              have y2 : W5.cell? ⟨w4.heap.size, 2, none⟩ = some (.slice (some ⟨b4, o4, none⟩) 1 c4) := (cell_of_row W5 _ 2 _ _ _ hh5).trans rfl
              have y3 : W5.cell? ⟨b4, o4, none⟩ = some (.int .u8 (j : Int)) := by
                have := (g5.cell (p := ⟨b4, o4 + 0, none⟩) hlt4).trans (hc4 0 (Nat.succ_pos _))
                rw [Nat.add_zero] at this
                rw [this]
                show some (Value.int .u8 ((UInt8.ofNat j).toNat : Int)) = _
                rw [u8_nat (by have := HX.out.2.1; omega)]
              have H5 := Lib.hid (hU4.grow HI.out g5)
              have e1 : IntKind.i64.wrap (j : Int) = (j : Int) := IntWalk.i64_in _ (by have := HX.out.2.1; omega)
              have e2 : decide ((j : Int) < (next : Int)) = false := decide_eq_false (by omega)
              have e3 : decide ((i : Int) < (j : Int)) = false := decide_eq_false (by omega)
              have e4 : decide (j < next) = false := decide_eq_false (by omega)
              have e5 : decide (i < j) = false := decide_eq_false (by omega)
              have e6 : IntKind.i64.wrap ((j : Int) + 1) = ((j + 1 : Nat) : Int) := by rw [IntWalk.i64_in _ (by have := HX.out.2.1; omega)]; omega
              have e7 : IntKind.i64.wrap ((taken : Int) + 1) = ((taken + 1 : Nat) : Int) := by rw [IntWalk.i64_in _ (by have := HO2.out.pl; have := HO2.out.cnt; have := HX.out.2.1; omega)]; omega
              clear cT hb4 hU4 hh5 hlt4 hc4 g5 j1 x1
              go_upto_region 16 with fail
              rw [← hW5]
              have HW5 := Lib.hid hW5
              clear hW5
              go_wp2_with fail
              refine (HC.out _ _).mono ?_
              rintro e w' ⟨rfl, hw⟩
              subst w'
              have si : IntKind.i64.wrap ((i : Int) + 1) = ((i + 1 : Nat) : Int) := by rw [IntWalk.i64_in _ (by have := HX.out.2.1; omega)]; omega
              go_wp2_with fail
              go_roundg (N - (i + 1))
              case measure => have := HX.out.1; omega
              case rel => exact ⟨i + 1, j + 1, (put + 1), taken + 1, by first | rfl | exact congrArg _ (by omega), by first | rfl | exact congrArg _ (by omega), by first | rfl | exact congrArg _ (by omega), by first | rfl | exact congrArg _ (by omega), by first | rfl | exact congrArg _ (by omega), by have := HX.out.1; omega, ⟨_, H5.out, H5O.out⟩⟩
        · have m0 : decide ((i : Int) < (M : Int)) = false := decide_eq_false (by omega)
          have m2 : decide (i < M) = false := decide_eq_false hM
          have m3 : M ≤ i := by omega
          have si : IntKind.i64.wrap ((i : Int) + 1) = ((i + 1 : Nat) : Int) := by rw [IntWalk.i64_in _ (by have := HX.out.2.1; omega)]; omega
          go_wp2_with fail
          go_roundg (N - (i + 1))
          case measure => have := HX.out.1; omega
          case rel => exact ⟨i + 1, next, (put + 1), taken, rfl, rfl, by first | rfl | exact congrArg _ (by omega), rfl, by first | rfl | exact congrArg _ (by omega), by have := HX.out.1; omega, ⟨_, H3.out, HO2.out⟩⟩
    · obtain rfl : i = N := by omega
      have cL := ul_len HI.out hU
      have hl1 : i = l1.length := HB.out.2.1
      have s1 : IntKind.i64.wrap ((put : Int) - (taken : Int)) = (u.L.length : Int) := by rw [IntWalk.i64_in _ (by have := hO.pl; have := hO.cnt; have := HNM.out.1; omega)]; have := hO.cnt; omega
      have s2 : IntKind.i64.wrap ((i : Int) - (put : Int)) = u.lost := by rw [IntWalk.i64_in _ (by have := hO.pl; have := HNM.out.1; omega)]; have := hO.lst; omega
      have HU := Lib.hid hU
      clear hU hO hiN HR hl1 hge
      generalize (u.L.length : Int) = LL at cL s1
      generalize hlo : u.lost = LO at s2
      have HLo := Lib.hid hlo
      clear hlo
      go_wp2_with fail
      refine cL.mono ?_
      rintro e w3 ⟨rfl, g3⟩
      have cO := ul_lost HI.out (HU.out.grow HI.out g3)
      rw [HLo.out] at cO
      have G3 := Lib.hid (HU.out.2.trans g3)
      clear cL g3
      go_wp2_with fail
      refine cO.mono ?_
      rintro e w4 ⟨rfl, g4⟩
      have cV := ulive_any HI.out w4
      have G4 := Lib.hid (G3.out.trans g4)
      clear cO g4
      go_wp2_with fail
      refine cV.mono ?_
      rintro e w5 ⟨rfl, g5⟩
      go_wp2_with fail
      go_ret
      exact ⟨rfl, G4.out.trans g5⟩
end Go.Proofs.Ytkblgigpgpjjlaa
