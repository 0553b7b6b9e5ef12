/- Options read: the layer's scan. -/
import Derived.Test.YtbhdpobmooncpaaSeg
import Derived.OwnWalk
import Derived.OneCell
import Derived.Deep.DeepCutAuto
namespace Go.Proofs.Ytbhdpobmooncpaa
set_option linter.unusedVariables false
set_option linter.unusedSimpArgs false
open Go.ChangeShapes Go.WideShapes Go.ChangeAt Go.RowKit

/-- What a round of the scan knows: what is left, what is to come of it, what was found. -/
structure Scanned (w : World) (R : Nat × Nat × Int) (A : Option Addr) (c : Nat) (l : List UInt8) (A2 A3 : Option Addr) (c2 c3 : Nat) (l2 l3 : List UInt8) (f : Nat) (wr : World) : Prop where
  left : Byt w (.slice A l.length c) l
  fuel : l.length ≤ f
  small : l.length ≤ 1000000
  goes : scan f l (mssL l2) (scaleL l3) = R
  grow : Grow w wr
  blk : wr.heap[w.heap.size]? = some (.cells #[.slice none 0 0, .slice none 0 0, .slice A2 l2.length c2, .slice A3 l3.length c3] 62 (0, 0))
  two : Byt w (.slice A2 l2.length c2) l2
  two4 : l2.length = 0 ∨ 4 ≤ l2.length
  three : Byt w (.slice A3 l3.length c3) l3
  three3 : l3.length = 0 ∨ 3 ≤ l3.length

theorem ret_rd {a b M S : Nat} {c E : Int} (h : (a, b, c) = (M, S, E)) : Ending.returned (.tuple #[.int .i64 (a : Int), .int .i64 (b : Int), .int .i64 c]) = .returned (.tuple #[.int .i64 (M : Int), .int .i64 (S : Int), .int .i64 E]) := by
  cases h
  rfl

theorem slice_eq {A A' : Option Addr} {n n' c c' : Nat} (h1 : A = A') (h2 : n = n') (h3 : c = c') : Value.slice A n c = .slice A' n' c' := by
  subst h1; subst h2; subst h3; rfl
theorem left_on {w : World} {b off c k : Nat} {l : List UInt8} (h : Byt w (.slice (some ⟨b, off, none⟩) l.length c) l) (hk : k ≤ l.length) :
    ∃ A', Byt w (.slice A' (l.drop k).length (c - k)) (l.drop k) ∧ (c = k → A' = some ⟨b, off, none⟩) ∧ (¬ c = k → A' = some ⟨b, off + k, none⟩) := by
  have hd := dropAt h hk
  refine ⟨_, by rw [List.length_drop]; exact hd, fun hc => if_pos hc, fun hc => if_neg hc⟩

set_option maxRecDepth 10000 in
set_option maxHeartbeats 8000000 in
theorem sRead_any (v : Value) (L : List UInt8) (w : World) (h : Byt w v L) (hL : L.length ≤ 1000000) (M S : Nat) (E : Int) (hr : sread L = (M, S, E)) :
    Calls Try.prog 21 #[v] w fun e w' => e = .returned (.tuple #[.int .i64 (M : Int), .int .i64 (S : Int), .int .i64 E]) ∧ Grow w w' := by
  obtain ⟨A0, c0, rfl, hcl, hcm⟩ := h.form
  have HR := Lib.hid hr
  clear hr
  go_enter Try.func21, Try.ntmps21
  go_wp2_with fail
  go_step3
  go_wp2_with fail
  go_step3
  go_wp2_with fail
  go_loopg [7] L.length (fun g s7 wr => ∃ (A : Option Addr) (c : Nat) (l : List UInt8) (A2 A3 : Option Addr) (c2 c3 : Nat) (l2 l3 : List UInt8) (f : Nat), s7 = .slice A l.length c ∧ g = l.length ∧ Scanned w (M, S, E) A c l A2 A3 c2 c3 l2 l3 f wr)
  case atStart => exact ⟨A0, c0, L, none, none, 0, 0, [], [], L.length, rfl, rfl, ⟨h, Nat.le_refl _, hL, HR.out, Grow.alloc _ _, heap_alloc_new w _, Byt.nil _, .inl rfl, Byt.nil _, .inl rfl⟩⟩
  case round =>
    obtain ⟨A, c, l, A2, A3, c2, c3, l2, l3, f, rfl, rfl, K⟩ := hrel
    obtain ⟨hb, hf, hsm, hgo, hgr, hblk, hb2, z2, hb3, z3⟩ := K
    have hlt : w.heap.size < wr.heap.size := lt_of_block hblk
    have C2 : wr.cell? ⟨w.heap.size, 2, none⟩ = some (.slice A2 l2.length c2) := by unfold World.cell?; rw [hblk]; rfl
    have C3 : wr.cell? ⟨w.heap.size, 3, none⟩ = some (.slice A3 l3.length c3) := by unfold World.cell?; rw [hblk]; rfl
    have F2 : wr.frozen? ⟨w.heap.size, 2, none⟩ = false := by unfold World.frozen?; rw [hblk]; rfl
    have F3 : wr.frozen? ⟨w.heap.size, 3, none⟩ = false := by unfold World.frozen?; rw [hblk]; rfl
    obtain ⟨hlc, hcm⟩ := hb.len.2
    unfold maxLen at hcm
    clear HR h
    by_cases h0 : l.length = 0
    · have e0 : (mssL l2, scaleL l3, (0 : Int)) = (M, S, E) := by
        cases f with
        | zero => simpa [scan] using hgo
        | succ f => rw [scan, if_pos h0] at hgo; exact hgo
      have d0 : decide ((0 : Int) < (l.length : Int)) = false := decide_eq_false (by omega)
      have HE := Lib.hid e0
      clear e0 hgo
      go_wp2_with fail
      refine wp_region_loose (A := ?frame171) (inList (isV (.pointer (some ⟨w.heap.size, 2, none⟩)) :: isV (.slice A2 l2.length c2) :: isV (.int .i64 (mssL l2 : Nat)) :: isV (.pointer (some ⟨w.heap.size, 3, none⟩)) :: isV (.slice A3 l3.length c3) :: isV (.int .i64 (scaleL l3 : Nat)) :: isV (.int .i64 (mssL l2 : Nat)) :: isV (.int .i64 (scaleL l3 : Nat)) :: isV (.int .i64 0) :: [])) (by kernel_rfl) (by kernel_rfl) (inList_stays ?_) (fun x => ?frameEq171) ?_ ?_
      case frameEq171 => go_simp; rfl
      · intro f hf
        simp only [List.mem_cons, List.not_mem_nil, or_false] at hf
        rcases hf with rfl | rfl | rfl | rfl | rfl | rfl | rfl | rfl | rfl <;> first | exact isV_stays _ | exact isB_stays _ | exact isBs_stays _
      · refine ⟨fun x w1 hg hd post hp => ?_, fun x w1 hg hd post hp => ?_, fun x w1 hg hd post hp => ?_, fun x w1 hg hd post hp => ?_, fun x w1 hg hd post hp => ?_, fun x w1 hg hd post hp => ?_, fun x w1 hg hd post hp => ?_, fun x w1 hg hd post hp => ?_, fun x w1 hg hd post hp => ?_, trivial⟩
        · -- 0: slot 34: Op.indexAddr 62 t5 (const (2:i64))
          clear hd
          go_simp
          exact hp _ _ (Grow.refl _) rfl
        · -- 1: slot 35: Op.load 24 t34
          have h34 : x 34 = .pointer (some ⟨w.heap.size, 2, none⟩) := hd 0 (by decide) _ rfl
          clear hd
          have q1 := (hg.cell (p := ⟨w.heap.size, 2, none⟩) hlt).trans C2
          go_simp
          exact hp _ _ (Grow.refl _) rfl
        · -- 2: slot 36: Op.call { value (Operand.func 37), args := #[t35], argTypes := #[24] }
          have h35 : x 35 = .slice A2 l2.length c2 := hd 1 (by decide) _ rfl
          clear hd
          go_simp
          refine (mssOf_any _ l2 _ (hb2.grow (hgr.trans hg)) z2).mono ?_
          rintro e w' ⟨rfl, rfl⟩
          exact ⟨_, rfl, hp _ _ (Grow.refl _) rfl⟩
        · -- 3: slot 37: Op.indexAddr 62 t5 (const (3:i64))
          clear hd
          go_simp
          exact hp _ _ (Grow.refl _) rfl
        · -- 4: slot 38: Op.load 24 t37
          have h37 : x 37 = .pointer (some ⟨w.heap.size, 3, none⟩) := hd 3 (by decide) _ rfl
          clear hd
          have q1 := (hg.cell (p := ⟨w.heap.size, 3, none⟩) hlt).trans C3
          go_simp
          exact hp _ _ (Grow.refl _) rfl
        · -- 5: slot 39: Op.call { value (Operand.func 38), args := #[t38], argTypes := #[24] }
          have h38 : x 38 = .slice A3 l3.length c3 := hd 4 (by decide) _ rfl
          clear hd
          go_simp
          refine (scaleOf_any _ l3 _ (hb3.grow (hgr.trans hg)) z3).mono ?_
          rintro e w' ⟨rfl, rfl⟩
          exact ⟨_, rfl, hp _ _ (Grow.refl _) rfl⟩
        · -- 6: slot 2: Op.assign t36
          have h36 : x 36 = .int .i64 (mssL l2 : Nat) := hd 2 (by decide) _ rfl
          clear hd
          go_simp
          exact hp _ _ (Grow.refl _) rfl
        · -- 7: slot 3: Op.assign t39
          have h39 : x 39 = .int .i64 (scaleL l3 : Nat) := hd 5 (by decide) _ rfl
          clear hd
          go_simp
          exact hp _ _ (Grow.refl _) rfl
        · -- 8: slot 4: Op.assign (const (0:i64))
          clear hd
          go_simp
          exact hp _ _ (Grow.refl _) rfl
      · intro x w1 hg hd
        have h2 : x 2 = .int .i64 (mssL l2 : Nat) := hd 6 _ rfl
        have h3 : x 3 = .int .i64 (scaleL l3 : Nat) := hd 7 _ rfl
        have h4 : x 4 = .int .i64 0 := hd 8 _ rfl
        clear hd
        go_wp2_with fail
        rw [h2, h3, h4]
        try rw [Exit.noGoto_ret]
        refine bodyPost_ret (results_tmp3 rfl _ _ _) rfl ?_
        exact ⟨ret_rd HE.out, hgr.trans hg⟩
    · obtain ⟨f, rfl⟩ : ∃ j, f = j + 1 := ⟨f - 1, by omega⟩
      rw [scan, if_neg h0] at hgo
      obtain ⟨b, off, rfl, hbl, hcell⟩ := hb.at_ (by omega)
      have Y0 : wr.cell? ⟨b, off, none⟩ = some (.int .u8 (byt l 0 : Int)) := by
        rw [hgr.cell (p := ⟨b, off, none⟩) hbl, ← byt_at (show 0 < l.length by omega)]
        exact hcell 0 (by omega)
      have y0 := byt_lt l 0
      have hos : osize l ≠ 0 → _ := fun h => osize_pos (l := l) h
      have hO : ∀ w', Grow w w' → _ := fun w' g => option_any _ l w' (hb.grow g) hsm
      have d0 : decide ((0 : Int) < (l.length : Int)) = true := decide_eq_true (by omega)
      obtain ⟨n, hn⟩ : ∃ n, n = osize l := ⟨_, rfl⟩
      rw [← hn] at hgo hos hO
      obtain ⟨y, hy⟩ : ∃ y, y = byt l 0 := ⟨_, rfl⟩
      rw [← hy] at hgo Y0 y0 hos
      have HN := Lib.hid hn
      have HY := Lib.hid hy
      have h00 : 0 < l.length := by omega
      clear hn hy hcell
      by_cases k0 : y = 0
      · rw [if_pos k0] at hgo
        subst k0
        have Y0' : wr.cell? ⟨b, off, none⟩ = some (.int .u8 0) := Y0
        have HE := Lib.hid hgo
        clear hgo Y0
        go_wp2_with fail
        refine wp_region_loose (A := ?frame172) (inList (isV (.pointer (some ⟨w.heap.size, 2, none⟩)) :: isV (.slice A2 l2.length c2) :: isV (.int .i64 (mssL l2 : Nat)) :: isV (.pointer (some ⟨w.heap.size, 3, none⟩)) :: isV (.slice A3 l3.length c3) :: isV (.int .i64 (scaleL l3 : Nat)) :: isV (.int .i64 (mssL l2 : Nat)) :: isV (.int .i64 (scaleL l3 : Nat)) :: isV (.int .i64 0) :: [])) (by kernel_rfl) (by kernel_rfl) (inList_stays ?_) (fun x => ?frameEq172) ?_ ?_
        case frameEq172 => go_simp; rfl
        · intro f hf
          simp only [List.mem_cons, List.not_mem_nil, or_false] at hf
          rcases hf with rfl | rfl | rfl | rfl | rfl | rfl | rfl | rfl | rfl <;> first | exact isV_stays _ | exact isB_stays _ | exact isBs_stays _
        · refine ⟨fun x w1 hg hd post hp => ?_, fun x w1 hg hd post hp => ?_, fun x w1 hg hd post hp => ?_, fun x w1 hg hd post hp => ?_, fun x w1 hg hd post hp => ?_, fun x w1 hg hd post hp => ?_, fun x w1 hg hd post hp => ?_, fun x w1 hg hd post hp => ?_, fun x w1 hg hd post hp => ?_, trivial⟩
          · -- 0: slot 34: Op.indexAddr 62 t5 (const (2:i64))
            clear hd
            go_simp
            exact hp _ _ (Grow.refl _) rfl
          · -- 1: slot 35: Op.load 24 t34
            have h34 : x 34 = .pointer (some ⟨w.heap.size, 2, none⟩) := hd 0 (by decide) _ rfl
            clear hd
            have q1 := (hg.cell (p := ⟨w.heap.size, 2, none⟩) hlt).trans C2
            go_simp
            exact hp _ _ (Grow.refl _) rfl
          · -- 2: slot 36: Op.call { value (Operand.func 37), args := #[t35], argTypes := #[24] }
            have h35 : x 35 = .slice A2 l2.length c2 := hd 1 (by decide) _ rfl
            clear hd
            go_simp
            refine (mssOf_any _ l2 _ (hb2.grow (hgr.trans hg)) z2).mono ?_
            rintro e w' ⟨rfl, rfl⟩
            exact ⟨_, rfl, hp _ _ (Grow.refl _) rfl⟩
          · -- 3: slot 37: Op.indexAddr 62 t5 (const (3:i64))
            clear hd
            go_simp
            exact hp _ _ (Grow.refl _) rfl
          · -- 4: slot 38: Op.load 24 t37
            have h37 : x 37 = .pointer (some ⟨w.heap.size, 3, none⟩) := hd 3 (by decide) _ rfl
            clear hd
            have q1 := (hg.cell (p := ⟨w.heap.size, 3, none⟩) hlt).trans C3
            go_simp
            exact hp _ _ (Grow.refl _) rfl
          · -- 5: slot 39: Op.call { value (Operand.func 38), args := #[t38], argTypes := #[24] }
            have h38 : x 38 = .slice A3 l3.length c3 := hd 4 (by decide) _ rfl
            clear hd
            go_simp
            refine (scaleOf_any _ l3 _ (hb3.grow (hgr.trans hg)) z3).mono ?_
            rintro e w' ⟨rfl, rfl⟩
            exact ⟨_, rfl, hp _ _ (Grow.refl _) rfl⟩
          · -- 6: slot 2: Op.assign t36
            have h36 : x 36 = .int .i64 (mssL l2 : Nat) := hd 2 (by decide) _ rfl
            clear hd
            go_simp
            exact hp _ _ (Grow.refl _) rfl
          · -- 7: slot 3: Op.assign t39
            have h39 : x 39 = .int .i64 (scaleL l3 : Nat) := hd 5 (by decide) _ rfl
            clear hd
            go_simp
            exact hp _ _ (Grow.refl _) rfl
          · -- 8: slot 4: Op.assign (const (0:i64))
            clear hd
            go_simp
            exact hp _ _ (Grow.refl _) rfl
        · intro x w1 hg hd
          have h2 : x 2 = .int .i64 (mssL l2 : Nat) := hd 6 _ rfl
          have h3 : x 3 = .int .i64 (scaleL l3 : Nat) := hd 7 _ rfl
          have h4 : x 4 = .int .i64 0 := hd 8 _ rfl
          clear hd
          go_wp2_with fail
          rw [h2, h3, h4]
          try rw [Exit.noGoto_ret]
          refine bodyPost_ret (results_tmp3 rfl _ _ _) rfl ?_
          exact ⟨ret_rd HE.out, hgr.trans hg⟩
      rw [if_neg k0] at hgo
      have b0 : ((y : Int) == 0) = false := beq_eq_false_iff_ne.2 (by omega)
      by_cases k1 : y = 1
      · rw [if_pos k1] at hgo
        subst k1
        have Y0' : wr.cell? ⟨b, off, none⟩ = some (.int .u8 1) := Y0
        have HG := Lib.hid hgo
        obtain ⟨A', hdr, hA1, hA2⟩ := left_on hb (k := 1) (by omega)
        have i1 : (1 : Int) ≤ (l.length : Int) := by omega
        have HK := Lib.hid (show Scanned w (M, S, E) A' (c - 1) (l.drop 1) A2 A3 c2 c3 l2 l3 f wr from ⟨hdr, by rw [List.length_drop]; omega, by rw [List.length_drop]; omega, HG.out, hgr, hblk, hb2, z2, hb3, z3⟩)
        clear hgo Y0 b0 k0 hdr hos hO
        by_cases hc : c = 1
        · have hA := hA1 hc
          go_wp2_with fail
          go_roundg (l.length - 1)
          case measure => omega
          case rel => exact ⟨_, _, l.drop 1, _, _, _, _, _, _, f, slice_eq hA.symm (by rw [List.length_drop]) (by omega), by rw [List.length_drop], HK.out⟩
        · have hA := hA2 hc
          go_wp2_with fail
          go_roundg (l.length - 1)
          case measure => omega
          case rel => exact ⟨_, _, l.drop 1, _, _, _, _, _, _, f, slice_eq hA.symm (by rw [List.length_drop]) (by omega), by rw [List.length_drop], HK.out⟩
      rw [if_neg k1] at hgo
      have b1 : ((y : Int) == 1) = false := beq_eq_false_iff_ne.2 (by omega)
      have hleft : Byt w (.slice (some ⟨b, off, none⟩) l.length c) l := hb
      by_cases k2 : y = 2
      · subst k2
        have Y0' : wr.cell? ⟨b, off, none⟩ = some (.int .u8 2) := Y0
        have hgw : Grow w (wr.setCell ⟨w.heap.size, 2, none⟩ (.slice (some ⟨b, off, none⟩) l.length c)) := Below.setCell (p := ⟨w.heap.size, 2, none⟩) hgr (Nat.le_refl _) _
        have hbk := heap_setCell_own (k := 2) hblk (.slice (some ⟨b, off, none⟩) l.length c)
        have O := hO _ hgw
        by_cases hn0 : n = 0
        · rw [if_pos hn0] at hgo
          subst hn0
          have HE := Lib.hid hgo
          clear hgo Y0 b0 k0 hos hO HN
          go_wp2_with fail
          refine O.mono ?_
          rintro e w' ⟨rfl, rfl⟩
          go_wp2_with fail
          try rw [Exit.noGoto_ret]
          refine bodyPost_ret (results_tmp3 rfl _ _ _) rfl ?_
          exact ⟨ret_rd HE.out, hgw⟩
        · obtain ⟨o1, o2, o3, o4, o5, o6⟩ := hos hn0
          obtain rfl : n = 4 := by rw [o6]; exact o4 rfl
          rw [if_neg (by decide), if_pos rfl] at hgo
          have hsc : mssL l = num l 2 := by unfold mssL; rw [if_neg (by omega)]
          rw [← hsc] at hgo
          have HG := Lib.hid hgo
          obtain ⟨A', hdr, hA1, hA2⟩ := left_on hb (k := 4) (by omega)
          have i1 : (4 : Int) ≤ (l.length : Int) := by omega
          have HK := Lib.hid (show Scanned w (M, S, E) A' (c - 4) (l.drop 4) (some ⟨b, off, none⟩) A3 c c3 l l3 f (wr.setCell ⟨w.heap.size, 2, none⟩ (.slice (some ⟨b, off, none⟩) l.length c)) from ⟨hdr, by rw [List.length_drop]; omega, by rw [List.length_drop]; omega, HG.out, hgw, hbk, hleft, .inr (by omega), hb3, z3⟩)
          clear hgo Y0 b0 k0 hdr hos hO hbk HN o2 o4 o5 o6 hsc
          go_wp2_with fail
          refine O.mono ?_
          rintro e w' ⟨rfl, hw'⟩
          rw [hw'] at HK
          clear hw' O hgw
          by_cases hc : c = 4
          · have hA := hA1 hc
            go_wp2_with fail
            go_roundg (l.length - 4)
            case measure => omega
            case rel => exact ⟨_, _, l.drop 4, _, _, _, _, _, _, f, slice_eq hA.symm (by rw [List.length_drop]) (by omega), by rw [List.length_drop], HK.out⟩
          · have hA := hA2 hc
            go_wp2_with fail
            go_roundg (l.length - 4)
            case measure => omega
            case rel => exact ⟨_, _, l.drop 4, _, _, _, _, _, _, f, slice_eq hA.symm (by rw [List.length_drop]) (by omega), by rw [List.length_drop], HK.out⟩
      have b2 : ((y : Int) == 2) = false := beq_eq_false_iff_ne.2 (by omega)
      by_cases k3 : y = 3
      · subst k3
        have Y0' : wr.cell? ⟨b, off, none⟩ = some (.int .u8 3) := Y0
        have hgw : Grow w (wr.setCell ⟨w.heap.size, 3, none⟩ (.slice (some ⟨b, off, none⟩) l.length c)) := Below.setCell (p := ⟨w.heap.size, 3, none⟩) hgr (Nat.le_refl _) _
        have hbk := heap_setCell_own (k := 3) hblk (.slice (some ⟨b, off, none⟩) l.length c)
        have O := hO _ hgw
        by_cases hn0 : n = 0
        · rw [if_pos hn0] at hgo
          subst hn0
          have HE := Lib.hid hgo
          clear hgo Y0 b0 k0 hos hO HN
          go_wp2_with fail
          refine O.mono ?_
          rintro e w' ⟨rfl, rfl⟩
          go_wp2_with fail
          try rw [Exit.noGoto_ret]
          refine bodyPost_ret (results_tmp3 rfl _ _ _) rfl ?_
          exact ⟨ret_rd HE.out, hgw⟩
        · obtain ⟨o1, o2, o3, o4, o5, o6⟩ := hos hn0
          obtain rfl : n = 3 := by rw [o6]; exact o5 rfl
          rw [if_neg (by decide), if_neg (by decide), if_pos rfl] at hgo
          have hsc : scaleL l = capS (byt l 2) := by unfold scaleL; rw [if_neg (by omega)]
          rw [← hsc] at hgo
          have HG := Lib.hid hgo
          obtain ⟨A', hdr, hA1, hA2⟩ := left_on hb (k := 3) (by omega)
          have i1 : (3 : Int) ≤ (l.length : Int) := by omega
          have HK := Lib.hid (show Scanned w (M, S, E) A' (c - 3) (l.drop 3) A2 (some ⟨b, off, none⟩) c2 c l2 l f (wr.setCell ⟨w.heap.size, 3, none⟩ (.slice (some ⟨b, off, none⟩) l.length c)) from ⟨hdr, by rw [List.length_drop]; omega, by rw [List.length_drop]; omega, HG.out, hgw, hbk, hb2, z2, hleft, .inr (by omega)⟩)
          clear hgo Y0 b0 k0 hdr hos hO hbk HN o2 o4 o5 o6 hsc
          go_wp2_with fail
          refine O.mono ?_
          rintro e w' ⟨rfl, hw'⟩
          rw [hw'] at HK
          clear hw' O hgw
          by_cases hc : c = 3
          · have hA := hA1 hc
            go_wp2_with fail
            go_roundg (l.length - 3)
            case measure => omega
            case rel => exact ⟨_, _, l.drop 3, _, _, _, _, _, _, f, slice_eq hA.symm (by rw [List.length_drop]) (by omega), by rw [List.length_drop], HK.out⟩
          · have hA := hA2 hc
            go_wp2_with fail
            go_roundg (l.length - 3)
            case measure => omega
            case rel => exact ⟨_, _, l.drop 3, _, _, _, _, _, _, f, slice_eq hA.symm (by rw [List.length_drop]) (by omega), by rw [List.length_drop], HK.out⟩
      have b3 : ((y : Int) == 3) = false := beq_eq_false_iff_ne.2 (by omega)
      have O := hO _ hgr
      by_cases hn0 : n = 0
      · rw [if_pos hn0] at hgo
        subst hn0
        have HE := Lib.hid hgo
        clear hgo hos hO HN
        go_wp2_with fail
        refine O.mono ?_
        rintro e w' ⟨rfl, rfl⟩
        go_wp2_with fail
        try rw [Exit.noGoto_ret]
        refine bodyPost_ret (results_tmp3 rfl _ _ _) rfl ?_
        exact ⟨ret_rd HE.out, hgr⟩
      · obtain ⟨o1, o2, o3, o4, o5, o6⟩ := hos hn0
        have hnl : n ≤ l.length := by omega
        rw [if_neg hn0, if_neg k2, if_neg k3] at hgo
        have HG := Lib.hid hgo
        obtain ⟨A', hdr, hA1, hA2⟩ := left_on hb (k := n) hnl
        have i1 : (n : Int) ≤ (l.length : Int) := by omega
        have hn1 : 2 ≤ n := by omega
        have HK := Lib.hid (show Scanned w (M, S, E) A' (c - n) (l.drop n) A2 A3 c2 c3 l2 l3 f wr from ⟨hdr, by rw [List.length_drop]; omega, by rw [List.length_drop]; omega, HG.out, hgr, hblk, hb2, z2, hb3, z3⟩)
        have bn : ((n : Int) == 0) = false := beq_eq_false_iff_ne.2 (by omega)
        clear hgo hdr hos hO HN o2 o3 o4 o5 o6
        go_wp2_with fail
        refine O.mono ?_
        rintro e w' ⟨rfl, rfl⟩
        by_cases hc : c = n
        · have hA := hA1 hc
          go_wp2_with fail
          go_roundg (l.length - n)
          case measure => omega
          case rel => exact ⟨_, _, l.drop n, _, _, _, _, _, _, f, slice_eq hA.symm (by rw [List.length_drop]) (by omega), by rw [List.length_drop], HK.out⟩
        · have hA := hA2 hc
          go_wp2_with fail
          go_roundg (l.length - n)
          case measure => omega
          case rel => exact ⟨_, _, l.drop n, _, _, _, _, _, _, f, slice_eq hA.symm (by rw [List.length_drop]) (by omega), by rw [List.length_drop], HK.out⟩
end Go.Proofs.Ytbhdpobmooncpaa
