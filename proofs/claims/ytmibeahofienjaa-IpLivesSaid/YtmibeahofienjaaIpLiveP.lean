/- A packet that goes on: Live. -/
import Derived.Test.YtmibeahofienjaaIpMeas
import Derived.Test.YtmibeahofienjaaIpPut
import Derived.Test.YtmibeahofienjaaIpPure2
namespace Go.Proofs.Ytmibeahofienjaa
set_option linter.unusedVariables false
set_option linter.unusedSimpArgs false
open Go.ChangeShapes Go.WideShapes Go.ChangeAt Go.RowKit

theorem num_take (l : List UInt8) (n i : Nat) (h : i + 2 ≤ n) : num (l.take n) i = num l i := by
  unfold num byt
  rw [List.getElem?_take, if_pos (by omega), List.getElem?_take, if_pos (by omega)]
theorem byt_take (l : List UInt8) (n i : Nat) (h : i < n) : byt (l.take n) i = byt l i := by
  unfold byt
  rw [List.getElem?_take, if_pos h]

/-- What Live writes, in two layers. -/
theorem lay_lived {l : List UInt8} (h : Good l) (h2 : 2 ≤ byt l 8) :
    num (lay (l.take (num l 2)) 8 (two ((num l 8 : Int) - 256))) 10 = num l 10 ∧ lay (lay (l.take (num l 2)) 8 (two ((num l 8 : Int) - 256))) 10 (two (lturn l : Nat)) = lived l := by
  obtain ⟨g1, g2, g3, g4, g5, g6, g7, g8⟩ := h
  have hh : 20 ≤ hdr l := by unfold hdr; omega
  obtain ⟨x0, x1, x2, x3, x4, x5, x6, x7, x8, x9, x10, x11, x12, x13, x14, x15, x16, x17, x18, x19, r, hl⟩ := h20 g1
  have ht : l.take (num l 2) = H20 x0 x1 x2 x3 x4 x5 x6 x7 x8 x9 x10 x11 x12 x13 x14 x15 x16 x17 x18 x19 (r.take (num l 2 - 20)) := by
    conv => lhs; rw [hl]
    rw [h20_take _ _ _ _ _ _ _ _ _ _ _ _ _ _ _ _ _ _ _ _ _ _ (by rw [← hl]; omega), ← hl]
  have B8 : byt l 8 = x8.toNat := by rw [hl]; rfl
  have N8 : num l 8 = 256 * x8.toNat + x9.toNat := by rw [hl]; rfl
  have N10 : num l 10 = 256 * x10.toNat + x11.toNat := by rw [hl]; rfl
  have q8 := x8.toNat_lt
  have e8 : (UInt8.ofNat (byt l 8 - 1)).toNat = x8.toNat - 1 := by rw [UInt8.toNat_ofNat']; omega
  have tw : two ((num l 8 : Int) - 256) = [UInt8.ofNat (byt l 8 - 1), x9] := by
    have := two_pair (UInt8.ofNat (byt l 8 - 1)) x9
    rw [e8] at this
    rw [← this]
    congr 1
    omega
  have lt : lturn l < 65536 := turn_lt _ _ _
  have tt : two ((lturn l : Nat) : Int) = [UInt8.ofNat (lturn l / 256), UInt8.ofNat (lturn l % 256)] := by
    unfold two
    rw [show (((lturn l : Nat) : Int) % 65536).toNat = lturn l by omega]
  rw [tw, tt]
  unfold lived
  rw [ht]
  exact ⟨N10.symm ▸ rfl, rfl⟩

set_option maxHeartbeats 4000000 in
theorem Live_any (v : Value) (l : List UInt8) (w : World) (h : Byt w v l) (hl : l.length ≤ 1000000) :
    Calls Try.prog 22 #[v] w fun e w' => ∃ u, e = .returned (.tuple #[u, .int .i64 (lcode l)]) ∧ (lcode l = 0 → Own w' w.heap.size u (lived l)) ∧ (lcode l ≠ 0 → u = .slice none 0 0) ∧ Grow w w' := by
  obtain ⟨A, c, rfl, hcl, hcm⟩ := h.form
  unfold maxLen at hcm
  by_cases hc : mcode l ≠ 0
  · have e1 : lcode l = mcode l := by unfold lcode; rw [if_pos hc]
    have hcc : 0 ≤ mcode l ∧ mcode l ≤ 4 := by unfold mcode; (repeat' split) <;> decide
    obtain ⟨mc1, mc2⟩ := hcc
    rw [e1]
    have hcb : (mcode l != 0) = true := by simpa using hc
    go_enter Try.func22, Try.ntmps22
    go_wp2_with fail
    refine (measure_any _ l _ h hl).mono ?_
    rintro e w2 ⟨rfl, hg2⟩
    go_wp2_with fail
    go_ret2
    exact ⟨_, rfl, fun h' => absurd h' hc, fun _ => rfl, hg2⟩
  have hc0 : mcode l = 0 := by simpa using hc
  have hgd := (good_iff l).1 hc0
  have hgd2 := hgd
  obtain ⟨g1, g2, g3, g4, g5, g6, g7, g8⟩ := hgd
  have hh : 20 ≤ hdr l := by unfold hdr; omega
  have em1 : mhead l = hdr l := by unfold mhead; rw [if_pos hc0]
  have em2 : mall l = num l 2 := by unfold mall; rw [if_pos hc0]
  obtain ⟨b, off, rfl, hb, hcell⟩ := h.at_ (by omega)
  have celg : ∀ w', Grow w w' → ∀ i, i < l.length → w'.cell? ⟨b, off + i, none⟩ = some (.int .u8 (byt l i : Int)) := fun w' g i hi => by
    rw [g.cell (p := ⟨b, off + i, none⟩) hb, hcell i hi, byt_at hi]
  have y8 := byt_lt l 8
  by_cases h8 : byt l 8 < 2
  · have e1 : lcode l = 6 := by unfold lcode; rw [if_neg hc, if_pos h8]
    rw [e1]
    go_enter Try.func22, Try.ntmps22
    go_wp2_with fail
    refine (measure_any _ l _ h hl).mono ?_
    rw [hc0, em1, em2]
    rintro e w2 ⟨rfl, hg2⟩
    have c8 := celg w2 hg2 8 (by omega)
    go_wp2_with fail
    go_ret2
    exact ⟨_, rfl, fun h' => absurd h' (by decide), fun _ => rfl, hg2⟩
  have e1 : lcode l = 0 := by unfold lcode; rw [if_neg hc, if_neg h8]
  rw [e1]
  obtain ⟨ll1, ll2⟩ := lay_lived hgd2 (by omega)
  obtain ⟨L, hLL⟩ : ∃ L, L = l.take (num l 2) := ⟨_, rfl⟩
  have hLl : L.length = num l 2 := by rw [hLL, List.length_take]; omega
  have nL8 : num L 8 = num l 8 := by rw [hLL]; exact num_take _ _ _ (by omega)
  rw [← hLL] at ll1 ll2
  have y82 := num_lt l 2
  have y88 := num_lt l 8
  have y810 := num_lt l 10
  obtain ⟨L8, hL8⟩ : ∃ L8, L8 = lay L 8 (two ((num l 8 : Int) - 256)) := ⟨_, rfl⟩
  have hL8l : L8.length = num l 2 := by rw [hL8, lay_length _ _ _ (by rw [two_length]; omega), hLl]
  rw [← hL8] at ll1 ll2
  have n0 : 0 < [L].length := by simp
  have n1 : [L].length ≤ maxLen := by simp [maxLen]
  have n2 : lens [L] ≤ 281474976710656 := by simp [lens]; omega
  have i1 : num l 2 ≤ c := by omega
  have y256 : 512 ≤ num l 8 := by unfold num; omega
  have elt : lturn l = turn (num l 10 : Nat) (num l 8 : Nat) ((num l 8 : Int) - 256) := rfl
  have hlt6 := turn_lt (num l 10 : Nat) (num l 8 : Nat) ((num l 8 : Int) - 256)
  rw [← elt] at hlt6
  have fL := h.front g8
  rw [← hLL] at fL
  have ELT := Lib.hid elt
  have HLL := Lib.hid hLL
  have HL8 := Lib.hid hL8
  have HN8 := Lib.hid nL8
  have HL1 := Lib.hid ll1
  clear elt hLL hL8 nL8 ll1
  go_enter Try.func22, Try.ntmps22
  go_wp2_with fail
  refine (measure_any _ l _ h hl).mono ?_
  rw [hc0, em1, em2]
  rintro e w2 ⟨rfl, hg2⟩
  have c8 := celg w2 hg2 8 (by omega)
  go_wp2_with fail
  refine (Join_lit_at w _ hg2 _ 1 _ rfl [L] rfl rfl n0 n1 n2 (byt_one (fL.grow hg2))).mono ?_
  rw [show [L].flatten = L by simp]
  rintro e w3 ⟨u, rfl, ho3, hg3⟩
  go_wp2_with fail
  refine (get16_any _ 8 L _ ho3.byt (by omega) (by omega)).mono ?_
  rw [HN8.out]
  rintro e w' ⟨rfl, rfl⟩
  go_wp2_with fail
  refine (set16_any w w3 w.heap.size (Nat.le_refl _) hg3 _ _ ho3 8 _ (by omega) (by omega)).mono ?_
  rw [← HL8.out]
  rintro e w4 ⟨rfl, ho4, hg4⟩
  go_wp2_with fail
  refine (get16_any _ 10 L8 _ ho4.byt (by omega) (by omega)).mono ?_
  rw [HL1.out]
  rintro e w' ⟨rfl, rfl⟩
  go_wp2_with fail
  refine (Turn_any _ _ _ _).mono ?_
  rw [← ELT.out]
  rintro e w' ⟨rfl, rfl⟩
  go_wp2_with fail
  refine (set16_any w w4 w.heap.size (Nat.le_refl _) hg4 _ _ ho4 10 _ (by omega) (by omega)).mono ?_
  rw [ll2]
  rintro e w5 ⟨rfl, ho5, hg5⟩
  go_wp2_with fail
  go_ret2
  exact ⟨_, rfl, fun _ => ho5, fun h' => absurd rfl h', hg5⟩
end Go.Proofs.Ytmibeahofienjaa
