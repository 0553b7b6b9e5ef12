/- Options read: the document's own answer. -/
import Derived.Test.YtbhdpobmooncpaaSeg
import Derived.Test.YtbhdpobmooncpaaSegRead
import Derived.BigQuiet
import Derived.Deep.QuietTactic
import Derived.Deep.DeepCutAuto
namespace Go.Proofs.Ytbhdpobmooncpaa
set_option linter.unusedVariables false
set_option linter.unusedSimpArgs false
open Go.ChangeShapes Go.WideShapes Go.ChangeAt Go.RowKit

theorem byt_drop (l : List UInt8) (i j : Nat) : byt (l.drop i) j = byt l (i + j) := by unfold byt; rw [List.getElem?_drop]
theorem num_drop (l : List UInt8) (i j : Nat) : num (l.drop i) j = num l (i + j) := by unfold num; rw [byt_drop, byt_drop, Nat.add_assoc]
theorem capS_eq (b : Nat) : ((capS b : Nat) : Int) = if 15 < 1 + (b : Int) then 15 else 1 + (b : Int) := by
  unfold capS
  split <;> split <;> omega

set_option maxRecDepth 10000 in
set_option maxHeartbeats 8000000 in
theorem RRead_any (v : Value) (L : List UInt8) (w : World) (h : Byt w v L) (hL : L.length ≤ 1000000) (M S : Nat) (E : Int) (hr : sread L = (M, S, E)) :
    Calls Try.prog 22 #[v] w fun e w' => e = .returned (.tuple #[.int .i64 (M : Int), .int .i64 (S : Int), .int .i64 E]) ∧ Grow w w' := by
  obtain ⟨A0, c0, rfl, hcl, hcm⟩ := h.form
  have HR := Lib.hid hr
  clear hr
  go_enter Try.func22, Try.ntmps22
  go_wp2_with fail
  go_loopg [5, 6, 7] L.length (fun g s5 s6 s7 wr => ∃ i m s f : Nat, s5 = .int .i64 (m : Int) ∧ s6 = .int .i64 (s : Int) ∧ s7 = .int .i64 (i : Int) ∧ g = L.length - i ∧ scan f (L.drop i) m s = (M, S, E) ∧ i ≤ L.length ∧ L.length - i ≤ f ∧ m < 65536 ∧ s ≤ 15 ∧ Grow w wr)
  case atStart => exact ⟨0, 0, 0, L.length, rfl, rfl, rfl, rfl, HR.out, Nat.zero_le _, Nat.le_refl _, by decide, by decide, Grow.refl _⟩
  case round =>
    obtain ⟨i, m, s, f, rfl, rfl, rfl, rfl, hgo, hi, hf, hm, hs, hgr⟩ := hrel
    unfold maxLen at hcm
    clear HR
    by_cases h0 : L.length ≤ i
    · have e0 : (m, s, (0 : Int)) = (M, S, E) := by
        have hz : (L.drop i).length = 0 := by rw [List.length_drop]; omega
        cases f with
        | zero => simpa [scan] using hgo
        | succ f => rw [scan, if_pos hz] at hgo; exact hgo
      have d0 : decide ((i : Int) < (L.length : Int)) = false := decide_eq_false (by omega)
      have HE := Lib.hid e0
      clear e0 hgo
      go_wp2_with fail
      refine bodyPost_ret (results_tmp3 rfl _ _ _) rfl ?_
      exact ⟨ret_rd HE.out, hgr⟩
    obtain ⟨f, rfl⟩ : ∃ j, f = j + 1 := ⟨f - 1, by omega⟩
    obtain ⟨b, off, rfl, hbl, hcell⟩ := h.at_ (by omega)
    have hld : (L.drop i).length = L.length - i := List.length_drop
    rw [scan, if_neg (by omega)] at hgo
    simp only [byt_drop, num_drop, List.drop_drop, Nat.add_zero] at hgo
    have hoz : osize (L.drop i) = if L.length - i < 2 ∨ byt L (i + 1) < 2 ∨ L.length - i < byt L (i + 1) ∨ (byt L i = 2 ∧ byt L (i + 1) ≠ 4) ∨ (byt L i = 3 ∧ byt L (i + 1) ≠ 3) then 0 else byt L (i + 1) := by
      unfold osize
      simp only [byt_drop, hld, Nat.add_zero]
    rw [hoz] at hgo
    have hcl2 : ∀ j, i + j < L.length → wr.cell? ⟨b, off + (i + j), none⟩ = some (.int .u8 (byt L (i + j) : Int)) := by
      intro j hj
      rw [hgr.cell (p := ⟨b, off + (i + j), none⟩) hbl, ← byt_at hj]
      exact hcell (i + j) hj
    have Y0 : wr.cell? ⟨b, off + i, none⟩ = some (.int .u8 (byt L i : Int)) := hcl2 0 (by omega)
    have y0 := byt_lt L i
    have y1 := byt_lt L (i + 1)
    have hii : i < L.length := by omega
    have i0 : (i : Int) < (L.length : Int) := by omega
    have d0 : decide ((i : Int) < (L.length : Int)) = true := decide_eq_true (by omega)
    obtain ⟨y, hy⟩ : ∃ y, y = byt L i := ⟨_, rfl⟩
    obtain ⟨n, hn⟩ : ∃ n, n = byt L (i + 1) := ⟨_, rfl⟩
    rw [← hy] at hgo Y0 y0
    rw [← hn] at hgo y1
    have Y1 : i + 1 < L.length → wr.cell? ⟨b, off + (i + 1), none⟩ = some (.int .u8 (n : Int)) := by rw [hn]; exact hcl2 1
    clear hcell hld hoz hy hn h0 h
    by_cases k0 : y = 0
    · rw [if_pos k0] at hgo
      subst k0
      have HE := Lib.hid hgo
      clear hgo hcl2 Y1
      have Y0' : wr.cell? ⟨b, off + i, none⟩ = some (.int .u8 0) := Y0
      clear Y0
      go_wp2_with fail
      refine bodyPost_ret (results_tmp3 rfl _ _ _) rfl ?_
      exact ⟨ret_rd HE.out, hgr⟩
    rw [if_neg k0] at hgo
    have b0 : ((y : Int) == 0) = false := beq_eq_false_iff_ne.2 (by omega)
    by_cases k1 : y = 1
    · rw [if_pos k1] at hgo
      subst k1
      have HG := Lib.hid hgo
      clear hgo hcl2 Y1 k0 b0
      have Y0' : wr.cell? ⟨b, off + i, none⟩ = some (.int .u8 1) := Y0
      clear Y0
      go_wp2_with fail
      go_roundg (L.length - (i + 1))
      case measure => omega
      case rel => exact ⟨i + 1, m, s, f, rfl, rfl, by go_num, rfl, HG.out, by omega, by omega, hm, hs, hgr⟩
    rw [if_neg k1] at hgo
    have b1 : ((y : Int) == 1) = false := beq_eq_false_iff_ne.2 (by omega)
    by_cases h1 : L.length ≤ i + 1
    · rw [if_pos (if_pos (.inl (by omega)))] at hgo
      have HE := Lib.hid hgo
      clear hgo hcl2 Y1
      have d1 : decide ((L.length : Int) ≤ (i : Int) + 1) = true := decide_eq_true (by omega)
      go_wp2_with fail
      refine bodyPost_ret (results_tmp3 rfl _ _ _) rfl ?_
      exact ⟨ret_rd HE.out, hgr⟩
    have Z1 := Y1 (by omega)
    have i1 : (i : Int) + 1 < (L.length : Int) := by omega
    have d1 : decide ((L.length : Int) ≤ (i : Int) + 1) = false := decide_eq_false (by omega)
    clear Y1
    by_cases h2 : n < 2
    · rw [if_pos (if_pos (.inr (.inl h2)))] at hgo
      have HE := Lib.hid hgo
      clear hgo hcl2
      have d2 : decide ((n : Int) < 2) = true := decide_eq_true (by omega)
      go_wp2_with fail
      refine bodyPost_ret (results_tmp3 rfl _ _ _) rfl ?_
      exact ⟨ret_rd HE.out, hgr⟩
    have d2 : decide ((n : Int) < 2) = false := decide_eq_false (by omega)
    by_cases h3 : L.length - i < n
    · rw [if_pos (if_pos (.inr (.inr (.inl h3))))] at hgo
      have HE := Lib.hid hgo
      clear hgo hcl2
      have d3 : decide ((L.length : Int) - (i : Int) < (n : Int)) = true := decide_eq_true (by omega)
      go_wp2_with fail
      refine bodyPost_ret (results_tmp3 rfl _ _ _) rfl ?_
      exact ⟨ret_rd HE.out, hgr⟩
    have d3 : decide ((L.length : Int) - (i : Int) < (n : Int)) = false := decide_eq_false (by omega)
    by_cases k2 : y = 2
    · have Y0' : wr.cell? ⟨b, off + i, none⟩ = some (.int .u8 2) := by rw [Y0, k2]; rfl
      by_cases h4 : n = 4
      · rw [if_neg (by rw [if_neg (by omega)]; omega), if_pos k2] at hgo
        have HG := Lib.hid hgo
        have C2 := hcl2 2 (by omega)
        have C3 := hcl2 3 (by omega)
        have Q : Hid (((num L (i + 2) : Nat) : Int) = 256 * (byt L (i + 2) : Int) + (byt L (i + 3) : Int)) := Lib.hid (by show ((256 * byt L (i + 2) + byt L (i + 2 + 1) : Nat) : Int) = _; rw [show i + 2 + 1 = i + 3 from rfl]; omega)
        have q2 := byt_lt L (i + 2)
        have q3 := byt_lt L (i + 3)
        have i2 : (i : Int) + 2 < (L.length : Int) := by omega
        have i3 : (i : Int) + 3 < (L.length : Int) := by omega
        have hn4 := num_lt L (i + 2)
        have hl4 : i + 4 ≤ L.length := by omega
        have Z1' : wr.cell? ⟨b, off + (i + 1), none⟩ = some (.int .u8 4) := by rw [Z1, h4]; rfl
        generalize byt L (i + 2) = a2 at *
        generalize byt L (i + 3) = a3 at *
        clear hgo hcl2 Y0 b0 b1 k0 k1 k2 Z1 h2 h3 h1 d2 d3 h4
        have d3' : decide ((L.length : Int) - (i : Int) < 4) = false := decide_eq_false (by omega)
        go_wp2_with fail
        go_quiet (fail)
        go_wp2_with fail
        go_roundg (L.length - (i + 4))
        case measure => omega
        case rel => exact ⟨i + 4, num L (i + 2), s, f, by rw [Q.out], rfl, by go_num, rfl, HG.out, hl4, by omega, hn4, hs, below_drewN hgr _⟩
      · rw [if_pos (if_pos (by omega))] at hgo
        have HE := Lib.hid hgo
        clear hgo hcl2
        have d4 : ((n : Int) != 4) = true := bne_iff_ne.2 (by omega)
        clear Y0 b0 b1 k0 k1 k2
        go_wp2_with fail
        refine bodyPost_ret (results_tmp3 rfl _ _ _) rfl ?_
        exact ⟨ret_rd HE.out, hgr⟩
    have b2 : ((y : Int) == 2) = false := beq_eq_false_iff_ne.2 (by omega)
    by_cases k3 : y = 3
    · have Y0' : wr.cell? ⟨b, off + i, none⟩ = some (.int .u8 3) := by rw [Y0, k3]; rfl
      by_cases h4 : n = 3
      · rw [if_neg (by rw [if_neg (by omega)]; omega), if_neg k2, if_pos k3] at hgo
        have C2 := hcl2 2 (by omega)
        have q2 := byt_lt L (i + 2)
        have i2 : (i : Int) + 2 < (L.length : Int) := by omega
        have hl3 : i + 3 ≤ L.length := by omega
        have hcap := (capS_le (byt L (i + 2))).2
        have hce := capS_eq (byt L (i + 2))
        have Z1' : wr.cell? ⟨b, off + (i + 1), none⟩ = some (.int .u8 3) := by rw [Z1, h4]; rfl
        have HG := Lib.hid hgo
        generalize byt L (i + 2) = a2 at *
        clear hgo hcl2 Y0 b0 b1 b2 k0 k1 k2 k3 Z1 h2 h3 h1 d2 d3 h4
        have d3' : decide ((L.length : Int) - (i : Int) < 3) = false := decide_eq_false (by omega)
        by_cases h15 : 15 < 1 + (a2 : Int)
        · rw [if_pos h15] at hce
          have d15 : decide (15 < 1 + (a2 : Int)) = true := decide_eq_true h15
          have HC := Lib.hid hce
          clear hce
          go_wp2_with fail
          go_roundg (L.length - (i + 3))
          case measure => omega
          case rel => exact ⟨i + 3, m, capS a2, f, rfl, by rw [HC.out], by go_num, rfl, HG.out, hl3, by omega, hm, hcap, hgr⟩
        · rw [if_neg h15] at hce
          have d15 : decide (15 < 1 + (a2 : Int)) = false := decide_eq_false h15
          have HC := Lib.hid hce
          clear hce
          go_wp2_with fail
          go_roundg (L.length - (i + 3))
          case measure => omega
          case rel => exact ⟨i + 3, m, capS a2, f, rfl, by rw [HC.out], by go_num, rfl, HG.out, hl3, by omega, hm, hcap, hgr⟩
      · rw [if_pos (if_pos (by omega))] at hgo
        have HE := Lib.hid hgo
        clear hgo hcl2
        have d4 : ((n : Int) != 3) = true := bne_iff_ne.2 (by omega)
        clear Y0 b0 b1 b2 k0 k1 k2 k3
        go_wp2_with fail
        refine bodyPost_ret (results_tmp3 rfl _ _ _) rfl ?_
        exact ⟨ret_rd HE.out, hgr⟩
    have b3 : ((y : Int) == 3) = false := beq_eq_false_iff_ne.2 (by omega)
    have hon : (if L.length - i < 2 ∨ n < 2 ∨ L.length - i < n ∨ (y = 2 ∧ n ≠ 4) ∨ (y = 3 ∧ n ≠ 3) then 0 else n) = n := if_neg (by omega)
    rw [hon, if_neg (by omega), if_neg k2, if_neg k3] at hgo
    have HG := Lib.hid hgo
    have hln : i + n ≤ L.length := by omega
    clear hgo hcl2 hon
    go_wp2_with fail
    go_roundg (L.length - (i + n))
    case measure => omega
    case rel => exact ⟨i + n, m, s, f, rfl, rfl, by go_num, rfl, HG.out, hln, by omega, hm, hs, hgr⟩
end Go.Proofs.Ytbhdpobmooncpaa
