/- Contract: the reference's Text. -/
import Derived.Test.YtmfgbanckehcgaaDoorTrailNum
namespace Go.Proofs.YtmfgbanckehcgaaDoor
set_option linter.unusedVariables false
set_option linter.unusedSimpArgs false
open Go.ChangeShapes Go.WideShapes Go.ChangeAt Go.RowKit

theorem way_step (l : PL) (k : Nat) (h : k < l.length) : str (wayOf (l.take (k + 1))) = str (wayOf (l.take k)) ++ (l[k]'h).1 ++ str [32] ++ str (Lib.itoa (l[k]'h).2) ++ str [58, 32] := by
  rw [List.take_succ_eq_append_getElem h, wayOf_snoc]
  conv => rhs; rw [← str_self (l[k]'h).1]
  simp only [str_add, List.append_assoc]

set_option maxHeartbeats 1600000 in
theorem RText_any (l : PL) (n : Int) (hn : -9223372036854775808 ≤ n ∧ n ≤ 9223372036854775807) (v : Value) (w : World) (hv : Plc w v l) (hok : Okp l) :
    Calls Tryd.prog 16 #[v, .int .i64 n] w fun e w' => e = .returned (.string (str (textOf (l.take 64) n))) ∧ Grow w w' := by
  obtain ⟨A, c, rfl, hlc, hcm, hcell⟩ := id hv
  have hm : l.length ≤ 9223372036854775807 := Nat.le_trans hlc hcm
  go_enter Tryd.func16, Tryd.ntmps16
  go_wp2_with fail
  go_loopg [5, 6] (l.length + 1) (fun g s5 s6 wr => ∃ k : Nat, k ≤ l.length ∧ k ≤ 64 ∧ g = l.length + 1 - k ∧ s5 = .string (str (wayOf (l.take k))) ∧ s6 = .int .i64 (k : Int) ∧ Grow w wr)
  case atStart => exact ⟨0, Nat.zero_le _, Nat.zero_le _, rfl, rfl, rfl, Grow.refl _⟩
  case round =>
    obtain ⟨k, hk, hk64, rfl, hs5, rfl, hgr⟩ := hrel
    have hlen : (str (wayOf (l.take k))).size ≤ 14336 := by
      rw [str_size]
      have h1 := wayOf_length (l.take k) fun p hp => hok p (List.mem_of_mem_take hp)
      rw [List.length_take] at h1
      omega
    by_cases hlt : k < l.length ∧ k < 64
    · obtain ⟨hlt, hlt64⟩ := hlt
      obtain ⟨b, off, rfl, hb, hc⟩ := hcell (by omega)
      have x0 := (hc k hlt).1
      have x1 := (hc k hlt).2
      rw [← hgr.cell (p := ⟨b, off + k * 2, none⟩) hb] at x0
      rw [← hgr.cell (p := ⟨b, off + k * 2 + 1, none⟩) hb] at x1
      have hst := way_step l k hlt
      have hp := hok _ (List.getElem_mem hlt)
      have hil := Lib.itoa_length_le _ hp.2.1 hp.2.2
      rw [← str_size] at hil
      have hN : Hid (∀ w, Calls Tryd.prog 31 #[.int .i64 (l[k]'hlt).2] w fun e w' => e = .returned (.string (str (Lib.itoa (l[k]'hlt).2))) ∧ ∃ m, w' = w.drewN m) := Number_any _ hp.2.1 hp.2.2
      have hp1 := hp.1
      clear hp
      generalize str (Lib.itoa (l[k]'hlt).2) = N at hN hil hst
      generalize l[k]'hlt = p at hst hN hp1 x0 x1
      obtain ⟨ps, pn⟩ := p
      simp only at hst hN hp1 x0 x1
      generalize str (wayOf (l.take k)) = X at hs5 hst hlen
      subst hs5
      have A1 : Aside (Grow w wr ∧ str (wayOf (l.take (k + 1))) = X ++ ps ++ str [32] ++ N ++ str [58, 32]) := ⟨hgr, hst⟩
      clear hc hcell hgr hst
      have h64 : decide ((k : Int) < 64) = true := decide_eq_true (by omega)
      have s1 : (⟨#[32]⟩ : ByteArray).size = 1 := rfl
      have s2 : (⟨#[58, 32]⟩ : ByteArray).size = 2 := rfl
      go_wp2_with fail
      go_quiet (((go_at_call 31; exact leaves_draws (hN.out _))))
      go_wp2_with fail
      go_roundg (l.length + 1 - (k + 1))
      case measure => omega
      case rel => exact ⟨k + 1, by omega, by omega, rfl, by rw [A1.out.2]; rfl, by go_num, A1.out.1.trans (Grow.drewN _ _)⟩
    · have ht : l.take k = l.take 64 := by
        rcases Nat.lt_or_ge k l.length with h | h
        · rw [show k = 64 from by omega]
        · rw [List.take_of_length_le (by omega), List.take_of_length_le (by omega)]
      rw [ht] at hs5 hlen
      have hil := Lib.itoa_length_le n hn.1 hn.2
      rw [← str_size] at hil
      have hN : Hid (∀ w, Calls Tryd.prog 31 #[.int .i64 n] w fun e w' => e = .returned (.string (str (Lib.itoa n))) ∧ ∃ m, w' = w.drewN m) := Number_any n hn.1 hn.2
      have A1 : Aside (Grow w wr) := hgr
      have s1 : (⟨#[111, 107]⟩ : ByteArray).size = 2 := rfl
      have s2 : (⟨#[101, 114, 114, 111, 114, 32]⟩ : ByteArray).size = 6 := rfl
      clear hgr hcell ht hv
      by_cases h0 : n = 0
      · have e : str (textOf (l.take 64) n) = str (wayOf (l.take 64)) ++ str [111, 107] := by unfold textOf; rw [if_pos h0, str_add]
        generalize str (wayOf (l.take 64)) = X at *
        subst hs5
        subst h0
        have A2 := (show Aside _ from e)
        clear e
        rcases Nat.lt_or_ge k l.length with h | h
        · have hk : decide ((k : Int) < 64) = false := decide_eq_false (by omega)
          go_wp2_with fail
          go_ret
          exact ⟨by rw [A2.out]; rfl, A1.out⟩
        · have hk : decide ((k : Int) < (l.length : Int)) = false := decide_eq_false (by omega)
          go_wp2_with fail
          go_ret
          exact ⟨by rw [A2.out]; rfl, A1.out⟩
      · have e : str (textOf (l.take 64) n) = str (wayOf (l.take 64)) ++ str [101, 114, 114, 111, 114, 32] ++ str (Lib.itoa n) := by unfold textOf; rw [if_neg h0, str_add, str_add, List.append_assoc]
        generalize str (wayOf (l.take 64)) = X at *
        generalize str (Lib.itoa n) = N at *
        subst hs5
        have h0' : (n == 0) = false := by simpa using h0
        have A2 := (show Aside _ from e)
        clear e
        rcases Nat.lt_or_ge k l.length with h | h
        · have hk : decide ((k : Int) < 64) = false := decide_eq_false (by omega)
          go_wp2_with (go_at_call 31; refine (hN.out _).mono ?_; rintro e w' ⟨rfl, m, rfl⟩)
          go_ret
          exact ⟨by rw [A2.out]; rfl, A1.out.trans (Grow.drewN _ _)⟩
        · have hk : decide ((k : Int) < (l.length : Int)) = false := decide_eq_false (by omega)
          go_wp2_with (go_at_call 31; refine (hN.out _).mono ?_; rintro e w' ⟨rfl, m, rfl⟩)
          go_ret
          exact ⟨by rw [A2.out]; rfl, A1.out.trans (Grow.drewN _ _)⟩
end Go.Proofs.YtmfgbanckehcgaaDoor
