/- Reading numbers: number. -/
import Derived.Test.YthaheagjelmnpaaDoorStr
namespace Go.Proofs.YthaheagjelmnpaaDoor
set_option linter.unusedVariables false
set_option linter.unusedSimpArgs false
open Go.ChangeShapes Go.WideShapes Go.ChangeAt Go.RowKit

/-- Digits that are read on, and how many. -/
def readOn (most : Nat) : List UInt8 → Nat → Nat → Nat × Nat
  | [], n, k => (n, k)
  | c :: r, n, k => if 48 ≤ c.toNat ∧ c.toNat ≤ 57 ∧ (n = 0 → k = 0) ∧ n * 10 + (c.toNat - 48) ≤ most then readOn most r (n * 10 + (c.toNat - 48)) (k + 1) else (n, k)

theorem byte_at {s : ByteArray} {i : Nat} (h : i < s.size) : s.data.toList.drop i = s[i]'h :: s.data.toList.drop (i + 1) := by
  have h' : i < s.data.toList.length := by rw [Array.length_toList]; exact h
  rw [List.drop_eq_getElem_cons h']
  rfl

/-- What number hands back. -/
def readV (p N K : Nat) : Value := .tuple #[.int .i64 (N : Int), .int .i64 ((p : Int) + (K : Int)), .bool (decide (0 < K))]
theorem readV_eq {p N K : Nat} {a b : Int} {t : Bool} (h1 : a = (N : Int)) (h2 : b = (p : Int) + (K : Int)) (h3 : t = decide (0 < K)) : Ending.returned (.tuple #[.int .i64 a, .int .i64 b, .bool t]) = .returned (readV p N K) := by
  subst h1; subst h2; subst h3; rfl
theorem more_iff (p k : Nat) : decide ((p : Int) < (p : Int) + (k : Int)) = decide (0 < k) := by
  rw [decide_eq_decide]; omega

set_option maxHeartbeats 3200000 in
theorem number_any (s : ByteArray) (p most : Nat) (hp : p ≤ s.size) (hs : s.size ≤ 140737488351232) (hm : most ≤ 1000) (N K : Nat) (hr : readOn most (s.data.toList.drop p) 0 0 = (N, K)) (w : World) :
    Calls Tryd.prog 26 #[.string s, .int .i64 (p : Int), .int .i64 (most : Int)] w fun e w' => e = .returned (readV p N K) ∧ w = w' := by
  go_enter Tryd.func26, Tryd.ntmps26
  go_wp2_with fail
  go_step3
  go_wp2_with fail
  go_step3
  go_wp2_with fail
  go_loopg [6, 7] (s.size - p) (fun g s6 s7 wr => ∃ n k : Nat, readOn most (s.data.toList.drop (p + k)) n k = (N, K) ∧ n ≤ most ∧ p + k ≤ s.size ∧ g = s.size - (p + k) ∧ s6 = .int .i64 (n : Int) ∧ s7 = .int .i64 ((p : Int) + (k : Int)) ∧ wr = w)
  case atStart => exact ⟨0, 0, hr, Nat.zero_le _, hp, rfl, rfl, by rw [Int.natCast_zero, Int.add_zero], rfl⟩
  case round =>
    obtain ⟨n, k, hrd, hn, hk, rfl, rfl, rfl, rfl⟩ := hrel
    clear hr
    rcases Nat.lt_or_ge (p + k) s.size with hlt | hge
    · rw [byte_at hlt] at hrd
      obtain ⟨c, hc⟩ : ∃ c, c = (s[p + k]'hlt).toNat := ⟨_, rfl⟩
      have hc1 := hc.symm
      have hc2 : c ≤ 255 := by have := (s[p + k]'hlt).toNat_lt; omega
      rw [readOn, ← hc] at hrd
      clear hc
      have w1 : wrap64 (c : Int) = (c : Int) := IntWalk.wrap64_in _ (by omega)
      have w2 : wrap64 ((c : Int) - 48) = (c : Int) - 48 := IntWalk.wrap64_in _ (by omega)
      by_cases h1 : 48 ≤ c
      · by_cases h2 : c ≤ 57
        · by_cases h3 : n = 0 → k = 0
          · by_cases h4 : n * 10 + (c - 48) ≤ most
            · rw [if_pos ⟨h1, h2, h3, h4⟩] at hrd
              have HR := (show Aside _ from hrd)
              clear hrd
              have d1 : decide ((c : Int) - 48 < 0) = false := decide_eq_false (by omega)
              have d2 : decide (9 < (c : Int) - 48) = false := decide_eq_false (by omega)
              have d4 : decide ((most : Int) < (n : Int) * 10 + ((c : Int) - 48)) = false := decide_eq_false (by omega)
              by_cases hn0 : n = 0
              · obtain rfl := h3 hn0
                subst hn0
                have hc0 : (s[p]'hlt).toNat = c := hc1
                have h5 : c - 48 ≤ most := by omega
                have d5 : decide ((most : Int) < (c : Int) - 48) = false := decide_eq_false (by omega)
                clear hc1 h3 d4 h4
                go_wp2_with fail
                go_roundg (s.size - (p + 1))
                case measure => omega
                case rel => exact ⟨c - 48, 1, by simpa using HR.out, by omega, by omega, rfl, by go_num, by go_num, rfl⟩
              · have b3 : ((n : Int) == 0) = false := by simp; omega
                go_wp2_with fail
                go_roundg (s.size - (p + (k + 1)))
                case measure => omega
                case rel => exact ⟨n * 10 + (c - 48), k + 1, HR.out, by omega, by omega, rfl, by go_num, by go_num, rfl⟩
            · rw [if_neg (fun h => h4 h.2.2.2)] at hrd
              obtain ⟨rfl, rfl⟩ : n = N ∧ k = K := by simpa using hrd
              have d1 : decide ((c : Int) - 48 < 0) = false := decide_eq_false (by omega)
              have d2 : decide (9 < (c : Int) - 48) = false := decide_eq_false (by omega)
              have d4 : decide ((most : Int) < (n : Int) * 10 + ((c : Int) - 48)) = true := decide_eq_true (by omega)
              by_cases hn0 : n = 0
              · obtain rfl := h3 hn0
                subst hn0
                have hc0 : (s[p]'hlt).toNat = c := hc1
                have d5 : decide ((most : Int) < (c : Int) - 48) = true := decide_eq_true (by omega)
                clear hc1 h3 d4 h4
                go_wp2_with fail
                try rw [Exit.noGoto_ret]
                go_ret3
                exact ⟨readV_eq rfl (by omega) (by simp), rfl⟩
              · have b3 : ((n : Int) == 0) = false := by simp; omega
                go_wp2_with fail
                try rw [Exit.noGoto_ret]
                go_ret3
                exact ⟨readV_eq rfl rfl (more_iff _ _), rfl⟩
          · rw [if_neg (fun h => h3 h.2.2.1)] at hrd
            obtain ⟨rfl, rfl⟩ : n = N ∧ k = K := by simpa using hrd
            obtain ⟨rfl, hk0⟩ : n = 0 ∧ 0 < k := by omega
            have d1 : decide ((c : Int) - 48 < 0) = false := decide_eq_false (by omega)
            have d2 : decide (9 < (c : Int) - 48) = false := decide_eq_false (by omega)
            have d3 : decide ((p : Int) < (p : Int) + (k : Int)) = true := decide_eq_true (by omega)
            go_wp2_with fail
            try rw [Exit.noGoto_ret]
            go_ret3
            exact ⟨readV_eq rfl rfl (decide_eq_true hk0).symm, rfl⟩
        · rw [if_neg (fun h => h2 h.2.1)] at hrd
          obtain ⟨rfl, rfl⟩ : n = N ∧ k = K := by simpa using hrd
          have d1 : decide ((c : Int) - 48 < 0) = false := decide_eq_false (by omega)
          have d2 : decide (9 < (c : Int) - 48) = true := decide_eq_true (by omega)
          go_wp2_with fail
          try rw [Exit.noGoto_ret]
          go_ret3
          exact ⟨readV_eq rfl rfl (more_iff _ _), rfl⟩
      · rw [if_neg (fun h => h1 h.1)] at hrd
        obtain ⟨rfl, rfl⟩ : n = N ∧ k = K := by simpa using hrd
        have d1 : decide ((c : Int) - 48 < 0) = true := decide_eq_true (by omega)
        go_wp2_with fail
        try rw [Exit.noGoto_ret]
        go_ret3
        exact ⟨readV_eq rfl rfl (more_iff _ _), rfl⟩
    · rw [List.drop_eq_nil_of_le (by rw [Array.length_toList]; exact hge), readOn] at hrd
      obtain ⟨rfl, rfl⟩ : n = N ∧ k = K := by simpa using hrd
      go_wp2_with fail
      try rw [Exit.noGoto_ret]
      go_ret3
      exact ⟨readV_eq rfl rfl (more_iff _ _), rfl⟩
end Go.Proofs.YthaheagjelmnpaaDoor
