/- Contract: Pick of the program's table. -/
import Derived.Test.YtkilfdhofbjkgaaPqTk
namespace Go.Proofs.Ytkilfdhofbjkgaa
set_option linter.unusedVariables false
set_option linter.unusedSimpArgs false
open Go.ChangeShapes Go.WideShapes Go.ChangeAt Go.RowKit

/-- The port that is tried in round k. -/
def cyc (t : Prt) (k : Nat) : Int := if (k : Int) < t.hi - t.la then t.la + 1 + k else t.lo + ((k : Int) - (t.hi - t.la))
section
variable {t : Prt} {a : Int} {k n : Nat}
theorem cyc_zero (ok : TOk t) : (if t.la = t.hi then t.lo else t.la + 1) = cyc t 0 := by
  have := ok.la
  unfold cyc
  by_cases h : t.la = t.hi
  · rw [if_pos h, if_neg (by omega)]
    omega
  · rw [if_neg h, if_pos (by omega)]
    omega
theorem cyc_in (ok : TOk t) (hk : (k : Int) < t.hi - t.lo + 1) : t.lo ≤ cyc t k ∧ cyc t k ≤ t.hi := by
  have := ok.la
  have := ok.le
  unfold cyc
  by_cases h : (k : Int) < t.hi - t.la
  · rw [if_pos h]
    omega
  · rw [if_neg h]
    omega
theorem cyc_aft (ok : TOk t) (hk : ((k + 1 : Nat) : Int) < t.hi - t.lo + 1) : aft t (cyc t k) = cyc t (k + 1) := by
  have := ok.la
  have := ok.le
  unfold aft cyc
  by_cases h : (k : Int) < t.hi - t.la
  · rw [if_pos h]
    by_cases h2 : ((k + 1 : Nat) : Int) < t.hi - t.la
    · rw [if_pos h2, if_neg (by omega)]
      omega
    · rw [if_neg h2, if_pos (by omega)]
      omega
  · rw [if_neg h, if_neg (by omega), if_neg (by omega)]
    omega
theorem portsT_at (i : Nat) (hi : (i : Int) < t.hi - t.lo + 1) : (portsT t)[i]? = some (t.lo + (i : Int)) := by
  unfold portsT
  rw [List.getElem?_map, List.getElem?_range (by omega)]
  rfl
theorem portsT_of {i : Nat} {y : Int} (h : (portsT t)[i]? = some y) : (i : Int) < t.hi - t.lo + 1 ∧ y = t.lo + (i : Int) := by
  have hl := (List.getElem?_eq_some_iff.1 h).1
  have hl' : (i : Int) < t.hi - t.lo + 1 := by
    unfold portsT at hl
    rw [List.length_map, List.length_range] at hl
    omega
  rw [portsT_at i hl'] at h
  exact ⟨hl', (Option.some.inj h).symm⟩
/-- Where a port stands in the round. -/
theorem cyc_up (j : Nat) {y : Int} (h1 : t.la < y) (h2 : y ≤ t.hi) (hj : (j : Int) = y - t.la - 1) : cyc t j = y := by
  unfold cyc
  rw [if_pos (by omega)]
  omega
theorem cyc_dn (j : Nat) {y : Int} (h1 : y ≤ t.la) (h2 : t.lo ≤ y) (hj : (j : Int) = y - t.lo + (t.hi - t.la)) : cyc t j = y := by
  unfold cyc
  rw [if_neg (by omega)]
  omega
theorem pkS_hit (ok : TOk t) (hk : (k : Int) < t.hi - t.lo + 1) (hno : ∀ j : Nat, j < k → takenT t.B ⟨a, cyc t j⟩) (hf : ¬ takenT t.B ⟨a, cyc t k⟩) : pkS t a = some (cyc t k) := by
  have hla := ok.la
  have hle := ok.le
  unfold pkS
  by_cases h : (k : Int) < t.hi - t.la
  · have e : cyc t k = t.la + 1 + k := if_pos h
    have hi : ((t.la + 1 + k - t.lo).toNat : Int) = t.la + 1 + k - t.lo := by omega
    rw [find_first (P := fun p => decide (fits t a true p)) (k := (t.la + 1 + k - t.lo).toNat) (x := cyc t k) (by rw [portsT_at _ (by omega), e]; exact congrArg some (by omega)) (decide_eq_true ⟨decide_eq_true (by omega), hf⟩) fun j y hj hy => decide_eq_false fun ⟨q1, q2⟩ => ?_]
    obtain ⟨y1, y2⟩ := portsT_of hy
    have q1 : t.la < y := of_decide_eq_true q1
    exact q2 (by
      have := hno (y - t.la - 1).toNat (by omega)
      rwa [cyc_up _ q1 (by omega) (by omega)] at this)
  · have e : cyc t k = t.lo + ((k : Int) - (t.hi - t.la)) := if_neg h
    rw [find_none (P := fun p => decide (fits t a true p)) fun j y hy => decide_eq_false fun ⟨q1, q2⟩ => ?_]
    · show (portsT t).find? (fun p => decide (fits t a false p)) = _
      rw [find_first (P := fun p => decide (fits t a false p)) (k := ((k : Int) - (t.hi - t.la)).toNat) (x := cyc t k) (by rw [portsT_at _ (by omega), e]; exact congrArg some (by omega)) (decide_eq_true ⟨decide_eq_false (by omega), hf⟩) fun j y hj hy => decide_eq_false fun ⟨q1, q2⟩ => ?_]
      obtain ⟨y1, y2⟩ := portsT_of hy
      exact q2 (by
        have := hno (y - t.lo + (t.hi - t.la)).toNat (by omega)
        rwa [cyc_dn (y := y) _ (by omega) (by omega) (by omega)] at this)
    · obtain ⟨y1, y2⟩ := portsT_of hy
      have q1 : t.la < y := of_decide_eq_true q1
      exact q2 (by
        have := hno (y - t.la - 1).toNat (by omega)
        rwa [cyc_up _ q1 (by omega) (by omega)] at this)
theorem pkS_miss (ok : TOk t) (hn : (n : Int) = t.hi - t.lo + 1) (hno : ∀ j : Nat, j < n → takenT t.B ⟨a, cyc t j⟩) : pkS t a = none := by
  cases h : pkS t a with
  | none => rfl
  | some p =>
    exfalso
    obtain ⟨⟨h1, h2⟩, h3⟩ := pkS_some h
    have hla := ok.la
    by_cases q : t.la < p
    · have := hno (p - t.la - 1).toNat (by omega)
      rw [cyc_up _ q h2 (by omega)] at this
      exact h3 this
    · have := hno (p - t.lo + (t.hi - t.la)).toNat (by omega)
      rw [cyc_dn (y := p) _ (by omega) h1 (by omega)] at this
      exact h3 this
end
section
variable {w : World} {base pb bm jm um : Nat} {nx : Int} {t : Prt}
theorem PtS.next (h : PtS w base pb bm jm um nx t) (p : Int) : PtS (w.setCell ⟨pb, 2, none⟩ (.int .i64 (aft t p))) base pb bm jm um (aft t p) { t with la := p } := by
  have k1 : ∀ b, b ≠ pb → (w.setCell ⟨pb, 2, none⟩ (.int .i64 (aft t p))).heap[b]? = w.heap[b]? := fun b hb => Below.heap_setCell _ _ _ _ hb
  obtain ⟨U, u1, u2⟩ := h.use
  exact ⟨(heap_setCell_own (k := 2) h.blk _).trans rfl, rfl, h.bp, h.bb, h.bj, h.bu, h.bnd.keep (k1 _ (h.mne h.bnd.blk)), h.jnd.keep (k1 _ (h.mne h.jnd.blk)), ⟨U, u1.keep (k1 _ (h.mne u1.blk)), u2⟩, h.n1, h.n2, h.n3⟩
set_option maxRecDepth 10000 in
set_option maxHeartbeats 2000000 in
theorem pickP (h : PtS w base pb bm jm um nx t) (ok : TOk t) (hb : base ≤ w.heap.size) (a : Int) : Calls Try.prog 16 #[.pointer (some ⟨pb, 0, none⟩), .int .u32 a] w fun x w' => x = .returned (.tuple #[.int .u16 (pkP t a), .int .i64 (pkE t a)]) ∧ Ppp w' base pb (pkT t a) ∧ Only base Zo w w' := by
  obtain ⟨n, hn⟩ : ∃ n : Nat, (n : Int) = t.hi - t.lo + 1 := ⟨(t.hi - t.lo + 1).toNat, by have := ok.le; omega⟩
  have HN := Lib.hid hn
  have HK := Lib.hid (And.intro ok hb)
  have H0 := Lib.hid h
  have c0 := h.c0
  have c1 := h.c1
  have c2 := h.c2
  have hnx : nx = cyc t 0 := h.hn.trans (cyc_zero ok)
  have l1 := ok.lo
  have l2 := ok.le
  have l3 := ok.hi
  obtain ⟨lo, hlo⟩ : ∃ lo, lo = t.lo := ⟨_, rfl⟩
  obtain ⟨hi, hhi⟩ : ∃ hi, hi = t.hi := ⟨_, rfl⟩
  have HL := Lib.hid (And.intro hlo (And.intro hhi hnx))
  rw [← hlo] at c0 l1 l2 hn
  rw [← hhi] at c1 l2 l3 hn
  obtain ⟨m, hm⟩ : ∃ m, m = hi - lo := ⟨_, rfl⟩
  have w1 : IntKind.i64.wrap (hi - lo) = m := by rw [hm]; exact IntWalk.i64_in _ (by omega)
  have w2 : IntKind.i64.wrap (m + 1) = (n : Int) := by rw [hm, hn]; exact IntWalk.i64_in _ (by omega)
  have hn5 : n ≤ 65535 := by omega
  clear h ok hb hn hnx hlo hhi hm l1 l2 l3
  go_enter Try.func16, Try.ntmps16
  go_wp2_with fail
  go_quiet (fail)
  go_wp2_with fail
  go_loopg [6, 23] n (fun gk s6 s23 wr => ∃ (k : Nat) (p : Int), k ≤ n ∧ gk = n - k ∧ s23 = .int .i64 (k : Int) ∧ s6 = .int .i64 p ∧ Hid ((k < n → p = cyc t k) ∧ (∀ j : Nat, j < k → takenT t.B ⟨a, cyc t j⟩)) ∧ Hid (PtS wr base pb bm jm um nx t ∧ Grow w wr))
  case atStart => exact ⟨0, nx, Nat.zero_le _, rfl, rfl, rfl, ⟨fun _ => HL.out.2.2, fun j hj => absurd hj (Nat.not_lt_zero _)⟩, ⟨H0.out.grow (Grow.drewN _ _), Grow.drewN _ _⟩⟩
  case round =>
    obtain ⟨k, p, hk, rfl, rfl, rfl, HP, HW⟩ := hrel
    rcases Nat.lt_or_ge k n with hlt | hge
    · have i0 : (k : Int) < (n : Int) := by omega
      have hpk := HP.out.1 hlt
      have hin := cyc_in (k := k) HK.out.1 (by have := HN.out; omega)
      rw [← hpk] at hin
      have hp5 : 0 ≤ p ∧ p ≤ 65535 := by
        have := HK.out.1.lo
        have := HK.out.1.hi
        omega
      have w3 : IntKind.u16.wrap p = p := by show p % 65536 = p; omega
      have c3 := takenP HW.out.1 ⟨a, p⟩
      have HQ := Lib.hid hpk
      have HR := Lib.hid hp5
      clear hpk hin hp5
      by_cases ht : takenT t.B ⟨a, p⟩
      · have HT := Lib.hid ht
        simp only [decide_eq_true ht] at c3
        clear ht
        go_wp2_with fail
        refine c3.mono ?_
        rintro x wq ⟨rfl, gq⟩
        have HW2 := Lib.hid (And.intro (HW.out.1.grow gq) (HW.out.2.trans gq))
        have c4 := afterP HW2.out.1 HK.out.1 p HR.out
        clear c3 gq
        go_wp2_with fail
        refine c4.mono ?_
        rintro x w' ⟨rfl, hw⟩
        subst hw
        clear c4
        go_wp2_with fail
        go_roundg (n - (k + 1))
        case measure => omega
        case rel => exact ⟨k + 1, aft t p, hlt, rfl, by go_num, rfl, ⟨fun q => by rw [HQ.out]; exact cyc_aft HK.out.1 (by have := HN.out; omega), fun j hj => by
            rcases Nat.lt_or_ge j k with q | q
            · exact HP.out.2 j q
            · obtain rfl : j = k := by omega
              rw [← HQ.out]
              exact HT.out⟩, HW2.out⟩
      · have hS : pkS t a = some p := by
          have := pkS_hit (a := a) HK.out.1 (k := k) (by have := HN.out; omega) HP.out.2 (by rw [← HQ.out]; exact ht)
          rw [← HQ.out] at this
          exact this
        have HE : Hid (pkE t a = 0 ∧ pkP t a = p ∧ pkT t a = { t with la := p }) := by
          refine ⟨?_, ?_, ?_⟩
          · unfold pkE; rw [hS]
          · unfold pkP; rw [hS]
          · unfold pkT; rw [hS]
        simp only [decide_eq_false ht] at c3
        clear ht hS
        go_wp2_with fail
        refine c3.mono ?_
        rintro x wq ⟨rfl, gq⟩
        have HW2 := Lib.hid (And.intro (HW.out.1.grow gq) (HW.out.2.trans gq))
        have c4 := afterP HW2.out.1 HK.out.1 p HR.out
        have c5 := HW2.out.1.c2
        have fr := HW2.out.1.fro 2
        have HZ : Hid (Ppp (wq.setCell ⟨pb, 2, none⟩ (.int .i64 (aft t p))) base pb (pkT t a) ∧ Only base Zo w (wq.setCell ⟨pb, 2, none⟩ (.int .i64 (aft t p)))) := by
          refine ⟨⟨HK.out.1.pk a, ?_⟩, (Only.grow HW2.out.2 HK.out.2 Zo).trans (Only.set HW2.out.1.blk HW2.out.1.bp zo_table _)⟩
          rw [HE.out.2.2]
          exact ⟨_, _, _, _, HW2.out.1.next p⟩
        clear c3 gq
        go_wp2_with fail
        refine c4.mono ?_
        rintro x w' ⟨rfl, hw⟩
        subst hw
        clear c4
        go_wp2_with fail
        go_ret2
        rw [HE.out.1, HE.out.2.1]
        exact ⟨rfl, HZ.out⟩
    · obtain rfl : k = n := by omega
      have hS := pkS_miss (a := a) HK.out.1 HN.out HP.out.2
      have HE : Hid (pkE t a = 5 ∧ pkP t a = 0 ∧ pkT t a = t) := by
        refine ⟨?_, ?_, ?_⟩
        · unfold pkE; rw [hS]
        · unfold pkP; rw [hS]
        · unfold pkT; rw [hS]
      have i0 : ¬ (k : Int) < (k : Int) := by omega
      clear hS
      go_wp2_with fail
      go_ret2
      rw [HE.out.1, HE.out.2.1, HE.out.2.2]
      exact ⟨rfl, ⟨HK.out.1, _, _, _, _, HW.out.1⟩, Only.grow HW.out.2 HK.out.2 Zo⟩
end
end Go.Proofs.Ytkilfdhofbjkgaa
