/- Contract: Provide of the program's pool. -/
import Derived.Test.YtkambcjinidomaaBpRm
namespace Go.Proofs.Ytkambcjinidomaa
set_option linter.unusedVariables false
set_option linter.unusedSimpArgs false
open Go.ChangeShapes Go.WideShapes Go.ChangeAt Go.RowKit

theorem news_next (a s : Int) (i : Nat) : news a ((i + 1 : Nat) : Int) s = news a (i : Int) s ++ [⟨a + (i : Int), s⟩] := by
  unfold news
  rw [Int.toNat_natCast, Int.toNat_natCast, List.range_succ, List.map_append]
  rfl
theorem news_zero (a s : Int) : news a ((0 : Nat) : Int) s = [] := rfl
theorem pls_upd2 (p : Pls) (k : Nat) (x y : Gp) : upd (upd p k x) k y = upd p k y := by
  funext i
  unfold upd
  by_cases e : i = k
  · rw [if_pos e, if_pos e]
  · rw [if_neg e, if_neg e, if_neg e]
theorem pls_self (p : Pls) (k : Nat) : upd p k (p k) = p := by
  funext i
  unfold upd
  by_cases e : i = k
  · rw [if_pos e, e]
  · rw [if_neg e]
/-- A group with some of the new ones. -/
def gpAt (x : Gp) (a s : Int) (i : Nat) : Gp := ⟨x.fr ++ news a (i : Int) s, x.out⟩
theorem gpAt_zero (x : Gp) (a s : Int) : gpAt x a s 0 = x := by
  unfold gpAt
  rw [news_zero, List.append_nil]
theorem ents_add (x : Gp) (a s : Int) (i : Nat) : ((a + (i : Int), s, (1 : Int)) :: ents (gpAt x a s i)).Perm (ents (gpAt x a s (i + 1))) := by
  unfold gpAt ents
  rw [news_next]
  simp only [List.map_append, List.map_cons, List.map_nil]
  rw [← List.append_assoc (x.fr.map _), List.append_assoc (_ ++ _) [_] _]
  exact List.perm_middle.symm
theorem not_same_at {x : Gp} {a s : Int} {N i : Nat} (h : ¬ pvSame x a (N : Int)) (hi : i < N) : ∀ y ∈ ents (gpAt x a s i), y.1 ≠ a + (i : Int) := by
  intro y hy e
  rcases ents_mem hy with ⟨b, hb, rfl⟩ | ⟨b, hb, rfl⟩
  · rcases List.mem_append.1 hb with q | q
    · exact h ⟨b, List.mem_append.2 (.inl q), by simp only at e; omega, by simp only at e; omega⟩
    · have := news_mem q
      simp only at e
      omega
  · exact h ⟨b, List.mem_append.2 (.inr hb), by simp only at e; omega, by simp only at e; omega⟩
theorem wrap_sum {t N : Nat} (h : t + N ≤ 5000) : wrap64 ((t : Int) + (N : Int)) = (t : Int) + (N : Int) := IntWalk.wrap64_in _ (by omega)
section
variable {w : World} {base pb : Nat} {gs : Array Value} {m : Nat → Nat} {v : Nat → Value} {p : Pls} {k : Nat}
/-- Where Provide stands: i of the new ones are there. -/
def PvAt (w wr : World) (base pb : Nat) (p : Pls) (k : Nat) (a s : Int) (i : Nat) : Prop := (∃ gs m v, PpS wr base pb gs m v (upd p k (gpAt (p k) a s i))) ∧ Only base Zp w wr
theorem add_at_ {wr : World} {a s : Int} {N i : Nat} (h : PvAt w wr base pb p k a s i) (hk : k < 16) (hb : base ≤ w.heap.size) (hs : ¬ pvSame (p k) a (N : Int)) (hi : i < N) (hl : (p k).fr.length + N ≤ 2048) :
    Calls Try.prog 24 #[.pointer (some ⟨pb, k * 2, none⟩), .int .i64 (a + (i : Int)), .int .i64 s] wr fun e w' => e = .returned (.tuple #[]) ∧ PvAt w w' base pb p k a s (i + 1) := by
  obtain ⟨⟨gs, m, v, h1⟩, h2⟩ := h
  have e : (upd p k (gpAt (p k) a s i)) k = gpAt (p k) a s i := upd_same _ _ _
  have hm := (h1.map k hk).2
  rw [e] at hm
  obtain ⟨w2, p1, p2, p3⟩ := hm.put_new (not_same_at hs hi) (s, 1)
  have c := add_any wr base pb gs m v _ h1 (Nat.le_trans hb h2.size) k hk (a + (i : Int)) s (gpAt (p k) a s (i + 1)) (by rw [e]; unfold gpAt; rw [news_next, ← List.append_assoc]) (by rw [e]; unfold gpAt; rw [List.length_append, news_len, Int.toNat_natCast]; omega) ⟨w2, p1, p2.perm (ents_add _ _ _ _), p3⟩
  refine c.mono ?_
  rintro e' w' ⟨rfl, gs', v', h3, o3⟩
  rw [pls_upd2] at h3
  exact ⟨rfl, ⟨_, _, _, h3⟩, h2.trans o3⟩
set_option maxRecDepth 10000 in
set_option maxHeartbeats 200000 in
theorem provP (h : PpS w base pb gs m v p) (hp : POk p) (hb : base ≤ w.heap.size) (g a n s : Int) (ha : AI64 a) (hn : AI64 n) : Calls Try.prog 9 #[.pointer (some ⟨pb, 0, none⟩), .int .i64 g, .int .i64 a, .int .i64 n, .int .i64 s] w fun e w' => e = .returned (.int .i64 (pvE p g a n s)) ∧ Bpp w' base pb (pvP p g a n s) ∧ Only base Zp w w' := by
  by_cases hg : Bad g
  · have HE : Hid (pvE p g a n s = 1 ∧ pvP p g a n s = p) := pvE_bad (.inl hg)
    have HP : Hid (Bpp w base pb p) := ⟨hp, _, _, _, h⟩
    have c0 := pfind_bad w pb g hg
    clear h hg hp hb ha hn
    go_enter Try.func9, Try.ntmps9
    go_wp2_with fail
    refine c0.mono ?_
    rintro e w' ⟨rfl, hw⟩
    subst w'
    go_wp2_with fail
    go_ret
    obtain ⟨e1, e2⟩ := HE.out
    rw [e1, e2]
    exact ⟨rfl, HP.out, Only.refl _ _ _⟩
  obtain ⟨k, rfl, hk, hk2⟩ := bad_nat hg
  have c0 := pfind_ok w pb k hk
  have c1 := isProv_any w a n s hn
  by_cases hv : pvBad (k : Int) a n s
  · have HE : Hid (pvE p k a n s = 1 ∧ pvP p k a n s = p) := pvE_bad hv
    have HP : Hid (Bpp w base pb p) := ⟨hp, _, _, _, h⟩
    rw [decide_eq_false (fun q => by unfold PvOk at q; unfold pvBad at hv; rcases hv with q2 | q2; exact hg q2; omega)] at c1
    clear h hg hp hb ha hn hv
    go_enter Try.func9, Try.ntmps9
    go_wp2_with fail
    refine c0.mono ?_
    rintro e w' ⟨rfl, hw⟩
    subst w'
    go_wp2_with fail
    refine c1.mono ?_
    rintro e w' ⟨rfl, hw⟩
    subst w'
    go_wp2_with fail
    go_ret
    obtain ⟨e1, e2⟩ := HE.out
    rw [e1, e2]
    exact ⟨rfl, HP.out, Only.refl _ _ _⟩
  obtain ⟨_, qn, qa, qs⟩ := not_pvBad hv
  rw [decide_eq_true (show PvOk a n s from ⟨qn, qa, qs⟩)] at c1
  obtain ⟨N, rfl⟩ : ∃ N : Nat, n = (N : Int) := ⟨n.toNat, by omega⟩
  have l0 := h.cellm hk
  have c2 := hasAny_any w pb (k * 2) (m k) (p k) l0 (h.map k hk).2 a N (by omega) (by omega)
  by_cases h1 : pvSame (p k) a (N : Int)
  · have HE : Hid (pvE p k a N s = 140 ∧ pvP p k a N s = p) := pvE_same hv (by rw [hk2]; exact h1)
    have HP : Hid (Bpp w base pb p) := ⟨hp, _, _, _, h⟩
    rw [decide_eq_true h1] at c2
    clear h hg hp hb ha hn hv qn qa qs h1
    go_enter Try.func9, Try.ntmps9
    go_wp2_with fail
    refine c0.mono ?_
    rintro e w' ⟨rfl, hw⟩
    subst w'
    go_wp2_with fail
    refine c1.mono ?_
    rintro e w' ⟨rfl, hw⟩
    subst w'
    go_wp2_with fail
    refine c2.mono ?_
    rintro e w' ⟨rfl, hw⟩
    subst w'
    go_wp2_with fail
    go_ret
    obtain ⟨e1, e2⟩ := HE.out
    rw [e1, e2]
    exact ⟨rfl, HP.out, Only.refl _ _ _⟩
  rw [decide_eq_false h1] at c2
  have l2 := (h.map k hk).2.len
  rw [ents_len] at l2
  have hlen := (hp k hk).len
  have hsa : 0 ≤ a ∧ a ≤ 65536 := by omega
  have hsn : N ≤ 1024 := by omega
  have hsl : (p k).fr.length + N ≤ 2048 := by omega
  obtain ⟨t, ht⟩ : ∃ t, t = (p k).fr.length + (p k).out.length := ⟨_, rfl⟩
  rw [← ht] at l2 hlen
  have hN4 : t + N ≤ 5000 := by omega
  have hI : (((p k).fr.length : Int) + ((p k).out.length : Int) + (N : Int)) = ((t + N : Nat) : Int) := by omega
  by_cases h2 : 1024 < t + N
  · have HE : Hid (pvE p k a N s = 5 ∧ pvP p k a N s = p) := pvE_full hv (by rw [hk2]; exact h1) (by rw [hk2, hI]; exact Int.ofNat_lt.2 h2)
    have HP : Hid (Bpp w base pb p) := ⟨hp, _, _, _, h⟩
    have d1 : decide ((1024 : Int) < (t : Int) + (N : Int)) = true := decide_eq_true (Int.ofNat_lt.2 h2)
    have w1 := wrap_sum hN4
    clear h hg hp hb ha hn hv qn qa qs h1 ht h2 hlen hN4 hI
    go_enter Try.func9, Try.ntmps9
    go_wp2_with fail
    refine c0.mono ?_
    rintro e w' ⟨rfl, hw⟩
    subst w'
    go_wp2_with fail
    refine c1.mono ?_
    rintro e w' ⟨rfl, hw⟩
    subst w'
    go_wp2_with fail
    refine c2.mono ?_
    rintro e w' ⟨rfl, hw⟩
    subst w'
    go_wp2_with fail
    go_ret
    obtain ⟨e1, e2⟩ := HE.out
    rw [e1, e2]
    exact ⟨rfl, HP.out, Only.refl _ _ _⟩
  have hE := pvE_ok (p := p) hv (by rw [hk2]; exact h1) (by rw [hk2, hI]; exact fun q => h2 (Int.ofNat_lt.1 q))
  have hpv := hp.prov (k : Int) a (N : Int) s
  rw [hE.2, hk2] at hpv
  rw [hk2] at hE
  have HE : Hid ((pvE p k a N s = 0 ∧ pvP p k a N s = upd p k (gpAt (p k) a s N)) ∧ POk (upd p k (gpAt (p k) a s N))) := ⟨hE, hpv⟩
  have HS : Hid (k < 16 ∧ base ≤ w.heap.size ∧ ¬ pvSame (p k) a (N : Int) ∧ (p k).fr.length + N ≤ 2048 ∧ (0 ≤ a ∧ a ≤ 65536) ∧ N ≤ 1024) := ⟨hk, hb, h1, hsl, hsa, hsn⟩
  have H0 : Hid (PvAt w w base pb p k a s 0) := ⟨⟨gs, m, v, by rw [gpAt_zero, pls_self]; exact h⟩, Only.refl _ _ _⟩
  have d1 : decide ((1024 : Int) < (t : Int) + (N : Int)) = false := decide_eq_false fun q => h2 (Int.ofNat_lt.1 q)
  have w1 := wrap_sum hN4
  clear h hg hp hb ha hn hv qn qa qs h1 ht h2 hlen hk hE hpv hN4 hI hsl hsa hsn
  go_enter Try.func9, Try.ntmps9
  go_wp2_with fail
  refine c0.mono ?_
  rintro e w' ⟨rfl, hw⟩
  subst w'
  go_wp2_with fail
  refine c1.mono ?_
  rintro e w' ⟨rfl, hw⟩
  subst w'
  go_wp2_with fail
  refine c2.mono ?_
  rintro e w' ⟨rfl, hw⟩
  subst w'
  go_wp2_with fail
  go_loopg [41] N (fun gk s41 wr => ∃ i : Nat, i ≤ N ∧ gk = N - i ∧ s41 = .int .i64 (i : Int) ∧ Hid (PvAt w wr base pb p k a s i))
  case atStart => exact ⟨0, Nat.zero_le _, rfl, rfl, H0⟩
  case round =>
    obtain ⟨i, hi, rfl, rfl, HR⟩ := hrel
    clear c0 c1 c2 l0 l2 w1 d1 H0
    rcases Nat.lt_or_ge i N with hlt | hge
    · have i0 : (i : Int) < (N : Int) := by omega
      have c3 := add_at_ HR.out HS.out.1 HS.out.2.1 HS.out.2.2.1 hlt HS.out.2.2.2.1
      obtain ⟨y, hy⟩ : ∃ y, y = a + (i : Int) := ⟨_, rfl⟩
      have w2 : wrap64 (a + (i : Int)) = y := by rw [hy]; exact IntWalk.wrap64_in _ (by have := HS.out; omega)
      rw [← hy] at c3
      clear hy HR
      go_wp2_with fail
      refine c3.mono ?_
      rintro e w3 ⟨rfl, h3⟩
      have H3 := Lib.hid h3
      clear c3 h3
      go_wp2_with fail
      go_roundg (N - (i + 1))
      case measure => omega
      case rel => exact ⟨i + 1, by omega, rfl, by rw [IntWalk.wrap64_in _ (by have := HS.out.2.2.2.2.2; omega)]; rfl, H3⟩
    · obtain rfl : i = N := by omega
      go_wp2_with fail
      go_ret
      obtain ⟨⟨e1, e2⟩, e3⟩ := HE.out
      rw [e1, e2]
      exact ⟨rfl, ⟨e3, HR.out.1⟩, HR.out.2⟩
end
end Go.Proofs.Ytkambcjinidomaa
