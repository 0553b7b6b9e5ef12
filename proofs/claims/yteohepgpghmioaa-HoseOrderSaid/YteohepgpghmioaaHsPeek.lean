/- Contract: Peek. -/
import Derived.Test.YteohepgpghmioaaHsWrite
namespace Go.Proofs.Yteohepgpghmioaa
set_option linter.unusedVariables false
set_option linter.unusedSimpArgs false
open Go.ChangeShapes Go.WideShapes Go.ChangeAt Go.RowKit

/-- What is seen from a on, n of it. -/
def pk (r : List UInt8) (a n : Int) : List UInt8 := if a < 0 ∨ n < 1 then [] else (r.drop a.toNat).take n.toNat
/-- A block of bytes as a row of the call's own. -/
theorem Own.of_block {w : World} {base b : Nat} {l : List UInt8} {xs : List Value} (hx : xs = l.map bv) (hb : base ≤ b) (hh : w.heap[b]? = some (.cells xs.toArray 5 (0, 0))) (hl : l.length ≤ 100000000) : Own w base (.slice (some ⟨b, 0, none⟩) l.length l.length) l := by
  subst hx
  exact ⟨by simp, .inr ⟨b, l.length, _, rfl, hb, hh, Nat.le_refl _, by unfold maxLen; omega, by simp, by simp only [Nat.mul_one]; exact List.take_of_length_le (by simp)⟩⟩
section
variable {w w' : World} {base ab g m i o : Nat} {r : List UInt8}
/-- The ring from a place on, read. -/
theorem ring_part {R : List Value} {p : Nat} (hh : w.heap[g]? = some (.cells R.toArray 5 (0, 0))) (hl : R.length = m) (hm : m ≤ 1048576) : Rd w (.slice (some ⟨g, p, none⟩) (m - p) (m - p)) (R.drop p) := by
  refine Rd.mk_ (by rw [List.length_drop, hl]) (Nat.le_refl _) (by unfold maxLen; omega) fun hp => ⟨g, p, rfl, (Array.getElem?_eq_some_iff.1 hh).1, fun j hj => ?_⟩
  rw [List.length_drop] at hj
  rw [cell_of_row w g (p + j) _ _ _ hh]
  simp [List.getElem?_eq_getElem (show p + j < R.length by omega)]
def PeekPost (w : World) (r : List UInt8) (a n : Int) (e : Ending) (w' : World) : Prop := ∃ v, e = .returned v ∧ Own w' w.heap.size v (pk r a n) ∧ Grow w w'
theorem hPeek_none (h : Hs w base ab g m i o r) (a n : Int) (hn : a < 0 ∨ (r.length : Int) ≤ a ∨ n < 1) : Calls Try.prog 14 #[.pointer (some ⟨ab, 0, none⟩), .int .i64 a, .int .i64 n] w (PeekPost w r a n) := by
  have c0 := hLen_any h
  have e1 : pk r a n = [] := by
    unfold pk
    by_cases q : a < 0 ∨ n < 1
    · rw [if_pos q]
    · rw [if_neg q, List.drop_of_length_le (by omega), List.take_nil]
  have H : Hid (∀ w', Grow w w' → PeekPost w r a n (.returned (.slice none 0 0)) w') := fun w' k => ⟨_, rfl, by rw [e1]; exact own_none _ _, k⟩
  clear h e1
  generalize r.length = k at *
  by_cases q1 : a < 0
  · have d1 : decide (a < 0) = true := decide_eq_true q1
    go_enter Try.func14, Try.ntmps14
    go_wp2_with fail
    go_ret
    exact H.out _ (Grow.refl _)
  · have d1 : decide (a < 0) = false := decide_eq_false q1
    by_cases q2 : (k : Int) ≤ a
    · have d2 : decide ((k : Int) ≤ a) = true := decide_eq_true q2
      clear hn q1
      go_enter Try.func14, Try.ntmps14
      go_wp2_with fail
      refine c0.mono ?_
      rintro e w2 ⟨rfl, g2⟩
      have H2 := Lib.hid g2
      clear c0 g2
      go_wp2_with fail
      go_ret
      exact H.out _ H2.out
    · have d2 : decide ((k : Int) ≤ a) = false := decide_eq_false q2
      have d3 : decide (n < 1) = true := decide_eq_true (by omega)
      clear hn q1
      go_enter Try.func14, Try.ntmps14
      go_wp2_with fail
      refine c0.mono ?_
      rintro e w2 ⟨rfl, g2⟩
      have H2 := Lib.hid g2
      clear c0 g2
      go_wp2_with fail
      go_ret
      exact H.out _ H2.out
set_option maxHeartbeats 4000000 in
theorem hPeek_some (h : Hs w base ab g m i o r) (a : Nat) (n : Int) (ha : a < r.length) (hn : 1 ≤ n) : Calls Try.prog 14 #[.pointer (some ⟨ab, 0, none⟩), .int .i64 (a : Int), .int .i64 n] w (PeekPost w r (a : Int) n) := by
  obtain ⟨N, hN⟩ : ∃ N, N = min n.toNat (r.length - a) := ⟨_, rfl⟩
  have e1 : pk r (a : Int) n = (r.drop a).take N := by
    unfold pk
    rw [if_neg (by omega), Int.toNat_natCast, hN]
    rcases Nat.le_total n.toNat (r.length - a) with q | q
    · rw [Nat.min_eq_left q]
    · rw [Nat.min_eq_right q, List.take_of_length_le (by rw [List.length_drop]; omega), List.take_of_length_le (by rw [List.length_drop]; omega)]
  have hm := h.pos
  have hcap := h.cap
  obtain ⟨p, hp⟩ : ∃ p, p = (o + a) % m := ⟨_, rfl⟩
  have hpm : p < m := by rw [hp]; exact Nat.mod_lt _ hm.1
  have HL : Hid (∀ w', Grow w w' → Calls Try.prog 17 #[.pointer (some ⟨ab, 0, none⟩)] w' fun e w2 => e = .returned (.int .i64 (r.length : Int)) ∧ Grow w' w2) := fun w' q => hLen_any (h.grow q)
  have HF : Hid (∀ w', Grow w w' → Calls Try.prog 19 #[.pointer (some ⟨ab, 0, none⟩), .int .i64 ((o + a : Nat) : Int)] w' fun e w2 => e = .returned (.slice (some ⟨g, p, none⟩) (m - p) (m - p)) ∧ Grow w' w2) := fun w' q => by rw [hp]; exact hFrom_any (h.grow q) (o + a)
  have HC : Hid (∀ w', Grow w w' → w'.cell? ⟨ab, 0, none⟩ = some (.slice (some ⟨g, 0, none⟩) m m) ∧ w'.cell? ⟨ab, 1, none⟩ = some (.int .i64 (i : Int)) ∧ w'.cell? ⟨ab, 2, none⟩ = some (.int .i64 (o : Int))) := fun w' q => (h.grow q).cells
  have e2 : IntKind.i64.wrap ((r.length : Int) - (a : Int)) = ((r.length - a : Nat) : Int) := by rw [IntKind.wrap_i64]; omega
  have e3 : IntKind.i64.wrap ((o : Int) + (a : Int)) = ((o + a : Nat) : Int) := by rw [IntKind.wrap_i64]; have := h.big; have := h.len; omega
  have hmk := run_mku N (by omega)
  have c0 := HL.out w (Grow.refl w)
  have HH := Lib.hid (And.intro h (And.intro e1 (And.intro hp (show a + N ≤ r.length by omega))))
  have hNm : N ≤ m := by omega
  have d1 : decide ((a : Int) < 0) = false := decide_eq_false (by omega)
  have d2 : decide ((r.length : Int) ≤ (a : Int)) = false := decide_eq_false (by omega)
  have d2' : decide (r.length ≤ a) = false := decide_eq_false (by omega)
  have d3 : decide (n < 1) = false := decide_eq_false (by omega)
  have hmin : (if ((r.length - a : Nat) : Int) < n then ((r.length - a : Nat) : Int) else n) = (N : Int) := by split <;> omega
  obtain ⟨d, hd⟩ : ∃ d, d = r.length - a := ⟨_, rfl⟩
  rw [← hd] at e2 hmin
  obtain ⟨K, hK⟩ : ∃ K, K = r.length := ⟨_, rfl⟩
  rw [← hK] at HL c0 d2 d2' e2
  clear h e1 hp hcap hN ha hn hd hK
  go_enter Try.func14, Try.ntmps14
  go_wp2_with fail
  refine c0.mono ?_
  rintro e w1 ⟨rfl, g1⟩
  have G1 := Lib.hid g1
  have c1 := HL.out _ g1
  clear c0 g1
  go_wp2_with fail
  refine c1.mono ?_
  rintro e w2 ⟨rfl, g2⟩
  have G2 := Lib.hid (G1.out.trans g2)
  clear c1 g2
  obtain ⟨W, hW⟩ : ∃ W, W = w2.alloc (.cells (zer N).toArray 5) := ⟨_, rfl⟩
  have GW := Lib.hid (show Grow w W from G2.out.trans (by rw [hW]; exact Grow.alloc _ _))
  have HZ := Lib.hid (show W.heap[w2.heap.size]? = some (.cells (zer N).toArray 5 (0, 0)) by rw [hW]; exact heap_alloc_new w2 _)
  go_upto_region 4 with fail
  rw [← hW]
  have HW := Lib.hid hW
  obtain ⟨x0, x1, x2⟩ := HC.out _ GW.out
  have c2 := HF.out _ GW.out
  clear hW x0 x1
  go_wp2_with fail
  refine c2.mono ?_
  rintro e w3 ⟨rfl, g3⟩
  obtain ⟨R, r1, r2, r3⟩ := (HH.out.1.grow (GW.out.trans g3)).rng
  have hB : w2.heap.size < W.heap.size := (Array.getElem?_eq_some_iff.1 HZ.out).1
  have hz3 : w3.heap[w2.heap.size]? = some (.cells (zer N).toArray 5 (0, 0)) := (g3.block _ hB).trans HZ.out
  have G3 := Lib.hid (GW.out.trans g3)
  have hB3 := Nat.lt_of_lt_of_le hB g3.size
  obtain ⟨B, hBB⟩ : ∃ B, B = w2.heap.size := ⟨_, rfl⟩
  rw [← hBB] at hz3 hB3 ⊢
  have hwB : w.heap.size ≤ B := by rw [hBB]; exact G2.out.size
  obtain ⟨nh, hnh⟩ : ∃ nh, nh = min (m - p) N := ⟨_, rfl⟩
  have HR := Lib.hid (And.intro r2 (And.intro r3 hnh))
  have HBB := Lib.hid hBB
  have HQ := Lib.hid (And.intro hz3 (And.intro (ring_part (p := p) r1 r2 hm.2) (And.intro (show nh = min (R.drop p).length N by rw [List.length_drop, r2]; exact hnh) (And.intro (show 0 + nh ≤ (zer N).length by rw [zer_len]; omega) (fun (y : Value) (hy : y ∈ R.drop p) => r3.1 y (List.mem_of_mem_drop hy))))))
  have HR1 := Lib.hid (And.intro r1 (And.intro hwB hB3))
  clear c2 g3 hB hBB hnh r1 r2 r3 hz3 hwB hB3
  go_wp2_with (first | (show wpList _ _ _ (⟨some 37, _, _, _, _, _⟩ :: _) _ _; refine wpList_copyRd _ rfl (.tmp 28) (.tmp 36) rfl B 0 N N (zer N) (.slice (some ⟨g, p, none⟩) (m - p) (m - p)) (R.drop p) nh rfl rfl HQ.out.1 HQ.out.2.1 HQ.out.2.2.1 HQ.out.2.2.2.1 HQ.out.2.2.2.2 ?_; intro w4 hc4 hg4; have H4 := Lib.hid (And.intro hc4 hg4); clear hc4 hg4))
  obtain ⟨r1, hwB, hB3⟩ := HR1.out
  have hgB : g < B := Nat.lt_of_lt_of_le HH.out.1.lt.2.1 hwB
  have haB : ab < B := Nat.lt_of_lt_of_le HH.out.1.lt.1 hwB
  have HC2 : Hid (∀ w', Grow w4 w' → w'.cell? ⟨ab, 0, none⟩ = some (.slice (some ⟨g, 0, none⟩) m m)) := fun w' q => by
    have e2 := ((HH.out.1.grow G3.out).grown H4.out.2 (fun e => by injection e; omega) (fun e => by injection e; omega)).grow q
    exact e2.cells.1
  have HE : Hid (∀ w', Grow w4 w' → w'.heap[g]? = some (.cells R.toArray 5 (0, 0)) ∧ w'.heap[B]? = some (.cells (over (zer N) 0 ((R.drop p).take nh)).toArray 5 (0, 0)) ∧ Grow w w' ∧ B < w'.heap.size) := fun w' q =>
    ⟨(q.block g (by have := H4.out.2.size; omega)).trans ((H4.out.2.block g (by omega) (fun e => by injection e; omega)).trans r1), (q.block B (by have := H4.out.2.size; omega)).trans H4.out.1,
      Grow.trans ⟨H4.out.2.os.trans G3.out.os, H4.out.2.tape.trans G3.out.tape, H4.out.2.output.trans G3.out.output, Nat.le_trans G3.out.size H4.out.2.size, fun j hj => (H4.out.2.block j (by have := G3.out.size; omega) (fun e => by injection e; omega)).trans (G3.out.block j hj)⟩ q, by have := H4.out.2.size; have := q.size; omega⟩
  have HM := Lib.hid (And.intro hwB (And.intro hgB haB))
  clear r1 hB3 hwB hgB haB
  by_cases hc : N = nh
  · subst hc
    go_upto_region 5 with fail
    refine wp_region_phase (A := ?frame5) (inList (isV (.slice (some ⟨B, 0, none⟩) N N) :: isV (.int .i64 (N : Int)) :: isV (.slice (some ⟨B, 0, none⟩) 0 0) :: isV (.pointer (some ⟨ab, 0, none⟩)) :: isV (.pointer (some ⟨ab, 0, none⟩)) :: isV (.pointer (some ⟨ab, 0, none⟩)) :: isV (.slice (some ⟨g, 0, none⟩) m m) :: [])) 7 (by kernel_rfl) (by kernel_rfl) (by kernel_rfl) (inList_stays ?_) (fun x => ?frameEq5) ?_ ?_
    case frameEq5 => go_simp; rfl
    · intro f hf
      simp only [List.mem_cons, List.not_mem_nil, or_false] at hf
      rcases hf with rfl | rfl | rfl | rfl | rfl | rfl | rfl <;> first | exact isV_stays _ | exact isB_stays _ | exact isBs_stays _
    · refine ⟨fun x w1 hg hd post hp => ?_, fun x w1 hg hd post hp => ?_, fun x w1 hg hd post hp => ?_, fun x w1 hg hd post hp => ?_, fun x w1 hg hd post hp => ?_, fun x w1 hg hd post hp => ?_, fun x w1 hg hd post hp => ?_, trivial⟩
      · -- 0: slot 38: Op.move t7
        clear hd
        go_simp
        exact hp _ _ (Grow.refl _) rfl
      · -- 1: slot 39: Op.move t8
        clear hd
        go_simp
        exact hp _ _ (Grow.refl _) rfl
      · -- 2: slot 40: Op.slice 30 t38 (some t39) none none
        have h38 : x 38 = .slice (some ⟨B, 0, none⟩) N N := hd 0 (by decide) _ rfl
        have h39 : x 39 = .int .i64 (N : Int) := hd 1 (by decide) _ rfl
        clear hd
        go_simp
        exact hp _ _ (Grow.refl _) rfl
      · -- 3: slot 41: Op.move t0
        clear hd
        go_simp
        exact hp _ _ (Grow.refl _) rfl
      · -- 4: slot 42: Op.nilCheck t41
        have h41 : x 41 = .pointer (some ⟨ab, 0, none⟩) := hd 3 (by decide) _ rfl
        clear hd
        go_simp
        exact hp _ _ (Grow.refl _) rfl
      · -- 5: slot 43: Op.fieldAddr 47 t42 0
        have h42 : x 42 = .pointer (some ⟨ab, 0, none⟩) := hd 4 (by decide) _ rfl
        clear hd
        go_simp
        exact hp _ _ (Grow.refl _) rfl
      · -- 6: slot 44: Op.load 30 t43
        have h43 : x 43 = .pointer (some ⟨ab, 0, none⟩) := hd 5 (by decide) _ rfl
        clear hd
        have c0 := HC2.out _ hg
        go_simp
        exact hp _ _ (Grow.refl _) rfl
    · intro x w1 hg hd
      have h40 : x 40 = .slice (some ⟨B, 0, none⟩) 0 0 := hd 2 _ (by decide) rfl
      have h44 : x 44 = .slice (some ⟨g, 0, none⟩) m m := hd 6 _ (by decide) rfl
      clear hd
      obtain ⟨h1, h2, h3, h4⟩ := HE.out _ hg
      simp only [List.drop_succ_cons, List.drop_zero]
      refine wpList_copyRd _ rfl (.tmp 40) (.tmp 44) rfl B 0 0 0 _ (.slice (some ⟨g, 0, none⟩) m m) R 0 h40 h44 h2 (by have := ring_part (p := 0) h1 HR.out.1 hm.2; simpa using this) (by omega) (by omega) HR.out.2.1.1 ?_
      intro w5 hc5 hg5
      have hfin : Own w5 w.heap.size (.slice (some ⟨B, 0, none⟩) N N) ((r.drop a).take N) := by
        have hl : ((r.drop a).take N).length = N := by rw [List.length_take, List.length_drop]; have := HH.out.2.2.2; omega
        have hrr := ring_read (R := R) (o := o) (p := p) (h := N) (at_ := a) (n := N) HR.out.2.1 (by rw [HR.out.1]; exact hm.1) (by rw [HR.out.1]; exact HH.out.1.cap) (by have := HH.out.2.2.2; omega) (by rw [HR.out.1]; exact HH.out.2.2.1) (by rw [HR.out.1]; exact HR.out.2.2)
        have l1 : ((R.drop p).take N).length = N := by rw [List.length_take, List.length_drop, HR.out.1]; have := HR.out.2.2; omega
        rw [List.take_zero, over_nil, over_all (zer_len _) l1] at hc5
        rw [Nat.sub_self, List.take_zero, List.append_nil] at hrr
        have := Own.of_block (l := (r.drop a).take N) (base := w.heap.size) hrr HM.out.1 hc5 (by rw [hl]; omega)
        rwa [hl] at this
      have hgf : Grow w w5 := ⟨hg5.os.trans h3.os, hg5.tape.trans h3.tape, hg5.output.trans h3.output, Nat.le_trans h3.size hg5.size, fun j hj => (hg5.block j (by have := h3.size; omega) (fun e => by injection e; have := HM.out.1; omega)).trans (h3.block j hj)⟩
      have HFn := Lib.hid (And.intro hfin hgf)
      clear h40 h44 h1 h2 h3 h4 hg hc5 hg5 hfin hgf
      go_wp2_with fail
      go_ret
      exact ⟨_, rfl, by rw [HH.out.2.1]; exact HFn.out.1, HFn.out.2⟩
  · have i1 : nh ≤ N := by have := HR.out.2.2; omega
    have i2 : (nh : Int) ≤ (N : Int) := by omega
    have i3 : ¬ (nh = N) := fun e => hc e.symm
    go_upto_region 5 with fail
    refine wp_region_phase (A := ?frame5b) (inList (isV (.slice (some ⟨B, 0, none⟩) N N) :: isV (.int .i64 (nh : Int)) :: isV (.slice (some ⟨B, nh, none⟩) (N - nh) (N - nh)) :: isV (.pointer (some ⟨ab, 0, none⟩)) :: isV (.pointer (some ⟨ab, 0, none⟩)) :: isV (.pointer (some ⟨ab, 0, none⟩)) :: isV (.slice (some ⟨g, 0, none⟩) m m) :: [])) 7 (by kernel_rfl) (by kernel_rfl) (by kernel_rfl) (inList_stays ?_) (fun x => ?frameEq5b) ?_ ?_
    case frameEq5b => go_simp; rfl
    · intro f hf
      simp only [List.mem_cons, List.not_mem_nil, or_false] at hf
      rcases hf with rfl | rfl | rfl | rfl | rfl | rfl | rfl <;> first | exact isV_stays _ | exact isB_stays _ | exact isBs_stays _
    · refine ⟨fun x w1 hg hd post hp => ?_, fun x w1 hg hd post hp => ?_, fun x w1 hg hd post hp => ?_, fun x w1 hg hd post hp => ?_, fun x w1 hg hd post hp => ?_, fun x w1 hg hd post hp => ?_, fun x w1 hg hd post hp => ?_, trivial⟩
      · -- 0: slot 38: Op.move t7
        clear hd
        go_simp
        exact hp _ _ (Grow.refl _) rfl
      · -- 1: slot 39: Op.move t8
        clear hd
        go_simp
        exact hp _ _ (Grow.refl _) rfl
      · -- 2: slot 40: Op.slice 30 t38 (some t39) none none
        have h38 : x 38 = .slice (some ⟨B, 0, none⟩) N N := hd 0 (by decide) _ rfl
        have h39 : x 39 = .int .i64 (nh : Int) := hd 1 (by decide) _ rfl
        clear hd
        go_simp
        exact hp _ _ (Grow.refl _) rfl
      · -- 3: slot 41: Op.move t0
        clear hd
        go_simp
        exact hp _ _ (Grow.refl _) rfl
      · -- 4: slot 42: Op.nilCheck t41
        have h41 : x 41 = .pointer (some ⟨ab, 0, none⟩) := hd 3 (by decide) _ rfl
        clear hd
        go_simp
        exact hp _ _ (Grow.refl _) rfl
      · -- 5: slot 43: Op.fieldAddr 47 t42 0
        have h42 : x 42 = .pointer (some ⟨ab, 0, none⟩) := hd 4 (by decide) _ rfl
        clear hd
        go_simp
        exact hp _ _ (Grow.refl _) rfl
      · -- 6: slot 44: Op.load 30 t43
        have h43 : x 43 = .pointer (some ⟨ab, 0, none⟩) := hd 5 (by decide) _ rfl
        clear hd
        have c0 := HC2.out _ hg
        go_simp
        exact hp _ _ (Grow.refl _) rfl
    · intro x w1 hg hd
      have h40 : x 40 = .slice (some ⟨B, nh, none⟩) (N - nh) (N - nh) := hd 2 _ (by decide) rfl
      have h44 : x 44 = .slice (some ⟨g, 0, none⟩) m m := hd 6 _ (by decide) rfl
      clear hd
      obtain ⟨h1, h2, h3, h4⟩ := HE.out _ hg
      simp only [List.drop_succ_cons, List.drop_zero]
      refine wpList_copyRd _ rfl (.tmp 40) (.tmp 44) rfl B nh (N - nh) (N - nh) _ (.slice (some ⟨g, 0, none⟩) m m) R (N - nh) h40 h44 h2 (by have := ring_part (p := 0) h1 HR.out.1 hm.2; simpa using this) (by rw [HR.out.1]; omega) (by rw [over_len (by rw [List.length_take, List.length_drop, HR.out.1, zer_len]; omega), zer_len]; omega) HR.out.2.1.1 ?_
      intro w5 hc5 hg5
      have hfin : Own w5 w.heap.size (.slice (some ⟨B, 0, none⟩) N N) ((r.drop a).take N) := by
        have hl : ((r.drop a).take N).length = N := by rw [List.length_take, List.length_drop]; have := HH.out.2.2.2; omega
        have hrr := ring_read (R := R) (o := o) (p := p) (h := nh) (at_ := a) (n := N) HR.out.2.1 (by rw [HR.out.1]; exact hm.1) (by rw [HR.out.1]; exact HH.out.1.cap) (by have := HH.out.2.2.2; omega) (by rw [HR.out.1]; exact HH.out.2.2.1) (by rw [HR.out.1]; exact HR.out.2.2)
        have l1 : ((R.drop p).take nh).length = nh := by rw [List.length_take, List.length_drop, HR.out.1]; have := HR.out.2.2; omega
        rw [over_two (zer_len N) l1 (by rw [List.length_take, HR.out.1]; omega) i1] at hc5
        have := Own.of_block (l := (r.drop a).take N) (base := w.heap.size) hrr HM.out.1 hc5 (by rw [hl]; omega)
        rwa [hl] at this
      have hgf : Grow w w5 := ⟨hg5.os.trans h3.os, hg5.tape.trans h3.tape, hg5.output.trans h3.output, Nat.le_trans h3.size hg5.size, fun j hj => (hg5.block j (by have := h3.size; omega) (fun e => by injection e; have := HM.out.1; omega)).trans (h3.block j hj)⟩
      have HFn := Lib.hid (And.intro hfin hgf)
      clear h40 h44 h1 h2 h3 h4 hg hc5 hg5 hfin hgf
      go_wp2_with fail
      go_ret
      exact ⟨_, rfl, by rw [HH.out.2.1]; exact HFn.out.1, HFn.out.2⟩
theorem hPeek_any (h : Hs w base ab g m i o r) (a n : Int) : Calls Try.prog 14 #[.pointer (some ⟨ab, 0, none⟩), .int .i64 a, .int .i64 n] w (PeekPost w r a n) := by
  by_cases q : a < 0 ∨ (r.length : Int) ≤ a ∨ n < 1
  · exact hPeek_none h a n q
  · obtain ⟨k, rfl⟩ : ∃ k : Nat, a = (k : Int) := ⟨a.toNat, by omega⟩
    exact hPeek_some h k n (by omega) (by omega)
end
end Go.Proofs.Yteohepgpghmioaa
