/- Contract: Write. -/
import Derived.Test.YteohepgpghmioaaHsDrop
import Derived.Test.YteohepgpghmioaaPhase
import Derived.Deep.DeepCutAuto
namespace Go.Proofs.Yteohepgpghmioaa
set_option linter.unusedVariables false
set_option linter.unusedSimpArgs false
open Go.ChangeShapes Go.WideShapes Go.ChangeAt Go.RowKit

theorem Rd0 (w : World) (A : Option Addr) : Rd w (.slice A 0 0) [] := ⟨A, 0, rfl, Nat.le_refl _, Nat.zero_le _, fun h => absurd h (by simp)⟩
section
variable {w w' : World} {base ab g m i o : Nat} {r : List UInt8}
def WritePost (w : World) (base ab g m i o : Nat) (r l : List UInt8) (n : Nat) (e : Ending) (w' : World) : Prop := e = .returned (.int .i64 (n : Int)) ∧ Hs w' base ab g m (i + n) o (r ++ l.take n) ∧ Chg ab g w w'
theorem hWrite_none (h : Hs w base ab g m i o r) (v : Value) (l : List UInt8) (hv : Byt w v l) (hn : min l.length (m - r.length) = 0) : Calls Try.prog 11 #[.pointer (some ⟨ab, 0, none⟩), v] w (WritePost w base ab g m i o r l 0) := by
  have c0 := hRoom_any h
  obtain ⟨A, c, rfl, h1, h2⟩ := hv.form
  have H : Hid (∀ w', Grow w w' → Hs w' base ab g m (i + 0) o (r ++ l.take 0) ∧ Chg ab g w w') := fun w' k => ⟨by simpa using h.grow k, Chg.of_grow k⟩
  clear h hv
  generalize m - r.length = z at *
  unfold maxLen at h2
  generalize l.length = n at *
  by_cases q : (z : Int) < (n : Int)
  · obtain rfl : z = 0 := by omega
    go_enter Try.func11, Try.ntmps11
    go_wp2_with fail
    refine c0.mono ?_
    rintro e w2 ⟨rfl, g2⟩
    have H2 := Lib.hid g2
    clear c0 g2
    go_wp2_with fail
    go_ret
    exact ⟨rfl, H.out _ H2.out⟩
  · obtain rfl : n = 0 := by omega
    go_enter Try.func11, Try.ntmps11
    go_wp2_with fail
    refine c0.mono ?_
    rintro e w2 ⟨rfl, g2⟩
    have H2 := Lib.hid g2
    clear c0 g2
    go_wp2_with fail
    go_ret
    exact ⟨rfl, H.out _ H2.out⟩
/-- Written round the end, and the number of those written set. -/
theorem Hs.wrote {R : List Value} {bs : List UInt8} {n k nh : Nat} {w3 : World} (h : Hs w base ab g m i o r) (r2 : R.length = m) (r3 : Ring R o r) (hb : bs.length = n) (hn : n + r.length ≤ m) (hi : i + n ≤ 1000000000000) (hk : k = i % m) (hhd : nh = min n (m - k))
    (h1 : w3.heap[ab]? = some (.cells #[.slice (some ⟨g, 0, none⟩) m m, .int .i64 (i : Int), .int .i64 (o : Int)] 47 (0, 0)))
    (h2 : w3.heap[g]? = some (.cells (over (over R k ((bs.map bv).take nh)) 0 (((bs.drop nh).map bv).take (n - nh))).toArray 5 (0, 0))) (hc : Chg ab g w w3) :
    Hs (w3.setCell ⟨ab, 1, none⟩ (.int .i64 ((i + n : Nat) : Int))) base ab g m (i + n) o (r ++ bs) ∧ Chg ab g w (w3.setCell ⟨ab, 1, none⟩ (.int .i64 ((i + n : Nat) : Int))) := by
  have hl := h.len
  subst r2
  subst hb
  have et : ((bs.drop nh).map bv).take (bs.length - nh) = (bs.drop nh).map bv := List.take_of_length_le (by rw [List.length_map, List.length_drop]; omega)
  rw [et, ← List.map_take] at h2
  obtain ⟨q1, q2⟩ := ring_write (R := R) (o := o) (k := k) (h := nh) (bs := bs) r3 h.pos.1 (by omega) (by rw [hk, hl]) (by omega)
  have hs : (w3.setCell ⟨ab, 1, none⟩ (.int .i64 ((i + bs.length : Nat) : Int))).heap.size = w3.heap.size := by simp [World.setCell]
  have hother : ∀ j, j ≠ ab → (w3.setCell ⟨ab, 1, none⟩ (.int .i64 ((i + bs.length : Nat) : Int))).heap[j]? = w3.heap[j]? := fun j hj => Below.heap_setCell _ _ _ _ hj
  refine ⟨⟨(heap_setCell_own h1 _).trans (by rfl), ⟨_, (hother g (fun e => h.lt.2.2 e.symm)).trans h2, q2, q1⟩, ?_, ?_, hi, h.pos, h.low⟩, hc.trans ⟨rfl, rfl, rfl, Nat.le_of_eq hs.symm, fun j _ h1 _ => hother j h1⟩⟩
  · rw [List.length_append]; omega
  · rw [List.length_append]; omega
set_option maxHeartbeats 4000000 in
theorem hWrite_some (h : Hs w base ab g m i o r) (v : Value) (l : List UInt8) (hv : Byt w v l) (hvg : v.ownBlock ≠ some g) (hi : i ≤ 999990000000) (n : Nat) (hn : min l.length (m - r.length) = n) (hp : 0 < n) : Calls Try.prog 11 #[.pointer (some ⟨ab, 0, none⟩), v] w (WritePost w base ab g m i o r l n) := by
  have c0 := hRoom_any h
  obtain ⟨A, c, rfl, h1, h2⟩ := hv.form
  have hm := h.pos
  have hcap := h.cap
  obtain ⟨k, hk⟩ : ∃ k, k = i % m := ⟨_, rfl⟩
  have hkm : k < m := by rw [hk]; exact Nat.mod_lt _ hm.1
  have hnl : n ≤ l.length := by omega
  have hnm : n + r.length ≤ m := by omega
  have HC : Hid (∀ w', Grow w w' → w'.cell? ⟨ab, 0, none⟩ = some (.slice (some ⟨g, 0, none⟩) m m) ∧ w'.cell? ⟨ab, 1, none⟩ = some (.int .i64 (i : Int)) ∧ w'.cell? ⟨ab, 2, none⟩ = some (.int .i64 (o : Int))) := fun w' q => (h.grow q).cells
  have HF : Hid (∀ w', Grow w w' → Calls Try.prog 19 #[.pointer (some ⟨ab, 0, none⟩), .int .i64 (i : Int)] w' fun e w2 => e = .returned (.slice (some ⟨g, k, none⟩) (m - k) (m - k)) ∧ Grow w' w2) := fun w' q => by rw [hk]; exact hFrom_any (h.grow q) i
  obtain ⟨L, hL⟩ : ∃ L, L = l.length := ⟨_, rfl⟩
  rw [← hL] at hv hvg h1 hn hnl ⊢
  have HV := Lib.hid (And.intro h (And.intro hv (And.intro hvg (And.intro hL hk))))
  unfold maxLen at h2
  have HN := Lib.hid (show ((n : Int) ≤ (c : Int)) ∧ n + r.length ≤ m ∧ n ≤ L ∧ i + n ≤ 1000000000000 from ⟨by omega, hnm, hnl, by omega⟩)
  have q0 : ((n : Int) == 0) = false := by rw [beq_eq_false_iff_ne]; omega
  have q1 : ¬ ((n : Int) = 0) := by omega
  have q2 : ¬ (n = 0) := by omega
  obtain ⟨z, hz⟩ : ∃ z, z = m - r.length := ⟨_, rfl⟩
  rw [← hz] at c0 hn
  have hmin : (if z < L then (z : Int) else (L : Int)) = (n : Int) := by split <;> omega
  clear h hv hvg hL hk hi hnl hnm hcap hn hz hp
  go_enter Try.func11, Try.ntmps11
  go_wp2_with fail
  refine c0.mono ?_
  rintro e W ⟨rfl, gW⟩
  have GW := Lib.hid gW
  clear c0 gW
  go_upto_region 4 with fail
  refine wp_region_phase (A := ?frame4) (inList (isV (.pointer (some ⟨ab, 0, none⟩)) :: isV (.pointer (some ⟨ab, 0, none⟩)) :: isV (.pointer (some ⟨ab, 0, none⟩)) :: isV (.pointer (some ⟨ab, 1, none⟩)) :: isV (.int .i64 (i : Int)) :: isV (.slice (some ⟨g, k, none⟩) (m - k) (m - k)) :: isV (.slice A L c) :: isV (.int .i64 (n : Int)) :: isV (.slice A n c) :: [])) 9 (by kernel_rfl) (by kernel_rfl) (by kernel_rfl) (inList_stays ?_) (fun x => ?frameEq4) ?_ ?_
  case frameEq4 => go_simp; rfl
  · intro f hf
    simp only [List.mem_cons, List.not_mem_nil, or_false] at hf
    rcases hf with rfl | rfl | rfl | rfl | rfl | rfl | rfl | rfl | rfl <;> first | exact isV_stays _ | exact isB_stays _ | exact isBs_stays _
  · refine ⟨fun x w1 hg hd post hp => ?_, fun x w1 hg hd post hp => ?_, fun x w1 hg hd post hp => ?_, fun x w1 hg hd post hp => ?_, fun x w1 hg hd post hp => ?_, fun x w1 hg hd post hp => ?_, fun x w1 hg hd post hp => ?_, fun x w1 hg hd post hp => ?_, fun x w1 hg hd post hp => ?_, trivial⟩
    · -- 0: slot 14: Op.move t0
      clear hd
      go_simp
      exact hp _ _ (Grow.refl _) rfl
    · -- 1: slot 15: Op.move t0
      clear hd
      go_simp
      exact hp _ _ (Grow.refl _) rfl
    · -- 2: slot 16: Op.nilCheck t15
      have h15 : x 15 = .pointer (some ⟨ab, 0, none⟩) := hd 1 (by decide) _ rfl
      clear hd
      go_simp
      exact hp _ _ (Grow.refl _) rfl
    · -- 3: slot 17: Op.fieldAddr 47 t16 1
      have h16 : x 16 = .pointer (some ⟨ab, 0, none⟩) := hd 2 (by decide) _ rfl
      clear hd
      go_simp
      exact hp _ _ (Grow.refl _) rfl
    · -- 4: slot 18: Op.load 3 t17
      have h17 : x 17 = .pointer (some ⟨ab, 1, none⟩) := hd 3 (by decide) _ rfl
      clear hd
      obtain ⟨c0, c1, c2⟩ := HC.out _ (GW.out.trans hg)
      go_simp
      exact hp _ _ (Grow.refl _) rfl
    · -- 5: slot 19: Op.call { value (Operand.func 19), args := #[t14, t18], argTypes := #[25, 3] }
      have h14 : x 14 = .pointer (some ⟨ab, 0, none⟩) := hd 0 (by decide) _ rfl
      have h18 : x 18 = .int .i64 (i : Int) := hd 4 (by decide) _ rfl
      clear hd
      go_simp
      refine (HF.out _ (GW.out.trans hg)).mono ?_
      rintro e w2 ⟨rfl, g2⟩
      exact ⟨_, rfl, hp _ _ g2 rfl⟩
    · -- 6: slot 20: Op.move t1
      clear hd
      go_simp
      exact hp _ _ (Grow.refl _) rfl
    · -- 7: slot 21: Op.move t5
      clear hd
      go_simp
      exact hp _ _ (Grow.refl _) rfl
    · -- 8: slot 22: Op.slice 30 t20 none (some t21) none
      have h20 : x 20 = .slice A L c := hd 6 (by decide) _ rfl
      have h21 : x 21 = .int .i64 (n : Int) := hd 7 (by decide) _ rfl
      clear hd
      have hnc := HN.out.1
      go_simp
      exact hp _ _ (Grow.refl _) rfl
  · intro x w1 hg hd
    have h19 : x 19 = .slice (some ⟨g, k, none⟩) (m - k) (m - k) := hd 5 _ (by decide) rfl
    have h22 : x 22 = .slice A n c := hd 8 _ (by decide) rfl
    clear hd
    obtain ⟨hh, hv, hvg, hL, hk⟩ := HV.out
    have g1 : Grow w w1 := GW.out.trans hg
    have h1s := hh.grow g1
    obtain ⟨R, r1, r2, r3⟩ := h1s.rng
    have HR := Lib.hid (And.intro r1 (And.intro r2 (And.intro r3 (And.intro h1s g1))))
    simp only [List.drop_succ_cons, List.drop_zero]
    refine wpList_copyRd _ rfl (.tmp 19) (.tmp 22) rfl g k (m - k) (m - k) R (.slice A n c) ((l.take n).map bv) (min n (m - k)) h19 h22 r1 ((hv.front (by have := HN.out.2.2.1; omega)).grow g1) (by rw [List.length_map, List.length_take]; have := HN.out.2.2.1; omega) (by rw [r2]; omega) (bv_one _) ?_
    intro w2 hc2 hg2
    obtain ⟨nh, hhd⟩ : ∃ nh, nh = min n (m - k) := ⟨_, rfl⟩
    rw [← hhd] at hc2 ⊢
    have hdn : nh ≤ n := by omega
    have H2 : Hid (w2.heap[g]? = some (.cells (over R k ((l.take n).map bv |>.take nh)).toArray 5 (0, 0)) ∧ w1.grownBy w2 (some g) ∧ nh = min n (m - k)) := ⟨hc2, hg2, hhd⟩
    have HC2 : Hid (∀ w', Grow w2 w' → w'.cell? ⟨ab, 0, none⟩ = some (.slice (some ⟨g, 0, none⟩) m m)) := fun w' q => by
      have e1 := hg2.block ab h1s.lt.1 (fun e => h1s.lt.2.2 (by injection e))
      have e2 := (q.block ab (Nat.lt_of_lt_of_le h1s.lt.1 hg2.size)).trans (e1.trans h1s.blk)
      exact (cell_of_row w' ab 0 _ _ _ e2).trans rfl
    have hb1 := h1s.lt
    have HB : Hid (∀ w', Grow w2 w' → w'.heap[ab]? = some (.cells #[.slice (some ⟨g, 0, none⟩) m m, .int .i64 (i : Int), .int .i64 (o : Int)] 47 (0, 0)) ∧ w'.heap[g]? = some (.cells (over R k ((l.take n).map bv |>.take nh)).toArray 5 (0, 0)) ∧ Byt w' (.slice A L c) l ∧ Chg ab g w w' ∧ ab < w'.heap.size) := fun w' q =>
      ⟨(q.block ab (Nat.lt_of_lt_of_le hb1.1 hg2.size)).trans ((hg2.block ab hb1.1 (fun e => hb1.2.2 (by injection e))).trans h1s.blk), (q.block g (Nat.lt_of_lt_of_le hb1.2.1 hg2.size)).trans hc2,
        ((hv.grow g1).other hg2.size (fun b hb hlt => hg2.block b hlt (fun e => hvg (hb.trans e)))).grow q, (Chg.of_grow g1).trans (Chg.trans ⟨hg2.os, hg2.tape, hg2.output, hg2.size, fun j hj _ hj2 => hg2.block j hj (fun e => hj2 (by injection e))⟩ (Chg.of_grow q)), Nat.lt_of_lt_of_le hb1.1 (Nat.le_trans hg2.size q.size)⟩
    have hdm : nh ≤ m := by omega
    have HH := Lib.hid (And.intro hh (And.intro hL (And.intro hk (And.intro r2 (And.intro r3 hhd)))))
    obtain ⟨b, off, hA, _⟩ := hv.at_ (by have := HN.out.2.2.1; omega)
    subst hA
    have e2 : IntKind.i64.wrap ((i : Int) + (n : Int)) = ((i + n : Nat) : Int) := by rw [IntKind.wrap_i64]; have := HN.out.2.2.2; omega
    have E2 := Lib.hid e2
    clear h19 h22 hh hv hvg hL hk h1s r1 r2 r3 hg g1 hc2 hg2 hhd hb1 H2 HR HC HF HV e2
    by_cases hch : c = nh
    · obtain rfl : n = nh := by have := HN.out.1; omega
      have i1 : (c : Int) ≤ (c : Int) := Int.le_refl _
      subst hch
      go_upto_region 5 with fail
      refine wp_region_phase (A := ?frame5) (inList (isV (.pointer (some ⟨ab, 0, none⟩)) :: isV (.pointer (some ⟨ab, 0, none⟩)) :: isV (.pointer (some ⟨ab, 0, none⟩)) :: isV (.slice (some ⟨g, 0, none⟩) m m) :: isV (.slice (some ⟨b, off, none⟩) L c) :: isV (.int .i64 (c : Int)) :: isV (.int .i64 (c : Int)) :: isV (.slice (some ⟨b, off, none⟩) 0 0) :: [])) 8 (by kernel_rfl) (by kernel_rfl) (by kernel_rfl) (inList_stays ?_) (fun x => ?frameEq5) ?_ ?_
      case frameEq5 => go_simp; rfl
      · intro f hf
        simp only [List.mem_cons, List.not_mem_nil, or_false] at hf
        rcases hf with rfl | rfl | rfl | rfl | rfl | rfl | rfl | rfl <;> first | exact isV_stays _ | exact isB_stays _ | exact isBs_stays _
      · refine ⟨fun x w1 hg hd post hp => ?_, fun x w1 hg hd post hp => ?_, fun x w1 hg hd post hp => ?_, fun x w1 hg hd post hp => ?_, fun x w1 hg hd post hp => ?_, fun x w1 hg hd post hp => ?_, fun x w1 hg hd post hp => ?_, fun x w1 hg hd post hp => ?_, trivial⟩
        · -- 0: slot 24: Op.move t0
          clear hd
          go_simp
          exact hp _ _ (Grow.refl _) rfl
        · -- 1: slot 25: Op.nilCheck t24
          have h24 : x 24 = .pointer (some ⟨ab, 0, none⟩) := hd 0 (by decide) _ rfl
          clear hd
          go_simp
          exact hp _ _ (Grow.refl _) rfl
        · -- 2: slot 26: Op.fieldAddr 47 t25 0
          have h25 : x 25 = .pointer (some ⟨ab, 0, none⟩) := hd 1 (by decide) _ rfl
          clear hd
          go_simp
          exact hp _ _ (Grow.refl _) rfl
        · -- 3: slot 27: Op.load 30 t26
          have h26 : x 26 = .pointer (some ⟨ab, 0, none⟩) := hd 2 (by decide) _ rfl
          clear hd
          have c0 := HC2.out _ hg
          go_simp
          exact hp _ _ (Grow.refl _) rfl
        · -- 4: slot 28: Op.move t1
          clear hd
          go_simp
          exact hp _ _ (Grow.refl _) rfl
        · -- 5: slot 29: Op.move t6
          clear hd
          go_simp
          exact hp _ _ (Grow.refl _) rfl
        · -- 6: slot 30: Op.move t5
          clear hd
          go_simp
          exact hp _ _ (Grow.refl _) rfl
        · -- 7: slot 31: Op.slice 30 t28 (some t29) (some t30) none
          have h28 : x 28 = .slice (some ⟨b, off, none⟩) L c := hd 4 (by decide) _ rfl
          have h29 : x 29 = .int .i64 (c : Int) := hd 5 (by decide) _ rfl
          have h30 : x 30 = .int .i64 (c : Int) := hd 6 (by decide) _ rfl
          clear hd
          go_simp
          exact hp _ _ (Grow.refl _) rfl
      · intro x w1 hg hd
        have h27 : x 27 = .slice (some ⟨g, 0, none⟩) m m := hd 3 _ (by decide) rfl
        have h31 : x 31 = .slice (some ⟨b, off, none⟩) 0 0 := hd 7 _ (by decide) rfl
        clear hd
        obtain ⟨h1, h2, h3, h4, h5⟩ := HB.out _ hg
        have hz : (((l.take c).drop c).map bv).take (c - c) = [] := by simp
        simp only [List.drop_succ_cons, List.drop_zero]
        refine wpList_copyRd _ rfl (.tmp 27) (.tmp 31) rfl g 0 m m _ (.slice (some ⟨b, off, none⟩) 0 0) [] 0 h27 h31 h2 (Rd0 _ _) (by simp) (by simp) (fun y hy => by cases hy) ?_
        intro w3 hc3 hg3
        rw [List.take_nil] at hc3
        rw [← hz] at hc3
        have hne : ab ≠ g := HH.out.1.lt.2.2
        have k1 : w3.heap[ab]? = some (.cells #[.slice (some ⟨g, 0, none⟩) m m, .int .i64 (i : Int), .int .i64 (o : Int)] 47 (0, 0)) := (hg3.block ab h5 (fun e => hne (by injection e))).trans h1
        have hch3 : Chg ab g w w3 := h4.trans ⟨hg3.os, hg3.tape, hg3.output, hg3.size, fun j hj _ hj2 => hg3.block j hj (fun e => hj2 (by injection e))⟩
        have HE := Lib.hid (HH.out.1.wrote (n := c) (k := k) (nh := c) (bs := l.take c) HH.out.2.2.2.1 HH.out.2.2.2.2.1 (by rw [List.length_take]; have := HN.out.2.2.1; have := HH.out.2.1; omega) HN.out.2.1 HN.out.2.2.2 HH.out.2.2.1 HH.out.2.2.2.2.2 k1 hc3 hch3)
        have x1 : w3.cell? ⟨ab, 1, none⟩ = some (.int .i64 (i : Int)) := (cell_of_row w3 ab 1 _ _ _ k1).trans rfl
        have f1 : w3.frozen? ⟨ab, 1, none⟩ = false := frozen_of k1
        have e2 := E2.out
        clear h27 h31 h1 h2 h3 h4 h5 hg hc3 hg3 k1 hch3 hne
        go_wp2_with fail
        go_ret
        exact ⟨rfl, HE.out⟩
    · have i1 : (nh : Int) ≤ (n : Int) := by omega
      have i2 : (n : Int) ≤ (c : Int) := HN.out.1
      have i3 : nh ≤ c := by omega
      go_upto_region 5 with fail
      refine wp_region_phase (A := ?frame5b) (inList (isV (.pointer (some ⟨ab, 0, none⟩)) :: isV (.pointer (some ⟨ab, 0, none⟩)) :: isV (.pointer (some ⟨ab, 0, none⟩)) :: isV (.slice (some ⟨g, 0, none⟩) m m) :: isV (.slice (some ⟨b, off, none⟩) L c) :: isV (.int .i64 (nh : Int)) :: isV (.int .i64 (n : Int)) :: isV (.slice (some ⟨b, off + nh, none⟩) (n - nh) (c - nh)) :: [])) 8 (by kernel_rfl) (by kernel_rfl) (by kernel_rfl) (inList_stays ?_) (fun x => ?frameEq5b) ?_ ?_
      case frameEq5b => go_simp; rfl
      · intro f hf
        simp only [List.mem_cons, List.not_mem_nil, or_false] at hf
        rcases hf with rfl | rfl | rfl | rfl | rfl | rfl | rfl | rfl <;> first | exact isV_stays _ | exact isB_stays _ | exact isBs_stays _
      · refine ⟨fun x w1 hg hd post hp => ?_, fun x w1 hg hd post hp => ?_, fun x w1 hg hd post hp => ?_, fun x w1 hg hd post hp => ?_, fun x w1 hg hd post hp => ?_, fun x w1 hg hd post hp => ?_, fun x w1 hg hd post hp => ?_, fun x w1 hg hd post hp => ?_, trivial⟩
        · -- 0: slot 24: Op.move t0
          clear hd
          go_simp
          exact hp _ _ (Grow.refl _) rfl
        · -- 1: slot 25: Op.nilCheck t24
          have h24 : x 24 = .pointer (some ⟨ab, 0, none⟩) := hd 0 (by decide) _ rfl
          clear hd
          go_simp
          exact hp _ _ (Grow.refl _) rfl
        · -- 2: slot 26: Op.fieldAddr 47 t25 0
          have h25 : x 25 = .pointer (some ⟨ab, 0, none⟩) := hd 1 (by decide) _ rfl
          clear hd
          go_simp
          exact hp _ _ (Grow.refl _) rfl
        · -- 3: slot 27: Op.load 30 t26
          have h26 : x 26 = .pointer (some ⟨ab, 0, none⟩) := hd 2 (by decide) _ rfl
          clear hd
          have c0 := HC2.out _ hg
          go_simp
          exact hp _ _ (Grow.refl _) rfl
        · -- 4: slot 28: Op.move t1
          clear hd
          go_simp
          exact hp _ _ (Grow.refl _) rfl
        · -- 5: slot 29: Op.move t6
          clear hd
          go_simp
          exact hp _ _ (Grow.refl _) rfl
        · -- 6: slot 30: Op.move t5
          clear hd
          go_simp
          exact hp _ _ (Grow.refl _) rfl
        · -- 7: slot 31: Op.slice 30 t28 (some t29) (some t30) none
          have h28 : x 28 = .slice (some ⟨b, off, none⟩) L c := hd 4 (by decide) _ rfl
          have h29 : x 29 = .int .i64 (nh : Int) := hd 5 (by decide) _ rfl
          have h30 : x 30 = .int .i64 (n : Int) := hd 6 (by decide) _ rfl
          clear hd
          go_simp
          exact hp _ _ (Grow.refl _) rfl
      · intro x w1 hg hd
        have h27 : x 27 = .slice (some ⟨g, 0, none⟩) m m := hd 3 _ (by decide) rfl
        have h31 : x 31 = .slice (some ⟨b, off + nh, none⟩) (n - nh) (c - nh) := hd 7 _ (by decide) rfl
        clear hd
        obtain ⟨h1, h2, h3, h4, h5⟩ := HB.out _ hg
        have hys : Byt w1 (.slice (some ⟨b, off + nh, none⟩) (n - nh) (c - nh)) ((l.take n).drop nh) := by
          have := h3.cut (lo := nh) (hi := n) hdn HN.out.2.2.1
          rw [if_neg hch] at this
          simpa [add_at] using this
        simp only [List.drop_succ_cons, List.drop_zero]
        refine wpList_copyRd _ rfl (.tmp 27) (.tmp 31) rfl g 0 m m _ (.slice (some ⟨b, off + nh, none⟩) (n - nh) (c - nh)) (((l.take n).drop nh).map bv) (n - nh) h27 h31 h2 hys (by rw [List.length_map, List.length_drop, List.length_take]; have := HN.out.2.2.1; have := HN.out.2.1; have := HH.out.2.1; omega) (by rw [over_len (by rw [List.length_take, List.length_map, List.length_take, HH.out.2.2.2.1]; have := HH.out.2.2.2.2.2; have := HN.out.2.2.1; omega), HH.out.2.2.2.1]; have := HN.out.2.1; omega) (bv_one _) ?_
        intro w3 hc3 hg3
        have hne : ab ≠ g := HH.out.1.lt.2.2
        have k1 : w3.heap[ab]? = some (.cells #[.slice (some ⟨g, 0, none⟩) m m, .int .i64 (i : Int), .int .i64 (o : Int)] 47 (0, 0)) := (hg3.block ab h5 (fun e => hne (by injection e))).trans h1
        have hch3 : Chg ab g w w3 := h4.trans ⟨hg3.os, hg3.tape, hg3.output, hg3.size, fun j hj _ hj2 => hg3.block j hj (fun e => hj2 (by injection e))⟩
        have HE := Lib.hid (HH.out.1.wrote (n := n) (k := k) (nh := nh) (bs := l.take n) HH.out.2.2.2.1 HH.out.2.2.2.2.1 (by rw [List.length_take]; have := HN.out.2.2.1; have := HH.out.2.1; omega) HN.out.2.1 HN.out.2.2.2 HH.out.2.2.1 HH.out.2.2.2.2.2 k1 hc3 hch3)
        have x1 : w3.cell? ⟨ab, 1, none⟩ = some (.int .i64 (i : Int)) := (cell_of_row w3 ab 1 _ _ _ k1).trans rfl
        have f1 : w3.frozen? ⟨ab, 1, none⟩ = false := frozen_of k1
        have e2 := E2.out
        clear h27 h31 h1 h2 h3 h4 h5 hg hc3 hg3 k1 hch3 hne
        go_wp2_with fail
        go_ret
        exact ⟨rfl, HE.out⟩
theorem hWrite_any (h : Hs w base ab g m i o r) (v : Value) (l : List UInt8) (hv : Byt w v l) (hvg : 0 < l.length → v.ownBlock ≠ some g) (hi : i ≤ 999990000000) : Calls Try.prog 11 #[.pointer (some ⟨ab, 0, none⟩), v] w (WritePost w base ab g m i o r l (min l.length (m - r.length))) := by
  rcases Nat.eq_zero_or_pos (min l.length (m - r.length)) with q | q
  · rw [q]
    exact hWrite_none h v l hv q
  · exact hWrite_some h v l hv (hvg (by omega)) hi _ rfl q
end
end Go.Proofs.Yteohepgpghmioaa
