/- Contract: Carried. -/
import Derived.Test.YtkofmbnolaiecaaFrOpt
namespace Go.Proofs.Ytkofmbnolaiecaa
set_option linter.unusedVariables false
set_option linter.unusedSimpArgs false
open Go.ChangeShapes Go.WideShapes Go.ChangeAt Go.RowKit

theorem leftOn {w : World} {b off c k : Nat} {l : List UInt8} (h : Byt w (.slice (some ⟨b, off, none⟩) l.length c) l) (hk : k ≤ l.length) :
    (c = k → Byt w (.slice (some ⟨b, off, none⟩) (l.drop k).length (c - k)) (l.drop k)) ∧ (¬ c = k → Byt w (.slice (some ⟨b, off + k, none⟩) (l.drop k).length (c - k)) (l.drop k)) := by
  rw [List.length_drop]
  refine ⟨fun e => h.back0 hk e, fun e => ?_⟩
  have := h.back hk e
  have e2 : (⟨b, off, none⟩ : Addr).add k = ⟨b, off + k, none⟩ := by unfold Addr.add; split <;> simp_all
  simpa [e2] using this
theorem sliceEq {A A' : Option Addr} {n n' c c' : Nat} (h1 : A = A') (h2 : n = n') (h3 : c = c') : Value.slice A n c = .slice A' n' c' := by
  rw [h1, h2, h3]

/-- Where the scan stands. -/
structure Car (w : World) (m0 : Option (List UInt8)) (v : Value) (acc l : List UInt8) (A : Option Addr) (c f : Nat) (wr : World) : Prop where
  left : Byt w (.slice A l.length c) l
  small : l.length ≤ f
  room : acc.length + l.length ≤ 40
  goes : m0 = (fscan f l).map (acc ++ ·)
  row : Own wr w.heap.size v acc
  grow : Grow w wr

theorem fcar_done {L acc : List UInt8} (hL : L.length ≤ 40) (h : fscan L.length L = some acc) : fcode L = 0 ∧ fcar L = acc ++ List.replicate ((4 - acc.length % 4) % 4) 0 := by
  unfold fcode fcar
  rw [if_neg (show ¬ 40 < L.length by omega), h, if_neg (show ¬ 40 < L.length by omega)]
  exact ⟨rfl, rfl⟩
theorem fcar_fail {L : List UInt8} (hL : L.length ≤ 40) (h : fscan L.length L = none) : fcode L = 3 ∧ fcar L = [] := by
  unfold fcode fcar
  rw [if_neg (show ¬ 40 < L.length by omega), h, if_neg (show ¬ 40 < L.length by omega)]
  exact ⟨rfl, rfl⟩
theorem fcar_much {L : List UInt8} (hL : 40 < L.length) : fcode L = 1 ∧ fcar L = [] := by
  unfold fcode fcar
  rw [if_pos hL, if_pos hL]
  exact ⟨rfl, rfl⟩

set_option maxRecDepth 10000 in
set_option maxHeartbeats 8000000 in
theorem Carried_any (v : Value) (L : List UInt8) (w : World) (h : Byt w v L) (hL : L.length ≤ 1000000) :
    Calls Try.prog 13 #[v] w fun e w' => ∃ u, e = .returned (.tuple #[u, .int .i64 (fcode L)]) ∧ Byt w' u (fcar L) ∧ Grow w w' := by
  obtain ⟨A0, c0, rfl, hcl, hcm⟩ := h.form
  by_cases h40 : 40 < L.length
  · obtain ⟨e1, e2⟩ := fcar_much h40
    rw [e1, e2]
    have d40 : decide ((40 : Int) < (L.length : Int)) = true := decide_eq_true (by omega)
    go_enter Try.func13, Try.ntmps13
    go_wp2_with fail
    go_step3
    go_wp2_with fail
    try rw [Exit.noGoto_ret]
    go_ret2
    exact ⟨_, rfl, Byt.nil _, Grow.refl _⟩
  have hL40 : L.length ≤ 40 := by omega
  have HD := Lib.hid (fun acc => fcar_done (acc := acc) hL40)
  have HF := Lib.hid (fcar_fail hL40)
  obtain ⟨m0, hm0⟩ : ∃ m0, m0 = fscan L.length L := ⟨_, rfl⟩
  rw [← hm0] at HD HF
  have H0 : Hid (Car w m0 (.slice none 0 0) [] L A0 c0 L.length w) := ⟨h, Nat.le_refl _, by simp; omega, by rw [hm0]; cases fscan L.length L <;> simp, World.ownsRow_nil _ _ _ _, Grow.refl _⟩
  have d40 : decide ((40 : Int) < (L.length : Int)) = false := decide_eq_false (by omega)
  clear hm0 h
  go_enter Try.func13, Try.ntmps13
  go_wp2_with fail
  go_step3
  go_wp2_with fail
  go_step3
  go_wp2_with fail
  go_loopg [4, 6] L.length (fun g s4 s6 wr => ∃ (A : Option Addr) (c : Nat) (l acc : List UInt8) (f : Nat), s6 = .slice A l.length c ∧ g = f ∧ Car w m0 s4 acc l A c f wr)
  case atStart => exact ⟨A0, c0, L, [], _, rfl, rfl, H0.out⟩
  case round =>
    obtain ⟨A, c, l, acc, g, rfl, rfl, hb, hf, hroom, hgo, hown, hgr⟩ := hrel
    clear H0
    obtain ⟨hlc, hcm2⟩ := hb.len.2
    unfold maxLen at hcm2
    by_cases h0 : l.length = 0
    · have e0 : m0 = some acc := by
        rw [hgo]
        cases gk with
        | zero => simp [fscan]
        | succ g => rw [fscan, if_pos (byt_nil l h0)]; simp
      have d0 : decide (0 < l.length) = false := decide_eq_false (by omega)
      have HE := Lib.hid (HD.out acc e0)
      have hP := Pad_ok _ acc 4 _ hown.byt (by omega) (by decide) (by decide)
      clear e0 hgo h0
      go_wp2_with fail
      refine hP.mono ?_
      rintro e w2 ⟨x, rfl, ho2, hg2⟩
      go_wp2_with fail
      try rw [Exit.noGoto_ret]
      go_ret2
      exact ⟨_, by rw [HE.out.1]; rfl, by rw [HE.out.2]; exact ho2.byt, hgr.trans hg2⟩
    obtain ⟨f, rfl⟩ : ∃ j, gk = j + 1 := ⟨gk - 1, by omega⟩
    obtain ⟨b, off, rfl, hbl, hcell⟩ := hb.at_ (by omega)
    have Y0 : wr.cell? ⟨b, off, none⟩ = some (.int .u8 (byt l 0 : Int)) := by
      rw [hgr.cell (p := ⟨b, off, none⟩) hbl, ← byt_at (show 0 < l.length by omega)]
      exact hcell 0 (by omega)
    have y0 := byt_lt l 0
    have hO := option_any _ l wr (hb.grow hgr) (by omega)
    have d0 : decide (0 < l.length) = true := decide_eq_true (by omega)
    rw [fscan] at hgo
    obtain ⟨n, hn⟩ : ∃ n, n = fopt l := ⟨_, rfl⟩
    have hnl : n ≤ l.length := by rw [hn]; exact fopt_le l
    rw [← hn] at hgo hO
    obtain ⟨y, hy⟩ : ∃ y, y = byt l 0 := ⟨_, rfl⟩
    rw [← hy] at hgo Y0 y0
    have h00 : 0 < l.length := by omega
    clear hn hy hcell
    by_cases k0 : y = 0
    · rw [if_pos k0] at hgo
      subst k0
      have Y0' : wr.cell? ⟨b, off, none⟩ = some (.int .u8 0) := Y0
      have HE := Lib.hid (HD.out acc (by rw [hgo]; simp))
      have hP := Pad_ok _ acc 4 _ hown.byt (by omega) (by decide) (by decide)
      clear hgo Y0
      go_wp2_with fail
      refine hP.mono ?_
      rintro e w2 ⟨x, rfl, ho2, hg2⟩
      go_wp2_with fail
      try rw [Exit.noGoto_ret]
      go_ret2
      exact ⟨_, by rw [HE.out.1]; rfl, by rw [HE.out.2]; exact ho2.byt, hgr.trans hg2⟩
    rw [if_neg k0] at hgo
    have b0 : ((y : Int) == 0) = false := beq_eq_false_iff_ne.2 (by omega)
    by_cases k1 : y = 1
    · rw [if_pos k1] at hgo
      subst k1
      have Y0' : wr.cell? ⟨b, off, none⟩ = some (.int .u8 1) := Y0
      obtain ⟨hA1, hA2⟩ := leftOn hb (k := 1) (by omega)
      have i1 : (1 : Int) ≤ (l.length : Int) := by omega
      have HK : Hid (∀ A', Byt w (.slice A' (l.drop 1).length (c - 1)) (l.drop 1) → Car w m0 _ acc (l.drop 1) A' (c - 1) f wr) := fun A' hA => ⟨hA, by rw [List.length_drop]; omega, by rw [List.length_drop]; omega, hgo, hown, hgr⟩
      have HA := Lib.hid (And.intro hA1 hA2)
      clear hgo Y0 b0 k0 hA1 hA2 hO hown
      by_cases hc : c = 1
      · go_wp2_with fail
        go_roundg f
        case measure => omega
        case rel => exact ⟨_, _, l.drop 1, _, _, sliceEq rfl (by rw [List.length_drop]) (by omega), rfl, HK.out _ (HA.out.1 hc)⟩
      · go_wp2_with fail
        go_roundg f
        case measure => omega
        case rel => exact ⟨_, _, l.drop 1, _, _, sliceEq rfl (by rw [List.length_drop]) (by omega), rfl, HK.out _ (HA.out.2 hc)⟩
    rw [if_neg k1] at hgo
    have b1 : ((y : Int) == 1) = false := beq_eq_false_iff_ne.2 (by omega)
    by_cases hn0 : n = 0
    · rw [if_pos hn0] at hgo
      subst hn0
      have HE := Lib.hid (HF.out (by rw [hgo]; rfl))
      clear hgo
      go_wp2_with fail
      refine hO.mono ?_
      rintro e w' ⟨rfl, rfl⟩
      go_wp2_with fail
      try rw [Exit.noGoto_ret]
      go_ret2
      exact ⟨_, by rw [HE.out.1]; rfl, by rw [HE.out.2]; exact Byt.nil _, hgr⟩
    rw [if_neg hn0] at hgo
    have b2 : ((n : Int) == 0) = false := beq_eq_false_iff_ne.2 (by omega)
    obtain ⟨hA1, hA2⟩ := leftOn hb hnl
    have HA := Lib.hid (And.intro hA1 hA2)
    have i1 : (n : Int) ≤ (l.length : Int) := by omega
    have i2 : n ≤ c := by omega
    clear hA1 hA2
    by_cases k8 : 128 ≤ y
    · rw [if_pos k8] at hgo
      have HK : Hid (∀ v' w' A', Own w' w.heap.size v' (acc ++ l.take n) → Grow w w' → Byt w (.slice A' (l.drop n).length (c - n)) (l.drop n) → Car w m0 v' (acc ++ l.take n) (l.drop n) A' (c - n) f w') := fun v' w' A' ho hg hA =>
        ⟨hA, by rw [List.length_drop]; omega, by rw [List.length_append, List.length_take, List.length_drop]; omega, by rw [hgo]; cases fscan f (l.drop n) <;> simp, ho, hg⟩
      have hfr := (hb.grow hgr).front hnl
      have hll : acc.length + (l.take n).length ≤ 140737488355328 := by rw [List.length_take]; omega
      clear hgo hb
      go_wp2_with fail
      refine hO.mono ?_
      rintro e w' ⟨rfl, rfl⟩
      go_wp2_with (at_builtin; refine wpList_app w wr rfl (.tmp 28) (.tmp 31) rfl _ _ acc (l.take n) rfl rfl hown hgr hfr hll ?_; intro v2 w2 ho2 hg2; have H2 := Lib.hid (And.intro ho2 hg2); clear ho2 hg2 hown hfr hgr; change Hid _)
      unfold Hid
      refine Or.inl ?_
      by_cases hc : c = n
      · go_wp2_with fail
        go_roundg f
        case measure => omega
        case rel => exact ⟨_, _, l.drop n, _, _, sliceEq rfl (by rw [List.length_drop]) (by omega), rfl, HK.out _ _ _ H2.out.1 H2.out.2 (HA.out.1 hc)⟩
      · go_wp2_with fail
        go_roundg f
        case measure => omega
        case rel => exact ⟨_, _, l.drop n, _, _, sliceEq rfl (by rw [List.length_drop]) (by omega), rfl, HK.out _ _ _ H2.out.1 H2.out.2 (HA.out.2 hc)⟩
    · rw [if_neg k8] at hgo
      have HK : Hid (∀ A', Byt w (.slice A' (l.drop n).length (c - n)) (l.drop n) → Car w m0 _ acc (l.drop n) A' (c - n) f wr) := fun A' hA =>
        ⟨hA, by rw [List.length_drop]; omega, by rw [List.length_drop]; omega, by rw [hgo]; cases fscan f (l.drop n) <;> simp, hown, hgr⟩
      clear hgo hb hown
      go_wp2_with fail
      refine hO.mono ?_
      rintro e w' ⟨rfl, rfl⟩
      by_cases hc : c = n
      · go_wp2_with fail
        go_roundg f
        case measure => omega
        case rel => exact ⟨_, _, l.drop n, _, _, sliceEq rfl (by rw [List.length_drop]) (by omega), rfl, HK.out _ (HA.out.1 hc)⟩
      · go_wp2_with fail
        go_roundg f
        case measure => omega
        case rel => exact ⟨_, _, l.drop n, _, _, sliceEq rfl (by rw [List.length_drop]) (by omega), rfl, HK.out _ (HA.out.2 hc)⟩
end Go.Proofs.Ytkofmbnolaiecaa
