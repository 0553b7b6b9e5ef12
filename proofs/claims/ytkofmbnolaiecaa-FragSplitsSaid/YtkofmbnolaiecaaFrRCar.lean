/- Contract: the reference's Carried. -/
import Derived.Test.YtkofmbnolaiecaaFrCar
namespace Go.Proofs.Ytkofmbnolaiecaa
set_option linter.unusedVariables false
set_option linter.unusedSimpArgs false
open Go.ChangeShapes Go.WideShapes Go.ChangeAt Go.RowKit

/-- Where the reference's scan stands: at p. -/
structure Rcar (w : World) (m0 : Option (List UInt8)) (L : List UInt8) (v : Value) (acc : List UInt8) (p f : Nat) (wr : World) : Prop where
  le : p ≤ L.length
  small : L.length - p ≤ f
  room : acc.length + (L.length - p) ≤ 40
  goes : m0 = (fscan f (L.drop p)).map (acc ++ ·)
  row : Own wr w.heap.size v acc
  grow : Grow w wr

/-- Where the filling up stands. -/
structure Rpad (w : World) (m : List UInt8) (v : Value) (j : Nat) (wr : World) : Prop where
  le : j ≤ (4 - m.length % 4) % 4
  row : Own wr w.heap.size v (m ++ List.replicate j 0)
  grow : Grow w wr

theorem cut_of_drop (l : List UInt8) (p n : Nat) : (l.take (p + n)).drop p = (l.drop p).take n := by
  rw [List.take_add, List.drop_append]
  by_cases h : p ≤ l.length
  · rw [List.drop_of_length_le (by rw [List.length_take]; omega)]
    simp [List.length_take, Nat.min_eq_left h]
  · rw [List.drop_of_length_le (by rw [List.length_take]; omega), List.drop_eq_nil_of_le (show l.length ≤ p by omega)]
    simp
theorem byt_cut {w : World} {b off c p n : Nat} {l : List UInt8} (h : Byt w (.slice (some ⟨b, off, none⟩) l.length c) l) (hn : p + n ≤ l.length) :
    (c = p → Byt w (.slice (some ⟨b, off, none⟩) n 0) ((l.drop p).take n)) ∧ (¬ c = p → Byt w (.slice (some ⟨b, off + p, none⟩) n (c - p)) ((l.drop p).take n)) := by
  have h2 := h.cut2 hn
  rw [cut_of_drop] at h2
  refine ⟨h2.1, fun e => ?_⟩
  have := h2.2 e
  have e2 : (⟨b, off, none⟩ : Addr).add p = ⟨b, off + p, none⟩ := by unfold Addr.add; split <;> simp_all
  simpa [e2] using this
theorem fopt_drop {L : List UInt8} {p : Nat} (hp : p < L.length) : fopt (L.drop p) = if L.length ≤ p + 1 then 0 else if byt L (p + 1) < 2 ∨ L.length - p < byt L (p + 1) then 0 else byt L (p + 1) := by
  unfold fopt
  rw [List.length_drop, byt_drop]
  by_cases h : L.length ≤ p + 1
  · rw [if_pos h, if_pos (by omega)]
  · rw [if_neg h, if_neg (by omega)]
set_option maxRecDepth 10000 in
set_option maxHeartbeats 8000000 in
theorem RCarried_any (v : Value) (L : List UInt8) (w : World) (h : Byt w v L) (hL : L.length ≤ 1000000) :
    Calls Try.prog 14 #[v] w fun e w' => ∃ u, e = .returned (.tuple #[u, .int .i64 (fcode L)]) ∧ Byt w' u (fcar L) ∧ Grow w w' := by
  obtain ⟨A0, c0, rfl, hcl, hcm⟩ := h.form
  unfold maxLen at hcm
  by_cases h40 : 40 < L.length
  · obtain ⟨e1, e2⟩ := fcar_much h40
    rw [e1, e2]
    have d40 : decide ((40 : Int) < (L.length : Int)) = true := decide_eq_true (by omega)
    go_enter Try.func14, Try.ntmps14
    go_wp2_with fail
    go_ret2
    exact ⟨_, rfl, Byt.nil _, Grow.refl _⟩
  have hL40 : L.length ≤ 40 := by omega
  have HD := Lib.hid (fun acc => fcar_done (acc := acc) hL40)
  have HF := Lib.hid (fcar_fail hL40)
  obtain ⟨m0, hm0⟩ : ∃ m0, m0 = fscan L.length L := ⟨_, rfl⟩
  rw [← hm0] at HD HF
  have H0 : Hid (Rcar w m0 L (.slice none 0 0) [] 0 L.length w) := ⟨Nat.zero_le _, Nat.le_refl _, by simp; omega, by rw [hm0, List.drop_zero]; cases fscan L.length L <;> simp, World.ownsRow_nil _ _ _ _, Grow.refl _⟩
  have d40 : decide ((40 : Int) < (L.length : Int)) = false := decide_eq_false (by omega)
  have HB := Lib.hid h
  clear hm0 h
  go_enter Try.func14, Try.ntmps14
  go_wp2_with fail
  go_loopg [4, 5] L.length (fun g s4 s5 wr => ∃ (acc : List UInt8) (p : Nat), s5 = .int .i64 (p : Int) ∧ Rcar w m0 L s4 acc p g wr)
  case atStart => exact ⟨[], 0, rfl, H0.out⟩
  case round =>
    obtain ⟨acc, p, rfl, hp, hf, hroom, hgo, hown, hgr⟩ := hrel
    clear H0
    by_cases h0 : p = L.length
    · subst h0
      have e0 : m0 = some acc := by
        rw [hgo, List.drop_length]
        cases gk with
        | zero => simp [fscan]
        | succ g => rw [fscan, if_pos (byt_nil [] rfl)]; simp
      have HE := Lib.hid (HD.out acc e0)
      have HP : Hid (Rpad w acc _ 0 wr) := ⟨Nat.zero_le _, by simpa using hown, hgr⟩
      have hac : acc.length ≤ 40 := by omega
      clear e0 hgo hown hgr
      go_wp2_with fail
      go_loopg [4] ((4 - acc.length % 4) % 4) (fun g s4 wr => ∃ j : Nat, g = (4 - acc.length % 4) % 4 - j ∧ Rpad w acc s4 j wr)
      case atStart => exact ⟨0, rfl, HP.out⟩
      case round =>
        obtain ⟨j, rfl, hj, hown, hgr⟩ := hrel
        obtain ⟨A4, n4, c4, rfl, hn4⟩ := hown.byt.form2
        have e4 : n4 = acc.length + j := by rw [hn4.out]; simp
        have hb4 := hown.byt.len.2
        unfold maxLen at hb4
        have hn40 : n4 ≤ 1000 := by omega
        clear HP hn4
        by_cases hlt : j < (4 - acc.length % 4) % 4
        · have d4 : ((n4 : Int) % 4 != 0) = true := bne_iff_ne.2 (by omega)
          have HJ := Lib.hid (And.intro hown (And.intro hgr (And.intro hlt e4)))
          have hO1 : Own (wr.alloc (.cells #[.int .u8 0] 5)) w.heap.size (.slice A4 n4 c4) (acc ++ List.replicate j 0) := hown.grow (Grow.alloc _ _)
          have hO2 : Byt (wr.alloc (.cells #[.int .u8 0] 5)) (.slice (some ⟨wr.heap.size, 0, none⟩) 1 1) [0] := (Own.lit wr #[.int .u8 0] [0] rfl (by unfold maxLen; simp)).byt
          have hG2 : Grow w (wr.alloc (.cells #[.int .u8 0] 5)) := hgr.trans (Grow.alloc _ _)
          have hl2 : (acc ++ List.replicate j (0 : UInt8)).length + [(0 : UInt8)].length ≤ 140737488355328 := by simp; omega
          have W1 := Lib.hid (And.intro hO1 (And.intro hO2 (And.intro hG2 hl2)))
          clear hown hgr hlt e4 hO1 hO2 hG2 hl2
          go_wp2_with (at_builtin; refine wpList_app w _ rfl (.tmp 80) (.tmp 81) rfl _ _ (acc ++ List.replicate j 0) [0] rfl rfl W1.out.1 W1.out.2.2.1 W1.out.2.1 W1.out.2.2.2 ?_; intro v2 w2 ho2 hg2; have H2 := Lib.hid (And.intro ho2 hg2); clear ho2 hg2)
          obtain ⟨q1, q2, q3, q4⟩ := HJ.out
          go_roundg ((4 - acc.length % 4) % 4 - (j + 1))
          case measure => omega
          case rel => exact ⟨j + 1, rfl, by omega, by rw [List.replicate_succ', ← List.append_assoc]; exact H2.out.1, H2.out.2⟩
        · have hje : j = (4 - acc.length % 4) % 4 := by omega
          have d4 : ((n4 : Int) % 4 != 0) = false := bne_eq_false_iff_eq.2 (by omega)
          have HJ := Lib.hid (And.intro hown (And.intro hgr hje))
          clear hown hgr hlt e4 hje
          go_wp2_with fail
          go_ret2
          exact ⟨_, by rw [HE.out.1]; rfl, by rw [HE.out.2, ← HJ.out.2.2]; exact HJ.out.1.byt, HJ.out.2.1⟩
    obtain ⟨f, rfl⟩ : ∃ j, gk = j + 1 := ⟨gk - 1, by omega⟩
    have hlt : p < L.length := by omega
    obtain ⟨b, off, rfl, hbl, hcell⟩ := HB.out.at_ (by omega)
    have Y0 : wr.cell? ⟨b, off + p, none⟩ = some (.int .u8 (byt L p : Int)) := by
      rw [hgr.cell (p := ⟨b, off + p, none⟩) hbl, ← byt_at hlt]
      exact hcell p hlt
    have y0 := byt_lt L p
    rw [fscan, byt_drop, Nat.add_zero] at hgo
    have hY1 : Hid (p + 1 < L.length → wr.cell? ⟨b, off + (p + 1), none⟩ = some (.int .u8 (byt L (p + 1) : Int))) := fun h => by
      rw [hgr.cell (p := ⟨b, off + (p + 1), none⟩) hbl, ← byt_at h]
      exact hcell (p + 1) h
    have HY := Lib.hid hcell
    obtain ⟨y, hy⟩ : ∃ y, y = byt L p := ⟨_, rfl⟩
    rw [← hy] at hgo Y0 y0
    have hltI : (p : Int) < (L.length : Int) := by omega
    clear hy hcell h0
    by_cases k0 : y = 0
    · rw [if_pos k0] at hgo
      subst k0
      have Y0' : wr.cell? ⟨b, off + p, none⟩ = some (.int .u8 0) := Y0
      have HE := Lib.hid (HD.out acc (by rw [hgo]; simp))
      have HP : Hid (Rpad w acc _ 0 wr) := ⟨Nat.zero_le _, by simpa using hown, hgr⟩
      have hac : acc.length ≤ 40 := by omega
      clear hgo hown hgr Y0 hY1 HY
      go_wp2_with fail
      go_loopg [4] ((4 - acc.length % 4) % 4) (fun g s4 wr => ∃ j : Nat, g = (4 - acc.length % 4) % 4 - j ∧ Rpad w acc s4 j wr)
      case atStart => exact ⟨0, rfl, HP.out⟩
      case round =>
        obtain ⟨j, rfl, hj, hown, hgr⟩ := hrel
        obtain ⟨A4, n4, c4, rfl, hn4⟩ := hown.byt.form2
        have e4 : n4 = acc.length + j := by rw [hn4.out]; simp
        have hb4 := hown.byt.len.2
        unfold maxLen at hb4
        have hn40 : n4 ≤ 1000 := by omega
        clear HP hn4
        by_cases hlt : j < (4 - acc.length % 4) % 4
        · have d4 : ((n4 : Int) % 4 != 0) = true := bne_iff_ne.2 (by omega)
          have HJ := Lib.hid (And.intro hown (And.intro hgr (And.intro hlt e4)))
          have hO1 : Own (wr.alloc (.cells #[.int .u8 0] 5)) w.heap.size (.slice A4 n4 c4) (acc ++ List.replicate j 0) := hown.grow (Grow.alloc _ _)
          have hO2 : Byt (wr.alloc (.cells #[.int .u8 0] 5)) (.slice (some ⟨wr.heap.size, 0, none⟩) 1 1) [0] := (Own.lit wr #[.int .u8 0] [0] rfl (by unfold maxLen; simp)).byt
          have hG2 : Grow w (wr.alloc (.cells #[.int .u8 0] 5)) := hgr.trans (Grow.alloc _ _)
          have hl2 : (acc ++ List.replicate j (0 : UInt8)).length + [(0 : UInt8)].length ≤ 140737488355328 := by simp; omega
          have W1 := Lib.hid (And.intro hO1 (And.intro hO2 (And.intro hG2 hl2)))
          clear hown hgr hlt e4 hO1 hO2 hG2 hl2
          go_wp2_with (at_builtin; refine wpList_app w _ rfl (.tmp 80) (.tmp 81) rfl _ _ (acc ++ List.replicate j 0) [0] rfl rfl W1.out.1 W1.out.2.2.1 W1.out.2.1 W1.out.2.2.2 ?_; intro v2 w2 ho2 hg2; have H2 := Lib.hid (And.intro ho2 hg2); clear ho2 hg2)
          obtain ⟨q1, q2, q3, q4⟩ := HJ.out
          go_roundg ((4 - acc.length % 4) % 4 - (j + 1))
          case measure => omega
          case rel => exact ⟨j + 1, rfl, by omega, by rw [List.replicate_succ', ← List.append_assoc]; exact H2.out.1, H2.out.2⟩
        · have hje : j = (4 - acc.length % 4) % 4 := by omega
          have d4 : ((n4 : Int) % 4 != 0) = false := bne_eq_false_iff_eq.2 (by omega)
          have HJ := Lib.hid (And.intro hown (And.intro hgr hje))
          clear hown hgr hlt e4 hje
          go_wp2_with fail
          go_ret2
          exact ⟨_, by rw [HE.out.1]; rfl, by rw [HE.out.2, ← HJ.out.2.2]; exact HJ.out.1.byt, HJ.out.2.1⟩
    rw [if_neg k0] at hgo
    have b0 : ((y : Int) != 0) = true := bne_iff_ne.2 (by omega)
    by_cases k1 : y = 1
    · rw [if_pos k1] at hgo
      subst k1
      have Y0' : wr.cell? ⟨b, off + p, none⟩ = some (.int .u8 1) := Y0
      have HK : Hid (Rcar w m0 L _ acc (p + 1) f wr) := ⟨by omega, by omega, by omega, by rw [hgo, List.drop_drop], hown, hgr⟩
      clear hgo Y0 b0 k0 hown hY1 HY
      go_wp2_with fail
      go_roundg f
      case measure => omega
      case rel => exact ⟨acc, p + 1, by go_num, HK.out⟩
    rw [if_neg k1] at hgo
    have b1 : ((y : Int) == 1) = false := beq_eq_false_iff_ne.2 (by omega)
    rw [fopt_drop hlt] at hgo
    obtain ⟨q, hq⟩ : ∃ q, q = p + 1 := ⟨_, rfl⟩
    have eq1 : (p : Int) + 1 = (q : Int) := by omega
    obtain ⟨z, hz⟩ : ∃ z, z = L.length - p := ⟨_, rfl⟩
    have ez : (L.length : Int) - (p : Int) = (z : Int) := by omega
    have hq41 : q ≤ 41 := by omega
    have hz41 : z ≤ 40 := by omega
    rw [← hq, ← hz] at hgo
    rw [← hq] at hY1
    by_cases g1 : L.length ≤ q
    · rw [if_pos g1, if_pos rfl] at hgo
      have HE := Lib.hid (HF.out (by rw [hgo]; rfl))
      have dq : decide ((L.length : Int) ≤ (q : Int)) = true := decide_eq_true (by omega)
      have HG := Lib.hid hgr
      clear hgo hown hgr HY hY1 hq hz
      go_wp2_with fail
      go_ret2
      exact ⟨_, by rw [HE.out.1]; rfl, by rw [HE.out.2]; exact Byt.nil _, HG.out⟩
    rw [if_neg g1] at hgo
    have dq : decide ((L.length : Int) ≤ (q : Int)) = false := decide_eq_false (by omega)
    have Y1 := hY1.out (by omega)
    have y1 := byt_lt L q
    obtain ⟨n, hn⟩ : ∃ n, n = byt L q := ⟨_, rfl⟩
    rw [← hn] at hgo Y1 y1
    have hqI : (q : Int) < (L.length : Int) := by omega
    have hqN : q < L.length := by omega
    clear hn hY1
    by_cases g2 : n < 2
    · rw [if_pos (show n < 2 ∨ z < n from .inl g2), if_pos rfl] at hgo
      have HE := Lib.hid (HF.out (by rw [hgo]; rfl))
      have HG := Lib.hid hgr
      clear hgo hown hgr HY hq hz
      go_wp2_with fail
      go_ret2
      exact ⟨_, by rw [HE.out.1]; rfl, by rw [HE.out.2]; exact Byt.nil _, HG.out⟩
    by_cases g3 : z < n
    · rw [if_pos (show n < 2 ∨ z < n from .inr g3), if_pos rfl] at hgo
      have HE := Lib.hid (HF.out (by rw [hgo]; rfl))
      have HG := Lib.hid hgr
      clear hgo hown hgr HY hq hz
      go_wp2_with fail
      go_ret2
      exact ⟨_, by rw [HE.out.1]; rfl, by rw [HE.out.2]; exact Byt.nil _, HG.out⟩
    rw [if_neg (show ¬ (n < 2 ∨ z < n) by omega), if_neg (show ¬ n = 0 by omega)] at hgo
    obtain ⟨t, ht⟩ : ∃ t, t = p + n := ⟨_, rfl⟩
    have et : (p : Int) + (n : Int) = (t : Int) := by omega
    have ht41 : t ≤ L.length := by omega
    have htc : t ≤ c0 := by omega
    have htp : p ≤ t := by omega
    have etn : t - p = n := by omega
    have HN := Lib.hid (And.intro etn (And.intro ht (And.intro hq hz)))
    rw [List.drop_drop, ← ht] at hgo
    by_cases k8 : 128 ≤ y
    · rw [if_pos k8] at hgo
      have HK : Hid (∀ v' w', Own w' w.heap.size v' (acc ++ (L.drop p).take n) → Grow w w' → Rcar w m0 L v' (acc ++ (L.drop p).take n) t f w') := fun v' w' ho hg =>
        ⟨by omega, by omega, by rw [List.length_append, List.length_take, List.length_drop]; omega, by rw [hgo]; cases fscan f (L.drop t) <;> simp, ho, hg⟩
      have HCT := Lib.hid (byt_cut (HB.out.grow hgr) (show p + n ≤ L.length by omega))
      have hll : Hid (acc.length + ((L.drop p).take n).length ≤ 140737488355328) := by rw [List.length_take, List.length_drop]; show _ ≤ _; omega
      have HG := Lib.hid (And.intro hown hgr)
      clear hgo hown hgr HY hq hz ht etn
      by_cases hc : c0 = p
      · exact absurd hc (by omega)
      · have HC2 : Hid (Byt wr (.slice (some ⟨b, off + p, none⟩) (t - p) (c0 - p)) ((L.drop p).take n)) := by
          rw [HN.out.1]
          exact HCT.out.2 hc
        go_wp2_with (at_builtin; refine wpList_app w wr rfl (.tmp 65) (.tmp 71) rfl _ _ acc ((L.drop p).take n) rfl rfl HG.out.1 HG.out.2 HC2.out hll.out ?_; intro v2 w2 ho2 hg2; have H2 := Lib.hid (And.intro ho2 hg2); clear ho2 hg2)
        go_roundg f
        case measure => omega
        case rel => exact ⟨_, t, by go_num, HK.out _ _ H2.out.1 H2.out.2⟩
    · rw [if_neg k8] at hgo
      have HK : Hid (Rcar w m0 L _ acc t f wr) := ⟨by omega, by omega, by omega, by rw [hgo]; cases fscan f (L.drop t) <;> simp, hown, hgr⟩
      clear hgo hown hgr HY hq hz ht etn
      go_wp2_with fail
      go_roundg f
      case measure => omega
      case rel => exact ⟨acc, t, by go_num, HK.out⟩
end Go.Proofs.Ytkofmbnolaiecaa
