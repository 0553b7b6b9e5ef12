/- The reference's put. -/
import Derived.Test.YtfdoofkofljgnaaRtRef
import Derived.Test.YtfdoofkofljgnaaRtAll
namespace Go.Proofs.Ytfdoofkofljgnaa
set_option linter.unusedVariables false
set_option linter.unusedSimpArgs false
open Go.ChangeShapes Go.WideShapes Go.ChangeAt Go.RowKit Go.Shelf

set_option maxRecDepth 10000 in
set_option maxHeartbeats 2000000 in
theorem put_any (w : World) (v : Value) (l : List Rt) (hv : Rts w v l) (hlen : l.length ≤ 1000000) (k : Nat) (hk : k ≤ l.length) (r : Rt) :
    Calls Try.prog 24 #[v, .int .i64 (k : Int), rtV r] w fun e w' => ∃ v', e = .returned v' ∧ Orow 32 w' w.heap.size v' (l.take k ++ r :: l.drop k) ∧ Grow w w' := by
  obtain ⟨A, cp, rfl, hlc, hcm⟩ := hv.form
  have htl : (l.take k).length = k := by rw [List.length_take]; omega
  have hdl : (l.drop k).length = l.length - k := List.length_drop
  have hF : Hid (∀ w1, Grow w w1 → Rts w1 (.slice A k cp) (l.take k)) := fun w1 hg => (hv.front hk).grow hg
  have hB1 : Hid (cp = k → ∀ w1, Grow w w1 → Rts w1 (.slice A (l.length - k) (cp - k)) (l.drop k)) := fun hc w1 hg => (hv.back0 hk hc).grow hg
  have hB2 : Hid (¬ cp = k → ∀ w1, Grow w w1 → Rts w1 (.slice (A.map (·.add (k * 5))) (l.length - k) (cp - k)) (l.drop k)) := fun hc w1 hg => (hv.back hk hc).grow hg
  have HL := Lib.hid (And.intro htl hdl)
  have hcm2 : cp ≤ 9223372036854775807 := hcm
  have q4 : (k : Int) ≤ (cp : Int) := by omega
  have q5 : (k : Int) ≤ (l.length : Int) := by omega
  clear hv htl hdl
  obtain ⟨rn, rb, rv, ri, rc_⟩ := r
  unfold rtV
  go_enter Try.func24, Try.ntmps24
  have hO1 : Hid (∀ g, g = w.heap.size + 1 → Orow 32 ((w.alloc (.cells #[.int .u32 rn, .int .i64 rb, .int .u32 rv, .int .i64 ri, .int .i64 rc_] 32)).alloc (.cells #[] 32)) w.heap.size (.slice (some ⟨g, 0, none⟩) 0 0) []) := fun g hg => by
    have h := Orow.lit0 32 (w.alloc (.cells #[.int .u32 rn, .int .i64 rb, .int .u32 rv, .int .i64 ri, .int .i64 rc_] 32))
    rw [World.size_alloc, ← hg] at h
    exact h.base_ (by omega)
  have hG1 : Hid (Grow w ((w.alloc (.cells #[.int .u32 rn, .int .i64 rb, .int .u32 rv, .int .i64 ri, .int .i64 rc_] 32)).alloc (.cells #[] 32))) := (Grow.alloc _ _).trans (Grow.alloc _ _)
  have hBX : Hid (∀ w1, ((w.alloc (.cells #[.int .u32 rn, .int .i64 rb, .int .u32 rv, .int .i64 ri, .int .i64 rc_] 32)).alloc (.cells #[] 32)).grownBy w1 (Value.ownBlock (.slice (some ⟨w.heap.size + 1, 0, none⟩) 0 0)) → RtAt w1 w.heap.size 0 ⟨rn, rb, rv, ri, rc_⟩) := fun w1 hg => by
    obtain ⟨h0, h1, h2, h3, h4⟩ := (RtAt.new w ⟨rn, rb, rv, ri, rc_⟩ 32).grow (Grow.alloc _ (.cells #[] 32)) (by simp)
    have ne : ∀ i : Nat, some (⟨w.heap.size, i, none⟩ : Addr).block ≠ Value.ownBlock (.slice (some ⟨w.heap.size + 1, 0, none⟩) 0 0) := fun i e => by
      injection e with e
      have e' : w.heap.size = w.heap.size + 1 := e
      omega
    exact ⟨hg.cell h0 (ne _), hg.cell h1 (ne _), hg.cell h2 (ne _), hg.cell h3 (ne _), hg.cell h4 (ne _)⟩
  have hL : Hid (∀ (w1 : World) g, g = w1.heap.size → Rts (w1.alloc (.cells #[.int .u32 rn, .int .i64 rb, .int .u32 rv, .int .i64 ri, .int .i64 rc_] 32)) (.slice (some ⟨g, 0, none⟩) 1 1) [⟨rn, rb, rv, ri, rc_⟩]) := fun w1 g hg => (Orow.lit_at 32 w1 ⟨rn, rb, rv, ri, rc_⟩ _ rfl g hg).rts
  have e3 : l.take k ++ [(⟨rn, rb, rv, ri, rc_⟩ : Rt)] ++ l.drop k = l.take k ++ ⟨rn, rb, rv, ri, rc_⟩ :: l.drop k := by simp
  have E3 := Lib.hid e3
  clear e3
  by_cases hc : cp = k
  · subst hc
    go_wp2_with (first
      | (at_builtin; refine wpList_app5 _ rfl (.tmp 8) (.tmp 11) 26 32 rfl Try.underlying26 infoRoute w.heap.size _ _ [] (l.take cp) rfl rfl (hO1.out _ rfl) (hF.out _ hG1.out) (by simp [HL.out.1]; omega) hG1.out.size ?_; intro v1 w1 ho1 hg1 hat1; rw [List.nil_append] at ho1; have hgw := Grow.row hG1.out hg1 (hO1.out _ rfl); obtain ⟨b0, b1, b2, b3, b4⟩ := hBX.out w1 hg1; simp only [Nat.zero_add] at b1 b2 b3 b4; have A1 := Lib.hid (And.intro ho1 hgw); clear ho1 hg1 hat1 hgw)
      | (at_builtin; refine wpList_app5 _ rfl (.tmp 13) (.tmp 15) 26 32 rfl Try.underlying26 infoRoute w.heap.size _ _ (l.take cp) [(⟨rn, rb, rv, ri, rc_⟩ : Rt)] rfl rfl (A1.out.1.grow (Grow.alloc _ _)) (hL.out w1 w1.heap.size rfl) (by simp [HL.out.1]; omega) (Nat.le_trans A1.out.2.size (by simp)) ?_; intro v2 w2 ho2 hg2 hat2; have hgw := Grow.row (A1.out.2.trans (Grow.alloc _ _)) hg2 (A1.out.1.grow (Grow.alloc _ _)); have A2 := Lib.hid (And.intro ho2 hgw); clear ho2 hg2 hat2 hgw b0 b1 b2 b3 b4)
      | (at_builtin; refine wpList_app5 _ rfl (.tmp 17) (.tmp 20) 26 32 rfl Try.underlying26 infoRoute w.heap.size _ _ (l.take cp ++ [(⟨rn, rb, rv, ri, rc_⟩ : Rt)]) (l.drop cp) rfl rfl A2.out.1 (by have h9 := hB1.out rfl _ A2.out.2; rw [Nat.sub_self, Nat.sub_eq_zero_of_le hlc] at h9; exact h9) (by simp [HL.out.1, HL.out.2]; omega) A2.out.2.size ?_; intro v3 w3 ho3 hg3 hat3; rw [E3.out] at ho3; have hgw := Grow.row A2.out.2 hg3 A2.out.1; have A3 := Lib.hid (And.intro ho3 hgw); clear ho3 hg3 hat3 hgw))
    go_ret
    exact ⟨_, rfl, A3.out⟩
  · skip
    go_wp2_with (first
      | (at_builtin; refine wpList_app5 _ rfl (.tmp 8) (.tmp 11) 26 32 rfl Try.underlying26 infoRoute w.heap.size _ _ [] (l.take k) rfl rfl (hO1.out _ rfl) (hF.out _ hG1.out) (by simp [HL.out.1]; omega) hG1.out.size ?_; intro v1 w1 ho1 hg1 hat1; rw [List.nil_append] at ho1; have hgw := Grow.row hG1.out hg1 (hO1.out _ rfl); obtain ⟨b0, b1, b2, b3, b4⟩ := hBX.out w1 hg1; simp only [Nat.zero_add] at b1 b2 b3 b4; have A1 := Lib.hid (And.intro ho1 hgw); clear ho1 hg1 hat1 hgw)
      | (at_builtin; refine wpList_app5 _ rfl (.tmp 13) (.tmp 15) 26 32 rfl Try.underlying26 infoRoute w.heap.size _ _ (l.take k) [(⟨rn, rb, rv, ri, rc_⟩ : Rt)] rfl rfl (A1.out.1.grow (Grow.alloc _ _)) (hL.out w1 w1.heap.size rfl) (by simp [HL.out.1]; omega) (Nat.le_trans A1.out.2.size (by simp)) ?_; intro v2 w2 ho2 hg2 hat2; have hgw := Grow.row (A1.out.2.trans (Grow.alloc _ _)) hg2 (A1.out.1.grow (Grow.alloc _ _)); have A2 := Lib.hid (And.intro ho2 hgw); clear ho2 hg2 hat2 hgw b0 b1 b2 b3 b4)
      | (at_builtin; refine wpList_app5 _ rfl (.tmp 17) (.tmp 20) 26 32 rfl Try.underlying26 infoRoute w.heap.size _ _ (l.take k ++ [(⟨rn, rb, rv, ri, rc_⟩ : Rt)]) (l.drop k) rfl rfl A2.out.1 (hB2.out hc _ A2.out.2) (by simp [HL.out.1, HL.out.2]; omega) A2.out.2.size ?_; intro v3 w3 ho3 hg3 hat3; rw [E3.out] at ho3; have hgw := Grow.row A2.out.2 hg3 A2.out.1; have A3 := Lib.hid (And.intro ho3 hgw); clear ho3 hg3 hat3 hgw))
    go_ret
    exact ⟨_, rfl, A3.out⟩
end Go.Proofs.Ytfdoofkofljgnaa
