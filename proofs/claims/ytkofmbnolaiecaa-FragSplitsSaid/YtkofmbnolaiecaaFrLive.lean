/- The page's example. -/
import Derived.Test.YtkofmbnolaiecaaFrSame
namespace Go.Proofs.Ytkofmbnolaiecaa
set_option linter.unusedVariables false
set_option linter.unusedSimpArgs false
open Go.ChangeShapes Go.WideShapes Go.ChangeAt Go.RowKit

theorem Iprow.at_ {w : World} {base : Nat} {v : Value} {l : List Pk} (h : Iprow w base v l) (hl : 0 < l.length) : ∃ g cap, v = .slice (some ⟨g, 0, none⟩) l.length cap ∧ l.length ≤ cap ∧ cap ≤ maxLen ∧ base ≤ g ∧ g < w.heap.size ∧ ∀ j (hj : j < l.length), PkAt w g (j * 11) l[j] := by
  have hi := h.ips
  rcases h.2 with ⟨_, h0⟩ | ⟨g, cap, cur, rfl, hbg, hh, hnc, hcm, _⟩
  · omega
  · refine ⟨g, cap, rfl, hnc, hcm, hbg, (Array.getElem?_eq_some_iff.1 hh).1, fun j hj => ?_⟩
    obtain ⟨b, off, e, _, hc⟩ := hi.at_ hl
    injection e with e
    injection e with e1 e2
    subst e1 e2
    have := hc j hj
    rwa [Nat.zero_add] at this

def exF : Pkt := ⟨0, 0, false, false, 0, 0, 0, 0, 0, [], List.replicate 100 0⟩
theorem exF_ok : exF.Ok := ⟨by decide, by decide, by decide, by decide, by decide, by decide, by decide, by decide⟩
theorem exF_code : fcodeS exF 68 = 0 := by decide +kernel
theorem exF_list : (flist exF 68).map (fun k => (k.data.length, k.off, k.more)) = [(48, 0, true), (48, 6, true), (4, 12, false)] := by decide +kernel

theorem three_of {l : List Pk} (h : l.map Pk.k = flist exF 68) : ∃ q0 q1 q2, l = [q0, q1, q2] ∧ q0.k.data.length = 48 ∧ q1.k.off = 6 ∧ q1.k.more = true ∧ q2.k.data.length = 4 ∧ q2.k.more = false := by
  have h2 := congrArg (List.map fun k => (k.data.length, k.off, k.more)) h
  rw [exF_list] at h2
  have h3 : l.length = 3 := by simpa using congrArg List.length h2
  match l, h3, h2 with
  | [q0, q1, q2], _, h2 =>
    simp at h2
    exact ⟨q0, q1, q2, rfl, h2.1.1, h2.2.1.2.1, h2.2.1.2.2, h2.2.2.1, h2.2.2.2.2⟩

set_option maxHeartbeats 2000000 in
theorem fragLive_any (w : World) : Calls Try.prog 7 #[] w fun e w' => e = .returned (.bool true) ∧ Grow w w' := by
  obtain ⟨i0, hi, hz0, hz1, hz2⟩ := info_parts infoByte
  have f1 : i0.bytes * 100 ≤ 281474976710656 := by rw [hz2]; omega
  have f2 : 100 ≤ maxLen := by unfold maxLen; omega
  have cC := fun w => fragCode_any 0 w (by decide) (by decide)
  go_enter Try.func7, Try.ntmps7
  go_wp2_with (at_make; refine wpList_make_full _ rfl _ _ 25 rfl w.heap.size 5 i0 (.int .u8 0) 1 Try.underlying25 hi hz0 hz1 .i64 .i64 _ _ 100 rfl rfl rfl rfl f1 f2 (Nat.le_refl _) ?_; intro w1 hown hg)
  have hg1 : Grow w w1 := (Below.refl _ _).grown hg (Nat.le_refl _) (by simp)
  have hb1 : Byt w1 (.slice (some ⟨w.heap.size, 0, none⟩) 100 100) (List.replicate 100 0) := by
    refine Byt.of_own (base := w.heap.size) (e := 5) (n := 100) ?_
    rw [show (Value.int IntKind.u8 0).cells = #[Value.int IntKind.u8 0] from rfl, Nat.mul_one, toList_madeCells_one] at hown
    rw [List.map_replicate]
    exact hown
  have cS := Split_any _ exF 68 w1 ⟨_, _, rfl, Byt.nil _, hb1, exF_ok⟩ ⟨by decide, by decide⟩ (by decide) (by decide)
  refine cS.mono ?_
  rintro e w2 ⟨u, l, rfl, hl, hrow, hmine, hg2⟩
  obtain ⟨q0, q1, q2, rfl, e0, e1, e2, e3, e4⟩ := three_of hl
  obtain ⟨g, cap, rfl, hcap, hcm, _, hgl, hat⟩ := hrow.at_ (by simp)
  obtain ⟨_, _, _, _, _, _, _, _, _, _, a10⟩ := hat 0 (by simp)
  obtain ⟨_, _, _, b3, b4, _⟩ := hat 1 (by simp)
  obtain ⟨_, _, _, d3, _, _, _, _, _, _, d10⟩ := hat 2 (by simp)
  obtain ⟨A0, n0, c0, hv0, hn0⟩ := (hmine q0 (by simp)).2.1.byt.form2
  obtain ⟨A2, n2, c2, hv2, hn2⟩ := (hmine q2 (by simp)).2.1.byt.form2
  have hn0' := hn0.out.trans e0
  have hn2' := hn2.out.trans e3
  subst hn0' hn2'
  simp only [List.getElem_cons_zero, List.getElem_cons_succ] at a10 b3 b4 d3 d10
  rw [hv0] at a10
  rw [hv2] at d10
  rw [e1] at b4
  rw [e2] at b3
  rw [e4] at d3
  simp only [List.length_cons, List.length_nil] at hcap
  have HG := Lib.hid (hg1.trans hg2)
  have hE := exF_code
  rw [hE]
  unfold maxLen at hcm
  clear hE hl hrow hmine hg1 hg2 hat hb1 hown hg cS e0 e1 e2 e3 e4 hv0 hv2 hn0 hn2 f1 f2
  go_wp2_with fail
  refine (cC _).mono ?_
  rintro e w' ⟨rfl, rfl⟩
  go_wp2_with fail
  go_ret
  exact ⟨rfl, HG.out⟩
end Go.Proofs.Ytkofmbnolaiecaa
