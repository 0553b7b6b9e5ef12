/- A step of the law: Pick. -/
import Derived.Test.YtkilfdhofbjkgaaPoStepS
namespace Go.Proofs.Ytkilfdhofbjkgaa
set_option linter.unusedVariables false
set_option linter.unusedSimpArgs false
open Go.ChangeShapes Go.WideShapes Go.ChangeAt Go.RowKit

set_option maxRecDepth 100000 in
set_option maxHeartbeats 4000000 in
theorem step_2 {Pp : PoT} (I : OIf Pp) (w0 w : World) (g0 : Grow w0 w) (pb : Nat) (t : Prt) (h : Pp w w0.heap.size pb t) (v : Value) (hr : RTb w w0.heap.size v t) (q : Qd) (hq : q.Ok) (o : Int) (ho : In64 o) : Calls Try.prog 10 #[.pointer (some ⟨pb, 0, none⟩), v, .agg #[.int .i64 2, .int .i64 o, .int .u32 q.l.ad, .int .u16 q.l.po, .int .u32 q.r.ad, .int .u16 q.r.po]] w (StPost Pp w0 w pb (pkT t q.l.ad)) := by
  obtain ⟨vB, vJ, rfl, hB, hJ⟩ := hr
  have HK := Lib.hid (I.ok h)
  obtain ⟨lo, hi, la, B, J⟩ := t
  obtain ⟨⟨a, p⟩, a2, p2⟩ := q
  simp only at hB hJ
  obtain ⟨W, hW⟩ : ∃ W, W = ((w.alloc (.cells (tbA lo hi la vB vJ) 32)).alloc (.cells #[.int .i64 2, .int .i64 o, .int .u32 a, .int .u16 p, .int .u32 a2, .int .u16 p2] 44)).alloc (.cells (tbA 0 0 0 (.slice none 0 0) (.slice none 0 0)) 32) := ⟨_, rfl⟩
  have HS := Lib.hid (stB Pp I w0 w g0 pb ⟨lo, hi, la, B, J⟩ h vB vJ hB hJ 2 o a p a2 p2 hW)
  have HQ := Lib.hid (And.intro hq.1 (And.intro hq.2 ho))
  have HI := Lib.hid I
  have HG0 := Lib.hid (And.intro g0 (Nat.le_trans g0.size (Nat.le_add_right _ 2)))
  have HG1 := Lib.hid (Nat.le_refl w.heap.size)
  have y0 := HS.out.i.ac.c0
  clear h hB hJ hq ho g0 I
  have c1 := HI.out.pick HS.out.i.pr HS.out.i.g.size a HQ.out.1.1
  obtain ⟨E, hE⟩ : ∃ E, E = pkE ⟨lo, hi, la, B, J⟩ a := ⟨_, rfl⟩
  obtain ⟨T', hT⟩ : ∃ T', T' = pkT ⟨lo, hi, la, B, J⟩ a := ⟨_, rfl⟩
  rw [← hE, ← hT] at c1
  obtain ⟨P, hP⟩ : ∃ P, P = pkP ⟨lo, hi, la, B, J⟩ a := ⟨_, rfl⟩
  rw [← hP] at c1
  have HE := Lib.hid hE
  have HT := Lib.hid hT
  have HP := Lib.hid hP
  have y2 := HS.out.i.ac.c2
  clear hE hT hP
  go_enter Try.func10, Try.ntmps10
  go_upto_region 2 with fail
  rw [← hW]
  have HW := Lib.hid hW
  clear hW
  go_wp2_with fail
  refine c1.mono ?_
  rintro e W1 ⟨rfl, q1, o1⟩
  have HS1 := Lib.hid (HS.out.prog q1 o1)
  clear c1 q1 o1 y0 y2 HS
  have y2 := HS1.out.i.ac.c2
  have z0 := HS1.out.i.ac.c0
  clear z0
  go_wp2_with (show wpList _ _ _ (⟨some 71, .load 32 (.tmp 4), _, _, _, _⟩ :: _) _ _; refine wpList_load_t W1 rfl _ rfl w.heap.size lo hi la vB vJ rfl HS1.out.i.tb ?_)
  refine (rPickT W1 w0.heap.size HS1.out.i.g.size _ ⟨lo, hi, la, B, J⟩ ⟨vB, vJ, rfl, HS1.out.i.hB, HS1.out.i.hJ⟩ HK.out a).mono ?_
  rintro e W2 ⟨v', rfl, r2, g2⟩
  rw [← HE.out, ← HP.out]
  have r3 : RTb W2 w0.heap.size v' T' := by rw [HT.out]; exact r2
  have HS2 := Lib.hid (HS1.out.grow HI.out g2)
  obtain ⟨lo', hi', la', B', J'⟩ := T'
  obtain ⟨vB', vJ', rfl, hB', hJ'⟩ := r3
  simp only at hB' hJ'
  have HR := Lib.hid (And.intro hB' hJ')
  clear r2 g2 hB' hJ' HS1 y2
  obtain ⟨V, hV⟩ : ∃ V, V = W2.alloc (.cells (tbA 0 0 0 (.slice none 0 0) (.slice none 0 0)) 32) := ⟨_, rfl⟩
  have gV : Grow W2 V := by rw [hV]; exact Grow.alloc _ _
  have hVb : TbB V W2.heap.size 0 0 0 (.slice none 0 0) (.slice none 0 0) := by rw [hV]; exact heap_alloc_new W2 _
  obtain ⟨X, hX⟩ : ∃ X, X = W2.heap.size := ⟨_, rfl⟩
  have hXs : w.heap.size + 3 ≤ X := by rw [hX]; exact HS2.out.i.s
  have HSV := Lib.hid (HS2.out.grow HI.out gV)
  have HRV := Lib.hid (And.intro (HR.out.1.grow gV) (HR.out.2.grow gV))
  rw [← hX] at hVb
  have HX := Lib.hid (And.intro hVb (And.intro hXs (Nat.le_trans (Nat.le_trans HG0.out.1.size (Nat.le_add_right _ 3)) hXs)))
  clear hVb hXs gV HS2
  go_wp2_with (first
    | (show wpList _ _ _ (⟨none, .store 32 (.tmp 12) (.tmp 77), _, _, _, _⟩ :: _) _ _; rw [← hV, ← hX]; refine wpList_store_t w0 V rfl _ _ rfl rfl X lo' hi' la' 0 0 0 vB' vJ' (.slice none 0 0) (.slice none 0 0) rfl rfl HX.out.1 (tb_ones HRV.out.1 HRV.out.2 _ _ _) HSV.out.i.g HX.out.2.2 ?_; intro W3 hb3 hk3 hg3; have HS3 := Lib.hid (HSV.out.side HI.out HG0.out.1 HX.out.1 hk3 hg3 HX.out.2.1); have HR3 := Lib.hid (And.intro (Bds.but_ HRV.out.1 HX.out.1 hk3) (Jds.but_ HRV.out.2 HX.out.1 hk3)); have HX3 := Lib.hid hb3; clear hb3 hk3 hg3 hV hX)
    | (show wpList _ _ _ (⟨some 80, .load 32 (.tmp 12), _, _, _, _⟩ :: _) _ _; refine wpList_load_t W3 rfl _ rfl X lo' hi' la' vB' vJ' rfl HX3.out ?_)
    | (show wpList _ _ _ (⟨none, .store 32 (.tmp 4) (.tmp 80), _, _, _, _⟩ :: _) _ _; refine wpList_store_t w0 W3 rfl _ _ rfl rfl w.heap.size lo' hi' la' lo hi la vB' vJ' vB vJ rfl rfl HS3.out.i.tb (tb_ones HR3.out.1 HR3.out.2 _ _ _) HS3.out.i.g HG0.out.1.size ?_; intro W4 hb3 hk3 hg3; have HS4 := Lib.hid (HS3.out.put (tr' := ⟨lo', hi', la', B', J'⟩) HI.out HG0.out.1 HR3.out.1 HR3.out.2 hb3 hk3 hg3); clear hb3 hk3 hg3))
  refine (ocode_any _ _).mono ?_
  rintro e w' ⟨rfl, hw⟩
  subst w'
  go_wp2_with fail
  obtain ⟨A1, c1, e1, _⟩ := HS4.out.i.hB.rd.form
  obtain ⟨A2, c2, e2, _⟩ := HS4.out.i.hJ.rd.form
  simp only at e1 e2
  subst e1 e2
  have HO9 := Lib.hid (fun x y z => tb_ones HS4.out.i.hB HS4.out.i.hJ x y z)
  refine (HI.out.len HS4.out.i.pr).mono ?_
  rintro e W9 ⟨rfl, g9⟩
  have HS9 := Lib.hid (HS4.out.grow HI.out g9)
  clear g9 HS4
  obtain ⟨n1, hn1⟩ : ∃ n, n = B'.length := ⟨_, rfl⟩
  obtain ⟨n2, hn2⟩ : ∃ n, n = J'.length := ⟨_, rfl⟩
  have HN := Lib.hid (And.intro hn1 hn2)
  simp only [← hn1, ← hn2] at HS9 HO9 ⊢
  clear hn1 hn2
  go_upto_region 23 with fail
  refine wp_region_weave (A := ?frame23) [18] (fun q => StI Pp w0 w q pb ⟨lo', hi', la', B', J'⟩ ⟨lo', hi', la', B', J'⟩ (.slice A1 n1 c1) (.slice A2 n2 c2) 2 o a p a2 p2) (inVals (isW (.agg (tbA lo' hi' la' (.slice A1 n1 c1) (.slice A2 n2 c2))) :: isW (.int .i64 E) :: isW (.int .i64 E) :: isW (.bool true) :: isW (.bool true) :: isW (.int .i64 (n1 : Int)) :: isW (.pointer (some ⟨w.heap.size, 3, none⟩)) :: isW (.slice A1 n1 c1) :: isW (.int .i64 (n1 : Int)) :: isW (.bool true) :: isW (.bool true) :: isW (.bool true) :: isW (.int .i64 (n2 : Int)) :: isW (.pointer (some ⟨w.heap.size, 4, none⟩)) :: isW (.slice A2 n2 c2) :: isW (.int .i64 (n2 : Int)) :: isW (.bool true) :: isW (.bool true) :: isAll :: isW (.bool true) :: [])) (fun j vs q => match j, vs with | 0, [] => TbB q (w.heap.size + 2) 0 0 0 (.slice none 0 0) (.slice none 0 0) | 1, [_] => TbB q (w.heap.size + 2) lo' hi' la' (.slice A1 n1 c1) (.slice A2 n2 c2) | _, _ => False) (by kernel_rfl) (by kernel_rfl) (by kernel_rfl) (by kernel_rfl) (fun x => ?frameEq23) (HS9.out.i.grow HI.out (Grow.drew _)) (HS9.out.r.grow (Grow.drew _)) ?_ ?_ ?_
  case frameEq23 => go_simp; rfl
  · refine ⟨fun _ x w1 hI hd post hp => ?_, fun _ x w1 hI hd post hp => ?_, fun _ x w1 hI hd post hp => ?_, fun _ x w1 hI hd post hp => ?_, fun _ x w1 hI hd post hp => ?_, fun _ x w1 hI hd post hp => ?_, fun _ x w1 hI hd post hp => ?_, fun _ x w1 hI hd post hp => ?_, fun _ x w1 hI hd post hp => ?_, fun _ x w1 hI hd post hp => ?_, fun _ x w1 hI hd post hp => ?_, fun _ x w1 hI hd post hp => ?_, fun _ x w1 hI hd post hp => ?_, fun _ x w1 hI hd post hp => ?_, fun _ x w1 hI hd post hp => ?_, fun _ x w1 hI hd post hp => ?_, fun _ x w1 hI hd post hp => ?_, fun _ x w1 hI hd post hp => ?_, fun hn => absurd hn (by decide), fun _ x w1 hI hd post hp => ?_, trivial⟩
    · -- 0: slot 125: Op.load 32 t4
      clear hd
      refine upon_load_t w1 _ rfl rfl w.heap.size lo' hi' la' (.slice A1 n1 c1) (.slice A2 n2 c2) rfl hI.tb ?_
      exact hp _ rfl
    · -- 1: slot 126: Op.move t8
      clear hd
      go_simp
      exact hp _ rfl
    · -- 2: slot 127: Op.move t9
      clear hd
      go_simp
      exact hp _ rfl
    · -- 3: slot 128: Op.binOp BinOp.eql 3 t126 t127 3
      have h126 : x 126 = .int .i64 E := hd 1 (by decide) (by decide) _ rfl
      have h127 : x 127 = .int .i64 E := hd 2 (by decide) (by decide) _ rfl
      clear hd
      go_simp
      exact hp _ rfl
    · -- 4: slot 129: Op.move t128
      have h128 : x 128 = .bool true := hd 3 (by decide) (by decide) _ rfl
      clear hd
      go_simp
      exact hp _ rfl
    · -- 5: slot 130: Op.move t15
      have h129 : x 129 = .bool true := hd 4 (by decide) (by decide) _ rfl
      clear hd
      go_simp
      exact hp _ rfl
    · -- 6: slot 131: Op.fieldAddr 32 t4 3
      have h129 : x 129 = .bool true := hd 4 (by decide) (by decide) _ rfl
      clear hd
      go_simp
      exact hp _ rfl
    · -- 7: slot 132: Op.load 29 t131
      have h131 : x 131 = .pointer (some ⟨w.heap.size, 3, none⟩) := hd 6 (by decide) (by decide) _ rfl
      have h129 : x 129 = .bool true := hd 4 (by decide) (by decide) _ rfl
      clear hd
      have y0 := hI.tb.c3
      go_simp
      exact hp _ rfl
    · -- 8: slot 133: Op.call { builtin len, args := #[t132], argTypes := #[29] }
      have h132 : x 132 = .slice A1 n1 c1 := hd 7 (by decide) (by decide) _ rfl
      have h129 : x 129 = .bool true := hd 4 (by decide) (by decide) _ rfl
      clear hd
      go_simp
      exact hp _ rfl
    · -- 9: slot 134: Op.binOp BinOp.eql 3 t130 t133 3
      have h130 : x 130 = .int .i64 (n1 : Int) := hd 5 (by decide) (by decide) _ rfl
      have h133 : x 133 = .int .i64 (n1 : Int) := hd 8 (by decide) (by decide) _ rfl
      have h129 : x 129 = .bool true := hd 4 (by decide) (by decide) _ rfl
      clear hd
      go_simp
      exact hp _ rfl
    · -- 10: slot 135: Op.pick t129 t134 (const (Value.bool false))
      have h129 : x 129 = .bool true := hd 4 (by decide) (by decide) _ rfl
      have h134 : x 134 = .bool true := hd 9 (by decide) (by decide) _ rfl
      clear hd
      go_simp
      exact hp _ rfl
    · -- 11: slot 136: Op.move t135
      have h135 : x 135 = .bool true := hd 10 (by decide) (by decide) _ rfl
      clear hd
      go_simp
      exact hp _ rfl
    · -- 12: slot 137: Op.move t16
      have h136 : x 136 = .bool true := hd 11 (by decide) (by decide) _ rfl
      clear hd
      go_simp
      exact hp _ rfl
    · -- 13: slot 138: Op.fieldAddr 32 t4 4
      have h136 : x 136 = .bool true := hd 11 (by decide) (by decide) _ rfl
      clear hd
      go_simp
      exact hp _ rfl
    · -- 14: slot 139: Op.load 30 t138
      have h138 : x 138 = .pointer (some ⟨w.heap.size, 4, none⟩) := hd 13 (by decide) (by decide) _ rfl
      have h136 : x 136 = .bool true := hd 11 (by decide) (by decide) _ rfl
      clear hd
      have y0 := hI.tb.c4
      go_simp
      exact hp _ rfl
    · -- 15: slot 140: Op.call { builtin len, args := #[t139], argTypes := #[30] }
      have h139 : x 139 = .slice A2 n2 c2 := hd 14 (by decide) (by decide) _ rfl
      have h136 : x 136 = .bool true := hd 11 (by decide) (by decide) _ rfl
      clear hd
      go_simp
      exact hp _ rfl
    · -- 16: slot 141: Op.binOp BinOp.eql 3 t137 t140 3
      have h137 : x 137 = .int .i64 (n2 : Int) := hd 12 (by decide) (by decide) _ rfl
      have h140 : x 140 = .int .i64 (n2 : Int) := hd 15 (by decide) (by decide) _ rfl
      have h136 : x 136 = .bool true := hd 11 (by decide) (by decide) _ rfl
      clear hd
      go_simp
      exact hp _ rfl
    · -- 17: slot 142: Op.pick t136 t141 (const (Value.bool false))
      have h136 : x 136 = .bool true := hd 11 (by decide) (by decide) _ rfl
      have h141 : x 141 = .bool true := hd 16 (by decide) (by decide) _ rfl
      clear hd
      go_simp
      exact hp _ rfl
    · -- 19: slot 7: Op.assign t142
      have h142 : x 142 = .bool true := hd 17 (by decide) (by decide) _ rfl
      clear hd
      go_simp
      exact hp _ rfl
  · refine ⟨fun x w1 hI hd hs post hp => ?_, trivial⟩
    · -- 18: slot none:0: Op.store 32 t6 t125
      have h125 : x 125 = .agg (tbA lo' hi' la' (.slice A1 n1 c1) (.slice A2 n2 c2)) := hd 0 (by decide) (by decide) _ rfl
      clear hd
      have s0 : TbB w1 (w.heap.size + 2) 0 0 0 (.slice none 0 0) (.slice none 0 0) := hs
      refine upon_cs w0 w1 rfl 32 (.tmp 6) (.tmp 125) rfl (w.heap.size + 2) 0 (.agg (tbA lo' hi' la' (.slice A1 n1 c1) (.slice A2 n2 c2))) rfl h125 (tbA lo' hi' la' (.slice A1 n1 c1) (.slice A2 n2 c2)).toList rfl 32 (tbA 0 0 0 (.slice none 0 0) (.slice none 0 0)) (tbA lo' hi' la' (.slice A1 n1 c1) (.slice A2 n2 c2)) s0 sizeTb (HO9.out lo' hi' la') (Nat.le_refl 5) rfl hI.g HG0.out.2 ?_
      intro w2 h2 hb2 g2
      exact hp _ _ (hI.side HI.out HG0.out.1 s0 hb2 g2 (Nat.le_refl _)) h2
  · intro x w1 hI hd hs
    have HW9 : Hid (StE Pp w0 w w1 pb ⟨lo', hi', la', B', J'⟩ (.slice A1 n1 c1) (.slice A2 n2 c2)) := ⟨hI.pr, hI.hB, hI.hJ, hs, hI.on⟩
    have h7 : x 7 = .bool true := hd 19 _ rfl (by decide)
    clear hd hs hI
    go_wp2_with fail
    refine bodyPost_ret (results_t2 rfl _ _ (w.heap.size + 2) lo' hi' la' (.slice A1 n1 c1) (.slice A2 n2 c2) _ rfl rfl HW9.out.r) rfl ?_
    exact ⟨_, rfl, by rw [← HT.out]; exact HW9.out.pr, by rw [← HT.out]; exact ⟨_, _, rfl, HW9.out.hB, HW9.out.hJ⟩, HW9.out.on⟩
end Go.Proofs.Ytkilfdhofbjkgaa
