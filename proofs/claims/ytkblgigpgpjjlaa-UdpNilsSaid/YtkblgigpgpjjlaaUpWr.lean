/- Contracts: Peer, Tell, untell, New of the program's box of datagrams; its calls of none. -/
import Derived.Test.YtkblgigpgpjjlaaUpRd
import Derived.Test.YtkblgigpgpjjlaaWeave
namespace Go.Proofs.Ytkblgigpgpjjlaa
set_option linter.unusedVariables false
set_option linter.unusedSimpArgs false
open Go.ChangeShapes Go.WideShapes Go.ChangeAt Go.RowKit

theorem sizeEd : (Try.prog.info? 34).map (·.size) = some 2 := by kernel_rfl
theorem ed_ones (pa pp : Int) : ∀ y ∈ [Value.int .u32 pa, Value.int .u16 pp], y.oneCell' = true := fun y hy => by
  simp at hy
  rcases hy with rfl | rfl <;> rfl
theorem results_e2 {fn : Func} {p q : Tmp} (h : fn.results = #[.cell p 34, .tmp q]) (tmps : Array Value) (w : World) (g : Nat) (pa pp : Int) (y : Value) (ht : tmps.getD p undef = .pointer (some ⟨g, 0, none⟩)) (hy : tmps.getD q undef = y) (hb : w.heap[g]? = some (.cells #[.int .u32 pa, .int .u16 pp] 34 (0, 0))) :
    (results fn tmps).run Try.prog w = .ok (.tuple #[.agg #[.int .u32 pa, .int .u16 pp], y]) w := by
  have ht' : tmps[p]?.getD undef = .pointer (some ⟨g, 0, none⟩) := by simpa using ht
  have hy' : tmps[q]?.getD undef = y := by simpa using hy
  have e1 := run_loadVar_row w g 34 34 #[.int .u32 pa, .int .u16 pp] (0, 0) _ hb Try.underlying34 rfl sizeEd
  simp [results, h, ht', hy', asAddr, e1]
section
variable {w : World} {pb : Nat} {vL : Value} {l : List Mc} {u : Ub} {most room pa pp told lost : Int}
set_option maxRecDepth 10000 in
set_option maxHeartbeats 1000000 in
theorem peerP0 (h : UdB w pb most room vL pa pp told lost) : Calls Try.prog 18 #[.pointer (some ⟨pb, 0, none⟩)] w fun e w' => e = .returned (.tuple #[.agg #[.int .u32 pa, .int .u16 pp], .bool (decide ((⟨pa, pp⟩ : Ed) ≠ noE))]) ∧ Grow w w' := by
  have HR := Lib.hid (fun (q : World) (k : UdB q pb most room vL pa pp told lost) => restrP k)
  generalize decide ((⟨pa, pp⟩ : Ed) ≠ noE) = b at *
  obtain ⟨W, hW⟩ : ∃ W, W = w.alloc (.cells #[.int .u32 0, .int .u16 0] 34) := ⟨_, rfl⟩
  have hg : Grow w W := by rw [hW]; exact Grow.alloc _ _
  have hb : W.heap[w.heap.size]? = some (.cells #[.int .u32 0, .int .u16 0] 34 (0, 0)) := by rw [hW]; exact heap_alloc_new w _
  have HD := Lib.hid (And.intro (h.grow hg) (And.intro hg hb))
  have HLT : Hid (pb < w.heap.size) := h.lt
  clear h hg hb
  go_enter Try.func18, Try.ntmps18
  go_upto_region 3 with fail
  rw [← hW]
  have HW0 := Lib.hid hW
  clear hW
  refine wp_region_weave (A := ?frame3) [6] (fun q => UdB q pb most room vL pa pp told lost ∧ Grow w q) (inVals (isW (.pointer (some ⟨pb, 0, none⟩)) :: isW (.pointer (some ⟨pb, 0, none⟩)) :: isW (.pointer (some ⟨pb, 3, none⟩)) :: isW (.agg #[.int .u32 pa, .int .u16 pp]) :: isW (.pointer (some ⟨pb, 0, none⟩)) :: isW (.bool b) :: isAll :: isW (.bool b) :: [])) (fun j vs q => match j, vs with | 0, [] => q.heap[w.heap.size]? = some (.cells #[.int .u32 0, .int .u16 0] 34 (0, 0)) | 1, [_] => q.heap[w.heap.size]? = some (.cells #[.int .u32 pa, .int .u16 pp] 34 (0, 0)) | _, _ => False) (by kernel_rfl) (by kernel_rfl) (by kernel_rfl) (by kernel_rfl) (fun x => ?frameEq3) ⟨HD.out.1, HD.out.2.1.trans (Grow.drew _)⟩ HD.out.2.2 ?_ ?_ ?_
  case frameEq3 => go_simp; rfl
  · refine ⟨fun _ x w1 hI hd post hp => ?_, fun _ x w1 hI hd post hp => ?_, fun _ x w1 hI hd post hp => ?_, fun _ x w1 hI hd post hp => ?_, fun _ x w1 hI hd post hp => ?_, fun _ x w1 hI hd post hp => ?_, fun hn => absurd hn (by decide), fun _ x w1 hI hd post hp => ?_, trivial⟩
    · -- 0: slot 7: Op.move t0
      clear hd
      go_simp
      exact hp _ rfl
    · -- 1: slot 8: Op.nilCheck t7
      have h7 : x 7 = .pointer (some ⟨pb, 0, none⟩) := hd 0 (by decide) (by decide) _ rfl
      clear hd
      go_simp
      exact hp _ rfl
    · -- 2: slot 9: Op.fieldAddr 63 t8 3
      have h8 : x 8 = .pointer (some ⟨pb, 0, none⟩) := hd 1 (by decide) (by decide) _ rfl
      clear hd
      go_simp
      exact hp _ rfl
    · -- 3: slot 10: Op.load 34 t9
      have h9 : x 9 = .pointer (some ⟨pb, 3, none⟩) := hd 2 (by decide) (by decide) _ rfl
      clear hd
      have d3 := hI.1.c3
      have d4 := hI.1.c4
      go_simp
      exact hp _ rfl
    · -- 4: slot 11: Op.move t0
      clear hd
      go_simp
      exact hp _ rfl
    · -- 5: slot 12: Op.call { value (Operand.func 31), args := #[t11], argTypes := #[25] }
      have h11 : x 11 = .pointer (some ⟨pb, 0, none⟩) := hd 4 (by decide) (by decide) _ rfl
      clear hd
      go_simp
      refine (HR.out w1 hI.1).mono ?_
      rintro e w' ⟨rfl, hw⟩
      subst w'
      exact ⟨_, rfl, hp _ rfl⟩
    · -- 7: slot 3: Op.assign t12
      have h12 : x 12 = .bool b := hd 5 (by decide) (by decide) _ rfl
      clear hd
      go_simp
      exact hp _ rfl
  · refine ⟨fun x w1 hI hd hs post hp => ?_, trivial⟩
    · -- 6: slot none:0: Op.store 34 t2 t10
      have h10 : x 10 = .agg #[.int .u32 pa, .int .u16 pp] := hd 3 (by decide) (by decide) _ rfl
      clear hd
      exact upon_cs w w1 rfl 34 (.tmp 2) (.tmp 10) rfl w.heap.size 0 (.agg #[.int .u32 pa, .int .u16 pp]) rfl h10 [.int .u32 pa, .int .u16 pp] rfl 34 _ #[.int .u32 pa, .int .u16 pp] hs sizeEd (ed_ones pa pp) (Nat.le_refl 2) rfl hI.2 (Nat.le_refl _) (fun w2 h2 hb2 g2 => hp _ _ ⟨(hb2.2 pb (by have := HLT.out; omega)).trans hI.1, g2⟩ h2)
  · intro x w1 hI hd hs
    have HW : Hid (w1.heap[w.heap.size]? = some (.cells #[.int .u32 pa, .int .u16 pp] 34 (0, 0)) ∧ Grow w w1) := ⟨hs, hI.2⟩
    have h3 : x 3 = .bool b := hd 7 _ rfl (by decide)
    clear hd hs hI
    go_wp2_with fail
    refine bodyPost_ret (results_e2 rfl _ _ w.heap.size pa pp _ rfl rfl HW.out.1) rfl ?_
    exact ⟨by simp [h3], HW.out.2⟩
theorem peerP (h : UdS w pb vL l u) : Calls Try.prog 18 #[.pointer (some ⟨pb, 0, none⟩)] w fun e' w' => e' = .returned (.tuple #[.agg #[.int .u32 u.pe.ad, .int .u16 u.pe.po], .bool (decide (u.pe ≠ noE))]) ∧ Grow w w' := peerP0 h.blk
set_option maxHeartbeats 1000000 in
theorem untellP (h : UdS w pb vL l u) : Calls Try.prog 27 #[.pointer (some ⟨pb, 0, none⟩)] w fun e' w' => e' = .returned (.int .i64 u.told) ∧ w' = w.setCell ⟨pb, 5, none⟩ (.int .i64 0) := by
  have c5 := h.blk.c5
  have s5 := h.blk.fz 5
  generalize u.told = t at *
  clear h
  go_enter Try.func27, Try.ntmps27
  go_wp2_with fail
  go_ret
  exact ⟨rfl, rfl⟩
set_option maxHeartbeats 1000000 in
theorem tellP (h : UdS w pb vL l u) (n : Int) : Calls Try.prog 17 #[.pointer (some ⟨pb, 0, none⟩), .int .i64 n] w fun e' w' => e' = .returned (.tuple #[]) ∧ UdP w w' pb vL l (teU u n) := by
  have c5 := h.blk.c5
  have s5 := h.blk.fz 5
  by_cases q : u.told = 0
  · have HE : Hid (UdP w (w.setCell ⟨pb, 5, none⟩ (.int .i64 n)) pb vL l (teU u n)) := by
      unfold teU
      rw [if_pos q]
      exact UdP.cell (Grow.refl _) (h.told n) (Grow.refl _)
    rw [q] at c5
    clear h q
    go_enter Try.func17, Try.ntmps17
    go_wp2_with fail
    refine bodyPost_end (results_none rfl _ _ _) rfl ?_
    exact ⟨rfl, HE.out⟩
  · have HE : Hid (UdP w w pb vL l (teU u n)) := by
      unfold teU
      rw [if_neg q]
      exact UdP.same h (Grow.refl _)
    have e2 : (u.told == 0) = false := beq_eq_false_iff_ne.2 q
    generalize u.told = t at *
    clear h q
    go_enter Try.func17, Try.ntmps17
    go_wp2_with fail
    refine bodyPost_end (results_none rfl _ _ _) rfl ?_
    exact ⟨rfl, HE.out⟩
end
theorem newU (w : World) (most room : Int) (h1 : 1 ≤ most ∧ most ≤ 64) (h2 : 1 ≤ room ∧ room ≤ 1048576) : Calls Try.prog 8 #[.int .i64 most, .int .i64 room] w fun e w' => e = .returned (.tuple #[.pointer (some ⟨w.heap.size, 0, none⟩), .int .i64 0]) ∧ w' = w.alloc (.cells (udA most room (.slice none 0 0) 0 0 0 0) 63) := by
  have d1 : decide (most < 1) = false := decide_eq_false (by omega)
  have d2 : decide (64 < most) = false := decide_eq_false (by omega)
  have d3 : decide (room < 1) = false := decide_eq_false (by omega)
  have d4 : decide (1048576 < room) = false := decide_eq_false (by omega)
  clear h1 h2
  go_enter Try.func8, Try.ntmps8
  go_wp2_with fail
  go_ret2
  exact ⟨rfl, rfl⟩
theorem newNotU (w : World) (most room : Int) (h : ¬ ((1 ≤ most ∧ most ≤ 64) ∧ (1 ≤ room ∧ room ≤ 1048576))) : Calls Try.prog 8 #[.int .i64 most, .int .i64 room] w fun e w' => e = .returned (.tuple #[.pointer none, .int .i64 1]) ∧ Grow w w' := by
  by_cases h1 : most < 1
  · have d1 : decide (most < 1) = true := decide_eq_true h1
    clear h
    go_enter Try.func8, Try.ntmps8
    go_wp2_with fail
    go_ret2
    exact ⟨rfl, Grow.refl _⟩
  have d1 : decide (most < 1) = false := decide_eq_false h1
  by_cases h2 : 64 < most
  · have d2 : decide (64 < most) = true := decide_eq_true h2
    clear h
    go_enter Try.func8, Try.ntmps8
    go_wp2_with fail
    go_ret2
    exact ⟨rfl, Grow.refl _⟩
  have d2 : decide (64 < most) = false := decide_eq_false h2
  by_cases h3 : room < 1
  · have d3 : decide (room < 1) = true := decide_eq_true h3
    clear h
    go_enter Try.func8, Try.ntmps8
    go_wp2_with fail
    go_ret2
    exact ⟨rfl, Grow.refl _⟩
  have d3 : decide (room < 1) = false := decide_eq_false h3
  have h4 : 1048576 < room := by omega
  have d4 : decide (1048576 < room) = true := decide_eq_true h4
  clear h
  go_enter Try.func8, Try.ntmps8
  go_wp2_with fail
  go_ret2
  exact ⟨rfl, Grow.refl _⟩
theorem meetN (w : World) (e : Ed) : Calls Try.prog 15 #[.pointer none, .agg #[.int .u32 e.ad, .int .u16 e.po]] w fun e' w' => e' = .returned (.int .i64 7) ∧ Grow w w' := by
  have HG := Lib.hid ((Grow.alloc w (.cells #[.pointer none] 25)).trans (Grow.alloc _ (.cells #[.int .u32 e.ad, .int .u16 e.po] 34)))
  go_enter Try.func15, Try.ntmps15
  go_wp2_with fail
  go_ret
  exact ⟨rfl, HG.out⟩
theorem putN (w : World) (f : Ed) (A : Option Addr) (n c : Nat) : Calls Try.prog 10 #[.pointer none, .agg #[.int .u32 f.ad, .int .u16 f.po, .slice A n c]] w fun e' w' => e' = .returned (.int .i64 7) ∧ Grow w w' := by
  have HG := Lib.hid (Grow.alloc w (.cells #[.int .u32 f.ad, .int .u16 f.po, .slice A n c] 40))
  go_enter Try.func10, Try.ntmps10
  go_wp2_with fail
  go_ret
  exact ⟨rfl, HG.out⟩
theorem tellN (w : World) (n : Int) : Calls Try.prog 17 #[.pointer none, .int .i64 n] w fun e' w' => e' = .returned (.tuple #[]) ∧ Grow w w' := by
  go_enter Try.func17, Try.ntmps17
  go_wp2_with fail
  refine bodyPost_end (results_none rfl _ _ _) rfl ?_
  exact ⟨rfl, Grow.refl _⟩
theorem lenUN (w : World) : Calls Try.prog 19 #[.pointer none] w fun e' w' => e' = .returned (.int .i64 0) ∧ Grow w w' := by
  go_enter Try.func19, Try.ntmps19
  go_wp2_with fail
  go_ret
  exact ⟨rfl, Grow.refl _⟩
theorem heldUN (w : World) : Calls Try.prog 20 #[.pointer none] w fun e' w' => e' = .returned (.int .i64 0) ∧ Grow w w' := by
  go_enter Try.func20, Try.ntmps20
  go_wp2_with fail
  go_ret
  exact ⟨rfl, Grow.refl _⟩
theorem lostUN (w : World) : Calls Try.prog 22 #[.pointer none] w fun e' w' => e' = .returned (.int .i64 0) ∧ Grow w w' := by
  go_enter Try.func22, Try.ntmps22
  go_wp2_with fail
  go_ret
  exact ⟨rfl, Grow.refl _⟩
theorem readyUN (w : World) : Calls Try.prog 23 #[.pointer none] w fun e' w' => e' = .returned (.bool false) ∧ Grow w w' := by
  go_enter Try.func23, Try.ntmps23
  go_wp2_with fail
  go_ret
  exact ⟨rfl, Grow.refl _⟩
theorem peerUN (w : World) : Calls Try.prog 18 #[.pointer none] w fun e' w' => e' = .returned (.tuple #[.agg #[.int .u32 0, .int .u16 0], .bool false]) ∧ Grow w w' := by
  have hb := heap_alloc_new w (.cells #[.int .u32 0, .int .u16 0] 34)
  have HG := Lib.hid (And.intro hb (Grow.alloc w (.cells #[.int .u32 0, .int .u16 0] 34)))
  clear hb
  go_enter Try.func18, Try.ntmps18
  go_wp2_with fail
  refine bodyPost_ret (results_e2 rfl _ _ w.heap.size 0 0 _ rfl rfl HG.out.1) rfl ?_
  exact ⟨rfl, HG.out.2⟩
end Go.Proofs.Ytkblgigpgpjjlaa
