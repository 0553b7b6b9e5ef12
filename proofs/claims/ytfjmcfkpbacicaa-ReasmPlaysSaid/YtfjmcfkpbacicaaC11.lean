/- Contracts: Next, Held, Len, New. -/
import Derived.Test.YtfjmcfkpbacicaaC08
import Derived.Test.YtfjmcfkpbacicaaC10
import Derived.Test.YtfjmcfkpbacicaaC05
namespace Go.Proofs.Ytfjmcfkpbacicaa
set_option linter.unusedVariables false
set_option linter.unusedSimpArgs false
set_option maxRecDepth 10000
open Go.ChangeShapes Go.WideShapes Go.ChangeAt Go.RowKit Go.Shelf Go.MapKept

section
variable {w : World} {ops : Array Oper} {rest : List Oper} {o : Oper} {a : Act} {Q : Exit → Act → World → Prop}
theorem wpList_range_iter (hg : o.guard = none) (m : Operand) (hop : o.op = Op.range 64 m) (mb : Nat) (L : List (Nm × Nat)) (hm : a.eval m = .map (some mb)) (h : MapAt w mb L)
    (hK : ∀ w', Iter w' mb w.heap.size L → Grow w w' → wpList Try.prog ops Q rest (a.put o.dst (.pointer (some ⟨w.heap.size, 0, none⟩))) w') :
    wpList Try.prog ops Q (o :: rest) a w := by
  refine wpList_plain hg fun K' hK' => ?_
  obtain ⟨w', hrun, r1, r2⟩ := h.range
  unfold Oper.wp
  simp [execOp, hop, hm, hrun, Result.andThen]
  exact hK' _ _ (hK w' r1 r2)
theorem wpList_next_iter (hg : o.guard = none) (it : Operand) (hop : o.op = Op.next it false) (mb r : Nat) (lw : List Wp) (hit : a.eval it = .pointer (some ⟨r, 0, none⟩)) (h : Iter w mb r (lw.map pairOf))
    (hDone : lw = [] → wpList Try.prog ops Q rest (a.put o.dst (.tuple #[.bool false])) w)
    (hMore : ∀ (p : Wp) (lw' : List Wp) (w' : World), lw.Perm (p :: lw') → Iter w' mb r (lw'.map pairOf) → w.grownBy w' (some r) → (Instr.entry (.pointer (some ⟨r, 0, none⟩))).run Try.prog w' = .ok (.tuple #[nmV p.nm, pptr p]) w' →
      wpList Try.prog ops Q rest (a.put o.dst (.tuple #[.bool true, nmV p.nm, pptr p])) w') :
    wpList Try.prog ops Q (o :: rest) a w := by
  refine wpList_plain hg fun K' hK' => ?_
  unfold Oper.wp
  rcases h.next o.type with ⟨h0, hrun⟩ | ⟨j, hj, w', hrun, hit', hgr, hsz, hen⟩
  · simp [execOp, hop, hit, hrun, Result.andThen]
    exact hK' _ _ (hDone (List.map_eq_nil_iff.1 h0))
  · have hjl : j < lw.length := by simpa using hj
    have hx : (lw.map pairOf)[j] = pairOf lw[j] := List.getElem_map _
    rw [hx] at hrun hen
    rw [← ChangeMaps.map_eraseIdx] at hit'
    simp [execOp, hop, hit, hrun, Result.andThen]
    exact hK' _ _ (hMore lw[j] (lw.eraseIdx j) w' (perm_erase lw j hjl) hit' hgr hen)
end
theorem Grow.past {w w1 w2 : World} {r : Nat} (h : Grow w w1) (hr : w.heap.size ≤ r) (hg : w1.grownBy w2 (some r)) : Grow w w2 :=
  ⟨hg.os.trans h.os, hg.tape.trans h.tape, hg.output.trans h.output, Nat.le_trans h.size hg.size, fun i hi => (hg.block i (Nat.lt_of_lt_of_le hi h.size) (fun e => by cases e; omega)).trans (h.block i hi)⟩

/-- The least of all, 0 of none. -/
def MinOf (a : Int) (l : List Int) : Prop := (l = [] → a = 0) ∧ (l ≠ [] → a ∈ l) ∧ ∀ x ∈ l, a ≤ x
theorem MinOf.eq {a b : Int} {l : List Int} (h : MinOf a l) (k : MinOf b l) : a = b := by
  by_cases hl : l = []
  · rw [h.1 hl, k.1 hl]
  · have h1 := h.2.2 b (k.2.1 hl)
    have h2 := k.2.2 a (h.2.1 hl)
    omega
theorem MinOf.perm {a : Int} {l m : List Int} (h : MinOf a l) (p : l.Perm m) : MinOf a m :=
  ⟨fun e => h.1 (by subst e; exact p.eq_nil), fun e => p.mem_iff.1 (h.2.1 fun e2 => e (by subst e2; exact p.symm.eq_nil)), fun x hx => h.2.2 x (p.mem_iff.2 hx)⟩
theorem MinOf.snoc {a b : Int} {l : List Int} (h : MinOf a l) : MinOf (if l = [] ∨ b < a then b else a) (l ++ [b]) := by
  refine ⟨fun e => by simp at e, fun _ => ?_, fun x hx => ?_⟩
  · split
    · simp
    · rename_i hn
      exact List.mem_append_left _ (h.2.1 fun e => hn (.inl e))
  · rcases List.mem_append.1 hx with h1 | h1
    · have h2 := h.2.2 x h1
      split
      · rename_i hn
        rcases hn with e | e
        · subst e; cases h1
        · omega
      · exact h2
    · obtain rfl : x = b := by simpa using h1
      split
      · omega
      · rename_i hn; omega

set_option maxHeartbeats 4000000 in
theorem Next_any (w : World) (base tb : Nat) (most life : Int) (A : List Wt) (hA : TabA w base tb most life A) :
    Calls Try.prog 17 #[.pointer (some ⟨tb, 0, none⟩)] w fun e w' => ∃ a, e = .returned (.tuple #[.int .i64 a, .bool (decide (A ≠ []))]) ∧ MinOf a (A.map Wt.till) ∧ Grow w w' := by
  obtain ⟨mb, ov, L, hT, hLA, hAok⟩ := hA
  have t2 := hT.c2
  have hmap := hT.map
  have HT := Lib.hid hT
  have hB : base ≤ w.heap.size := hT.sz
  have hfin : Hid (∀ a ok (dn : List Wp), MinOf a (dn.map Wp.till) → dn.Perm L → (ok = true ↔ dn ≠ []) → MinOf a (A.map Wt.till) ∧ ok = decide (A ≠ [])) := by
    intro a ok dn hM hp hok
    have e1 : A.map Wt.till = L.map Wp.till := by rw [← hLA, List.map_map]; rfl
    refine ⟨by rw [e1]; exact hM.perm (hp.map _), ?_⟩
    have e2 : A ≠ [] ↔ dn ≠ [] := by
      rw [← hLA]
      constructor
      · intro h e; subst e; exact h (by rw [hp.symm.eq_nil]; rfl)
      · intro h e; exact h (by rw [List.map_eq_nil_iff.1 e] at hp; exact hp.eq_nil)
    cases ok with
    | true => exact (decide_eq_true (e2.2 (hok.1 rfl))).symm
    | false => exact (decide_eq_false (fun h => by have := hok.2 (e2.1 h); cases this)).symm
  clear hLA hAok hT
  go_enter Try.func17, Try.ntmps17
  go_wp2_with (at_range; refine wpList_range_iter rfl _ rfl mb (L.map pairOf) rfl hmap ?_; intro w0 hit0 hgr0)
  go_frame
  have HI0 := Lib.hid (And.intro hit0 hgr0)
  clear hit0 hgr0 hmap
  go_loopg [2, 3] L.length (fun gk s2 s3 wr => ∃ (lw dn : List Wp) (at_ : Int) (ok : Bool), gk = lw.length ∧ s2 = .int .i64 at_ ∧ s3 = .bool ok ∧ (ok = true ↔ dn ≠ []) ∧ MinOf at_ (dn.map Wp.till) ∧ (dn ++ lw).Perm L ∧ Iter wr mb w.heap.size (lw.map pairOf) ∧ Grow w wr)
  case atStart => exact ⟨L, [], 0, false, rfl, rfl, rfl, by simp, ⟨fun _ => rfl, fun h => absurd rfl h, fun x hx => by cases hx⟩, by simp, HI0.out.1, HI0.out.2⟩
  case round =>
    obtain ⟨lw, dn, at_, ok, rfl, rfl, rfl, hok, hM, hperm, hIt, hgr⟩ := hrel
    have HX := Lib.hid (And.intro hok (And.intro hM (And.intro hperm hgr)))
    clear hok hM hperm hgr
    go_wp2_with (at_next; refine wpList_next_iter rfl _ rfl mb w.heap.size lw rfl hIt ?_ ?_)
    · intro h0
      have hp := HX.out.2.2.1
      rw [h0, List.append_nil] at hp
      have HP := Lib.hid (hfin.out _ _ dn HX.out.2.1 hp HX.out.1)
      clear h0 hp
      go_wp2_with fail
      go_ret2
      obtain ⟨m1, m2⟩ := HP.out
      exact ⟨_, by rw [← m2]; rfl, m1, HX.out.2.2.2⟩
    · intro p lw' w1 hpm hIt1 hg1 hen
      have hgr1 : Grow w w1 := HX.out.2.2.2.past (Nat.le_refl _) hg1
      have hpL : p ∈ L := HX.out.2.2.1.mem_iff.1 (List.mem_append_right _ (hpm.mem_iff.2 (by simp)))
      have c0 : w1.cell? ⟨p.blk, 0, none⟩ = some (.int .i64 p.till) := (((HT.out.pk p hpL).grow hgr1 hB)).c0
      have hp2 : Hid ((dn ++ [p] ++ lw').Perm L) := (by rw [List.append_assoc]; exact (hpm.append_left dn).symm.trans HX.out.2.2.1 : (dn ++ [p] ++ lw').Perm L)
      have hlen : Hid (lw.length = lw'.length + 1) := (by have := hpm.length_eq; simpa using this : lw.length = lw'.length + 1)
      have hMs : Hid (MinOf (if dn.map Wp.till = [] ∨ p.till < at_ then p.till else at_) ((dn ++ [p]).map Wp.till)) := (by rw [List.map_append]; exact HX.out.2.1.snoc : MinOf _ _)
      have HY := Lib.hid (And.intro hIt1 hgr1)
      clear hIt1 hgr1 hpm hg1 hpL hIt
      unfold pptr at *
      cases ok with
      | false =>
        have hd : dn = [] := Classical.byContradiction fun h => absurd (HX.out.1.2 h) (by decide)
        have HM1 := Lib.hid (show MinOf p.till ((dn ++ [p]).map Wp.till) from by have := hMs.out; rw [if_pos (.inl (by rw [hd]; rfl))] at this; exact this)
        clear hd hMs
        go_wp2_with fail
        go_roundg lw'.length
        case measure => rw [hlen.out]; omega
        case rel => exact ⟨lw', dn ++ [p], _, true, rfl, rfl, rfl, by simp, HM1.out, hp2.out, HY.out.1, HY.out.2⟩
      | true =>
        have hd : dn ≠ [] := HX.out.1.1 rfl
        by_cases hlt : p.till < at_
        · have d1 : decide (p.till < at_) = true := decide_eq_true hlt
          have HM1 := Lib.hid (show MinOf p.till ((dn ++ [p]).map Wp.till) from by have := hMs.out; rw [if_pos (.inr hlt)] at this; exact this)
          clear hlt hd hMs
          go_wp2_with fail
          go_roundg lw'.length
          case measure => rw [hlen.out]; omega
          case rel => exact ⟨lw', dn ++ [p], _, true, rfl, rfl, rfl, by simp, HM1.out, hp2.out, HY.out.1, HY.out.2⟩
        · have d1 : decide (p.till < at_) = false := decide_eq_false hlt
          have HM1 := Lib.hid (show MinOf at_ ((dn ++ [p]).map Wp.till) from by have := hMs.out; rw [if_neg (fun h => h.elim (fun e => hd (List.map_eq_nil_iff.1 e)) hlt)] at this; exact this)
          clear hlt hMs
          have HD := Lib.hid hd
          clear hd
          go_wp2_with fail
          go_roundg lw'.length
          case measure => rw [hlen.out]; omega
          case rel => exact ⟨lw', dn ++ [p], _, true, rfl, rfl, rfl, by simp, HM1.out, hp2.out, HY.out.1, HY.out.2⟩

set_option maxHeartbeats 4000000 in
theorem Held_any (w : World) (base tb : Nat) (most life : Int) (A : List Wt) (hA : TabA w base tb most life A) :
    Calls Try.prog 20 #[.pointer (some ⟨tb, 0, none⟩)] w fun e w' => e = .returned (.int .i64 ((A.map fun t => cnt t.c).sum : Nat)) ∧ Grow w w' := by
  obtain ⟨mb, ov, L, hT, hLA, hAok⟩ := hA
  have t2 := hT.c2
  have hmap := hT.map
  have HT := Lib.hid hT
  have hB : base ≤ w.heap.size := hT.sz
  have hfin : Hid (∀ (dn : List Wp), dn.Perm L → (dn.map fun p => heldN p.ns).sum = (A.map fun t => cnt t.c).sum) := by
    intro dn hp
    have e1 : (A.map fun t => cnt t.c) = L.map fun p => heldN p.ns := by
      rw [← hLA, List.map_map]
      exact List.map_congr_left fun p _ => (held_cnt p.ns 0).symm
    rw [e1]
    exact (hp.map _).sum_nat
  have hbd : Hid (∀ (dn : List Wp), (∀ p ∈ dn, p ∈ L) → (dn.map fun p => heldN p.ns).sum ≤ dn.length * 65515) := by
    intro dn
    induction dn with
    | nil => intro _; simp
    | cons p r ih =>
      intro h
      have h1 := ih fun q hq => h q (by simp [hq])
      have h2 : heldN p.ns ≤ 65515 := Nat.le_trans (held_reach _ (hT.pk p (h p (by simp))).laid) (hT.pk p (h p (by simp))).top
      simp only [List.map_cons, List.sum_cons, List.length_cons]
      omega
  have hfew := hT.few
  clear hLA hAok hT
  go_enter Try.func20, Try.ntmps20
  go_wp2_with (at_range; refine wpList_range_iter rfl _ rfl mb (L.map pairOf) rfl hmap ?_; intro w0 hit0 hgr0)
  go_frame
  have HI0 := Lib.hid (And.intro hit0 hgr0)
  clear hit0 hgr0 hmap
  go_loopg [3] L.length (fun gk s3 wr => ∃ (lw dn : List Wp), gk = lw.length ∧ s3 = .int .i64 ((dn.map fun p => heldN p.ns).sum : Nat) ∧ (dn ++ lw).Perm L ∧ Iter wr mb w.heap.size (lw.map pairOf) ∧ Grow w wr)
  case atStart => exact ⟨L, [], rfl, rfl, by simp, HI0.out.1, HI0.out.2⟩
  case round =>
    obtain ⟨lw, dn, rfl, rfl, hperm, hIt, hgr⟩ := hrel
    have HX := Lib.hid (And.intro hperm hgr)
    clear hperm hgr
    go_wp2_with (at_next; refine wpList_next_iter rfl _ rfl mb w.heap.size lw rfl hIt ?_ ?_)
    · intro h0
      have hp := HX.out.1
      rw [h0, List.append_nil] at hp
      have HP := Lib.hid (hfin.out dn hp)
      clear h0 hp
      go_wp2_with fail
      go_ret
      exact ⟨by rw [← HP.out]; rfl, HX.out.2⟩
    · intro p lw' w1 hpm hIt1 hg1 hen
      have hgr1 : Grow w w1 := HX.out.2.past (Nat.le_refl _) hg1
      have hpL : p ∈ L := HX.out.1.mem_iff.1 (List.mem_append_right _ (hpm.mem_iff.2 (by simp)))
      have cH := held_any w1 base p ((HT.out.pk p hpL).grow hgr1 hB)
      have hp2 : (dn ++ [p] ++ lw').Perm L := by rw [List.append_assoc]; exact (hpm.append_left dn).symm.trans HX.out.1
      have hlen : Hid (lw.length = lw'.length + 1) := (by have := hpm.length_eq; simpa using this : lw.length = lw'.length + 1)
      have hsum : ((dn ++ [p]).map fun p => heldN p.ns).sum = (dn.map fun p => heldN p.ns).sum + heldN p.ns := by simp
      have hle := hbd.out (dn ++ [p]) fun q hq => hp2.mem_iff.1 (List.mem_append_left _ hq)
      have hl2 := hp2.length_eq
      rw [List.length_append] at hl2
      have hle2 : ((dn ++ [p]).map fun p => heldN p.ns).sum ≤ 64 * 65515 := Nat.le_trans hle (Nat.mul_le_mul_right _ (by omega))
      have HY := Lib.hid (And.intro hIt1 hgr1)
      have HP2 := Lib.hid hp2
      clear hIt1 hgr1 hpm hg1 hpL hIt hle hl2 hp2
      generalize hS1 : ((dn ++ [p]).map fun p => heldN p.ns).sum = S1 at *
      have HS1 := Lib.hid hS1
      clear hS1
      generalize (dn.map fun p => heldN p.ns).sum = S0 at *
      generalize heldN p.ns = hp at *
      have qs : (S0 : Int) + (hp : Int) = (S1 : Int) := by omega
      have q2 : (S1 : Int) ≤ 4192960 := by omega
      clear hsum hle2
      unfold pptr at *
      go_wp2_with fail
      refine cH.mono ?_
      rintro e w2 ⟨rfl, hg2⟩
      have HZ := Lib.hid (And.intro (HY.out.1.grow hg2) (HY.out.2.trans hg2))
      clear hg2 cH
      go_wp2_with fail
      go_roundg lw'.length
      case measure => rw [hlen.out]; omega
      case rel => exact ⟨lw', dn ++ [p], rfl, by rw [HS1.out], HP2.out, HZ.out.1, HZ.out.2⟩

theorem RsLen_any (w : World) (base tb : Nat) (most life : Int) (A : List Wt) (hA : TabA w base tb most life A) :
    Calls Try.prog 19 #[.pointer (some ⟨tb, 0, none⟩)] w fun e w' => e = .returned (.int .i64 (A.length : Nat)) ∧ Grow w w' := by
  obtain ⟨mb, ov, L, hT, hLA, hAok⟩ := hA
  have t2 := hT.c2
  have hl := hT.map.len 3
  have e1 : L.length = A.length := by rw [← hLA, List.length_map]
  rw [List.length_map, e1] at hl
  clear e1 hT hLA hAok
  generalize A.length = n at *
  go_enter Try.func19, Try.ntmps19
  go_wp2_with fail
  go_ret
  exact ⟨rfl, Grow.refl _⟩
theorem RsNew_bad (w : World) (most life : Int) (h : most < 1 ∨ 64 < most ∨ life < 1 ∨ 65535 < life) :
    Calls Try.prog 9 #[.int .i64 most, .int .i64 life] w fun e w' => e = .returned (.tuple #[.pointer none, .int .i64 1]) ∧ Grow w w' := by
  by_cases q1 : most < 1
  · have d1 : decide (most < 1) = true := decide_eq_true q1
    clear h q1
    go_enter Try.func9, Try.ntmps9
    go_wp2_with fail
    go_ret2
    exact ⟨rfl, Grow.refl _⟩
  have d1 : decide (most < 1) = false := decide_eq_false q1
  by_cases q2 : 64 < most
  · have d2 : decide (64 < most) = true := decide_eq_true q2
    clear h q1 q2
    go_enter Try.func9, Try.ntmps9
    go_wp2_with fail
    go_ret2
    exact ⟨rfl, Grow.refl _⟩
  have d2 : decide (64 < most) = false := decide_eq_false q2
  by_cases q3 : life < 1
  · have d3 : decide (life < 1) = true := decide_eq_true q3
    clear h q1 q2 q3
    go_enter Try.func9, Try.ntmps9
    go_wp2_with fail
    go_ret2
    exact ⟨rfl, Grow.refl _⟩
  have d3 : decide (life < 1) = false := decide_eq_false q3
  have d4 : decide (65535 < life) = true := decide_eq_true (by omega)
  clear h q1 q2 q3
  go_enter Try.func9, Try.ntmps9
  go_wp2_with fail
  go_ret2
  exact ⟨rfl, Grow.refl _⟩
theorem RsNew_any (w : World) (base : Nat) (hb : base ≤ w.heap.size) (most life : Int) (h : 1 ≤ most ∧ most ≤ 64 ∧ 1 ≤ life ∧ life ≤ 65535) :
    Calls Try.prog 9 #[.int .i64 most, .int .i64 life] w fun e w' => ∃ tb, e = .returned (.tuple #[.pointer (some ⟨tb, 0, none⟩), .int .i64 0]) ∧ TabA w' base tb most life [] ∧ Grow w w' := by
  have d1 : decide (most < 1) = false := decide_eq_false (by omega)
  have d2 : decide (64 < most) = false := decide_eq_false (by omega)
  have d3 : decide (life < 1) = false := decide_eq_false (by omega)
  have d4 : decide (65535 < life) = false := decide_eq_false (by omega)
  have hmm := @run_makeMap Try.prog
  have HH := Lib.hid h
  clear h
  go_enter Try.func9, Try.ntmps9
  go_wp2_with fail
  go_ret2
  have hs : (w.alloc (.map #[] 0)).heap.size = w.heap.size + 1 := by simp
  have g := (Grow.alloc w (.map #[] 0)).trans (Grow.alloc _ (.cells #[.int .i64 most, .int .i64 life, .map (some w.heap.size), .slice none 0 0] 67))
  have hm : ((w.alloc (.map #[] 0)).alloc (.cells #[.int .i64 most, .int .i64 life, .map (some w.heap.size), .slice none 0 0] 67)).heap[w.heap.size]? = some (.map #[] 0) := by
    rw [Below.heap_alloc _ _ _ (by simp)]
    exact (MapKept.heap_alloc w _).1
  refine ⟨w.heap.size + 1, rfl, ⟨w.heap.size, .slice none 0 0, [], ⟨?_, by omega, hb, ⟨#[], 0, hm, ⟨by simp, by simp, by simp⟩, rfl⟩, World.ownsRow_nil _ _ _ _, fun p hp => (by cases hp), List.nodup_nil, List.Pairwise.nil, List.nodup_nil, by simp, Nat.le_trans hb g.size, HH.out⟩, rfl, fun t ht => by cases ht⟩, g⟩
  have := heap_alloc_new (w.alloc (.map #[] 0)) (.cells #[.int .i64 most, .int .i64 life, .map (some w.heap.size), .slice none 0 0] 67)
  rwa [hs] at this
end Go.Proofs.Ytfjmcfkpbacicaa
/- Contract: the reference's Carried. -/
namespace Go.Proofs.Ytfjmcfkpbacicaa
set_option linter.unusedVariables false
set_option linter.unusedSimpArgs false
open Go.ChangeShapes Go.WideShapes Go.ChangeAt Go.RowKit

/-- Where the reference's scan stands: at p. -/
structure Rcar (w : World) (m0 : Option (List UInt8)) (L : List UInt8) (v : Value) (acc : List UInt8) (p f : Nat) (wr : World) : Prop where
  le : p ≤ L.length
  small : L.length - p ≤ f
  room : acc.length + (L.length - p) ≤ 40
  goes : m0 = (fscan f (L.drop p)).map (acc ++ ·)
  row : Own wr w.heap.size v acc
  grow : Grow w wr

/-- Where the filling up stands. -/
structure Rpad (w : World) (m : List UInt8) (v : Value) (j : Nat) (wr : World) : Prop where
  le : j ≤ (4 - m.length % 4) % 4
  row : Own wr w.heap.size v (m ++ List.replicate j 0)
  grow : Grow w wr

theorem cut_of_drop (l : List UInt8) (p n : Nat) : (l.take (p + n)).drop p = (l.drop p).take n := by
  rw [List.take_add, List.drop_append]
  by_cases h : p ≤ l.length
  · rw [List.drop_of_length_le (by rw [List.length_take]; omega)]
    simp [List.length_take, Nat.min_eq_left h]
  · rw [List.drop_of_length_le (by rw [List.length_take]; omega), List.drop_eq_nil_of_le (show l.length ≤ p by omega)]
    simp
theorem byt_cut {w : World} {b off c p n : Nat} {l : List UInt8} (h : Byt w (.slice (some ⟨b, off, none⟩) l.length c) l) (hn : p + n ≤ l.length) :
    (c = p → Byt w (.slice (some ⟨b, off, none⟩) n 0) ((l.drop p).take n)) ∧ (¬ c = p → Byt w (.slice (some ⟨b, off + p, none⟩) n (c - p)) ((l.drop p).take n)) := by
  have h2 := h.cut2 hn
  rw [cut_of_drop] at h2
  refine ⟨h2.1, fun e => ?_⟩
  have := h2.2 e
  have e2 : (⟨b, off, none⟩ : Addr).add p = ⟨b, off + p, none⟩ := by unfold Addr.add; split <;> simp_all
  simpa [e2] using this
theorem fopt_drop {L : List UInt8} {p : Nat} (hp : p < L.length) : fopt (L.drop p) = if L.length ≤ p + 1 then 0 else if byt L (p + 1) < 2 ∨ L.length - p < byt L (p + 1) then 0 else byt L (p + 1) := by
  unfold fopt
  rw [List.length_drop, byt_drop]
  by_cases h : L.length ≤ p + 1
  · rw [if_pos h, if_pos (by omega)]
  · rw [if_neg h, if_neg (by omega)]
set_option maxRecDepth 10000 in
set_option maxHeartbeats 8000000 in
theorem RCarried_own (v : Value) (L : List UInt8) (w : World) (h : Byt w v L) (hL : L.length ≤ 1000000) :
    Calls Try.prog 40 #[v] w fun e w' => ∃ u, e = .returned (.tuple #[u, .int .i64 (fcode L)]) ∧ Own w' w.heap.size u (fcar L) ∧ Grow w w' := by
  obtain ⟨A0, c0, rfl, hcl, hcm⟩ := h.form
  unfold maxLen at hcm
  by_cases h40 : 40 < L.length
  · obtain ⟨e1, e2⟩ := fcar_much h40
    rw [e1, e2]
    have d40 : decide ((40 : Int) < (L.length : Int)) = true := decide_eq_true (by omega)
    go_enter Try.func40, Try.ntmps40
    go_wp2_with fail
    go_ret2
    exact ⟨_, rfl, World.ownsRow_nil _ _ _ _, Grow.refl _⟩
  have hL40 : L.length ≤ 40 := by omega
  have HD := Lib.hid (fun acc => fcar_done (acc := acc) hL40)
  have HF := Lib.hid (fcar_fail hL40)
  obtain ⟨m0, hm0⟩ : ∃ m0, m0 = fscan L.length L := ⟨_, rfl⟩
  rw [← hm0] at HD HF
  have H0 : Hid (Rcar w m0 L (.slice none 0 0) [] 0 L.length w) := ⟨Nat.zero_le _, Nat.le_refl _, by simp; omega, by rw [hm0, List.drop_zero]; cases fscan L.length L <;> simp, World.ownsRow_nil _ _ _ _, Grow.refl _⟩
  have d40 : decide ((40 : Int) < (L.length : Int)) = false := decide_eq_false (by omega)
  have HB := Lib.hid h
  clear hm0 h
  go_enter Try.func40, Try.ntmps40
  go_wp2_with fail
  go_loopg [4, 5] L.length (fun g s4 s5 wr => ∃ (acc : List UInt8) (p : Nat), s5 = .int .i64 (p : Int) ∧ Rcar w m0 L s4 acc p g wr)
  case atStart => exact ⟨[], 0, rfl, H0.out⟩
  case round =>
    obtain ⟨acc, p, rfl, hp, hf, hroom, hgo, hown, hgr⟩ := hrel
    clear H0
    by_cases h0 : p = L.length
    · subst h0
      have e0 : m0 = some acc := by
        rw [hgo, List.drop_length]
        cases gk with
        | zero => simp [fscan]
        | succ g => rw [fscan, if_pos (byt_nil [] rfl)]; simp
      have HE := Lib.hid (HD.out acc e0)
      have HP : Hid (Rpad w acc _ 0 wr) := ⟨Nat.zero_le _, by simpa using hown, hgr⟩
      have hac : acc.length ≤ 40 := by omega
      clear e0 hgo hown hgr
      go_wp2_with fail
      go_loopg [4] ((4 - acc.length % 4) % 4) (fun g s4 wr => ∃ j : Nat, g = (4 - acc.length % 4) % 4 - j ∧ Rpad w acc s4 j wr)
      case atStart => exact ⟨0, rfl, HP.out⟩
      case round =>
        obtain ⟨j, rfl, hj, hown, hgr⟩ := hrel
        obtain ⟨A4, n4, c4, rfl, hn4⟩ := hown.byt.form2
        have e4 : n4 = acc.length + j := by rw [hn4.out]; simp
        have hb4 := hown.byt.len.2
        unfold maxLen at hb4
        have hn40 : n4 ≤ 1000 := by omega
        clear HP hn4
        by_cases hlt : j < (4 - acc.length % 4) % 4
        · have d4 : ((n4 : Int) % 4 != 0) = true := bne_iff_ne.2 (by omega)
          have HJ := Lib.hid (And.intro hown (And.intro hgr (And.intro hlt e4)))
          have hO1 : Own (wr.alloc (.cells #[.int .u8 0] 5)) w.heap.size (.slice A4 n4 c4) (acc ++ List.replicate j 0) := hown.grow (Grow.alloc _ _)
          have hO2 : Byt (wr.alloc (.cells #[.int .u8 0] 5)) (.slice (some ⟨wr.heap.size, 0, none⟩) 1 1) [0] := (Own.lit wr #[.int .u8 0] [0] rfl (by unfold maxLen; simp)).byt
          have hG2 : Grow w (wr.alloc (.cells #[.int .u8 0] 5)) := hgr.trans (Grow.alloc _ _)
          have hl2 : (acc ++ List.replicate j (0 : UInt8)).length + [(0 : UInt8)].length ≤ 140737488355328 := by simp; omega
          have W1 := Lib.hid (And.intro hO1 (And.intro hO2 (And.intro hG2 hl2)))
          clear hown hgr hlt e4 hO1 hO2 hG2 hl2
          go_wp2_with (at_builtin; refine wpList_app w _ rfl (.tmp 80) (.tmp 81) rfl _ _ (acc ++ List.replicate j 0) [0] rfl rfl W1.out.1 W1.out.2.2.1 W1.out.2.1 W1.out.2.2.2 ?_; intro v2 w2 ho2 hg2; have H2 := Lib.hid (And.intro ho2 hg2); clear ho2 hg2)
          obtain ⟨q1, q2, q3, q4⟩ := HJ.out
          go_roundg ((4 - acc.length % 4) % 4 - (j + 1))
          case measure => omega
          case rel => exact ⟨j + 1, rfl, by omega, by rw [List.replicate_succ', ← List.append_assoc]; exact H2.out.1, H2.out.2⟩
        · have hje : j = (4 - acc.length % 4) % 4 := by omega
          have d4 : ((n4 : Int) % 4 != 0) = false := bne_eq_false_iff_eq.2 (by omega)
          have HJ := Lib.hid (And.intro hown (And.intro hgr hje))
          clear hown hgr hlt e4 hje
          go_wp2_with fail
          go_ret2
          exact ⟨_, by rw [HE.out.1]; rfl, by rw [HE.out.2, ← HJ.out.2.2]; exact HJ.out.1, HJ.out.2.1⟩
    obtain ⟨f, rfl⟩ : ∃ j, gk = j + 1 := ⟨gk - 1, by omega⟩
    have hlt : p < L.length := by omega
    obtain ⟨b, off, rfl, hbl, hcell⟩ := HB.out.at_ (by omega)
    have Y0 : wr.cell? ⟨b, off + p, none⟩ = some (.int .u8 (byt L p : Int)) := by
      rw [hgr.cell (p := ⟨b, off + p, none⟩) hbl, ← byt_at hlt]
      exact hcell p hlt
    have y0 := byt_lt L p
    rw [fscan, byt_drop, Nat.add_zero] at hgo
    have hY1 : Hid (p + 1 < L.length → wr.cell? ⟨b, off + (p + 1), none⟩ = some (.int .u8 (byt L (p + 1) : Int))) := fun h => by
      rw [hgr.cell (p := ⟨b, off + (p + 1), none⟩) hbl, ← byt_at h]
      exact hcell (p + 1) h
    have HY := Lib.hid hcell
    obtain ⟨y, hy⟩ : ∃ y, y = byt L p := ⟨_, rfl⟩
    rw [← hy] at hgo Y0 y0
    have hltI : (p : Int) < (L.length : Int) := by omega
    clear hy hcell h0
    by_cases k0 : y = 0
    · rw [if_pos k0] at hgo
      subst k0
      have Y0' : wr.cell? ⟨b, off + p, none⟩ = some (.int .u8 0) := Y0
      have HE := Lib.hid (HD.out acc (by rw [hgo]; simp))
      have HP : Hid (Rpad w acc _ 0 wr) := ⟨Nat.zero_le _, by simpa using hown, hgr⟩
      have hac : acc.length ≤ 40 := by omega
      clear hgo hown hgr Y0 hY1 HY
      go_wp2_with fail
      go_loopg [4] ((4 - acc.length % 4) % 4) (fun g s4 wr => ∃ j : Nat, g = (4 - acc.length % 4) % 4 - j ∧ Rpad w acc s4 j wr)
      case atStart => exact ⟨0, rfl, HP.out⟩
      case round =>
        obtain ⟨j, rfl, hj, hown, hgr⟩ := hrel
        obtain ⟨A4, n4, c4, rfl, hn4⟩ := hown.byt.form2
        have e4 : n4 = acc.length + j := by rw [hn4.out]; simp
        have hb4 := hown.byt.len.2
        unfold maxLen at hb4
        have hn40 : n4 ≤ 1000 := by omega
        clear HP hn4
        by_cases hlt : j < (4 - acc.length % 4) % 4
        · have d4 : ((n4 : Int) % 4 != 0) = true := bne_iff_ne.2 (by omega)
          have HJ := Lib.hid (And.intro hown (And.intro hgr (And.intro hlt e4)))
          have hO1 : Own (wr.alloc (.cells #[.int .u8 0] 5)) w.heap.size (.slice A4 n4 c4) (acc ++ List.replicate j 0) := hown.grow (Grow.alloc _ _)
          have hO2 : Byt (wr.alloc (.cells #[.int .u8 0] 5)) (.slice (some ⟨wr.heap.size, 0, none⟩) 1 1) [0] := (Own.lit wr #[.int .u8 0] [0] rfl (by unfold maxLen; simp)).byt
          have hG2 : Grow w (wr.alloc (.cells #[.int .u8 0] 5)) := hgr.trans (Grow.alloc _ _)
          have hl2 : (acc ++ List.replicate j (0 : UInt8)).length + [(0 : UInt8)].length ≤ 140737488355328 := by simp; omega
          have W1 := Lib.hid (And.intro hO1 (And.intro hO2 (And.intro hG2 hl2)))
          clear hown hgr hlt e4 hO1 hO2 hG2 hl2
          go_wp2_with (at_builtin; refine wpList_app w _ rfl (.tmp 80) (.tmp 81) rfl _ _ (acc ++ List.replicate j 0) [0] rfl rfl W1.out.1 W1.out.2.2.1 W1.out.2.1 W1.out.2.2.2 ?_; intro v2 w2 ho2 hg2; have H2 := Lib.hid (And.intro ho2 hg2); clear ho2 hg2)
          obtain ⟨q1, q2, q3, q4⟩ := HJ.out
          go_roundg ((4 - acc.length % 4) % 4 - (j + 1))
          case measure => omega
          case rel => exact ⟨j + 1, rfl, by omega, by rw [List.replicate_succ', ← List.append_assoc]; exact H2.out.1, H2.out.2⟩
        · have hje : j = (4 - acc.length % 4) % 4 := by omega
          have d4 : ((n4 : Int) % 4 != 0) = false := bne_eq_false_iff_eq.2 (by omega)
          have HJ := Lib.hid (And.intro hown (And.intro hgr hje))
          clear hown hgr hlt e4 hje
          go_wp2_with fail
          go_ret2
          exact ⟨_, by rw [HE.out.1]; rfl, by rw [HE.out.2, ← HJ.out.2.2]; exact HJ.out.1, HJ.out.2.1⟩
    rw [if_neg k0] at hgo
    have b0 : ((y : Int) != 0) = true := bne_iff_ne.2 (by omega)
    by_cases k1 : y = 1
    · rw [if_pos k1] at hgo
      subst k1
      have Y0' : wr.cell? ⟨b, off + p, none⟩ = some (.int .u8 1) := Y0
      have HK : Hid (Rcar w m0 L _ acc (p + 1) f wr) := ⟨by omega, by omega, by omega, by rw [hgo, List.drop_drop], hown, hgr⟩
      clear hgo Y0 b0 k0 hown hY1 HY
      go_wp2_with fail
      go_roundg f
      case measure => omega
      case rel => exact ⟨acc, p + 1, by go_num, HK.out⟩
    rw [if_neg k1] at hgo
    have b1 : ((y : Int) == 1) = false := beq_eq_false_iff_ne.2 (by omega)
    rw [fopt_drop hlt] at hgo
    obtain ⟨q, hq⟩ : ∃ q, q = p + 1 := ⟨_, rfl⟩
    have eq1 : (p : Int) + 1 = (q : Int) := by omega
    obtain ⟨z, hz⟩ : ∃ z, z = L.length - p := ⟨_, rfl⟩
    have ez : (L.length : Int) - (p : Int) = (z : Int) := by omega
    have hq41 : q ≤ 41 := by omega
    have hz41 : z ≤ 40 := by omega
    rw [← hq, ← hz] at hgo
    rw [← hq] at hY1
    by_cases g1 : L.length ≤ q
    · rw [if_pos g1, if_pos rfl] at hgo
      have HE := Lib.hid (HF.out (by rw [hgo]; rfl))
      have dq : decide ((L.length : Int) ≤ (q : Int)) = true := decide_eq_true (by omega)
      have HG := Lib.hid hgr
      clear hgo hown hgr HY hY1 hq hz
      go_wp2_with fail
      go_ret2
      exact ⟨_, by rw [HE.out.1]; rfl, by rw [HE.out.2]; exact World.ownsRow_nil _ _ _ _, HG.out⟩
    rw [if_neg g1] at hgo
    have dq : decide ((L.length : Int) ≤ (q : Int)) = false := decide_eq_false (by omega)
    have Y1 := hY1.out (by omega)
    have y1 := byt_lt L q
    obtain ⟨n, hn⟩ : ∃ n, n = byt L q := ⟨_, rfl⟩
    rw [← hn] at hgo Y1 y1
    have hqI : (q : Int) < (L.length : Int) := by omega
    have hqN : q < L.length := by omega
    clear hn hY1
    by_cases g2 : n < 2
    · rw [if_pos (show n < 2 ∨ z < n from .inl g2), if_pos rfl] at hgo
      have HE := Lib.hid (HF.out (by rw [hgo]; rfl))
      have HG := Lib.hid hgr
      clear hgo hown hgr HY hq hz
      go_wp2_with fail
      go_ret2
      exact ⟨_, by rw [HE.out.1]; rfl, by rw [HE.out.2]; exact World.ownsRow_nil _ _ _ _, HG.out⟩
    by_cases g3 : z < n
    · rw [if_pos (show n < 2 ∨ z < n from .inr g3), if_pos rfl] at hgo
      have HE := Lib.hid (HF.out (by rw [hgo]; rfl))
      have HG := Lib.hid hgr
      clear hgo hown hgr HY hq hz
      go_wp2_with fail
      go_ret2
      exact ⟨_, by rw [HE.out.1]; rfl, by rw [HE.out.2]; exact World.ownsRow_nil _ _ _ _, HG.out⟩
    rw [if_neg (show ¬ (n < 2 ∨ z < n) by omega), if_neg (show ¬ n = 0 by omega)] at hgo
    obtain ⟨t, ht⟩ : ∃ t, t = p + n := ⟨_, rfl⟩
    have et : (p : Int) + (n : Int) = (t : Int) := by omega
    have ht41 : t ≤ L.length := by omega
    have htc : t ≤ c0 := by omega
    have htp : p ≤ t := by omega
    have etn : t - p = n := by omega
    have HN := Lib.hid (And.intro etn (And.intro ht (And.intro hq hz)))
    rw [List.drop_drop, ← ht] at hgo
    by_cases k8 : 128 ≤ y
    · rw [if_pos k8] at hgo
      have HK : Hid (∀ v' w', Own w' w.heap.size v' (acc ++ (L.drop p).take n) → Grow w w' → Rcar w m0 L v' (acc ++ (L.drop p).take n) t f w') := fun v' w' ho hg =>
        ⟨by omega, by omega, by rw [List.length_append, List.length_take, List.length_drop]; omega, by rw [hgo]; cases fscan f (L.drop t) <;> simp, ho, hg⟩
      have HCT := Lib.hid (byt_cut (HB.out.grow hgr) (show p + n ≤ L.length by omega))
      have hll : Hid (acc.length + ((L.drop p).take n).length ≤ 140737488355328) := by rw [List.length_take, List.length_drop]; show _ ≤ _; omega
      have HG := Lib.hid (And.intro hown hgr)
      clear hgo hown hgr HY hq hz ht etn
      by_cases hc : c0 = p
      · exact absurd hc (by omega)
      · have HC2 : Hid (Byt wr (.slice (some ⟨b, off + p, none⟩) (t - p) (c0 - p)) ((L.drop p).take n)) := by
          rw [HN.out.1]
          exact HCT.out.2 hc
        go_wp2_with (at_builtin; refine wpList_app w wr rfl (.tmp 65) (.tmp 71) rfl _ _ acc ((L.drop p).take n) rfl rfl HG.out.1 HG.out.2 HC2.out hll.out ?_; intro v2 w2 ho2 hg2; have H2 := Lib.hid (And.intro ho2 hg2); clear ho2 hg2)
        go_roundg f
        case measure => omega
        case rel => exact ⟨_, t, by go_num, HK.out _ _ H2.out.1 H2.out.2⟩
    · rw [if_neg k8] at hgo
      have HK : Hid (Rcar w m0 L _ acc t f wr) := ⟨by omega, by omega, by omega, by rw [hgo]; cases fscan f (L.drop t) <;> simp, hown, hgr⟩
      clear hgo hown hgr HY hq hz ht etn
      go_wp2_with fail
      go_roundg f
      case measure => omega
      case rel => exact ⟨acc, t, by go_num, HK.out⟩
theorem RCarried_any (v : Value) (L : List UInt8) (w : World) (h : Byt w v L) (hL : L.length ≤ 1000000) :
    Calls Try.prog 40 #[v] w fun e w' => ∃ u, e = .returned (.tuple #[u, .int .i64 (fcode L)]) ∧ Byt w' u (fcar L) ∧ Grow w w' := by
  refine (RCarried_own v L w h hL).mono ?_
  rintro e w' ⟨u, rfl, ho, hg⟩
  exact ⟨u, rfl, ho.byt, hg⟩
end Go.Proofs.Ytfjmcfkpbacicaa
/- Contract: the reference's Split, of packets that are not cut. -/
namespace Go.Proofs.Ytfjmcfkpbacicaa
set_option linter.unusedVariables false
set_option linter.unusedSimpArgs false
open Go.ChangeShapes Go.WideShapes Go.ChangeAt Go.RowKit

/-- What the reference's Split hands back. -/
def Rsplitted (w : World) (k : Pkt) (mtu : Int) (e : Ending) (w' : World) : Prop :=
  ∃ u, e = .returned (.tuple #[u, .int .i64 (fcodeS k mtu)]) ∧ Psl w' u (flist k mtu) ∧ Grow w w'
/-- One of the blocks of a packet's slices. -/
def ipHas (v : Value) (k : Pkt) (b : Nat) : Prop := ∃ (vo vd : Value), v = ipV k vo vd ∧ ((0 < k.opts.length ∧ vo.ownBlock = some b) ∨ (0 < k.data.length ∧ vd.ownBlock = some b))
def Pk.From (n : Nat) (v : Value) (k : Pkt) (q : Pk) : Prop := ∀ b, ((0 < q.k.opts.length ∧ q.vo.ownBlock = some b) ∨ (0 < q.k.data.length ∧ q.vd.ownBlock = some b)) → ipHas v k b ∨ n ≤ b
/-- And where their bytes lie: where the packet's own lie, or in new memory. -/
def RsplitLow (v : Value) (w : World) (k : Pkt) (mtu : Int) (e : Ending) (w' : World) : Prop :=
  ∃ u l, e = .returned (.tuple #[u, .int .i64 (fcodeS k mtu)]) ∧ l.map Pk.k = flist k mtu ∧ Ips w' u l ∧ (∀ q ∈ l, q.Good w' ∧ q.From w.heap.size v k) ∧ Grow w w'
theorem RsplitLow.fail {v : Value} {w w' : World} {k : Pkt} {mtu : Int} {n : Int} (h : fcodeS k mtu = n) (h2 : flist k mtu = []) (hg : Grow w w') : RsplitLow v w k mtu (.returned (.tuple #[.slice none 0 0, .int .i64 n])) w' :=
  ⟨_, [], by rw [h], by rw [h2]; rfl, Ips.nil _, fun q hq => by simp at hq, hg⟩

set_option maxHeartbeats 4000000 in
theorem RSplit_early (v : Value) (k : Pkt) (mtu : Int) (w : World) (h : Ip w v k) (hs : k.Small) (hm1 : -9223372036854775808 ≤ mtu) (hm2 : mtu ≤ 9223372036854775807) (hx : fwhy k mtu ≠ 0 ∨ (k.len : Int) ≤ mtu) :
    Calls Try.prog 22 #[v, .int .i64 mtu] w (RsplitLow v w k mtu) := by
  obtain ⟨A, c, B, d, rfl, ho, hd, hk⟩ := h.form
  have hsm := hs
  obtain ⟨hs1, hs2⟩ := hs
  have hlen : k.len ≤ 2000020 := by unfold Pkt.len; omega
  have hc9 := k.check_in
  obtain ⟨W1, hW1⟩ : ∃ W1, W1 = w.alloc (.cells #[.int .u8 (k.tos : Int), .int .u16 (k.ident : Int), .bool k.whole, .bool k.more, .int .i64 k.off, .int .u8 (k.ttl : Int), .int .u8 (k.proto : Int), .int .u32 (k.src : Int), .int .u32 (k.dst : Int), .slice A k.opts.length c, .slice B k.data.length d] 38) := ⟨_, rfl⟩
  have hg1 : Grow w W1 := by rw [hW1]; exact Grow.alloc _ _
  have hB : Blk W1 w.heap.size k (.slice A k.opts.length c) (.slice B k.data.length d) := by rw [hW1]; exact Blk.new _ _ _ _
  have hip : Ip W1 (ipV k (.slice A k.opts.length c) (.slice B k.data.length d)) k := h.grow hg1
  have T := Lib.hid (And.intro hg1 (And.intro hB (And.intro (ho.grow hg1) (And.intro (hd.grow hg1) hk))))
  have cC := RCheck_ip _ k W1 hip hsm
  have cL := fun w' (g : Grow W1 w') => RLen_any _ k w' (hip.grow g) hsm
  have cR := fun w' (g : Grow W1 w') => RCarried_any _ k.opts w' ((ho.grow hg1).grow g) hs1
  have fin : ∀ n, n = fwhy k mtu → n ≠ 0 → Hid (fcodeS k mtu = n ∧ flist k mtu = []) := fun n h hn => by
    rw [h]; rw [h] at hn; exact fsplit_why hn
  have fin0 : fwhy k mtu = 0 → (k.len : Int) ≤ mtu → Hid (fcodeS k mtu = 0 ∧ flist k mtu = [k]) := fun h1 h2 => by
    obtain ⟨q1, q2, q3⟩ := fwhy_ok h1
    obtain ⟨q4, q5, q6, q7⟩ := Pkt.check_ok q1
    refine fsplit_some h1 ?_
    unfold fgo
    rw [fpieces, if_neg (by omega), if_pos (by omega)]
  have hx' := Lib.hid hx
  have FW : fwhy k mtu = fwhy k mtu := rfl
  unfold fwhy at FW
  clear hB hip hg1 ho hd h hx
  by_cases h0 : k.check ≠ 0
  · have F := fin k.check (by unfold fwhy; rw [if_pos h0]) h0
    have d0 : (k.check != 0) = true := by simpa using h0
    clear fin fin0 cL cR h0 FW
    generalize k.check = n at *
    go_enter Try.func22, Try.ntmps22
    go_wp2_with fail
    rw [← hW1]
    refine cC.mono ?_
    rintro e w2 ⟨rfl, hg2⟩
    go_wp2_with fail
    go_ret2
    exact RsplitLow.fail F.out.1 F.out.2 (T.out.1.trans hg2)
  have h0' : k.check = 0 := by omega
  rw [h0'] at cC
  by_cases h1 : mtu < 68
  · have F := fin 1 (by unfold fwhy; rw [if_neg h0, if_pos (.inl h1)]) (by decide)
    clear fin fin0 cL cR h0 h0' FW hc9
    go_enter Try.func22, Try.ntmps22
    go_wp2_with fail
    rw [← hW1]
    refine cC.mono ?_
    rintro e w2 ⟨rfl, hg2⟩
    go_wp2_with fail
    go_ret2
    exact RsplitLow.fail F.out.1 F.out.2 (T.out.1.trans hg2)
  by_cases h2 : 65535 < mtu
  · have F := fin 1 (by unfold fwhy; rw [if_neg h0, if_pos (.inr h2)]) (by decide)
    clear fin fin0 cL cR h0 h0' FW hc9
    go_enter Try.func22, Try.ntmps22
    go_wp2_with fail
    rw [← hW1]
    refine cC.mono ?_
    rintro e w2 ⟨rfl, hg2⟩
    go_wp2_with fail
    go_ret2
    exact RsplitLow.fail F.out.1 F.out.2 (T.out.1.trans hg2)
  have h12 : ¬ (mtu < 68 ∨ 65535 < mtu) := by omega
  by_cases h3 : (k.len : Int) ≤ mtu
  · have F := fin0 (by unfold fwhy; rw [if_neg h0, if_neg h12, if_pos h3]) h3
    clear fin fin0 cR h0 h0' FW hc9 h12
    go_enter Try.func22, Try.ntmps22
    go_wp2_with fail
    rw [← hW1]
    refine cC.mono ?_
    rintro e w2 ⟨rfl, hg2⟩
    clear hW1
    obtain ⟨b0, b1, b2, b3, b4, b5, b6, b7, b8, b9, b10⟩ := (T.out.2.1.grow hg2).boxd
    have C2 := cL w2 hg2
    clear cL cC
    go_wp2_with fail
    refine C2.mono ?_
    rintro e w3 ⟨rfl, hg3⟩
    clear b0 b1 b2 b3 b4 b5 b6 b7 b8 b9 b10
    obtain ⟨b0, b1, b2, b3, b4, b5, b6, b7, b8, b9, b10⟩ := (T.out.2.1.grow (hg2.trans hg3)).boxd
    go_wp2_with fail
    go_ret2
    have hG := fun o => (hg2.trans hg3).trans (Grow.alloc w3 o)
    exact ⟨_, [⟨k, _, _⟩], by rw [F.out.1]; rfl, by rw [F.out.2]; rfl, (Iprow.lit _ ⟨k, _, _⟩ _ rfl _ rfl).ips, fun q hq => by rw [List.mem_singleton.1 hq]; exact ⟨⟨T.out.2.2.1.grow (hG _), T.out.2.2.2.1.grow (hG _), T.out.2.2.2.2⟩, fun b h => .inl ⟨_, _, rfl, h⟩⟩, T.out.1.trans (hG _)⟩
  by_cases h4 : k.whole = true
  · have F := fin 110 (by unfold fwhy; rw [if_neg h0, if_neg h12, if_neg h3, if_pos h4]) (by decide)
    have H4 := Lib.hid h4
    clear fin fin0 cR h0 h0' FW hc9 h12 h4
    go_enter Try.func22, Try.ntmps22
    go_wp2_with fail
    rw [← hW1]
    refine cC.mono ?_
    rintro e w2 ⟨rfl, hg2⟩
    clear hW1
    obtain ⟨b0, b1, b2, b3, b4, b5, b6, b7, b8, b9, b10⟩ := (T.out.2.1.grow hg2).boxd
    have C2 := cL w2 hg2
    clear cL cC
    go_wp2_with fail
    refine C2.mono ?_
    rintro e w3 ⟨rfl, hg3⟩
    clear b0 b1 b2 b3 b4 b5 b6 b7 b8 b9 b10
    obtain ⟨b0, b1, b2, b3, b4, b5, b6, b7, b8, b9, b10⟩ := (T.out.2.1.grow (hg2.trans hg3)).boxd
    rw [H4.out] at b2
    go_wp2_with fail
    go_ret2
    exact RsplitLow.fail F.out.1 F.out.2 ((T.out.1.trans hg2).trans hg3)
  have h4' : k.whole = false := by simpa using h4
  have eF : fwhy k mtu = fcode k.opts := by unfold fwhy; rw [if_neg h0, if_neg h12, if_neg h3, if_neg h4]
  have hfn : fcode k.opts ≠ 0 := by
    rcases hx'.out with hx | hx
    · rw [← eF]; exact hx
    · exact absurd hx h3
  have F := fin (fcode k.opts) eF.symm hfn
  have hc3 := fcode_in k.opts
  have H4 := Lib.hid h4'
  have dn : (fcode k.opts != 0) = true := by simpa using hfn
  clear fin fin0 h0 h0' FW hc9 h12 h4 h4' eF hfn
  go_enter Try.func22, Try.ntmps22
  go_wp2_with fail
  rw [← hW1]
  refine cC.mono ?_
  rintro e w2 ⟨rfl, hg2⟩
  clear hW1
  obtain ⟨b0, b1, b2, b3, b4, b5, b6, b7, b8, b9, b10⟩ := (T.out.2.1.grow hg2).boxd
  have C2 := cL w2 hg2
  clear cL cC
  go_wp2_with fail
  refine C2.mono ?_
  rintro e w3 ⟨rfl, hg3⟩
  clear b0 b1 b2 b3 b4 b5 b6 b7 b8 b9 b10
  obtain ⟨b0, b1, b2, b3, b4, b5, b6, b7, b8, b9, b10⟩ := (T.out.2.1.grow (hg2.trans hg3)).boxd
  rw [H4.out] at b2
  have C3 := cR w3 (hg2.trans hg3)
  clear cR
  go_wp2_with fail
  refine C3.mono ?_
  rintro e w4 ⟨u, rfl, hb4, hg4⟩
  go_wp2_with fail
  go_ret2
  exact RsplitLow.fail F.out.1 F.out.2 (((T.out.1.trans hg2).trans hg3).trans hg4)
end Go.Proofs.Ytfjmcfkpbacicaa
/- What the reference's Split keeps from round to round. -/
namespace Go.Proofs.Ytfjmcfkpbacicaa
set_option linter.unusedVariables false
set_option linter.unusedSimpArgs false
open Go.ChangeShapes Go.WideShapes Go.ChangeAt Go.RowKit

/-- append(s, x) of one packet that was just laid into its literal. -/
theorem wpList_app1 (w₆ : World) {ops : Array Oper} {rest : List Oper} {o : Oper} {a : Act} {Q : Exit → Act → World → Prop} (hgd : o.guard = none) (s x : Operand)
    (ho : o.op = .call { callee := .builtin .append, args := #[s, x], argTypes := #[41, 41] })
    (base : Nat) (v : Value) (acc : List Pk) (cs : Array Value) (q : Pk) (hs : a.eval s = v) (hx : a.eval x = .slice (some ⟨w₆.heap.size, 0, none⟩) 1 1) (hc : cs.toList = pc q) (h1 : q.One)
    (hown : Iprow w₆ base v acc) (hlen : acc.length ≤ 70000) (hbase : base ≤ w₆.heap.size)
    (h : ∀ v' w', Iprow w' base v' (acc ++ [q]) → (w₆.alloc (.cells cs 38)).grownBy w' v.ownBlock → wpList Try.prog ops Q rest (a.put o.dst v') w') : wpList Try.prog ops Q (o :: rest) a (w₆.alloc (.cells cs 38)) := by
  refine wpList_app11 _ hgd s x ho base v _ acc [q] hs hx (hown.grow (Grow.alloc _ _)) (Iprow.lit w₆ q cs hc _ rfl).ips (fun y hy => ?_) (by simp; omega) (by simp; omega) ?_
  · rw [List.mem_singleton.1 hy]; exact h1
  · intro v' w' h2 h3 _
    exact h v' w' h2 h3

/-- What is left at p. -/
def rk (c : List UInt8) (k : Pkt) (p : Nat) : Pkt := { k with opts := if p = 0 then k.opts else c, data := k.data.drop p, off := k.off + ((p / 8 : Nat) : Int) }
theorem rk_zero (c : List UInt8) (k : Pkt) : rk c k 0 = k := by
  unfold rk
  simp
theorem rk_pos (c : List UInt8) (k : Pkt) {p : Nat} (hp : 0 < p) : rk c k p = { k with opts := c, data := k.data.drop p, off := k.off + ((p / 8 : Nat) : Int) } := by
  unfold rk
  rw [if_neg (by omega)]
theorem rk_next (c : List UInt8) (k : Pkt) (m p R : Nat) (hR : R = froom m (rk c k p)) (h8 : p % 8 = 0) (hR8 : R % 8 = 0) (hR0 : 0 < R) : frest c m (rk c k p) = rk c k (p + R) := by
  rw [rk_pos c k (show 0 < p + R by omega)]
  unfold frest
  rw [← hR]
  unfold rk
  simp only [List.drop_drop]
  congr 1
  omega

/-- Where the loop stands. -/
structure Rsp (V : Value) (N : Nat) (W : World) (c : List UInt8) (m : Nat) (goal : Option (List Pkt)) (k : Pkt) (s : Value) (acc : List Pk) (p f : Nat) (wr : World) : Prop where
  low : ∀ q ∈ acc, q.From N V k
  row : Iprow wr W.heap.size s acc
  good : ∀ q ∈ acc, q.Good W
  grow : Grow W wr
  goes : (p < k.data.length ∧ p % 8 = 0 ∧ acc.length * 8 ≤ p ∧ k.data.length - p < f ∧ goal = (fpieces c m f (rk c k p)).map (acc.map Pk.k ++ ·)) ∨ (p = k.data.length ∧ goal = some (acc.map Pk.k))

theorem Blk.c9 {w : World} {g : Nat} {k : Pkt} {vo vd : Value} (h : Blk w g k vo vd) : w.cell? ⟨g, 9, none⟩ = some vo := by
  obtain ⟨_, _, _, _, _, _, _, _, _, b9, _⟩ := h.boxd
  exact b9
/-- A row's end behind an append. -/
theorem Rsp.grown {W wr wX w9 : World} {s : Value} {acc : List Pk} {o : Obj} (row : Iprow wr W.heap.size s acc) (grow : Grow W wr) (gX : Grow wr wX) (hg9 : (wX.alloc o).grownBy w9 s.ownBlock) : Grow W w9 :=
  Grow.iprow (grow.trans (gX.trans (Grow.alloc _ _))) hg9 (row.grow (gX.trans (Grow.alloc _ _)))
theorem Rsp.lmore {V : Value} {k : Pkt} {N : Nat} {acc : List Pk} {q : Pk} (h : ∀ q ∈ acc, q.From N V k) (hq : q.From N V k) : ∀ x ∈ acc ++ [q], x.From N V k := fun x hx => by
  rcases List.mem_append.1 hx with hx | hx
  · exact h x hx
  · rw [List.mem_singleton.1 hx]; exact hq
theorem Rsp.more {W : World} {acc : List Pk} {q : Pk} (h : ∀ q ∈ acc, q.Good W) (hq : q.Good W) : ∀ x ∈ acc ++ [q], x.Good W := fun x hx => by
  rcases List.mem_append.1 hx with hx | hx
  · exact h x hx
  · rw [List.mem_singleton.1 hx]; exact hq
end Go.Proofs.Ytfjmcfkpbacicaa
