/- Contract: Take of the program's box of datagrams. -/
import Derived.Test.YtkblgigpgpjjlaaUpDel
namespace Go.Proofs.Ytkblgigpgpjjlaa
set_option linter.unusedVariables false
set_option linter.unusedSimpArgs false
open Go.ChangeShapes Go.WideShapes Go.ChangeAt Go.RowKit

theorem results_m3 {fn : Func} {q u z : Tmp} (h : fn.results = #[.cell q 40, .tmp u, .tmp z]) (tmps : Array Value) (w : World) (g2 : Nat) (fa fp : Int) (v : Value) (y y' : Value) (hq : tmps.getD q undef = .pointer (some ⟨g2, 0, none⟩)) (hy : tmps.getD u undef = y) (hz : tmps.getD z undef = y') (hm : MlB w g2 fa fp v) :
    (results fn tmps).run Try.prog w = .ok (.tuple #[.agg #[.int .u32 fa, .int .u16 fp, v], y, y']) w := by
  have hq' : tmps[q]?.getD undef = .pointer (some ⟨g2, 0, none⟩) := by simpa using hq
  have e2 := run_loadVar_row w g2 40 40 #[.int .u32 fa, .int .u16 fp, v] (0, 0) _ hm Try.underlying40 rfl sizeMl
  have hy' : tmps[u]?.getD undef = y := by simpa using hy
  have hz' : tmps[z]?.getD undef = y' := by simpa using hz
  simp [results, h, hq', asAddr, e2, hy', hz']
/-- Within Take: the box's block holds vB, its row is vR. -/
structure TkS (w q : World) (pb rb : Nat) (vL : Value) (l : List Mc) (u : Ub) (vB vR : Value) (r : List Mc) (fa fp : Int) (cv : Value) : Prop where
  blk : UdB q pb u.most u.room vB u.pe.ad u.pe.po u.told u.lost
  row : Mcw q 0 vR r
  own : Owns q l
  chg : ChgS (SOf pb vL l) w q
  res : MlB q rb fa fp cv
  low : w.heap.size ≤ rb
  rlt : vR.ownBlock = vL.ownBlock
section
variable {w q q' : World} {pb rb : Nat} {vL vB vR : Value} {l r : List Mc} {u : Ub} {fa fp fa' fp' : Int} {cv cv' : Value}
theorem mlb_own_ne {base : Nat} {v : Value} {d : List UInt8} (h : MlB q rb fa fp cv) (k : Own q base v d) : v.ownBlock ≠ some rb := fun e => by
  obtain ⟨cs, q1, _⟩ := ownsRow_blk k e
  exact absurd (block_ty h q1 rfl) (by decide)
theorem TkS.ne (h : TkS w q pb rb vL l u vB vR r fa fp cv) : pb ≠ rb := fun e => by
  have h1 := h.blk
  rw [e] at h1
  exact absurd (block_ty h1 h.res rfl) (by decide)
theorem ChgS.by_ {S : Nat → Prop} {b : Nat} (h : ChgS S w q) (g : q.grownBy q' (some b)) (hb : S b ∨ w.heap.size ≤ b) : ChgS S w q' :=
  ⟨g.os.trans h.os, g.tape.trans h.tape, g.output.trans h.output, Nat.le_trans h.size g.size, fun i hi hs => (g.block i (Nat.lt_of_lt_of_le hi h.size) fun e => by
    have e : i = b := Option.some.inj e
    subst e
    rcases hb with k | k
    · exact hs k
    · omega).trans (h.block i hi hs)⟩
theorem grownBy_cell (q : World) (b i : Nat) (x : Value) : q.grownBy (q.setCell ⟨b, i, none⟩ x) (some b) :=
  ⟨rfl, rfl, rfl, by simp [World.setCell], fun k _ hk => Below.heap_setCell _ _ _ _ fun e => hk (congrArg some e)⟩
/-- What lies in the result's block. -/
theorem TkS.put (h : TkS w q pb rb vL l u vB vR r fa fp cv) (hr : vR.ownBlock ≠ some rb) (g : q.grownBy q' (some rb)) (hb : MlB q' rb fa' fp' cv') : TkS w q' pb rb vL l u vB vR r fa' fp' cv' := by
  have kb : ∀ b, b < q.heap.size → b ≠ rb → q'.heap[b]? = q.heap[b]? := fun b hb hne => g.block b hb fun e => hne (Option.some.inj e)
  exact ⟨(kb pb h.blk.lt h.ne).trans h.blk, ownsRow_other h.row fun b cs hb hh => kb b (Array.getElem?_eq_some_iff.1 hh).1 fun e => hr (by rw [← e]; exact hb), fun x hx => ownsRow_other (h.own x hx) fun b cs hb hh => kb b (Array.getElem?_eq_some_iff.1 hh).1 fun e => mlb_own_ne h.res (h.own x hx) (by rw [← e]; exact hb), h.chg.by_ g (.inr h.low), hb, h.low, h.rlt⟩
/-- The row is another one now. -/
theorem TkS.row_ {g : Nat} {v' : Value} {r' : List Mc} (h : TkS w q pb rb vL l u vB vR r fa fp cv) (hg : vL.ownBlock = some g) (hrb : g ≠ rb) (k : q.grownBy q' (some g)) (hr : Mcw q' 0 v' r') (hv : v'.ownBlock = vL.ownBlock) : TkS w q' pb rb vL l u vB v' r' fa fp cv := by
  have kb : ∀ b, b < q.heap.size → b ≠ g → q'.heap[b]? = q.heap[b]? := fun b hb hne => k.block b hb fun e => hne (Option.some.inj e)
  have hR : vR.ownBlock = some g := h.rlt.trans hg
  exact ⟨(kb pb h.blk.lt fun e => h.blk.mcw_ne h.row (by rw [e]; exact hR)).trans h.blk, hr, fun x hx => ownsRow_other (h.own x hx) fun b cs hb hh => kb b (Array.getElem?_eq_some_iff.1 hh).1 fun e => mcw_own_ne h.row (h.own x hx) hR (by rw [← e]; exact hb), h.chg.by_ k (.inl (.inr (.inl hg))), (kb rb h.res.lt (Ne.symm hrb)).trans h.res, h.low, hv⟩
/-- The box's block holds another row, or another number. -/
theorem TkS.keepB {u' : Ub} {vB' : Value} {i : Nat} {y : Value} (h : TkS w q pb rb vL l u vB vR r fa fp cv) (hb : UdB (q.setCell ⟨pb, i, none⟩ y) pb u'.most u'.room vB' u'.pe.ad u'.pe.po u'.told u'.lost) : TkS w (q.setCell ⟨pb, i, none⟩ y) pb rb vL l u' vB' vR r fa fp cv := by
  have r1 : Mcw (q.setCell ⟨pb, i, none⟩ y) 0 vR r := ownsRow_other h.row fun b cs hb _ => Below.heap_setCell _ _ _ _ fun e => h.blk.mcw_ne h.row (by
    have e : b = pb := e
    rw [← e]; exact hb)
  have r2 : Owns (q.setCell ⟨pb, i, none⟩ y) l := h.own.keep fun b hb => Below.heap_setCell _ _ _ _ fun e => by
    have e : b = pb := e
    obtain ⟨y, hy, hb⟩ := hb
    exact h.blk.own_ne (h.own y hy) (by rw [← e]; exact hb)
  exact ⟨hb, r1, r2, h.chg.by_ (grownBy_cell q pb i y) (.inl (.inl rfl)), (Below.heap_setCell _ _ _ _ (Ne.symm h.ne)).trans h.res, h.low, h.rlt⟩
theorem TkS.set2 {v : Value} (h : TkS w q pb rb vL l u vB vR r fa fp cv) : TkS w (q.setCell ⟨pb, 2, none⟩ v) pb rb vL l u v vR r fa fp cv := h.keepB (h.blk.set2 v)
theorem TkS.set5 {n : Int} (h : TkS w q pb rb vL l u vB vR r fa fp cv) : TkS w (q.setCell ⟨pb, 5, none⟩ (.int .i64 n)) pb rb vL l { u with told := n } vB vR r fa fp cv := h.keepB (h.blk.set5 n)
theorem TkS.res2 (h : TkS w q pb rb vL l u vB vR r fa fp cv) (hr : vR.ownBlock ≠ some rb) (v : Value) : TkS w (q.setCell ⟨rb, 2, none⟩ v) pb rb vL l u vB vR r fa fp v :=
  h.put hr (grownBy_cell q rb 2 v) ((heap_setCell_own (k := 2) h.res v).trans rfl)
/-- At the end: what the call leaves. -/
theorem TkS.fin (h : TkS w q pb rb vL l u vR vR r fa fp cv) (hL : r.map Mc.ml = u.L) (hs : ∀ x ∈ r, x ∈ l) : UdP w q pb vL l u :=
  ⟨vR, r, ⟨h.blk, h.row, hL, fun x hx => h.own x (hs x hx)⟩, h.chg, fun b hb => .inl (by
    rcases hb with rfl | hb | ⟨x, hx, hb⟩
    · exact .inl rfl
    · exact .inr (.inl (h.rlt.symm.trans hb))
    · exact .inr (.inr ⟨x, hs x hx, hb⟩))⟩
end
set_option maxRecDepth 10000 in
set_option maxHeartbeats 4000000 in
theorem takeP {w : World} {pb : Nat} {vL : Value} {l : List Mc} {u : Ub} (h : UdS w pb vL l u) (ok : UOk u) (n : Int) (hn : In64 n) :
    Calls Try.prog 12 #[.pointer (some ⟨pb, 0, none⟩), .int .i64 n] w fun e' w' => ∃ v, e' = .returned (.tuple #[.agg #[.int .u32 (tkuM u n).f.ad, .int .u16 (tkuM u n).f.po, v], .int .i64 (tkuN u n), .int .i64 (tkuE u n)]) ∧ Byt w' v (tkuM u n).d ∧ UdP w w' pb vL l (tkuU u n) := by
  obtain ⟨W, hW⟩ : ∃ W, W = w.alloc (.cells #[.int .u32 0, .int .u16 0, .slice none 0 0] 40) := ⟨_, rfl⟩
  have hg : Grow w W := by rw [hW]; exact Grow.alloc _ _
  obtain ⟨rb, hRB⟩ : ∃ rb, rb = w.heap.size := ⟨_, rfl⟩
  have hb : MlB W rb 0 0 (.slice none 0 0) := by rw [hW, hRB]; exact heap_alloc_new w _
  have hrr : vL.ownBlock ≠ some rb := fun e => by
    have := h.lt rb (.inr (.inl e))
    omega
  have HS : Hid (TkS w W pb rb vL l u vL vL l 0 0 (.slice none 0 0)) := ⟨h.blk.grow hg, OwG.grow h.row hg, h.own.grow hg, ChgS.of_grow hg, hb, by omega, rfl⟩
  have HRR := Lib.hid hrr
  have HLq := Lib.hid h.eq
  have c5 := HS.out.blk.c5
  have c2 := HS.out.blk.c2
  obtain ⟨A, cp, hv, hlc, hcm⟩ := RdG.form (OwG.rd h.row)
  rcases tku_cases u n with ⟨q0, q1, q2, q3, q4⟩ | ⟨q0, q1, q2, q3, q4, q5⟩ | ⟨q0, q1, q2, q3, q4, q5, q6⟩ | ⟨q0, x, L, q1, q2, q3, q4, q5, q6⟩
  · have HE := Lib.hid (And.intro q1 (And.intro q2 (And.intro q3 q4)))
    have e2 : (u.told == 0) = false := beq_eq_false_iff_ne.2 q0
    have e3 : (u.told != 0) = true := by simp [bne, e2]
    have cU := untellP (h.grow hg)
    have HS2 : Hid (TkS w (W.setCell ⟨pb, 5, none⟩ (.int .i64 0)) pb rb vL l { u with told := 0 } vL vL l 0 0 (.slice none 0 0)) := HS.out.set5
    obtain ⟨t, ht⟩ : ∃ t, t = u.told := ⟨_, rfl⟩
    rw [← ht] at c5 cU HE e2 e3
    clear h hg hb hrr hlc hcm q0 q1 q2 q3 q4 ok ht hv c2
    go_enter Try.func12, Try.ntmps12
    go_upto_region 1 with fail
    rw [← hW, ← hRB]
    have HW := Lib.hid (And.intro hW hRB)
    clear hW hRB
    go_wp2_with fail
    refine cU.mono ?_
    rintro e w2 ⟨rfl, hw2⟩
    rw [← hw2] at HS2
    clear hw2 cU c5
    go_wp2_with (show wpList _ _ _ (⟨none, .store 40 (.tmp 4) (.tmp 15), _, _, _, _⟩ :: _) _ _; refine wpList_store_old w2 rfl 40 _ _ rfl rfl rb 0 (.agg #[.int .u32 0, .int .u16 0, .slice none 0 0]) rfl rfl [.int .u32 0, .int .u16 0, .slice none 0 0] rfl 40 _ #[.int .u32 0, .int .u16 0, .slice none 0 0] HS2.out.res sizeMl (ml_ones 0 0 _ rfl) (Nat.le_refl 3) rfl ?_; intro w3 k1 k2; have H3 := Lib.hid (And.intro k1 k2); clear k1 k2)
    have H4 := Lib.hid (HS2.out.put HRR.out H3.out.2 H3.out.1)
    refine bodyPost_ret (results_m3 rfl _ _ rb 0 0 (.slice none 0 0) _ _ rfl rfl rfl H4.out.res) rfl ?_
    refine ⟨.slice none 0 0, by rw [HE.out.1, HE.out.2.1, HE.out.2.2.1]; rfl, by rw [HE.out.2.1]; exact Byt.nil _, ?_⟩
    rw [HE.out.2.2.2]
    exact H4.out.fin HLq.out fun _ h => h
  · have HE := Lib.hid (And.intro q2 (And.intro q3 (And.intro q4 q5)))
    have hl0 : l.length = 0 := by
      have := h.len
      rw [q1] at this
      exact this
    rw [q0] at c5
    rw [hv, hl0] at c2
    clear h hg hb hrr hlc hcm q0 q1 q2 q3 q4 q5 ok hv hl0
    go_enter Try.func12, Try.ntmps12
    go_upto_region 1 with fail
    rw [← hW, ← hRB]
    have HW := Lib.hid (And.intro hW hRB)
    clear hW hRB
    go_wp2_with (show wpList _ _ _ (⟨none, .store 40 (.tmp 4) (.tmp 24), _, _, _, _⟩ :: _) _ _; refine wpList_store_old W rfl 40 _ _ rfl rfl rb 0 (.agg #[.int .u32 0, .int .u16 0, .slice none 0 0]) rfl rfl [.int .u32 0, .int .u16 0, .slice none 0 0] rfl 40 _ #[.int .u32 0, .int .u16 0, .slice none 0 0] HS.out.res sizeMl (ml_ones 0 0 _ rfl) (Nat.le_refl 3) rfl ?_; intro w3 k1 k2; have H3 := Lib.hid (And.intro k1 k2); clear k1 k2)
    have H4 := Lib.hid (HS.out.put HRR.out H3.out.2 H3.out.1)
    refine bodyPost_ret (results_m3 rfl _ _ rb 0 0 (.slice none 0 0) _ _ rfl rfl rfl H4.out.res) rfl ?_
    refine ⟨.slice none 0 0, by rw [HE.out.1, HE.out.2.1, HE.out.2.2.1]; rfl, by rw [HE.out.2.1]; exact Byt.nil _, ?_⟩
    rw [HE.out.2.2.2]
    exact H4.out.fin HLq.out fun _ h => h
  · have HE := Lib.hid (And.intro q3 (And.intro q4 (And.intro q5 q6)))
    have hl0 : ¬ l.length = 0 := fun e => q1 (List.eq_nil_of_length_eq_zero (by have := h.len; omega))
    obtain ⟨N, hN⟩ : ∃ N, N = l.length := ⟨_, rfl⟩
    rw [← hN] at hv hl0
    have n0 : ((N : Int) == 0) = false := beq_eq_false_iff_ne.2 (by omega)
    have d0 : decide (n < 0) = true := decide_eq_true q2
    rw [q0] at c5
    rw [hv] at c2
    clear h hg hb hrr hlc hcm q0 q1 q2 q3 q4 q5 q6 ok hv hN
    go_enter Try.func12, Try.ntmps12
    go_upto_region 1 with fail
    rw [← hW, ← hRB]
    have HW := Lib.hid (And.intro hW hRB)
    clear hW hRB
    go_wp2_with (show wpList _ _ _ (⟨none, .store 40 (.tmp 4) (.tmp 27), _, _, _, _⟩ :: _) _ _; refine wpList_store_old W rfl 40 _ _ rfl rfl rb 0 (.agg #[.int .u32 0, .int .u16 0, .slice none 0 0]) rfl rfl [.int .u32 0, .int .u16 0, .slice none 0 0] rfl 40 _ #[.int .u32 0, .int .u16 0, .slice none 0 0] HS.out.res sizeMl (ml_ones 0 0 _ rfl) (Nat.le_refl 3) rfl ?_; intro w3 k1 k2; have H3 := Lib.hid (And.intro k1 k2); clear k1 k2)
    have H4 := Lib.hid (HS.out.put HRR.out H3.out.2 H3.out.1)
    refine bodyPost_ret (results_m3 rfl _ _ rb 0 0 (.slice none 0 0) _ _ rfl rfl rfl H4.out.res) rfl ?_
    refine ⟨.slice none 0 0, by rw [HE.out.1, HE.out.2.1, HE.out.2.2.1]; rfl, by rw [HE.out.2.1]; exact Byt.nil _, ?_⟩
    rw [HE.out.2.2.2]
    exact H4.out.fin HLq.out fun _ h => h
  · have HE := Lib.hid (And.intro q3 (And.intro q4 (And.intro q5 q6)))
    cases l with
    | nil => exact absurd (HLq.out.trans q1) (by simp)
    | cons y r =>
    have hy : y.ml = x ∧ r.map Mc.ml = L := by
      have := HLq.out.trans q1
      rw [List.map_cons] at this
      injection this with e1 e2
      exact ⟨e1, e2⟩
    have HY := Lib.hid hy
    obtain ⟨g, cp', hv', hgl⟩ := OwG.somes h.row (Nat.succ_pos _)
    subst hv'
    obtain ⟨z, hz⟩ : ∃ z : Nat, n = (z : Int) := ⟨n.toNat, by omega⟩
    have hzn : n.toNat = z := by omega
    obtain ⟨⟨ya, yp⟩, yA, yn, yc, yd⟩ := y
    have hyo : Own w 0 (.slice yA yn yc) yd := h.own _ List.mem_cons_self
    obtain ⟨hyn, hyc, hym⟩ := Byt.len (Own.byt hyo)
    unfold maxLen at hym
    have hgr : g ≠ rb := fun e => HRR.out (by rw [← e]; rfl)
    have HD := Lib.hid (And.intro hgr (And.intro hyo hyn))
    have hcells := own_cell (OwG.grow h.row hg)
    have x0 := hcells 0 _ rfl
    have x1 := hcells 1 _ rfl
    have x2 := hcells 2 _ rfl
    obtain ⟨N, hN⟩ : ∃ N, N = (⟨⟨ya, yp⟩, yA, yn, yc, yd⟩ :: r : List Mc).length := ⟨_, rfl⟩
    have hNr : N = r.length + 1 := hN
    have HC2 : Hid (∀ v, v = some (Value.slice (some ⟨g, 0, none⟩) (⟨⟨ya, yp⟩, yA, yn, yc, yd⟩ :: r : List Mc).length cp') → v = some (Value.slice (some ⟨g, 0, none⟩) N cp')) := fun v h => by rw [h, hN]
    rw [← hN] at c2
    have n0 : ¬ N = 0 := by omega
    have n1 : (0 : Int) < (N : Int) := by omega
    have HN := Lib.hid hNr
    have o1 := ok.len
    have o3 := ok.most
    have hrl : r.length ≤ 1000000 := by
      have := h.len
      rw [List.length_cons] at this
      omega
    have HRL := Lib.hid hrl
    have d0 : decide (n < 0) = false := decide_eq_false (by omega)
    obtain ⟨k, hk⟩ : ∃ k, k = min z yn := ⟨_, rfl⟩
    have hm1 : (if z < yn then (z : Int) else (yn : Int)) = (k : Int) := by split <;> omega
    have hm2 : (if yn < z then (yn : Int) else (z : Int)) = (k : Int) := by split <;> omega
    have hm3 : (if (z : Int) ≤ (yn : Int) then (z : Int) else (yn : Int)) = (k : Int) := by split <;> omega
    have hm4 : (if (yn : Int) < (z : Int) then (yn : Int) else (z : Int)) = (k : Int) := by split <;> omega
    have hk1 : k ≤ yn := by omega
    have hk2 : k ≤ yc := by omega
    have hk3 : (k : Int) ≤ (yc : Int) := by omega
    have HKz : Hid (yd.take z = yd.take k) := by
      rcases Nat.le_total z yn with e | e
      · rw [show k = z by omega]; exact Lib.hid rfl
      · rw [show k = yn by omega, hyn, List.take_length]
        exact Lib.hid (List.take_of_length_le (by omega))
    have HKy := Lib.hid hk1
    subst hz
    rw [q0] at c5
    have c3 := 0
    clear h hg hb hrr hlc hcm q0 q1 q2 q3 q4 q5 q6 ok hv hN hNr hcells hgr hyo hyn hyc hym hgl o1 o3 hrl hk hk1 hzn hy
    go_enter Try.func12, Try.ntmps12
    go_upto_region 1 with fail
    rw [← hW, ← hRB]
    have HW := Lib.hid (And.intro hW hRB)
    clear hW hRB
    go_upto_region 9 with fail
    go_wp2_with (show wpList _ _ _ (⟨none, .store 40 (.tmp 4) (.tmp 33), _, _, _, _⟩ :: _) _ _; refine wpList_store_old W rfl 40 _ _ rfl rfl rb 0 (.agg #[.int .u32 ya, .int .u16 yp, .slice yA yn yc]) rfl rfl [.int .u32 ya, .int .u16 yp, .slice yA yn yc] rfl 40 _ #[.int .u32 ya, .int .u16 yp, .slice yA yn yc] HS.out.res sizeMl (ml_ones ya yp _ rfl) (Nat.le_refl 3) rfl ?_; intro w3 k1 k2; have H3 := Lib.hid (HS.out.put HRR.out k2 k1); have b2 := HC2.out _ H3.out.blk.c2; clear k1 k2 c2 c5 x0 x1 x2)
    obtain ⟨R, hR⟩ : ∃ R, R = r.length := ⟨_, rfl⟩
    have cD : Calls Try.prog 28 #[.slice (some ⟨g, 0, none⟩) N cp', .int .i64 0, .int .i64 1] w3 fun e w' => e = .returned (.slice (some ⟨g, 0, none⟩) R cp') ∧ Mcw w' 0 (.slice (some ⟨g, 0, none⟩) R cp') r ∧ w3.grownBy w' (some g) := by
      have := delU w3 g r.length cp' _ r H3.out.row HRL.out
      rwa [← HN.out, ← hR] at this
    have HR := Lib.hid hR
    clear hR
    refine cD.mono ?_
    rintro e w4 ⟨rfl, d1, d2⟩
    have H4 := Lib.hid (H3.out.row_ (g := g) rfl HD.out.1 d2 d1 rfl)
    have e2 := H4.out.blk.c2
    have s2 := H4.out.blk.fz 2
    clear cD d1 d2 b2
    go_upto_region 11 with fail
    obtain ⟨W5, hW5⟩ : ∃ W5, W5 = w4.setCell ⟨pb, 2, none⟩ (.slice (some ⟨g, 0, none⟩) R cp') := ⟨_, rfl⟩
    have H5 := Lib.hid (H4.out.set2 (v := .slice (some ⟨g, 0, none⟩) R cp'))
    rw [← hW5] at H5 ⊢
    have HW5 := Lib.hid hW5
    have f2 := H5.out.res.c2
    have g2 : W5.frozen? ⟨rb, 2, none⟩ = false := frozen_of H5.out.res
    clear hW5 e2 s2
    go_upto_region 13 with fail
    obtain ⟨W6, hW6⟩ : ∃ W6, W6 = W5.setCell ⟨rb, 2, none⟩ (.slice yA k yc) := ⟨_, rfl⟩
    have H6 := Lib.hid (H5.out.res2 (fun e => HD.out.1 (Option.some.inj e)) (.slice yA k yc))
    rw [← hW6] at H6 ⊢
    have HW6 := Lib.hid hW6
    have j0 := H6.out.res.c0
    have j1 := H6.out.res.c1
    have j2 := H6.out.res.c2
    clear hW6 f2 g2
    go_wp2_with (show wpList _ _ _ (⟨none, .store 40 (.tmp 4) (.tmp 52), _, _, _, _⟩ :: _) _ _; refine wpList_store_old W6 rfl 40 _ _ rfl rfl rb 0 (.agg #[.int .u32 ya, .int .u16 yp, .slice yA k yc]) rfl rfl [.int .u32 ya, .int .u16 yp, .slice yA k yc] rfl 40 _ #[.int .u32 ya, .int .u16 yp, .slice yA k yc] H6.out.res sizeMl (ml_ones ya yp _ rfl) (Nat.le_refl 3) rfl ?_; intro w7 k1 k2; have H7 := Lib.hid (H6.out.put (fun e => HD.out.1 (Option.some.inj e)) k2 k1); clear k1 k2)
    refine bodyPost_ret (results_m3 rfl _ _ rb ya yp (.slice yA k yc) _ _ rfl rfl rfl H7.out.res) rfl ?_
    have hml : tkuM u (z : Int) = ⟨⟨ya, yp⟩, yd.take k⟩ := by
      rw [HE.out.2.1, ← HY.out.1]
      show (⟨⟨ya, yp⟩, yd.take ((z : Int).toNat)⟩ : Ml) = _
      rw [Int.toNat_natCast, HKz.out]
    refine ⟨.slice yA k yc, by rw [hml, HE.out.2.2.1, HE.out.1, ← HY.out.1, HD.out.2.2]; rfl, ?_, ?_⟩
    · rw [hml]
      exact Byt.front (Own.byt (H7.out.own _ List.mem_cons_self)) HKy.out
    · rw [HE.out.2.2.2]
      exact TkS.fin (u := { u with L := L }) ⟨H7.out.blk, H7.out.row, H7.out.own, H7.out.chg, H7.out.res, H7.out.low, H7.out.rlt⟩ HY.out.2 fun _ hx => List.mem_cons_of_mem _ hx
end Go.Proofs.Ytkblgigpgpjjlaa
