/- Contract: Meet of the program's box of datagrams. -/
import Derived.Test.YtkblgigpgpjjlaaUpDf
import Derived.Test.YtkblgigpgpjjlaaState
import Derived.BigRegion
namespace Go.Proofs.Ytkblgigpgpjjlaa
set_option linter.unusedVariables false
set_option linter.unusedSimpArgs false
open Go.ChangeShapes Go.WideShapes Go.ChangeAt Go.RowKit Go.Shelf

theorem infoBp : (Try.prog.info? 25).map (·.size) = some 1 := by kernel_rfl
/-- Who is kept. -/
def outP (e : Ed) (x : Mc) : Bool := !decide (letsS e x.f)
theorem outP_letL (e : Ed) (l : List Mc) : (l.filter fun y => !outP e y).map Mc.ml = letL e (l.map Mc.ml) := by
  unfold letL
  rw [List.filter_map]
  congr 1
  refine List.filter_congr fun y _ => ?_
  show (!!decide (letsS e y.f)) = decide (letsS e y.f)
  rw [Bool.not_not]
structure AftM (wq q : World) (pb : Nat) (vL : Value) (l : List Mc) (u : Ub) (v : Value) (l' : List Mc) : Prop where
  blk : UdB q pb u.most u.room vL u.pe.ad u.pe.po u.told u.lost
  row : Mcw q 0 v l'
  own : Owns q l
  chg : ChgS (SOf pb vL l) wq q
  nb : v.ownBlock = vL.ownBlock
theorem AftM.form {wq q : World} {pb : Nat} {vL : Value} {l l' : List Mc} {u : Ub} {v : Value} (h : AftM wq q pb vL l u v l') : ∃ A n c, v = .slice A n c := by
  obtain ⟨A, c, e, _⟩ := RdG.form (OwG.rd h.row)
  exact ⟨_, _, _, e⟩
/-- Meet's statement that strikes: which operations are done, what they left. -/
structure MJ (wq : World) (pb bp : Nat) (vL : Value) (l : List Mc) (u : Ub) (e : Ed) (c4 c6 c9 : Bool) (x29 x31 : Value) (q : World) : Prop where
  ord : c6 = true → c4 = true
  ord3 : c9 = true → c6 = true
  par : q.heap[bp]? = wq.heap[bp]?
  early : c6 = false → UdS q pb vL l u ∧ Grow wq q
  e4 : c4 = true → x29 = vL
  e6 : c6 = true → c9 = false → AftM wq q pb vL l u x31 (l.filter fun y => !outP e y)
  e9 : c9 = true → UdP wq q pb vL l { u with L := letL e u.L }
section
variable {wq q w' : World} {pb bp : Nat} {vL : Value} {l : List Mc} {u : Ub} {e : Ed} {c4 c6 c9 : Bool} {x29 x31 v : Value}
theorem MJ.start (h : UdS q pb vL l u) (g : Grow wq q) (h4 : c4 = false) (h6 : c6 = false) (h9 : c9 = false) (hbp : bp < wq.heap.size) : MJ wq pb bp vL l u e c4 c6 c9 x29 x31 q :=
  ⟨nob h6, nob h9, g.block bp hbp, fun _ => ⟨h, g⟩, nob h4, nob h6, nob h9⟩
theorem MJ.n4 (h : MJ wq pb bp vL l u e c4 c6 c9 x29 x31 q) (h4 : c4 = false) : UdS q pb vL l u ∧ Grow wq q := h.early (off_of h4 h.ord)
theorem MJ.n6 (h : MJ wq pb bp vL l u e c4 c6 c9 x29 x31 q) (h6 : c6 = false) : UdS q pb vL l u ∧ Grow wq q := h.early h6
theorem MJ.l4 (h : MJ wq pb bp vL l u e c4 c6 c9 x29 x31 q) (h4 : c4 = false) : MJ wq pb bp vL l u e true c6 c9 vL x31 q :=
  ⟨fun _ => rfl, h.ord3, h.par, h.early, fun _ => rfl, h.e6, h.e9⟩
theorem MJ.l6 (h : MJ wq pb bp vL l u e c4 c6 c9 x29 x31 q) (h6 : c6 = false) (h4 : c4 = true) (hbp : bp < wq.heap.size ∧ ¬ SOf pb vL l bp) (hr : Mcw w' 0 v (l.filter fun y => !outP e y)) (hs : v.ownBlock = vL.ownBlock) (hc : ChgS (fun b => vL.ownBlock = some b) q w') : MJ wq pb bp vL l u e c4 true c9 x29 v w' := by
  have n9 := off_of h6 h.ord3
  obtain ⟨e1, e2⟩ := h.early h6
  have kb : ∀ b, b < q.heap.size → vL.ownBlock ≠ some b → w'.heap[b]? = q.heap[b]? := fun b hb hne => hc.block b hb hne
  refine ⟨fun _ => h4, fun _ => rfl, (kb bp (Nat.lt_of_lt_of_le hbp.1 e2.size) fun e => hbp.2 (.inr (.inl e))).trans h.par, fun k => ftr k.symm, h.e4, fun _ _ => ?_, nob n9⟩
  refine ⟨(kb pb e1.blk.lt (e1.blk.mcw_ne e1.row)).trans e1.blk, hr, fun x hx => ownsRow_other (e1.own x hx) fun b cs hb hh => kb b (Array.getElem?_eq_some_iff.1 hh).1 fun e => mcw_own_ne e1.row (e1.own x hx) e hb, (ChgS.of_grow e2).tr ⟨hc.os, hc.tape, hc.output, hc.size, fun i hi hs => kb i hi fun e => hs (.inr (.inl e))⟩, hs⟩
theorem MJ.l9 (h : MJ wq pb bp vL l u e c4 c6 c9 x29 x31 q) (h9 : c9 = false) (h6 : c6 = true) (hbp : bp < wq.heap.size ∧ ¬ SOf pb vL l bp) {A : Option Addr} {n c : Nat} (ex : x31 = .slice A n c) (hL : l.map Mc.ml = u.L) : MJ wq pb bp vL l u e c4 c6 true x29 x31 (q.setCell ⟨pb, 2, none⟩ (.slice A n c)) := by
  have k := h.e6 h6 h9
  have hne : bp ≠ pb := fun e => hbp.2 (.inl e)
  refine ⟨h.ord, fun _ => h6, (Below.heap_setCell _ _ _ _ hne).trans h.par, fun k => absurd (h6.symm.trans k) (by decide), h.e4, fun _ k => ftr k.symm, fun _ => ?_⟩
  subst ex
  have r1 : Mcw (q.setCell ⟨pb, 2, none⟩ (.slice A n c)) 0 (.slice A n c) (l.filter fun y => !outP e y) := ownsRow_other k.row fun b cs hb _ => Below.heap_setCell _ _ _ _ fun e => k.blk.mcw_ne k.row (by
    have e : b = pb := e
    rw [← e]; exact hb)
  have r2 : Owns (q.setCell ⟨pb, 2, none⟩ (.slice A n c)) l := k.own.keep fun b hb => Below.heap_setCell _ _ _ _ fun e => by
    have e : b = pb := e
    obtain ⟨y, hy, hb⟩ := hb
    exact k.blk.own_ne (k.own y hy) (by rw [← e]; exact hb)
  have hsub : ∀ x ∈ l.filter (fun y => !outP e y), x ∈ l := fun x hx => (List.mem_filter.1 hx).1
  refine ⟨_, _, ⟨k.blk.set2 _, r1, by rw [outP_letL, hL], fun x hx => r2 x (hsub x hx)⟩, k.chg.tr (ChgS.set (.inl rfl) _), fun b hb => .inl ?_⟩
  rcases hb with rfl | hb | ⟨x, hx, hb⟩
  · exact .inl rfl
  · exact .inr (.inl (k.nb.symm.trans hb))
  · exact .inr (.inr ⟨x, hsub x hx, hb⟩)
end
theorem pred_out {pb bp g : Nat} {most room told lost : Int} {vL : Value} {e : Ed} (h1 : g ≠ bp) (h2 : g ≠ pb) : Pred (fun q => q.heap[bp]? = some (.cells #[.pointer (some ⟨pb, 0, none⟩)] 25 (0, 0)) ∧ UdB q pb most room vL e.ad e.po told lost) (outP e) bp g :=
  ⟨fun q x ⟨a, b⟩ => meet1P a b x, fun q q' ⟨a, b⟩ k => ⟨(k.block bp (Array.getElem?_eq_some_iff.1 a).1).trans a, b.grow k⟩, fun q q' ⟨a, b⟩ k => ⟨(k.block bp (Array.getElem?_eq_some_iff.1 a).1 fun e => h1 (Option.some.inj e).symm).trans a, (k.block pb b.lt fun e => h2 (Option.some.inj e).symm).trans b⟩⟩
theorem UdS.peer {q q' : World} {pb : Nat} {vL : Value} {l : List Mc} {u : Ub} {a p : Int} (h : UdS q pb vL l u) (hb : q'.heap[pb]? = some (.cells (udA u.most u.room vL a p u.told u.lost) 63 (0, 0))) (g : q.grownBy q' (some pb)) : UdS q' pb vL l { u with pe := ⟨a, p⟩ } := by
  have kb : ∀ b, b < q.heap.size → b ≠ pb → q'.heap[b]? = q.heap[b]? := fun b hb hne => g.block b hb fun e => hne (Option.some.inj e)
  exact ⟨hb, ownsRow_other h.row fun b cs hb hh => kb b (Array.getElem?_eq_some_iff.1 hh).1 fun e => h.blk.mcw_ne h.row (by rw [← e]; exact hb), h.eq, fun x hx => ownsRow_other (h.own x hx) fun b cs hb hh => kb b (Array.getElem?_eq_some_iff.1 hh).1 fun e => h.blk.own_ne (h.own x hx) (by rw [← e]; exact hb)⟩
set_option maxRecDepth 10000 in
set_option maxHeartbeats 4000000 in
theorem meetP {w : World} {pb : Nat} {vL : Value} {l : List Mc} {u : Ub} (h : UdS w pb vL l u) (ok : UOk u) (hf : FewU u) (e : Ed) :
    Calls Try.prog 15 #[.pointer (some ⟨pb, 0, none⟩), .agg #[.int .u32 e.ad, .int .u16 e.po]] w fun e' w' => e' = .returned (.int .i64 (meE e)) ∧ UdP w w' pb vL l (meU u e) := by
  obtain ⟨bp, hBP⟩ : ∃ bp, bp = w.heap.size := ⟨_, rfl⟩
  obtain ⟨ep, hEP⟩ : ∃ ep, ep = w.heap.size + 1 := ⟨_, rfl⟩
  obtain ⟨W0, hW0⟩ : ∃ W0, W0 = w.alloc (.cells #[.pointer (some ⟨pb, 0, none⟩)] 25) := ⟨_, rfl⟩
  obtain ⟨ea, eo⟩ := e
  obtain ⟨W, hW⟩ : ∃ W, W = (w.alloc (.cells #[.pointer (some ⟨pb, 0, none⟩)] 25)).alloc (.cells #[.int .u32 ea, .int .u16 eo] 34) := ⟨_, rfl⟩
  have g0 : Grow w W0 := by rw [hW0]; exact Grow.alloc _ _
  have s0 : W0.heap.size = w.heap.size + 1 := by rw [hW0]; exact Array.size_push _
  have hb0 : W0.heap[bp]? = some (.cells #[.pointer (some ⟨pb, 0, none⟩)] 25 (0, 0)) := by rw [hW0, hBP]; exact heap_alloc_new w _
  have hW' : W = W0.alloc (.cells #[.int .u32 ea, .int .u16 eo] 34) := by rw [hW, hW0]
  have g1 : Grow W0 W := by rw [hW']; exact Grow.alloc _ _
  have hg := g0.trans g1
  have hbp : W.heap[bp]? = some (.cells #[.pointer (some ⟨pb, 0, none⟩)] 25 (0, 0)) := (g1.block bp (by omega)).trans hb0
  have hbe : W.heap[ep]? = some (.cells #[.int .u32 ea, .int .u16 eo] 34 (0, 0)) := by rw [hW', hEP, ← s0]; exact heap_alloc_new W0 _
  have z0 : W.cell? ⟨ep, 0, none⟩ = some (.int .u32 ea) := (cell_of_row W _ 0 _ _ _ hbe).trans rfl
  have z1 : W.cell? ⟨ep, 1, none⟩ = some (.int .u16 eo) := (cell_of_row W _ 1 _ _ _ hbe).trans rfl
  have y3 : W.cell? ⟨bp, 0, none⟩ = some (.pointer (some ⟨pb, 0, none⟩)) := (cell_of_row W _ 0 _ _ _ hbp).trans rfl
  clear hW0 hW' g0 g1 hb0 s0
  by_cases hbad : badE ⟨ea, eo⟩
  · have HE : Hid (meE ⟨ea, eo⟩ = 8 ∧ meU u ⟨ea, eo⟩ = u) := ⟨if_pos hbad, if_pos hbad⟩
    have H9 : Hid (UdP w W pb vL l u) := UdP.same (h.grow hg) hg
    obtain ⟨b1, b2⟩ := hbad
    have b2 : ¬ ea = 0 := b2
    obtain rfl : eo = 0 := b1
    have b3 : (ea == 0) = false := beq_eq_false_iff_ne.2 b2
    have b4 : (ea != 0) = true := by simp [bne, b3]
    clear h ok hf hg hbp hbe b2
    go_enter Try.func15, Try.ntmps15
    go_upto_region 1 with fail
    rw [← hW, ← hEP, ← hBP]
    have HW := Lib.hid (And.intro hW (And.intro hBP hEP))
    clear hW hBP hEP
    go_wp2_with fail
    go_ret
    exact ⟨by rw [HE.out.1]; rfl, by rw [HE.out.2]; exact H9.out⟩
  · have HE : Hid (meE ⟨ea, eo⟩ = 0 ∧ meU u ⟨ea, eo⟩ = { u with pe := ⟨ea, eo⟩, L := letL ⟨ea, eo⟩ u.L, lost := u.lost + ((u.L.length - (letL ⟨ea, eo⟩ u.L).length : Nat) : Int) }) := ⟨if_neg hbad, if_neg hbad⟩
    have hbS : ¬ SOf pb vL l bp := fun k => by
      have := h.lt bp k
      omega
    have hpl := h.blk.lt
    obtain ⟨A, cp, hv, -⟩ := RdG.form (OwG.rd h.row)
    obtain ⟨N, hN⟩ : ∃ N, N = l.length := ⟨_, rfl⟩
    rw [← hN] at hv
    have hNu : N = u.L.length := by rw [hN, h.len]
    have HN := Lib.hid hNu
    have HN64 : Hid (N ≤ 64) := Lib.hid (by have := ok.len; have := ok.most; omega)
    have HLL : Hid (l.length ≤ 1000) := Lib.hid (by have := ok.len; have := ok.most; omega)
    have HGb : Hid (∃ g, (∀ b, (Value.slice A N cp).ownBlock = some b → b = g) ∧ g ≠ bp ∧ g ≠ pb) := by
      cases A with
      | none => exact ⟨bp + pb + 1, fun b hb => (by cases hb), by omega, by omega⟩
      | some a =>
        refine ⟨a.block, fun b hb => (Option.some.inj hb).symm, fun e => ?_, fun e => ?_⟩
        · exact hbS (.inr (.inl (by rw [hv, ← e]; rfl)))
        · exact h.blk.mcw_ne h.row (by rw [hv, ← e]; rfl)
    obtain ⟨g, HGb⟩ := HGb.out
    have HGb := Lib.hid HGb
    subst hv
    have HU := Lib.hid (h.grow hg)
    have HG := Lib.hid hg
    have HF := Lib.hid hf
    have HBX0 := Lib.hid hbS
    have HBX3 : Hid (∀ q, W.grownBy q (some pb) → q.heap[bp]? = some (.cells #[.pointer (some ⟨pb, 0, none⟩)] 25 (0, 0))) := fun q k => (k.block bp (Array.getElem?_eq_some_iff.1 hbp).1 fun e => hbS (.inl (Option.some.inj e))).trans hbp
    have HBX2 : Hid (∀ q, W.grownBy q (some pb) → q.cell? ⟨bp, 0, none⟩ = some (.pointer (some ⟨pb, 0, none⟩))) := fun q k => (cell_of_row q bp 0 _ _ _ (HBX3.out q k)).trans rfl
    clear h ok hf hg hbp hbe hbS hpl hN hNu
    by_cases q0 : eo = 0
    · obtain rfl : ea = 0 := Classical.byContradiction fun k => hbad ⟨q0, k⟩
      subst q0
      clear hbad
      go_enter Try.func15, Try.ntmps15
      go_upto_region 1 with fail
      rw [← hW, ← hEP, ← hBP]
      have HW := Lib.hid (And.intro hW (And.intro hBP hEP))
      clear hW hBP hEP
      go_upto_region 5 with fail
      go_wp2_with (show wpList _ _ _ (⟨none, .store 34 (.tmp 19) (.tmp 17), _, _, _, _⟩ :: _) _ _; refine wpList_store_old W rfl 34 _ _ rfl rfl pb 3 (.agg #[.int .u32 0, .int .u16 0]) rfl rfl [.int .u32 0, .int .u16 0] rfl 63 _ (udA u.most u.room (.slice A N cp) 0 0 u.told u.lost) HU.out.blk sizeEd (ed_ones 0 0) (show 5 ≤ 7 from by decide) rfl ?_; intro wq k1 k2; have HU6 := Lib.hid (HU.out.peer k1 k2); have HQ := Lib.hid k2; have d2 := HU6.out.blk.c2; have y0 := HBX2.out wq k2; clear k1 k2 z0 z1 y3)
      have HP : Hid (wq.heap[bp]? = some (.cells #[.pointer (some ⟨pb, 0, none⟩)] 25 (0, 0))) := HBX3.out wq HQ.out
      have HBX : Hid (bp < wq.heap.size ∧ ¬ SOf pb (.slice A N cp) l bp) := ⟨(Array.getElem?_eq_some_iff.1 HP.out).1, HBX0.out⟩
      obtain ⟨u1, hu1⟩ : ∃ u1 : Ub, u1 = { u with pe := ⟨0, 0⟩ } := ⟨_, rfl⟩
      rw [← hu1] at HU6
      have HU1 := Lib.hid hu1
      have HLq := Lib.hid HU6.out.eq
      have HDF : Hid (∀ w1, Grow wq w1 → Calls Try.prog 29 #[.slice A N cp, .func (.func 30) #[] #[.pointer (some ⟨bp, 0, none⟩)]] w1 fun e w' => ∃ v', e = .returned v' ∧ Mcw w' 0 v' (l.filter fun y => !outP ⟨0, 0⟩ y) ∧ v'.ownBlock = (Value.slice A N cp).ownBlock ∧ ChgS (fun b => (Value.slice A N cp).ownBlock = some b) w1 w') := fun w1 k => by
        refine delFU (pred_out (e := ⟨0, 0⟩) (most := u1.most) (room := u1.room) (told := u1.told) (lost := u1.lost) (vL := .slice A N cp) HGb.out.2.1 HGb.out.2.2) w1 _ l (HU6.out.grow k).row HGb.out.1 HLL.out ⟨(k.block bp HBX.out.1).trans HP.out, ?_⟩
        have q := (HU6.out.grow k).blk
        rw [HU1.out] at q ⊢
        exact q
      clear hu1 HBX2
      go_upto_region 7 with fail
      clear d2 y0
      refine wp_region_state (A := ?frameS7) (inVals4 (isW4 (.pointer (some ⟨pb, 0, none⟩)) :: isW4 (.pointer (some ⟨pb, 0, none⟩)) :: isW4 (.pointer (some ⟨pb, 0, none⟩)) :: isW4 (.pointer (some ⟨pb, 2, none⟩)) :: isAll4 :: isW4 (.func (.func 30) #[] #[.pointer (some ⟨bp, 0, none⟩)]) :: isAll4 :: isW4 (.pointer (some ⟨pb, 0, none⟩)) :: isW4 (.pointer (some ⟨pb, 2, none⟩)) :: isAll4 :: [])) (fun L x q => MJ wq pb bp (.slice A N cp) l u1 ⟨0, 0⟩ (L 4) (L 6) (L 9) (x 29) (x 31) q) (by kernel_rfl) (by kernel_rfl) (fun x => ?frameEqS7) (fun L x hL => ?_) ?_ ?_
      case frameEqS7 => go_simp; rfl
      · exact MJ.start (HU6.out.grow (Grow.drew _)) (Grow.drew _) (hL 4 (by decide)) (hL 6 (by decide)) (hL 9 (by decide)) (Array.getElem?_eq_some_iff.1 HP.out).1
      · refine ⟨fun L x w1 hJ hl hd post hp => ?_, fun L x w1 hJ hl hd post hp => ?_, fun L x w1 hJ hl hd post hp => ?_, fun L x w1 hJ hl hd post hp => ?_, fun L x w1 hJ hl hd post hp => ?_, fun L x w1 hJ hl hd post hp => ?_, fun L x w1 hJ hl hd post hp => ?_, fun L x w1 hJ hl hd post hp => ?_, fun L x w1 hJ hl hd post hp => ?_, fun L x w1 hJ hl hd post hp => ?_, trivial⟩
        · -- 0: slot 25: Op.load 25 t2
          clear hd
          have y0 := (cell_of_row w1 bp 0 _ _ _ (hJ.par.trans HP.out)).trans rfl
          go_simp
          exact hp _ _ rfl hJ
        · -- 1: slot 26: Op.load 25 t2
          clear hd
          have y0 := (cell_of_row w1 bp 0 _ _ _ (hJ.par.trans HP.out)).trans rfl
          go_simp
          exact hp _ _ rfl hJ
        · -- 2: slot 27: Op.nilCheck t26
          have h26 : x 26 = .pointer (some ⟨pb, 0, none⟩) := (hd 1 (by decide)).2 _ rfl
          clear hd
          go_simp
          exact hp _ _ rfl hJ
        · -- 3: slot 28: Op.fieldAddr 63 t27 2
          have h27 : x 27 = .pointer (some ⟨pb, 0, none⟩) := (hd 2 (by decide)).2 _ rfl
          clear hd
          go_simp
          exact hp _ _ rfl hJ
        · -- 4: slot 29: Op.load 35 t28
          have h28 : x 28 = .pointer (some ⟨pb, 2, none⟩) := (hd 3 (by decide)).2 _ rfl
          clear hd
          have d2 := (hJ.n4 hl).1.blk.c2
          go_simp
          exact hp _ _ trivial (hJ.l4 hl)
        · -- 5: slot 30: Op.makeFunc (Fn.func 30) #[] #[t2]
          clear hd
          go_simp
          exact hp _ _ rfl hJ
        · -- 6: slot 31: Op.call { value (Operand.func 29), args := #[t29, t30], argTypes := #[35, 70] }
          have l4 : L 4 = true := (hd 4 (by decide)).1
          have h30 : x 30 = .func (.func 30) #[] #[.pointer (some ⟨bp, 0, none⟩)] := (hd 5 (by decide)).2 _ rfl
          clear hd
          have e29 : x 29 = .slice A N cp := hJ.e4 l4
          go_simp
          refine (HDF.out w1 (hJ.n6 hl).2).mono ?_
          rintro e' w2 ⟨v, rfl, ho, hs, hc⟩
          exact ⟨_, rfl, hp _ _ trivial (hJ.l6 hl l4 HBX.out ho hs hc)⟩
        · -- 7: slot 32: Op.nilCheck t25
          have h25 : x 25 = .pointer (some ⟨pb, 0, none⟩) := (hd 0 (by decide)).2 _ rfl
          clear hd
          go_simp
          exact hp _ _ rfl hJ
        · -- 8: slot 33: Op.fieldAddr 63 t32 2
          have h32 : x 32 = .pointer (some ⟨pb, 0, none⟩) := (hd 7 (by decide)).2 _ rfl
          clear hd
          go_simp
          exact hp _ _ rfl hJ
        · -- 9: slot none:0: Op.store 35 t33 t31
          have h33 : x 33 = .pointer (some ⟨pb, 2, none⟩) := (hd 8 (by decide)).2 _ rfl
          have l6 : L 6 = true := (hd 6 (by decide)).1
          clear hd
          obtain ⟨A5, n5, c5, e5⟩ := (hJ.e6 l6 hl).form
          have d2 := (hJ.e6 l6 hl).blk.c2
          have s2 := (hJ.e6 l6 hl).blk.fz 2
          go_simp
          exact hp _ _ trivial (hJ.l9 hl l6 HBX.out e5 HLq.out)
      · intro L x w1 hL hJ hd
        have H9 := Lib.hid (hJ.e9 (hL 9 (by decide)))
        have HPar := Lib.hid (hJ.par.trans HP.out)
        clear hJ hL hd
        obtain ⟨vL', l', k1, k2, k3⟩ := H9.out
        have c6 : w1.cell? ⟨pb, 6, none⟩ = some (.int .i64 u1.lost) := k1.blk.c6
        have s6 := k1.blk.fz 6
        have c2 := k1.blk.c2
        have y0 := (cell_of_row w1 bp 0 _ _ _ HPar.out).trans rfl
        obtain ⟨A', c', hv', -⟩ := RdG.form (OwG.rd k1.row)
        obtain ⟨N', hN'⟩ : ∃ N', N' = l'.length := ⟨_, rfl⟩
        rw [← hN'] at hv'
        rw [hv'] at c2
        have hNl : N' = (letL ⟨0, 0⟩ u.L).length := by
          have := k1.len
          rw [hN', this, HU1.out]
        have hNu : N = u.L.length := HN.out
        have hle : N' ≤ N := by
          rw [hNl, hNu]
          exact List.length_filter_le _ _
        have hN64 : N ≤ 64 := HN64.out
        obtain ⟨D, hD⟩ : ∃ D, D = N - N' := ⟨_, rfl⟩
        have hw1 : IntKind.i64.wrap ((N : Int) - (N' : Int)) = (D : Int) := by
          rw [IntWalk.i64_in _ (by omega)]
          omega
        obtain ⟨lo, hlo⟩ : ∃ lo, lo = u1.lost := ⟨_, rfl⟩
        rw [← hlo] at c6
        obtain ⟨X, hX⟩ : ∃ X, X = lo + (D : Int) := ⟨_, rfl⟩
        have hlo2 : lo = u.lost := by rw [hlo, HU1.out]
        have hw2 : IntKind.i64.wrap (lo + (D : Int)) = X := by
          have := HF.out
          unfold FewU at this
          rw [hX, IntWalk.i64_in _ (by omega)]
        have HE2 : Hid ({ u1 with L := letL ⟨0, 0⟩ u1.L, lost := X } = meU u ⟨0, 0⟩) := by
          rw [HE.out.2, hX, hD, hlo2, hNl, hNu, HU1.out]
          exact Lib.hid rfl
        have H8 : Hid (UdP w (w1.drew.setCell ⟨pb, 6, none⟩ (.int .i64 X)) pb (.slice A N cp) l (meU u ⟨0, 0⟩)) := by
          rw [← HE2.out]
          exact Lib.hid ⟨vL', l', (k1.grow (Grow.drew _)).lost X, ((((ChgS.of_grow HG.out).by_ HQ.out (.inl (.inl rfl))).tr k2).tr (ChgS.of_grow (Grow.drew _))).tr (ChgS.set (.inl rfl) _), fun b hb => (k3 b hb).imp id fun e => Nat.le_trans (Nat.le_trans HG.out.size HQ.out.size) e⟩
        clear H9 k1 k2 k3 hv' hN' hNl hNu hle hN64 hD hlo hX hlo2
        go_upto_region 8 with fail
        go_region
        go_wp2_with fail
        go_ret
        exact ⟨by rw [HE.out.1]; rfl, H8.out⟩
    · have q1 : (eo == 0) = false := beq_eq_false_iff_ne.2 q0
      clear hbad q0
      go_enter Try.func15, Try.ntmps15
      go_upto_region 1 with fail
      rw [← hW, ← hEP, ← hBP]
      have HW := Lib.hid (And.intro hW (And.intro hBP hEP))
      clear hW hBP hEP
      go_upto_region 5 with fail
      go_wp2_with (show wpList _ _ _ (⟨none, .store 34 (.tmp 19) (.tmp 17), _, _, _, _⟩ :: _) _ _; refine wpList_store_old W rfl 34 _ _ rfl rfl pb 3 (.agg #[.int .u32 ea, .int .u16 eo]) rfl rfl [.int .u32 ea, .int .u16 eo] rfl 63 _ (udA u.most u.room (.slice A N cp) ea eo u.told u.lost) HU.out.blk sizeEd (ed_ones ea eo) (show 5 ≤ 7 from by decide) rfl ?_; intro wq k1 k2; have HU6 := Lib.hid (HU.out.peer k1 k2); have HQ := Lib.hid k2; have d2 := HU6.out.blk.c2; have y0 := HBX2.out wq k2; clear k1 k2 z0 z1 y3)
      have HP : Hid (wq.heap[bp]? = some (.cells #[.pointer (some ⟨pb, 0, none⟩)] 25 (0, 0))) := HBX3.out wq HQ.out
      have HBX : Hid (bp < wq.heap.size ∧ ¬ SOf pb (.slice A N cp) l bp) := ⟨(Array.getElem?_eq_some_iff.1 HP.out).1, HBX0.out⟩
      obtain ⟨u1, hu1⟩ : ∃ u1 : Ub, u1 = { u with pe := ⟨ea, eo⟩ } := ⟨_, rfl⟩
      rw [← hu1] at HU6
      have HU1 := Lib.hid hu1
      have HLq := Lib.hid HU6.out.eq
      have HDF : Hid (∀ w1, Grow wq w1 → Calls Try.prog 29 #[.slice A N cp, .func (.func 30) #[] #[.pointer (some ⟨bp, 0, none⟩)]] w1 fun e w' => ∃ v', e = .returned v' ∧ Mcw w' 0 v' (l.filter fun y => !outP ⟨ea, eo⟩ y) ∧ v'.ownBlock = (Value.slice A N cp).ownBlock ∧ ChgS (fun b => (Value.slice A N cp).ownBlock = some b) w1 w') := fun w1 k => by
        refine delFU (pred_out (e := ⟨ea, eo⟩) (most := u1.most) (room := u1.room) (told := u1.told) (lost := u1.lost) (vL := .slice A N cp) HGb.out.2.1 HGb.out.2.2) w1 _ l (HU6.out.grow k).row HGb.out.1 HLL.out ⟨(k.block bp HBX.out.1).trans HP.out, ?_⟩
        have q := (HU6.out.grow k).blk
        rw [HU1.out] at q ⊢
        exact q
      clear hu1 HBX2
      go_upto_region 7 with fail
      clear d2 y0
      refine wp_region_state (A := ?frameT7) (inVals4 (isW4 (.pointer (some ⟨pb, 0, none⟩)) :: isW4 (.pointer (some ⟨pb, 0, none⟩)) :: isW4 (.pointer (some ⟨pb, 0, none⟩)) :: isW4 (.pointer (some ⟨pb, 2, none⟩)) :: isAll4 :: isW4 (.func (.func 30) #[] #[.pointer (some ⟨bp, 0, none⟩)]) :: isAll4 :: isW4 (.pointer (some ⟨pb, 0, none⟩)) :: isW4 (.pointer (some ⟨pb, 2, none⟩)) :: isAll4 :: [])) (fun L x q => MJ wq pb bp (.slice A N cp) l u1 ⟨ea, eo⟩ (L 4) (L 6) (L 9) (x 29) (x 31) q) (by kernel_rfl) (by kernel_rfl) (fun x => ?frameEqT7) (fun L x hL => ?_) ?_ ?_
      case frameEqT7 => go_simp; rfl
      · exact MJ.start (HU6.out.grow (Grow.drew _)) (Grow.drew _) (hL 4 (by decide)) (hL 6 (by decide)) (hL 9 (by decide)) (Array.getElem?_eq_some_iff.1 HP.out).1
      · refine ⟨fun L x w1 hJ hl hd post hp => ?_, fun L x w1 hJ hl hd post hp => ?_, fun L x w1 hJ hl hd post hp => ?_, fun L x w1 hJ hl hd post hp => ?_, fun L x w1 hJ hl hd post hp => ?_, fun L x w1 hJ hl hd post hp => ?_, fun L x w1 hJ hl hd post hp => ?_, fun L x w1 hJ hl hd post hp => ?_, fun L x w1 hJ hl hd post hp => ?_, fun L x w1 hJ hl hd post hp => ?_, trivial⟩
        · -- 0: slot 25: Op.load 25 t2
          clear hd
          have y0 := (cell_of_row w1 bp 0 _ _ _ (hJ.par.trans HP.out)).trans rfl
          go_simp
          exact hp _ _ rfl hJ
        · -- 1: slot 26: Op.load 25 t2
          clear hd
          have y0 := (cell_of_row w1 bp 0 _ _ _ (hJ.par.trans HP.out)).trans rfl
          go_simp
          exact hp _ _ rfl hJ
        · -- 2: slot 27: Op.nilCheck t26
          have h26 : x 26 = .pointer (some ⟨pb, 0, none⟩) := (hd 1 (by decide)).2 _ rfl
          clear hd
          go_simp
          exact hp _ _ rfl hJ
        · -- 3: slot 28: Op.fieldAddr 63 t27 2
          have h27 : x 27 = .pointer (some ⟨pb, 0, none⟩) := (hd 2 (by decide)).2 _ rfl
          clear hd
          go_simp
          exact hp _ _ rfl hJ
        · -- 4: slot 29: Op.load 35 t28
          have h28 : x 28 = .pointer (some ⟨pb, 2, none⟩) := (hd 3 (by decide)).2 _ rfl
          clear hd
          have d2 := (hJ.n4 hl).1.blk.c2
          go_simp
          exact hp _ _ trivial (hJ.l4 hl)
        · -- 5: slot 30: Op.makeFunc (Fn.func 30) #[] #[t2]
          clear hd
          go_simp
          exact hp _ _ rfl hJ
        · -- 6: slot 31: Op.call { value (Operand.func 29), args := #[t29, t30], argTypes := #[35, 70] }
          have l4 : L 4 = true := (hd 4 (by decide)).1
          have h30 : x 30 = .func (.func 30) #[] #[.pointer (some ⟨bp, 0, none⟩)] := (hd 5 (by decide)).2 _ rfl
          clear hd
          have e29 : x 29 = .slice A N cp := hJ.e4 l4
          go_simp
          refine (HDF.out w1 (hJ.n6 hl).2).mono ?_
          rintro e' w2 ⟨v, rfl, ho, hs, hc⟩
          exact ⟨_, rfl, hp _ _ trivial (hJ.l6 hl l4 HBX.out ho hs hc)⟩
        · -- 7: slot 32: Op.nilCheck t25
          have h25 : x 25 = .pointer (some ⟨pb, 0, none⟩) := (hd 0 (by decide)).2 _ rfl
          clear hd
          go_simp
          exact hp _ _ rfl hJ
        · -- 8: slot 33: Op.fieldAddr 63 t32 2
          have h32 : x 32 = .pointer (some ⟨pb, 0, none⟩) := (hd 7 (by decide)).2 _ rfl
          clear hd
          go_simp
          exact hp _ _ rfl hJ
        · -- 9: slot none:0: Op.store 35 t33 t31
          have h33 : x 33 = .pointer (some ⟨pb, 2, none⟩) := (hd 8 (by decide)).2 _ rfl
          have l6 : L 6 = true := (hd 6 (by decide)).1
          clear hd
          obtain ⟨A5, n5, c5, e5⟩ := (hJ.e6 l6 hl).form
          have d2 := (hJ.e6 l6 hl).blk.c2
          have s2 := (hJ.e6 l6 hl).blk.fz 2
          go_simp
          exact hp _ _ trivial (hJ.l9 hl l6 HBX.out e5 HLq.out)
      · intro L x w1 hL hJ hd
        have H9 := Lib.hid (hJ.e9 (hL 9 (by decide)))
        have HPar := Lib.hid (hJ.par.trans HP.out)
        clear hJ hL hd
        obtain ⟨vL', l', k1, k2, k3⟩ := H9.out
        have c6 : w1.cell? ⟨pb, 6, none⟩ = some (.int .i64 u1.lost) := k1.blk.c6
        have s6 := k1.blk.fz 6
        have c2 := k1.blk.c2
        have y0 := (cell_of_row w1 bp 0 _ _ _ HPar.out).trans rfl
        obtain ⟨A', c', hv', -⟩ := RdG.form (OwG.rd k1.row)
        obtain ⟨N', hN'⟩ : ∃ N', N' = l'.length := ⟨_, rfl⟩
        rw [← hN'] at hv'
        rw [hv'] at c2
        have hNl : N' = (letL ⟨ea, eo⟩ u.L).length := by
          have := k1.len
          rw [hN', this, HU1.out]
        have hNu : N = u.L.length := HN.out
        have hle : N' ≤ N := by
          rw [hNl, hNu]
          exact List.length_filter_le _ _
        have hN64 : N ≤ 64 := HN64.out
        obtain ⟨D, hD⟩ : ∃ D, D = N - N' := ⟨_, rfl⟩
        have hw1 : IntKind.i64.wrap ((N : Int) - (N' : Int)) = (D : Int) := by
          rw [IntWalk.i64_in _ (by omega)]
          omega
        obtain ⟨lo, hlo⟩ : ∃ lo, lo = u1.lost := ⟨_, rfl⟩
        rw [← hlo] at c6
        obtain ⟨X, hX⟩ : ∃ X, X = lo + (D : Int) := ⟨_, rfl⟩
        have hlo2 : lo = u.lost := by rw [hlo, HU1.out]
        have hw2 : IntKind.i64.wrap (lo + (D : Int)) = X := by
          have := HF.out
          unfold FewU at this
          rw [hX, IntWalk.i64_in _ (by omega)]
        have HE2 : Hid ({ u1 with L := letL ⟨ea, eo⟩ u1.L, lost := X } = meU u ⟨ea, eo⟩) := by
          rw [HE.out.2, hX, hD, hlo2, hNl, hNu, HU1.out]
          exact Lib.hid rfl
        have H8 : Hid (UdP w (w1.drew.setCell ⟨pb, 6, none⟩ (.int .i64 X)) pb (.slice A N cp) l (meU u ⟨ea, eo⟩)) := by
          rw [← HE2.out]
          exact Lib.hid ⟨vL', l', (k1.grow (Grow.drew _)).lost X, ((((ChgS.of_grow HG.out).by_ HQ.out (.inl (.inl rfl))).tr k2).tr (ChgS.of_grow (Grow.drew _))).tr (ChgS.set (.inl rfl) _), fun b hb => (k3 b hb).imp id fun e => Nat.le_trans (Nat.le_trans HG.out.size HQ.out.size) e⟩
        clear H9 k1 k2 k3 hv' hN' hNl hNu hle hN64 hD hlo hX hlo2
        go_upto_region 8 with fail
        go_region
        go_wp2_with fail
        go_ret
        exact ⟨by rw [HE.out.1]; rfl, H8.out⟩
end Go.Proofs.Ytkblgigpgpjjlaa
