/- Contract: Expire. -/
import Derived.Test.YtfjmcfkpbacicaaC11
import Derived.Test.YtfjmcfkpbacicaaC05
import Derived.Test.YtfjmcfkpbacicaaC08
namespace Go.Proofs.Ytfjmcfkpbacicaa
set_option linter.unusedVariables false
set_option linter.unusedSimpArgs false
open Go.ChangeShapes Go.WideShapes Go.ChangeAt Go.RowKit Go.Shelf
attribute [local irreducible] wpQuiet

/-- What Expire leaves, what it answers. -/
def leftS (now : Int) (A : List Wt) : List Wt := A.filter fun t => decide (now < t.till)
def outS (now : Int) (A : List Wt) : List Pkt := A.filterMap fun t => if now < t.till then none else t.first
def Expired (w : World) (base tb : Nat) (most life : Int) (now : Int) (A : List Wt) (e : Ending) (w' : World) : Prop :=
  ∃ v, e = .returned v ∧ Psl w' v (outS now A) ∧ TabA w' base tb most life (leftS now A) ∧ Only base Za w w'
/-- New blocks of packets. -/
def Zi (n : Nat) (b : Nat) (T : TypeId) : Prop := n ≤ b ∧ T = 38
theorem Only.freshR {base : Nat} {Z : Nat → TypeId → Prop} {w W W' : World} {row : Option Nat} (h : Only base Z w W) (hg : W.grownBy W' row) (hs : ∀ g, row = some g → w.heap.size ≤ g) (hb : base ≤ w.heap.size) : Only base Z w W' := by
  refine ⟨⟨hg.os.trans h.low.os, hg.tape.trans h.low.tape, hg.output.trans h.low.output, Nat.le_trans h.low.size hg.size, fun i hi => (hg.block i (by have := h.low.size; omega) (fun e => by have := hs i e.symm; omega)).trans (h.low.block i hi)⟩, fun i o T hi hT hz => ?_⟩
  have hlt := (Array.getElem?_eq_some_iff.1 hi).1
  have hk := h.keep i o T hi hT hz
  exact (hg.block i (Array.getElem?_eq_some_iff.1 hk).1 (fun e => by have := hs i e.symm; omega)).trans hk
theorem Tab.besideR {w w' : World} {base tb mb n : Nat} {ov : Value} {most life : Int} {L : List Wp} (h : Tab w base tb mb ov most life L) (hn : ∀ p ∈ L, ∀ f, p.first = some f → f.blk < n) (o : Only base (Zi n) w w') : Tab w' base tb mb ov most life L :=
  ⟨o.cells h.top (fun e => absurd e.2 (by decide)), h.low, h.lowM, h.map.of_heap fun es ck hh => o.keep _ _ _ hh rfl (fun e => absurd e.2 (by decide)), o.row h.ord (fun b _ e => absurd e.2 (by decide)), fun p hp => (h.pk p hp).only2 o (fun e => absurd e.2 (by decide)) (fun b _ e => absurd e.2 (by decide)) (fun b e => absurd e.2 (by decide)) (fun f hf e => by have := hn p hp f hf; have := e.1; omega), h.blks, h.rblk, h.nms, h.few, Nat.le_trans h.sz o.size, h.rng⟩

/-- Where the loop of Expire stands. -/
structure Exp (w : World) (base tb mb : Nat) (ov : Value) (most life : Int) (L : List Wp) (now : Int) (cv : Value) (i : Nat) (s5 : Value) (acc : List Pk) (wr : World) : Prop where
  tab : ∃ ov', Tab wr base tb mb ov' most life ((L.take i).filter (fun p => decide (now < p.till)) ++ L.drop i) ∧ ov'.ownBlock = ov.ownBlock
  row : Iprow wr w.heap.size s5 acc
  good : ∀ q ∈ acc, Own wr base q.vo q.k.opts ∧ Own wr base q.vd q.k.data ∧ q.k.Ok
  cl : Nrow wr w.heap.size cv (L.map Wp.nm)
  only : Only base Za w wr
  few : acc.length ≤ i
section
variable {w wr w' : World} {base tb mb : Nat} {ov cv s5 s5' : Value} {most life now : Int} {L : List Wp} {i : Nat} {acc : List Pk}
theorem Exp.grow (h : Exp w base tb mb ov most life L now cv i s5 acc wr) (hb : base ≤ w.heap.size) (g : Grow wr w') : Exp w base tb mb ov most life L now cv i s5 acc w' := by
  obtain ⟨ov', h1, h2⟩ := h.tab
  have o : Only base Za wr w' := Only.grow g (Nat.le_trans hb h.only.size) Za
  have o0 : Only base (fun _ _ => False) wr w' := Only.grow g (Nat.le_trans hb h.only.size) _
  exact ⟨⟨ov', h1.grow g, h2⟩, h.row.grow g, fun q hq => ⟨o.row (h.good q hq).1 (fun b _ => za_byte b), o.row (h.good q hq).2.1 (fun b _ => za_byte b), (h.good q hq).2.2⟩, o0.row h.cl (fun b _ e => e), h.only.trans o, h.few⟩
theorem exp_at (h : i < L.length) : ((L.take i).filter (fun p => decide (now < p.till)) ++ L.drop i)[((L.take i).filter (fun p => decide (now < p.till))).length]? = some L[i] := by
  rw [List.getElem?_append_right (Nat.le_refl _), Nat.sub_self, List.drop_eq_getElem_cons h]
  rfl
theorem exp_keep (h : i < L.length) (hn : now < L[i].till) : (L.take (i + 1)).filter (fun p => decide (now < p.till)) ++ L.drop (i + 1) = (L.take i).filter (fun p => decide (now < p.till)) ++ L.drop i := by
  rw [List.take_succ_eq_append_getElem h, List.filter_append, List.drop_eq_getElem_cons h]
  simp [hn]
theorem exp_drop (h : i < L.length) (hn : ¬ now < L[i].till) : (L.take (i + 1)).filter (fun p => decide (now < p.till)) ++ L.drop (i + 1) = ((L.take i).filter (fun p => decide (now < p.till)) ++ L.drop i).eraseIdx ((L.take i).filter (fun p => decide (now < p.till))).length := by
  rw [List.take_succ_eq_append_getElem h, List.filter_append, List.drop_eq_getElem_cons h, List.eraseIdx_append_of_length_le (Nat.le_refl _), Nat.sub_self]
  simp [hn]
theorem Exp.stays (h : Exp w base tb mb ov most life L now cv i s5 acc wr) (hi : i < L.length) (hn : now < L[i].till) : Exp w base tb mb ov most life L now cv (i + 1) s5 acc wr := by
  obtain ⟨ov', h1, h2⟩ := h.tab
  exact ⟨⟨ov', by rw [exp_keep hi hn]; exact h1, h2⟩, h.row, h.good, h.cl, h.only, Nat.le_succ_of_le h.few⟩
/-- One was removed. -/
theorem Exp.goes (hr : Iprow wr w.heap.size s5 acc) (hgd : ∀ q ∈ acc, Own wr base q.vo q.k.opts ∧ Own wr base q.vd q.k.data ∧ q.k.Ok) (hcl : Nrow wr w.heap.size cv (L.map Wp.nm)) (ho : Only base Za w wr) (hf : acc.length ≤ i + 1) (hi : i < L.length) (hn : ¬ now < L[i].till)
    (hov : ∀ b, ov.ownBlock = some b → b < w.heap.size) {ov1 ov2 : Value} (h1 : ov1.ownBlock = ov.ownBlock) (ht : Tab w' base tb mb ov2 most life (((L.take i).filter (fun p => decide (now < p.till)) ++ L.drop i).eraseIdx ((L.take i).filter (fun p => decide (now < p.till))).length)) (o : Only base (Zr ov1) wr w') (h2 : ov2.ownBlock = ov1.ownBlock) :
    Exp w base tb mb ov most life L now cv (i + 1) s5 acc w' := by
  have nz : ∀ (T : TypeId), T ≠ 67 → T ≠ 64 → T ≠ 70 → ∀ b, ¬ Zr ov1 b T := fun T e1 e2 e3 b h => by rcases h with h | h | h; exact e1 h; exact e2 h; exact e3 h.1
  refine ⟨⟨ov2, by rw [exp_drop hi hn]; exact ht, h2.trans h1⟩, o.row hr (fun b _ => nz _ (by decide) (by decide) (by decide) b), fun q hq => ?_, o.row hcl (fun b hb e => ?_), ho.trans (o.mono fun _ _ _ _ _ e => zt_za (zr_zt e)), hf⟩
  · exact ⟨o.row (hgd q hq).1 (fun b _ => nz _ (by decide) (by decide) (by decide) b), o.row (hgd q hq).2.1 (fun b _ => nz _ (by decide) (by decide) (by decide) b), (hgd q hq).2.2⟩
  · rcases e with e | e | e
    · exact absurd e (by decide)
    · exact absurd e (by decide)
    · have h3 := hov b (by rw [← h1]; exact e.2)
      obtain ⟨_, _, h4⟩ := ownsRow_blk hcl hb
      omega
end

set_option maxRecDepth 10000 in
set_option maxHeartbeats 8000000 in
theorem Expire_any (w : World) (base tb : Nat) (most life : Int) (A : List Wt) (hA : TabA w base tb most life A) (now : Int) :
    Calls Try.prog 11 #[.pointer (some ⟨tb, 0, none⟩), .int .i64 now] w (Expired w base tb most life now A) := by
  obtain ⟨mb, ov, L, hT, hLA, hAok⟩ := hA
  have t3 := hT.c3
  have hb := hT.sz
  have hfew := hT.few
  have cC := CloneN_any ov (L.map Wp.nm) w hT.ord.nms (by rw [List.length_map]; omega)
  have HT := Lib.hid hT
  have HOV : Hid (∀ b, ov.ownBlock = some b → b < w.heap.size) := fun b hb => (World.ownsRow.lt hT.ord b hb).2
  have hend : Hid (∀ (s5 : Value) (acc : List Pk) wr cv, Exp w base tb mb ov most life L now cv L.length s5 acc wr → acc.map Pk.k = (L.take L.length).filterMap (fun p => if now < p.till then none else p.fk) → Expired w base tb most life now A (.returned s5) wr) := by
    intro s5 acc wr cv hE hks
    obtain ⟨ov', h1, h2⟩ := hE.tab
    rw [List.drop_length, List.append_nil, List.take_length] at h1
    rw [List.take_length] at hks
    refine ⟨s5, rfl, ⟨acc, ?_, hE.row.ips, fun q hq => ⟨(hE.good q hq).1.byt, (hE.good q hq).2.1.byt, (hE.good q hq).2.2⟩⟩, ⟨mb, ov', _, h1, ?_, ?_⟩, hE.only⟩
    · rw [hks, ← hLA, outS, List.filterMap_map]
      rfl
    · rw [← hLA, leftS, List.filter_map]
      rfl
    · exact fun t ht => hAok t ((List.mem_filter.1 ht).1)
  clear hT hLA hAok
  go_enter Try.func11, Try.ntmps11
  go_wp2_with fail
  refine cC.mono ?_
  rintro e w1 ⟨cv, rfl, hcl, hg1⟩
  have E0 : Exp w base tb mb ov most life L now cv 0 (.slice none 0 0) [] w1 := ⟨⟨ov, by simpa using HT.out.grow hg1, rfl⟩, Iprow.nil _ _, fun q hq => (by cases hq), hcl, Only.grow hg1 hb Za, Nat.zero_le _⟩
  obtain ⟨Ac, nc, cc, rfl, hnc⟩ : ∃ Ac nc cc, cv = .slice Ac nc cc ∧ nc = L.length := by
    obtain ⟨Ac, cc, e, _⟩ := (RdK.of_own hcl).form
    exact ⟨Ac, _, cc, e, List.length_map _⟩
  subst hnc
  have HE0 := Lib.hid E0
  clear hcl hg1 E0 cC
  go_wp2_with fail
  go_loopg [5, 17] L.length (fun gk s5 s17 wr => ∃ (i : Nat) (acc : List Pk) (sv : Value), i ≤ L.length ∧ gk = L.length - i ∧ s17 = .int .i64 (i : Int) ∧ s5 = sv ∧ Exp w base tb mb ov most life L now (.slice Ac L.length cc) i sv acc wr ∧ acc.map Pk.k = (L.take i).filterMap (fun p => if now < p.till then none else p.fk))
  case atStart => exact ⟨0, [], _, Nat.zero_le _, rfl, rfl, rfl, HE0.out, rfl⟩
  case round =>
    obtain ⟨i, acc, s5, hi, rfl, rfl, hs5, hE, hks⟩ := hrel
    subst u5
    rcases Nat.lt_or_ge i L.length with hlt | hge
    · obtain ⟨ov2, hT2, hov2⟩ := hE.tab
      have hcur := exp_at (now := now) hlt
      obtain ⟨b, off, rfl, hbl, hat⟩ := hE.cl.nms.at_ (by rw [List.length_map]; omega)
      have NM := hat i (by rw [List.length_map]; exact hlt)
      rw [List.getElem_map] at NM
      have HTK : Hid (∀ f, (L.take (i + 1)).filterMap f = (L.take i).filterMap f ++ (match f L[i] with | none => [] | some (b : Pkt) => [b])) := by
        intro f
        rw [List.take_succ_eq_append_getElem hlt, List.filterMap_append]
        cases hf : f L[i] <;> simp [hf]
      have HPM : Hid (L[i] ∈ L) := List.getElem_mem hlt
      have HPN := Lib.hid (show (L.map Wp.nm)[i]? = some L[i].nm from by rw [List.getElem?_map, List.getElem?_eq_getElem hlt]; rfl)
      have HST := Lib.hid (fun (hn : now < L[i].till) w' (h : Exp w base tb mb ov most life L now (.slice (some ⟨b, off, none⟩) L.length cc) i s5 acc w') => h.stays hlt hn)
      have HGO := Lib.hid (fun (hn : ¬ now < L[i].till) => fun {wr w' : World} {s5 : Value} {acc : List Pk} hr hgd hcl ho hf => @Exp.goes w wr w' base tb mb ov (.slice (some ⟨b, off, none⟩) L.length cc) s5 most life now L i acc hr hgd hcl ho hf hlt hn HOV.out)
      obtain ⟨p, hp⟩ : ∃ p, L[i] = p := ⟨_, rfl⟩
      rw [hp] at hcur NM HTK HPM HPN HST HGO
      have HP := Lib.hid hp
      obtain ⟨hc0, hc1, hc2, hc3⟩ := NM
      obtain ⟨W3, hW3⟩ : ∃ W3, W3 = wr.alloc (.cells #[.int .u32 (p.nm.src : Int), .int .u32 (p.nm.dst : Int), .int .u8 (p.nm.proto : Int), .int .u16 (p.nm.ident : Int)] 70) := ⟨_, rfl⟩
      have g3 : Grow wr W3 := by rw [hW3]; exact Grow.alloc _ _
      have hbw : base ≤ wr.heap.size := Nat.le_trans hb hE.only.size
      have hbx : W3.heap[wr.heap.size]? = some (.cells #[.int .u32 (p.nm.src : Int), .int .u32 (p.nm.dst : Int), .int .u8 (p.nm.proto : Int), .int .u16 (p.nm.ident : Int)] 70 (0, 0)) := by rw [hW3]; exact heap_alloc_new wr _
      have HBX : Hid (∀ W, Only base (Zi w.heap.size) W3 W → W.cell? ⟨wr.heap.size, 0, none⟩ = some (.int .u32 (p.nm.src : Int)) ∧ W.cell? ⟨wr.heap.size, 1, none⟩ = some (.int .u32 (p.nm.dst : Int)) ∧ W.cell? ⟨wr.heap.size, 2, none⟩ = some (.int .u8 (p.nm.proto : Int)) ∧ W.cell? ⟨wr.heap.size, 3, none⟩ = some (.int .u16 (p.nm.ident : Int))) := fun W o => by
        have h := o.cells hbx (fun e => absurd e.2 (by decide))
        exact ⟨cell_of_row W _ 0 _ _ _ h, cell_of_row W _ 1 _ _ _ h, cell_of_row W _ 2 _ _ _ h, cell_of_row W _ 3 _ _ _ h⟩
      have HG : Hid (∀ W, Grow W3 W → Only base (Zi w.heap.size) W3 W ∧ W.cell? ⟨tb, 2, none⟩ = some (.map (some mb)) ∧ (Instr.lookup 64 (.map (some mb)) (nmV p.nm) false).run Try.prog W = .ok (.pointer (some ⟨p.blk, 0, none⟩)) W ∧ PktAt W base p ∧ Exp w base tb mb ov most life L now (.slice (some ⟨b, off, none⟩) L.length cc) i s5 acc W) := fun W g => by
        have h := hT2.grow (g3.trans g)
        have hnd : ((List.map pairOf ((L.take i).filter (fun p => decide (now < p.till)) ++ L.drop i)).map Prod.fst).Nodup := by rw [names_pairs]; exact h.nms
        exact ⟨Only.grow g (Nat.le_trans hbw g3.size) _, h.c2, h.map.look_some hnd (h.at_ hcur), h.pk p (List.mem_of_getElem? hcur), hE.grow hb (g3.trans g)⟩
      obtain ⟨A5, n5, c5, rfl⟩ : ∃ A n c, s5 = .slice A n c := by
        obtain ⟨A5, c5, e, _⟩ := hE.row.ips.form
        exact ⟨A5, _, c5, e⟩
      have HC := Lib.hid (And.intro hcur (And.intro hks (And.intro hov2 hlt)))
      clear hT2 hov2 hcur hat hbl hks hp hE hbx hbw g3 hi
      obtain ⟨pnm, pb, ptl, pf, pfin, prv, prows⟩ := p
      obtain ⟨x0, x1, x2, x3⟩ := pnm
      unfold nmV at *
      simp only at *
      go_wp2_with fail
      rw [← hW3]
      clear hW3
      have p0 := fun q : Gw W3 => (HG.out q.v q.h).2.1
      have p1 := fun q : Gw W3 => (HBX.out q.v (HG.out q.v q.h).1).1
      have p2 := fun q : Gw W3 => (HBX.out q.v (HG.out q.v q.h).1).2.1
      have p3 := fun q : Gw W3 => (HBX.out q.v (HG.out q.v q.h).1).2.2.1
      have p4 := fun q : Gw W3 => (HBX.out q.v (HG.out q.v q.h).1).2.2.2
      have p5 := fun q : Gw W3 => (HG.out q.v q.h).2.2.1
      refine wp_region_gw (by kernel_rfl) (by kernel_rfl) ?_
      repeat (quiet_step (fail))
      refine wpQuiet_nil ?_
      intro w4 hw'
      obtain ⟨⟨wq, hg4⟩, hw2⟩ := hw'
      subst hw2
      clear p0 p1 p2 p3 p4 p5
      obtain ⟨o4, _, _, pk4, E4⟩ := HG.out w4 hg4
      have c0 := pk4.c0
      have c1 := pk4.c1
      simp only at c0 c1
      by_cases hn : now < ptl
      · have d1 : decide (now < ptl) = true := decide_eq_true hn
        have HS := Lib.hid (HST.out hn w4 E4)
        have HKS : Hid (acc.map Pk.k = (L.take (i + 1)).filterMap (fun p => if now < p.till then none else p.fk)) := by
          show _ = _
          rw [HTK.out, HC.out.2.1]
          simp only
          rw [if_pos hn, List.append_nil]
        clear hn pk4 E4 o4 hg4
        go_wp2_with fail
        go_roundg (L.length - (i + 1))
        case measure => omega
        case rel => exact ⟨i + 1, acc, _, HC.out.2.2.2, rfl, by go_num, rfl, HS.out, HKS.out⟩
      · have d1 : decide (now < ptl) = false := decide_eq_false hn
        have HR : Hid (∀ W s' acc', Only base (Zi w.heap.size) w4 W → Iprow W w.heap.size s' acc' → (∀ q ∈ acc', Own w4 base q.vo q.k.opts ∧ Own w4 base q.vd q.k.data ∧ q.k.Ok) → acc'.length ≤ i + 1 → Only base Za w W →
            (W.cell? ⟨wr.heap.size, 0, none⟩ = some (.int .u32 (x0 : Int)) ∧ W.cell? ⟨wr.heap.size, 1, none⟩ = some (.int .u32 (x1 : Int)) ∧ W.cell? ⟨wr.heap.size, 2, none⟩ = some (.int .u8 (x2 : Int)) ∧ W.cell? ⟨wr.heap.size, 3, none⟩ = some (.int .u16 (x3 : Int))) ∧
            Calls Try.prog 25 #[.pointer (some ⟨tb, 0, none⟩), .agg #[.int .u32 (x0 : Int), .int .u32 (x1 : Int), .int .u8 (x2 : Int), .int .u16 (x3 : Int)]] W fun e w5 => e = .returned (.tuple #[]) ∧ Exp w base tb mb ov most life L now (.slice (some ⟨b, off, none⟩) L.length cc) (i + 1) s' acc' w5) := by
          intro W s' acc' o hrow hgood hlen ho
          obtain ⟨ov2, hT4, hov2⟩ := E4.tab
          have hTW := hT4.besideR (n := w.heap.size) (fun q hq f hf => HT.out.firsts q (by
            rcases List.mem_append.1 hq with h1 | h1
            · exact List.mem_of_mem_take (List.mem_filter.1 h1).1
            · exact List.mem_of_mem_drop h1) f hf) o
          refine ⟨HBX.out W (o4.trans o), (remove_fine W base tb mb ov2 most life _ hTW _ _ HC.out.1).mono ?_⟩
          rintro e w5 ⟨rfl, ov5, hT5, o5, hov5⟩
          refine ⟨rfl, HGO.out (by omega) hrow (fun q hq => ?_) (o.row E4.cl (fun b _ e => absurd e.2 (by decide))) ho hlen hov2 hT5 o5 hov5⟩
          exact ⟨o.row (hgood q hq).1 (fun b _ e => absurd e.2 (by decide)), o.row (hgood q hq).2.1 (fun b _ e => absurd e.2 (by decide)), (hgood q hq).2.2⟩
        have hb4 : base ≤ w4.heap.size := Nat.le_trans hb E4.only.size
        have hbw4 : w.heap.size ≤ w4.heap.size := E4.only.size
        cases pf with
        | none =>
          obtain ⟨⟨b0, b1, b2, b3⟩, cR⟩ := HR.out w4 (.slice A5 n5 c5) acc (Only.refl _ _ _) E4.row E4.good (Nat.le_succ_of_le E4.few) E4.only
          have HKS : Hid (acc.map Pk.k = (L.take (i + 1)).filterMap (fun p => if now < p.till then none else p.fk)) := by
            show _ = _
            rw [HTK.out, HC.out.2.1]
            simp only
            rw [if_neg hn]
            show _ = _ ++ []
            rw [List.append_nil]
          unfold fptr at c1
          clear hn pk4 E4 o4 hg4
          go_wp2_with fail
          refine cR.mono ?_
          rintro e w5 ⟨rfl, hE5⟩
          have HS := Lib.hid hE5
          clear hE5 cR
          go_wp2_with fail
          go_roundg (L.length - (i + 1))
          case measure => omega
          case rel => exact ⟨i + 1, acc, _, HC.out.2.2.2, rfl, by go_num, rfl, HS.out, HKS.out⟩
        | some f =>
          obtain ⟨fb, q⟩ := f
          obtain ⟨_, fblk, fo, fd, fok, _⟩ := pk4.first _ rfl
          simp only at fblk fo fd fok
          obtain ⟨f0, f1, f2, f3, f4, f5, f6, f7, f8, f9, f10⟩ := fblk.boxd
          have hone : q.One := ⟨ownsRow_one fo, ownsRow_one fd⟩
          have HKS : Hid ((acc ++ [q]).map Pk.k = (L.take (i + 1)).filterMap (fun p => if now < p.till then none else p.fk)) := by
            show _ = _
            rw [HTK.out, List.map_append, HC.out.2.1]
            simp only
            rw [if_neg hn]
            rfl
          have hgood : ∀ x ∈ acc ++ [q], Own w4 base x.vo x.k.opts ∧ Own w4 base x.vd x.k.data ∧ x.k.Ok := fun x hx => by
            rcases List.mem_append.1 hx with h1 | h1
            · exact E4.good x h1
            · obtain rfl := List.mem_singleton.1 h1
              exact ⟨fo, fd, fok⟩
          have HAP : Hid (∀ v9 w9, Iprow w9 w.heap.size v9 (acc ++ [q]) → (w4.alloc (.cells #[.int .u8 (q.k.tos : Int), .int .u16 (q.k.ident : Int), .bool q.k.whole, .bool q.k.more, .int .i64 q.k.off, .int .u8 (q.k.ttl : Int), .int .u8 (q.k.proto : Int), .int .u32 (q.k.src : Int), .int .u32 (q.k.dst : Int), q.vo, q.vd] 38)).grownBy w9 (Value.slice A5 n5 c5).ownBlock →
              (w9.cell? ⟨wr.heap.size, 0, none⟩ = some (.int .u32 (x0 : Int)) ∧ w9.cell? ⟨wr.heap.size, 1, none⟩ = some (.int .u32 (x1 : Int)) ∧ w9.cell? ⟨wr.heap.size, 2, none⟩ = some (.int .u8 (x2 : Int)) ∧ w9.cell? ⟨wr.heap.size, 3, none⟩ = some (.int .u16 (x3 : Int))) ∧
              Calls Try.prog 25 #[.pointer (some ⟨tb, 0, none⟩), .agg #[.int .u32 (x0 : Int), .int .u32 (x1 : Int), .int .u8 (x2 : Int), .int .u16 (x3 : Int)]] w9 fun e w5 => e = .returned (.tuple #[]) ∧ Exp w base tb mb ov most life L now (.slice (some ⟨b, off, none⟩) L.length cc) (i + 1) v9 (acc ++ [q]) w5) := by
            intro v9 w9 hr9 hg9
            have gA := Grow.alloc w4 (.cells #[.int .u8 (q.k.tos : Int), .int .u16 (q.k.ident : Int), .bool q.k.whole, .bool q.k.more, .int .i64 q.k.off, .int .u8 (q.k.ttl : Int), .int .u8 (q.k.proto : Int), .int .u32 (q.k.src : Int), .int .u32 (q.k.dst : Int), q.vo, q.vd] 38)
            have o9 : Only base (Zi w.heap.size) w4 w9 := (Only.grow gA hb4 _).trans (Only.grown hg9 (fun g e => by
              obtain ⟨cs, h1, h2⟩ := ownsRow_blk (E4.row.grow gA) e
              exact ⟨Nat.le_trans hb h2, fun o T ho hT => by rw [h1] at ho; cases ho; cases hT; exact ⟨h2, rfl⟩⟩) (Nat.le_trans hb4 gA.size))
            exact HR.out w9 v9 (acc ++ [q]) o9 hr9 hgood (by rw [List.length_append]; have := E4.few; simp; omega) ((E4.only.trans (Only.grow gA hb4 Za)).freshR hg9 (fun g e => (E4.row.lt g e).1) hb)
          have hrow4 := E4.row
          have hal : acc.length ≤ 70000 := by have := E4.few; omega
          obtain ⟨fk, fvo, fvd⟩ := q
          simp only at *
          have HF := Lib.hid (And.intro hone (And.intro hrow4 hal))
          unfold fptr at c1
          simp only at c1
          clear hn pk4 E4 o4 hg4 fblk fo fd fok hgood hone hrow4 hal
          go_wp2_with (at_builtin; refine wpList_app1 w4 rfl (.tmp 38) (.tmp 45) rfl w.heap.size (.slice A5 n5 c5) acc _ ⟨fk, fvo, fvd⟩ rfl (by rfl) (by rfl) HF.out.1 HF.out.2.1 HF.out.2.2 hbw4 ?_; intro v9 w9 hr9 hg9; obtain ⟨⟨b0, b1, b2, b3⟩, cR⟩ := HAP.out v9 w9 hr9 hg9; clear hr9 hg9)
          refine cR.mono ?_
          rintro e w5 ⟨rfl, hE5⟩
          have HS := Lib.hid hE5
          clear hE5 cR
          go_wp2_with fail
          go_roundg (L.length - (i + 1))
          case measure => omega
          case rel => exact ⟨i + 1, _, _, HC.out.2.2.2, rfl, by go_num, rfl, HS.out, HKS.out⟩
    · obtain rfl : i = L.length := by omega
      have HEn := Lib.hid (hend.out s5 acc wr _ hE hks)
      clear hE hks
      go_wp2_with fail
      go_ret
      exact HEn.out
end Go.Proofs.Ytfjmcfkpbacicaa
/- Contracts: a table that is nil. -/
namespace Go.Proofs.Ytfjmcfkpbacicaa
set_option linter.unusedVariables false
set_option linter.unusedSimpArgs false
open Go.ChangeShapes Go.WideShapes Go.ChangeAt Go.RowKit Go.Shelf

set_option maxRecDepth 10000 in
set_option maxHeartbeats 8000000 in
theorem Add_nil (w : World) (now : Int) (k : Pkt) (vo vd : Value) (hp : Ip w (ipV k vo vd) k) :
    Calls Try.prog 14 #[.pointer none, .int .i64 now, ipV k vo vd] w fun e w' => e = .returned (.tuple #[ipV zeroPk (.slice none 0 0) (.slice none 0 0), .bool false, .int .i64 7]) ∧ Grow w w' := by
  obtain ⟨A, c, B, d, e, ho, hd, hk⟩ := hp.form
  simp only [ipV, Value.agg.injEq, Array.mk.injEq, List.cons.injEq, and_true, true_and] at e
  obtain ⟨rfl, rfl⟩ := e
  obtain ⟨W1, hW1⟩ : ∃ W1, W1 = (w.alloc (.cells #[.int .u8 (k.tos : Int), .int .u16 (k.ident : Int), .bool k.whole, .bool k.more, .int .i64 k.off, .int .u8 (k.ttl : Int), .int .u8 (k.proto : Int), .int .u32 (k.src : Int), .int .u32 (k.dst : Int), .slice A k.opts.length c, .slice B k.data.length d] 38)).alloc (.cells #[.int .u8 0, .int .u16 0, .bool false, .bool false, .int .i64 0, .int .u8 0, .int .u8 0, .int .u32 0, .int .u32 0, .slice none 0 0, .slice none 0 0] 38) := ⟨_, rfl⟩
  obtain ⟨hg1, hsz, hB, hZ⟩ := two_blk w k _ _ hW1
  have HZ := Lib.hid (And.intro hZ hg1)
  clear hZ hB hg1 hsz ho hd hp hk
  go_enter Try.func14, Try.ntmps14
  go_wp2_with (show wpList _ _ _ (⟨none, .store 38 (.tmp 6) (.tmp 13), _, _, _, _⟩ :: _) _ _; refine wpList_store_ipB _ rfl _ _ rfl rfl (w.heap.size + 1) rfl zeroPk zeroPk (.slice none 0 0) (.slice none 0 0) (.slice none 0 0) (.slice none 0 0) rfl rfl rfl (by rw [← hW1]; exact HZ.out.1) ?_; intro w8 hF8 hg8; rw [← hW1] at hg8; have H8 := Lib.hid (HZ.out.2.past (Nat.le_succ _) hg8); clear hg8)
  refine bodyPost_ret (results3_ip 6 7 8 rfl _ w8 (w.heap.size + 1) zeroPk _ _ rfl hF8) rfl ?_
  exact ⟨rfl, H8.out⟩
theorem Expire_nil (w : World) (now : Int) : Calls Try.prog 11 #[.pointer none, .int .i64 now] w fun e w' => e = .returned (.slice none 0 0) ∧ Grow w w' := by
  go_enter Try.func11, Try.ntmps11
  go_wp2_with fail
  go_ret
  exact ⟨rfl, Grow.refl _⟩
theorem Next_nil (w : World) : Calls Try.prog 17 #[.pointer none] w fun e w' => e = .returned (.tuple #[.int .i64 0, .bool false]) ∧ Grow w w' := by
  go_enter Try.func17, Try.ntmps17
  go_wp2_with fail
  go_ret2
  exact ⟨rfl, Grow.refl _⟩
theorem Len_nil (w : World) : Calls Try.prog 19 #[.pointer none] w fun e w' => e = .returned (.int .i64 0) ∧ Grow w w' := by
  go_enter Try.func19, Try.ntmps19
  go_wp2_with fail
  go_ret
  exact ⟨rfl, Grow.refl _⟩
theorem Held_nil (w : World) : Calls Try.prog 20 #[.pointer none] w fun e w' => e = .returned (.int .i64 0) ∧ Grow w w' := by
  go_enter Try.func20, Try.ntmps20
  go_wp2_with fail
  go_ret
  exact ⟨rfl, Grow.refl _⟩
end Go.Proofs.Ytfjmcfkpbacicaa
/- The page's example. -/
namespace Go.Proofs.Ytfjmcfkpbacicaa
set_option linter.unusedVariables false
set_option linter.unusedSimpArgs false
open Go.ChangeShapes Go.WideShapes Go.ChangeAt Go.RowKit

theorem rsLawCode_any (n : Int) (w : World) (h1 : -9223372036854775808 ≤ n) (h2 : n ≤ 9223372036854775807) :
    Calls Try.prog 10 #[.int .i64 n] w fun e w' => e = .returned (.int .i64 n) ∧ w = w' := by
  go_enter Try.func10, Try.ntmps10
  go_wp2_with fail
  go_ret
  exact ⟨rfl, rfl⟩
def exA : Pkt := ⟨0, 1, false, true, 0, 0, 0, 0, 0, [], List.replicate 8 0⟩
def exB : Pkt := ⟨0, 1, false, false, 1, 0, 0, 0, 0, [], List.replicate 8 0⟩
theorem exA_ok : exA.Ok := ⟨by decide, by decide, by decide, by decide, by decide, by decide, by decide, by decide⟩
theorem exB_ok : exB.Ok := ⟨by decide, by decide, by decide, by decide, by decide, by decide, by decide, by decide⟩
theorem ex_first : (addS 2 9 0 exB []).ok = false ∧ (addS 2 9 0 exB []).e = 0 := by decide +kernel
theorem ex_second : (addS 2 9 0 exA (addS 2 9 0 exB []).L).ok = true ∧ (addS 2 9 0 exA (addS 2 9 0 exB []).L).e = 0 ∧ (addS 2 9 0 exA (addS 2 9 0 exB []).L).k.data.length = 16 := by decide +kernel
theorem Only.on {Z : Nat → TypeId → Prop} {w w1 w2 : World} (o : Only w.heap.size Z w1 w2) (g : Grow w w1) : Grow w w2 := Below.trans g o.low
theorem own_made {w : World} {b : Nat} {v : Value} {n : Nat} (hown : w.ownsRow b 5 1 v n (madeCells (Value.int IntKind.u8 0).cells (n * 1)).toList) : Own w b v (List.replicate n 0) := by
  rw [show (Value.int IntKind.u8 0).cells = #[Value.int IntKind.u8 0] from rfl, Nat.mul_one, toList_madeCells_one] at hown
  unfold Own
  rw [List.map_replicate, List.length_replicate]
  exact hown
theorem Firm.nil (base : Nat) (w : World) : Firm base w (.slice none 0 0) [] := ⟨Byt.nil w, fun h => absurd h (by simp)⟩
set_option maxRecDepth 10000 in
set_option maxHeartbeats 8000000 in
theorem rsLive_any (w : World) : Calls Try.prog 8 #[] w fun e w' => e = .returned (.bool true) ∧ Grow w w' := by
  obtain ⟨i0, hi, hz0, hz1, hz2⟩ := info_parts infoByte
  have f1 : i0.bytes * 8 ≤ 281474976710656 := by rw [hz2]; omega
  have f2 : 8 ≤ maxLen := by unfold maxLen; omega
  have cC := fun w => rsLawCode_any 0 w (by decide) (by decide)
  have cN := RsNew_any w w.heap.size (Nat.le_refl _) 2 9 (by decide)
  go_enter Try.func8, Try.ntmps8
  go_wp2_with fail
  refine cN.mono ?_
  rintro e w1 ⟨tb, rfl, hT1, hg1⟩
  have T1 := Lib.hid (And.intro hT1 hg1)
  clear hT1 hg1 cN
  go_wp2_with fail
  refine (cC _).mono ?_
  rintro e w1' ⟨rfl, rfl⟩
  go_upto_region 5 with (at_make; refine wpList_make_full _ rfl _ _ 36 rfl w1.heap.size 5 i0 (.int .u8 0) 1 Try.underlying36 hi hz0 hz1 .i64 .i64 _ _ 8 rfl rfl rfl rfl f1 f2 (Nat.le_refl _) ?_; intro w2 hown2 hg2)
  have hs1 := T1.out.2.size
  obtain ⟨w3, hw3⟩ : ∃ w3, w3 = w2.alloc (.cells #[.int .u8 0, .int .u16 1, .bool false, .bool true, .int .i64 0, .int .u8 0, .int .u8 0, .int .u32 0, .int .u32 0, .slice none 0 0, .slice (some ⟨w1.heap.size, 0, none⟩) 8 8] 38) := ⟨_, rfl⟩
  rw [← hw3]
  have g2 : Grow w1 w2 := (Below.refl _ _).grown hg2 (Nat.le_refl _) (by simp)
  have g23 : Grow w2 w3 := by rw [hw3]; exact Grow.alloc _ _
  have bA : Blk w3 w2.heap.size exA (.slice none 0 0) (.slice (some ⟨w1.heap.size, 0, none⟩) 8 8) := by rw [hw3]; exact Blk.new w2 exA _ _
  have oA : Own w3 w1.heap.size (.slice (some ⟨w1.heap.size, 0, none⟩) 8 8) (List.replicate 8 0) := (own_made (n := 8) hown2).grow g23
  have T3 := Lib.hid (And.intro (T1.out.2.trans (g2.trans g23)) (And.intro bA (And.intro oA (g2.trans g23))))
  clear hown2 hg2 g2 g23 bA oA hw3
  go_wp2_with (at_make; refine wpList_make_full _ rfl _ _ 36 rfl w3.heap.size 5 i0 (.int .u8 0) 1 Try.underlying36 hi hz0 hz1 .i64 .i64 _ _ 8 rfl rfl rfl rfl f1 f2 (Nat.le_refl _) ?_; intro w4 hown4 hg4)
  obtain ⟨w5, hw5⟩ : ∃ w5, w5 = w4.alloc (.cells #[.int .u8 0, .int .u16 1, .bool false, .bool false, .int .i64 1, .int .u8 0, .int .u8 0, .int .u32 0, .int .u32 0, .slice none 0 0, .slice (some ⟨w3.heap.size, 0, none⟩) 8 8] 38) := ⟨_, rfl⟩
  rw [← hw5]
  have g4 : Grow w3 w4 := (Below.refl _ _).grown hg4 (Nat.le_refl _) (by simp)
  have g45 : Grow w4 w5 := by rw [hw5]; exact Grow.alloc _ _
  have oB : Own w5 w3.heap.size (.slice (some ⟨w3.heap.size, 0, none⟩) 8 8) (List.replicate 8 0) := (own_made (n := 8) hown4).grow g45
  have G5 := T3.out.1.trans (g4.trans g45)
  obtain ⟨mb, ov, L, hTab, hLA, hAok⟩ := T1.out.1
  have hT5 : TabA w5 w.heap.size tb 2 9 [] := ⟨mb, ov, L, hTab.grow (T3.out.2.2.2.trans (g4.trans g45)), hLA, hAok⟩
  have cA := RsAdd_any w5 w.heap.size tb 2 9 [] hT5 0 exB (.slice none 0 0) (.slice (some ⟨w3.heap.size, 0, none⟩) 8 8) ⟨Firm.nil _ _, Firm.own oB, exB_ok, ⟨by decide, by decide⟩⟩
  have T5 := Lib.hid (And.intro G5 (And.intro (T3.out.2.1.grow (g4.trans g45)) (T3.out.2.2.1.grow (g4.trans g45))))
  clear hown4 hg4 g4 g45 oB G5 hTab hLA hAok hT5 hw5
  refine cA.mono ?_
  rintro e w6 ⟨vo6, vd6, rfl, hip6, hT6, o6⟩
  have e1 := ex_first
  have e2 := ex_second
  rw [e1.1, e1.2]
  generalize hA6 : addS 2 9 0 exB [] = R6 at *
  obtain ⟨A6, k6, ok6, er6⟩ := R6
  simp only at e1 e2 hT6 hip6
  have hb6 : w.heap.size ≤ w6.heap.size := Nat.le_trans T5.out.1.size o6.size
  have bA6 : Blk w6 w2.heap.size exA (.slice none 0 0) (.slice (some ⟨w1.heap.size, 0, none⟩) 8 8) := o6.cells T5.out.2.1 (fun e => by rcases e with (e | e | e) | e | e <;> exact absurd e (by decide))
  have oA6 : Own w6 w1.heap.size (.slice (some ⟨w1.heap.size, 0, none⟩) 8 8) (List.replicate 8 0) := o6.row T5.out.2.2 (fun b _ => za_byte b)
  obtain ⟨A, c, B, d, hv, _⟩ := hip6.form
  rw [hv]
  unfold ipV
  clear hv hip6 cA hA6
  go_upto_region 7 with fail
  obtain ⟨w7, hw7⟩ : ∃ w7, w7 = w6.alloc (.cells #[.int .u8 (k6.tos : Int), .int .u16 (k6.ident : Int), .bool k6.whole, .bool k6.more, .int .i64 k6.off, .int .u8 (k6.ttl : Int), .int .u8 (k6.proto : Int), .int .u32 (k6.src : Int), .int .u32 (k6.dst : Int), .slice A k6.opts.length c, .slice B k6.data.length d] 38) := ⟨_, rfl⟩
  rw [← hw7]
  have g7 : Grow w6 w7 := by rw [hw7]; exact Grow.alloc _ _
  obtain ⟨b0, b1, b2, b3, b4, b5, b6, b7, b8, b9, b10⟩ := (bA6.grow g7).boxd
  obtain ⟨mb, ov, L, hTab, hLA, hAok⟩ := hT6
  have cA := RsAdd_any w7 w.heap.size tb 2 9 A6 ⟨mb, ov, L, hTab.grow g7, hLA, hAok⟩ 0 exA (.slice none 0 0) (.slice (some ⟨w1.heap.size, 0, none⟩) 8 8) ⟨Firm.nil _ _, Firm.own (oA6.grow g7), exA_ok, ⟨by decide, by decide⟩⟩
  have T7 := Lib.hid (And.intro (o6.on T5.out.1) g7)
  clear hTab hLA hAok bA6 oA6 hw7
  unfold ipV at cA
  go_wp2_with fail
  refine cA.mono ?_
  rintro e w8 ⟨vo8, vd8, rfl, hip8, hT8, o8⟩
  rw [e2.1, e2.2.1]
  have e3 := e2.2.2
  generalize hR8 : addS 2 9 0 exA A6 = R8 at *
  obtain ⟨A8, k8, ok8, er8⟩ := R8
  simp only at e3 hip8
  obtain ⟨C, c', D, d', hv, _⟩ := hip8.form
  simp only
  rw [hv]
  rw [e3]
  unfold ipV
  have G8 := Lib.hid (o8.on (T7.out.1.trans T7.out.2))
  clear b0 b1 b2 b3 b4 b5 b6 b7 b8 b9 b10 cA hv hip8 hT8 o8 e1 e2 e3 hR8 o6 g7
  go_upto_region 8 with fail
  obtain ⟨w9, hw9⟩ : ∃ w9, w9 = w8.alloc (.cells #[.int .u8 (k8.tos : Int), .int .u16 (k8.ident : Int), .bool k8.whole, .bool k8.more, .int .i64 k8.off, .int .u8 (k8.ttl : Int), .int .u8 (k8.proto : Int), .int .u32 (k8.src : Int), .int .u32 (k8.dst : Int), .slice C k8.opts.length c', .slice D 16 d'] 38) := ⟨_, rfl⟩
  rw [← hw9]
  have g9 : Grow w8 w9 := by rw [hw9]; exact Grow.alloc _ _
  have b10 : w9.cell? ⟨w8.heap.size, 10, none⟩ = some (.slice D 16 d') := by
    rw [hw9]
    exact cell_of_row _ _ 10 _ _ _ (heap_alloc_new w8 _)
  have G9 := Lib.hid (G8.out.trans g9)
  clear g9 hw9
  go_wp2_with fail
  refine (cC _).mono ?_
  rintro e w' ⟨rfl, rfl⟩
  go_wp2_with fail
  refine (cC _).mono ?_
  rintro e w' ⟨rfl, rfl⟩
  go_wp2_with fail
  go_ret
  exact ⟨rfl, G9.out⟩
end Go.Proofs.Ytfjmcfkpbacicaa
/- What holds of the pieces, in numbers. -/
namespace Go.Proofs.Ytfjmcfkpbacicaa
set_option linter.unusedVariables false
set_option linter.unusedSimpArgs false

/-- The bytes of some pieces, one after another. -/
def fall (L : List Pkt) : List UInt8 := L.flatMap Pkt.data
theorem fall_cons (x : Pkt) (L : List Pkt) : fall (x :: L) = x.data ++ fall L := by simp [fall]
theorem fall_next (L : List Pkt) (i : Nat) (h : i < L.length) : fall (L.take (i + 1)) = fall (L.take i) ++ L[i].data := by
  unfold fall
  rw [List.take_succ_eq_append_getElem h, List.flatMap_append, List.flatMap_cons, List.flatMap_nil, List.append_nil]

structure PieceOk (m : Nat) (r : Pkt) (L : List Pkt) (i : Nat) (h : i < L.length) : Prop where
  len : L[i].len ≤ m
  off : L[i].off = r.off + ((fall (L.take i)).length / 8 : Nat)
  eight : (fall (L.take i)).length % 8 = 0
  mid : i + 1 < L.length → L[i].data.length % 8 = 0 ∧ L[i].more = true
  last : i + 1 = L.length → L[i].more = r.more
  opts : L[i].opts.length ≤ 40 ∧ L[i].opts.length % 4 = 0
  off0 : 0 ≤ L[i].off ∧ L[i].off ≤ 8191

theorem fpieces_spec (c : List UInt8) (m : Nat) (hm : 68 ≤ m) (hc : c.length ≤ 40 ∧ c.length % 4 = 0) : ∀ (f : Nat) (r : Pkt) (L : List Pkt), fpieces c m f r = some L → r.opts.length ≤ 40 ∧ r.opts.length % 4 = 0 → 0 ≤ r.off → r.data.length < f →
    0 < L.length ∧ fall L = r.data ∧ ∀ i (h : i < L.length), PieceOk m r L i h
  | 0, r, L, _, _, _, h => absurd h (by omega)
  | f + 1, r, L, hg, ho, h0, hf => by
    rw [fpieces] at hg
    by_cases h1 : 8191 < r.off
    · rw [if_pos h1] at hg; cases hg
    rw [if_neg h1] at hg
    by_cases h2 : r.len ≤ m
    · rw [if_pos h2] at hg
      cases hg
      refine ⟨by simp, by simp [fall], fun i h => ?_⟩
      obtain rfl : i = 0 := by simp at h; omega
      exact ⟨h2, by simp [fall], by simp [fall], fun h => by simp at h, fun _ => rfl, ho, ⟨h0, by show r.off ≤ _; omega⟩⟩
    rw [if_neg h2] at hg
    obtain ⟨r1, r2, r3, r4⟩ := froom_bounds hm ho.1 (show m < r.len by omega)
    cases hq : fpieces c m f (frest c m r) with
    | none => rw [hq] at hg; cases hg
    | some L' =>
      rw [hq] at hg
      simp only [Option.map_some, Option.some.injEq] at hg
      subst hg
      have hdl : (frest c m r).data.length = r.data.length - froom m r := by show (r.data.drop _).length = _; rw [List.length_drop]
      have hfl := ffirst_len (m := m) (k := r) (by omega)
      have hoff : (frest c m r).off = r.off + (froom m r / 8 : Nat) := rfl
      obtain ⟨p1, p2, p3⟩ := fpieces_spec c m hm hc f (frest c m r) L' hq hc (by rw [hoff]; omega) (by omega)
      refine ⟨by simp, ?_, fun i h => ?_⟩
      · rw [fall_cons, p2]
        show r.data.take _ ++ r.data.drop _ = _
        exact List.take_append_drop _ _
      · cases i with
        | zero =>
          refine ⟨?_, by simp [fall]; rfl, by simp [fall], fun _ => ⟨?_, rfl⟩, fun h => ?_, ho, ⟨h0, by show r.off ≤ _; omega⟩⟩
          · show Pkt.len (ffirst m r) ≤ m
            unfold Pkt.len
            rw [hfl]
            show 20 + r.opts.length + _ ≤ m
            unfold froom at *
            omega
          · show (ffirst m r).data.length % 8 = 0
            rw [hfl]; exact r3
          · simp at h; subst h; simp at p1
        | succ i =>
          have h' : i < L'.length := by simpa using h
          have q := p3 i h'
          have e1 : (fall ((ffirst m r :: L').take (i + 1))).length = froom m r + (fall (L'.take i)).length := by
            rw [List.take_succ_cons, fall_cons, List.length_append, hfl]
          have q8 := q.eight
          refine ⟨q.len, ?_, by rw [e1]; omega, fun hh => q.mid (by simpa using hh), fun hh => q.last (by simpa using hh), q.opts, q.off0⟩
          show L'[i].off = _
          rw [q.off, hoff, e1]
          omega

/-- All that the law asks of the pieces. -/
theorem flist_spec {k : Pkt} {mtu : Int} (h : fcodeS k mtu = 0) : ∃ m : Nat, mtu = (m : Int) ∧ 68 ≤ m ∧ m ≤ 65535 ∧ (0 ≤ k.off ∧ k.off ≤ 8191) ∧ fall (flist k mtu) = k.data ∧ ∀ i (hi : i < (flist k mtu).length), PieceOk m k (flist k mtu) i hi := by
  have hw : fwhy k mtu = 0 := by
    by_cases hw : fwhy k mtu ≠ 0
    · exact absurd ((fsplit_why hw).1.symm.trans h) hw
    · simpa using hw
  obtain ⟨h1, h2, h3⟩ := fwhy_ok hw
  obtain ⟨m, rfl⟩ := Int.eq_ofNat_of_zero_le (show 0 ≤ mtu by omega)
  have hc : k.opts.length ≤ 40 ∧ k.opts.length % 4 = 0 ∧ 0 ≤ k.off := by
    unfold Pkt.check at h1
    split at h1
    · cases h1
    · omega
  cases hg : fgo k (m : Int) with
  | none => rw [(fsplit_none hw hg).1] at h; cases h
  | some L =>
    rw [(fsplit_some hw hg).2]
    obtain ⟨p1, p2, p3⟩ := fpieces_spec (fcar k.opts) m (by omega) (fcar_length _) (k.data.length + 1) k L hg ⟨hc.1, hc.2.1⟩ hc.2.2 (by omega)
    exact ⟨m, rfl, by omega, by omega, ⟨hc.2.2, (Pkt.check_ok h1).2.1⟩, p2, p3⟩
theorem flist_bad {k : Pkt} {mtu : Int} (h : fcodeS k mtu ≠ 0) : flist k mtu = [] := by
  by_cases hw : fwhy k mtu ≠ 0
  · exact (fsplit_why hw).2
  · have hw0 : fwhy k mtu = 0 := by simpa using hw
    cases hg : fgo k mtu with
    | none => exact (fsplit_none hw0 hg).2
    | some L => exact absurd (fsplit_some hw0 hg).1 h
/-- A piece that is cut again stays. -/
theorem flist_again {x : Pkt} {m : Nat} (h1 : x.len ≤ m) (h2 : 68 ≤ m) (h3 : m ≤ 65535) (ho : x.opts.length ≤ 40 ∧ x.opts.length % 4 = 0) (h0 : 0 ≤ x.off ∧ x.off ≤ 8191) : fcodeS x (m : Int) = 0 ∧ flist x (m : Int) = [x] := by
  have hc : x.check = 0 := by
    unfold Pkt.check
    rw [if_neg (by omega), if_neg (by omega)]
  have hw : fwhy x (m : Int) = 0 := by
    unfold fwhy
    rw [if_neg (by omega), if_neg (by omega), if_pos (by omega)]
  refine fsplit_some hw ?_
  unfold fgo
  rw [fpieces, if_neg (by omega), if_pos (by simpa using h1)]
end Go.Proofs.Ytfjmcfkpbacicaa
/- The pieces of one packet, in any order, in numbers. -/
namespace Go.Proofs.Ytfjmcfkpbacicaa
set_option linter.unusedVariables false
set_option linter.unusedSimpArgs false

def Pkt.at_ (q : Pkt) : Nat := (8 * q.off).toNat
/-- q is a piece of k. -/
structure Pc (k q : Pkt) : Prop where
  o0 : 0 ≤ q.off
  ne : q.data ≠ []
  fit : q.at_ + q.data.length ≤ k.data.length
  data : ∀ i, i < q.data.length → q.data[i]? = k.data[q.at_ + i]?
  mid : q.more = true → q.data.length % 8 = 0
  last : q.more = false ↔ q.at_ + q.data.length = k.data.length
  hdr : q.tos = k.tos ∧ q.ident = k.ident ∧ q.whole = k.whole ∧ q.ttl = k.ttl ∧ q.proto = k.proto ∧ q.src = k.src ∧ q.dst = k.dst
  opts : q.off = 0 → q.opts = k.opts
  few : q.opts.length ≤ 40
def Covs (dn : List Pkt) (i : Nat) : Prop := ∃ q ∈ dn, q.at_ ≤ i ∧ i < q.at_ + q.data.length
theorem Pc.pos {k q : Pkt} (h : Pc k q) : 0 < q.data.length := List.length_pos_iff.2 h.ne

/-- One behind another, from p to e. -/
def Run (k : Pkt) : Nat → List Pkt → Nat → Prop
  | p, [], e => p = e
  | p, q :: L, e => q.at_ = p ∧ Pc k q ∧ Run k (p + q.data.length) L e
theorem Run.append {k : Pkt} : ∀ {L M : List Pkt} {p e f : Nat}, Run k p L e → Run k e M f → Run k p (L ++ M) f
  | [], M, p, e, f, h, h2 => by
    have : p = e := h
    subst this
    exact h2
  | q :: L, M, p, e, f, h, h2 => ⟨h.1, h.2.1, Run.append h.2.2 h2⟩
theorem Run.split {k : Pkt} : ∀ {L M : List Pkt} {p f : Nat}, Run k p (L ++ M) f → ∃ e, Run k p L e ∧ Run k e M f
  | [], M, p, f, h => ⟨p, rfl, h⟩
  | q :: L, M, p, f, h => by
    obtain ⟨e, h1, h2⟩ := Run.split (L := L) h.2.2
    exact ⟨e, ⟨h.1, h.2.1, h1⟩, h2⟩
theorem Run.le {k : Pkt} : ∀ {L : List Pkt} {p e : Nat}, Run k p L e → p + L.length ≤ e
  | [], p, e, h => by
    have : p = e := h
    simp; omega
  | q :: L, p, e, h => by
    have h1 := Run.le h.2.2
    have h2 := h.2.1.pos
    simp only [List.length_cons]
    omega
theorem Run.mem {k : Pkt} : ∀ {L : List Pkt} {p e : Nat}, Run k p L e → ∀ q ∈ L, Pc k q
  | [], p, e, h, q, hq => by cases hq
  | x :: L, p, e, h, q, hq => by
    rcases List.mem_cons.1 hq with rfl | hq
    · exact h.2.1
    · exact Run.mem h.2.2 q hq
theorem Run.covs {k : Pkt} : ∀ {L : List Pkt} {p e : Nat}, Run k p L e → ∀ i, Covs L i ↔ p ≤ i ∧ i < e
  | [], p, e, h, i => by
    have : p = e := h
    refine ⟨fun ⟨q, hq, _⟩ => (by cases hq), fun h => (by omega)⟩
  | x :: L, p, e, h, i => by
    have ih := Run.covs h.2.2 i
    have hl := Run.le h.2.2
    have h1 := h.1
    constructor
    · rintro ⟨q, hq, h2, h3⟩
      rcases List.mem_cons.1 hq with rfl | hq
      · omega
      · have := ih.1 ⟨q, hq, h2, h3⟩
        omega
    · intro h2
      by_cases h3 : i < p + x.data.length
      · exact ⟨x, by simp, by omega, by omega⟩
      · obtain ⟨q, hq, h4⟩ := ih.2 (by omega)
        exact ⟨q, by simp [hq], h4⟩

/-- All is there just when all pieces are. -/
theorem run_full {k : Pkt} {L dn : List Pkt} (h : Run k 0 L k.data.length) {S : Nat → Prop} (hd : ∀ x, x ∈ dn ↔ ∃ j, S j ∧ L[j]? = some x) : (∀ i, i < k.data.length → Covs dn i) ↔ ∀ j, j < L.length → S j := by
  constructor
  · intro hf j hj
    refine Classical.byContradiction fun hn => ?_
    have eL : L = L.take j ++ L[j] :: L.drop (j + 1) := by rw [← List.drop_eq_getElem_cons hj, List.take_append_drop]
    rw [eL] at h
    obtain ⟨m, h1, h2⟩ := h.split
    have hl := h2.2.2.le
    have hp := h2.2.1.pos
    have hat := h2.1
    obtain ⟨q, hq, h3, h4⟩ := hf m (by omega)
    obtain ⟨i, hS, hi⟩ := (hd q).1 hq
    obtain ⟨hil, hie⟩ := List.getElem?_eq_some_iff.1 hi
    rcases Nat.lt_trichotomy i j with hij | hij | hij
    · have : Covs (L.take j) m := ⟨q, by rw [← hie]; exact List.mem_take_iff_getElem.2 ⟨i, by omega, rfl⟩, h3, h4⟩
      have := (h1.covs m).1 this
      omega
    · subst hij
      exact hn hS
    · have : Covs (L.drop (j + 1)) m := ⟨q, by rw [← hie]; exact List.mem_drop_iff_getElem.2 ⟨i - (j + 1), by omega, by congr 1; omega⟩, h3, h4⟩
      have := (h2.2.2.covs m).1 this
      omega
  · intro hS i hi
    obtain ⟨q, hq, h1⟩ := (h.covs i).2 ⟨Nat.zero_le _, hi⟩
    obtain ⟨j, hj, rfl⟩ := List.getElem_of_mem hq
    exact ⟨L[j], (hd _).2 ⟨j, hS j hj, List.getElem?_eq_getElem hj⟩, h1⟩
/-- None is complete, where there are two. -/
theorem run_part {k : Pkt} {L : List Pkt} (h : Run k 0 L k.data.length) (h2 : 2 ≤ L.length) : ∀ q ∈ L, ¬ (q.off = 0 ∧ q.more = false) := by
  intro q hq hc
  have hpc := h.mem q hq
  obtain ⟨A, B, rfl⟩ := List.append_of_mem hq
  obtain ⟨m, h3, h4⟩ := h.split
  have e1 := h3.le
  have e2 := h4.2.2.le
  have e3 := h4.1
  have e4 := hpc.last.1 hc.2
  have e5 : q.at_ = 0 := by unfold Pkt.at_; rw [hc.1]; rfl
  simp only [List.length_append, List.length_cons] at h2
  omega
theorem run_one {k y : Pkt} (h : Run k 0 [y] k.data.length) (h0 : k.off = 0) (hm : k.more = false) : y = k := by
  obtain ⟨h1, h2, h3⟩ := h
  have h3 : 0 + y.data.length = k.data.length := h3
  have hy0 : y.off = 0 := by
    have := h2.o0
    unfold Pkt.at_ at h1
    omega
  have hmo := h2.last.2 (by omega)
  have ho := h2.opts hy0
  have hd : y.data = k.data := by
    refine List.ext_getElem? fun i => ?_
    by_cases hi : i < y.data.length
    · rw [h2.data i hi, h1, Nat.zero_add]
    · rw [List.getElem?_eq_none (by omega), List.getElem?_eq_none (by omega)]
  obtain ⟨e1, e2, e3, e4, e5, e6, e7⟩ := h2.hdr
  obtain ⟨a0, a1, a2, a3, a4, a5, a6, a7, a8, a9, a10⟩ := y
  obtain ⟨b0, b1, b2, b3, b4, b5, b6, b7, b8, b9, b10⟩ := k
  simp only at *
  subst e1 e2 e3 e4 e5 e6 e7 ho hd hy0 hmo h0 hm
  rfl

theorem at_add {a : Int} {n : Nat} (h : 0 ≤ a) : (8 * (a + (n : Int))).toNat = (8 * a).toNat + 8 * n := by omega
theorem run_pieces {k : Pkt} (c : List UInt8) (m : Nat) (hm : 68 ≤ m) (hc : c.length ≤ 40) : ∀ (f : Nat) (r : Pkt) (M : List Pkt), fpieces c m f r = some M → Pc k r → r.data.length < f → Run k r.at_ M (r.at_ + r.data.length)
  | 0, r, M, _, _, h => absurd h (by omega)
  | f + 1, r, M, hg, hp, hf => by
    rw [fpieces] at hg
    split at hg
    · cases hg
    split at hg
    · cases hg
      exact ⟨rfl, hp, rfl⟩
    · rename_i h1 h2
      obtain ⟨r1, r2, r3, r4⟩ := froom_bounds hm hp.few (show m < r.len by omega)
      obtain ⟨R, hR⟩ : ∃ R, R = froom m r := ⟨_, rfl⟩
      rw [← hR] at r1 r2 r3
      cases hq : fpieces c m f (frest c m r) with
      | none => rw [hq] at hg; cases hg
      | some L' =>
        rw [hq] at hg
        simp only [Option.map_some, Option.some.injEq] at hg
        subst hg
        have e1 : (frest c m r).data = r.data.drop R := by rw [hR]; rfl
        have e2 : (frest c m r).off = r.off + ((R / 8 : Nat) : Int) := by rw [hR]; rfl
        have e3 : (frest c m r).at_ = r.at_ + R := by
          unfold Pkt.at_
          rw [e2, at_add hp.o0]
          omega
        have e4 : (ffirst m r).data = r.data.take R := by rw [hR]; rfl
        have e5 : (ffirst m r).at_ = r.at_ := rfl
        have hfit := hp.fit
        have l1 : (ffirst m r).data.length = R := by rw [e4, List.length_take]; omega
        have l2 : (frest c m r).data.length = r.data.length - R := by rw [e1, List.length_drop]
        have p1 : Pc k (ffirst m r) := by
          refine ⟨hp.o0, fun e => ?_, by rw [l1, e5]; omega, fun i hi => ?_, fun _ => by rw [l1]; exact r3, ?_, hp.hdr, hp.opts, hp.few⟩
          · have := congrArg List.length e
            rw [l1] at this
            simp at this
            omega
          · rw [e4, List.getElem?_take_of_lt (by omega), e5]
            exact hp.data i (by omega)
          · constructor
            · intro e; cases e
            · intro e; rw [l1, e5] at e; omega
        have p2 : Pc k (frest c m r) := by
          refine ⟨by rw [e2]; have := hp.o0; omega, fun e => ?_, by rw [l2, e3]; omega, fun i hi => ?_, fun hmo => ?_, ?_, hp.hdr, fun e => ?_, hc⟩
          · have := congrArg List.length e
            rw [l2] at this
            simp at this
            omega
          · rw [e1, List.getElem?_drop, hp.data _ (by omega), e3, Nat.add_assoc]
          · have := hp.mid hmo
            rw [l2]
            omega
          · rw [l2, e3, show r.at_ + R + (r.data.length - R) = r.at_ + r.data.length by omega]
            exact hp.last
          · rw [e2] at e
            have := hp.o0
            omega
        have ih := run_pieces c m hm hc f (frest c m r) L' hq p2 (by omega)
        rw [e3, l2, show r.at_ + R + (r.data.length - R) = r.at_ + r.data.length by omega] at ih
        exact ⟨rfl, p1, by rw [l1]; exact ih⟩
theorem flist_go {k : Pkt} {mtu : Int} (h : fcodeS k mtu = 0) : ∃ m : Nat, mtu = (m : Int) ∧ 68 ≤ m ∧ fpieces (fcar k.opts) m (k.data.length + 1) k = some (flist k mtu) ∧ k.opts.length ≤ 40 ∧ 0 ≤ k.off := by
  have hw : fwhy k mtu = 0 := by
    by_cases hw : fwhy k mtu ≠ 0
    · exact absurd ((fsplit_why hw).1.symm.trans h) hw
    · simpa using hw
  obtain ⟨h1, h2, h3⟩ := fwhy_ok hw
  obtain ⟨m, rfl⟩ := Int.eq_ofNat_of_zero_le (show 0 ≤ mtu by omega)
  obtain ⟨c1, c2, c3, _⟩ := Pkt.check_ok h1
  cases hg : fgo k (m : Int) with
  | none => rw [(fsplit_none hw hg).1] at h; cases h
  | some L =>
    rw [(fsplit_some hw hg).2]
    exact ⟨m, rfl, by omega, hg, c3, c1⟩
theorem flist_run {k q : Pkt} {mtu : Int} (h : fcodeS q mtu = 0) (hp : Pc k q) : Run k q.at_ (flist q mtu) (q.at_ + q.data.length) := by
  obtain ⟨m, rfl, h1, h2, _⟩ := flist_go h
  exact run_pieces _ m h1 (fcar_length _).1 _ q _ h2 hp (Nat.lt_succ_self _)
theorem flist_nil {k : Pkt} {mtu : Int} (h : fcodeS k mtu = 0) (hd : k.data = []) : flist k mtu = [k] := by
  obtain ⟨m, rfl, h1, h2, h3, _⟩ := flist_go h
  rw [fpieces] at h2
  split at h2
  · cases h2
  · rw [if_pos (by unfold Pkt.len; rw [hd]; simp; omega)] at h2
    exact (Option.some.inj h2).symm
theorem Pc.self {k : Pkt} (h0 : k.off = 0) (hm : k.more = false) (hd : k.data ≠ []) (ho : k.opts.length ≤ 40) : Pc k k := by
  have e : k.at_ = 0 := by unfold Pkt.at_; rw [h0]; rfl
  refine ⟨by omega, hd, by rw [e]; omega, fun i _ => by rw [e, Nat.zero_add], fun h => ?_, ?_, ⟨rfl, rfl, rfl, rfl, rfl, rfl, rfl⟩, fun _ => rfl, ho⟩
  · rw [hm] at h; cases h
  · rw [e]; simp [hm]
theorem run_flat {k : Pkt} {small : Int} : ∀ {L : List Pkt} {p e : Nat}, Run k p L e → (∀ q ∈ L, fcodeS q small = 0) → Run k p (L.flatMap fun q => flist q small) e
  | [], p, e, h, _ => h
  | q :: L, p, e, h, hc => by
    rw [List.flatMap_cons]
    have h1 := flist_run (hc q (by simp)) h.2.1
    rw [h.1] at h1
    exact h1.append (run_flat h.2.2 fun x hx => hc x (by simp [hx]))

/-- What waits of k, where these pieces have come. -/
structure Cov (k : Pkt) (dn : List Pkt) (t : Wt) : Prop where
  nm : t.nm = nmOf k
  some : ∀ f, t.first = some f → wholeK f k.data = k
  none : t.first = none → ∀ q ∈ dn, q.off ≠ 0
  fin : t.fin = k.data.length ∨ (t.fin = 0 ∧ ∀ q ∈ dn, q.more = true)
  bytes : ∀ i b, look t.c i = .some b → Covs dn i ∧ k.data[i]? = .some b
  has : ∀ i, Covs dn i → ∃ b, look t.c i = .some b
  len : t.c.length ≤ k.data.length
theorem Cov.fresh (k : Pkt) (till : Int) : Cov k [] (freshW (nmOf k) till) := by
  have hl : ∀ i, look (freshW (nmOf k) till).c i = .none := fun i => look_past (by simp [freshW])
  refine ⟨rfl, fun f h => (by cases h), fun _ q hq => (by cases hq), .inr ⟨rfl, fun q hq => (by cases hq)⟩, fun i b h => ?_, fun i ⟨q, hq, _⟩ => (by cases hq), by simp [freshW]⟩
  rw [hl] at h
  cases h
theorem covs_snoc {dn : List Pkt} {q : Pkt} {i : Nat} : Covs (dn ++ [q]) i ↔ Covs dn i ∨ (q.at_ ≤ i ∧ i < q.at_ + q.data.length) := by
  constructor
  · rintro ⟨x, hx, h⟩
    rcases List.mem_append.1 hx with h1 | h1
    · exact .inl ⟨x, h1, h⟩
    · rw [List.mem_singleton.1 h1] at h; exact .inr h
  · rintro (⟨x, hx, h⟩ | h)
    · exact ⟨x, List.mem_append_left _ hx, h⟩
    · exact ⟨q, by simp, h⟩
theorem whole_eq {k q : Pkt} (hp : Pc k q) (h0 : k.off = 0) (hm : k.more = false) (hq : q.off = 0) : wholeK q k.data = k := by
  obtain ⟨e1, e2, e3, e4, e5, e6, e7⟩ := hp.hdr
  have ho := hp.opts hq
  unfold wholeK
  obtain ⟨a0, a1, a2, a3, a4, a5, a6, a7, a8, a9, a10⟩ := q
  obtain ⟨b0, b1, b2, b3, b4, b5, b6, b7, b8, b9, b10⟩ := k
  simp only at *
  subst e1 e2 e3 e4 e5 e6 e7 ho hq h0 hm
  rfl
theorem Cov.took {k q : Pkt} {dn : List Pkt} {t : Wt} (h : Cov k dn t) (hp : Pc k q) (h0 : k.off = 0) (hm : k.more = false) : Cov k (dn ++ [q]) (tookW t q) := by
  have hlk : ∀ i, look (tookW t q).c i = (look t.c i).or (if q.at_ ≤ i then q.data[i - q.at_]? else .none) := fun i => paint_look _ _ _ _
  have hfit := hp.fit
  refine ⟨h.nm, fun f hf => ?_, fun hf => ?_, ?_, fun i b hb => ?_, fun i hi => ?_, ?_⟩
  · have hf : (if q.off = 0 ∧ t.first = .none then Option.some q else t.first) = .some f := hf
    split at hf
    · rename_i h1
      cases hf
      exact whole_eq hp h0 hm h1.1
    · exact h.some f hf
  · have hf : (if q.off = 0 ∧ t.first = .none then Option.some q else t.first) = .none := hf
    split at hf
    · cases hf
    · rename_i h1
      intro x hx
      rcases List.mem_append.1 hx with h2 | h2
      · exact h.none hf x h2
      · rw [List.mem_singleton.1 h2]
        exact fun e => h1 ⟨e, hf⟩
  · show (if q.more = true then t.fin else (endOf q).toNat) = _ ∨ (if q.more = true then t.fin else (endOf q).toNat) = 0 ∧ _
    by_cases hmo : q.more = true
    · rw [if_pos hmo]
      rcases h.fin with h1 | ⟨h1, h2⟩
      · exact .inl h1
      · refine .inr ⟨h1, fun x hx => ?_⟩
        rcases List.mem_append.1 hx with h3 | h3
        · exact h2 x h3
        · rw [List.mem_singleton.1 h3]; exact hmo
    · rw [if_neg hmo]
      left
      have := hp.last.1 (by simpa using hmo)
      have := hp.o0
      unfold endOf
      unfold Pkt.at_ at *
      omega
  · rw [hlk] at hb
    rw [covs_snoc]
    cases hc : look t.c i with
    | some b' =>
      rw [hc] at hb
      cases hb
      have := h.bytes i b hc
      exact ⟨.inl this.1, this.2⟩
    | none =>
      rw [hc, Option.none_or] at hb
      split at hb
      · rename_i h1
        obtain ⟨h2, _⟩ := List.getElem?_eq_some_iff.1 hb
        refine ⟨.inr ⟨h1, by omega⟩, ?_⟩
        rw [← hb, hp.data _ h2]
        congr 1
        omega
      · cases hb
  · rw [hlk]
    rw [covs_snoc] at hi
    rcases hi with h1 | ⟨h1, h2⟩
    · obtain ⟨b, hb⟩ := h.has i h1
      exact ⟨b, by rw [hb]; rfl⟩
    · cases hc : look t.c i with
      | some b => exact ⟨b, rfl⟩
      | none =>
        rw [Option.none_or, if_pos h1, List.getElem?_eq_getElem (by omega)]
        exact ⟨_, rfl⟩
  · show (paint t.c (8 * q.off).toNat q.data).length ≤ _
    rw [paint_length _ _ hp.ne]
    have := h.len
    unfold Pkt.at_ at hfit
    omega
theorem Cov.full {k : Pkt} {dn : List Pkt} {t : Wt} (h : Cov k dn t) (hd : ∀ q ∈ dn, Pc k q) (hk : k.data ≠ []) : fullW t = true ↔ ∀ i, i < k.data.length → Covs dn i := by
  have hpos := List.length_pos_iff.2 hk
  have hlen := h.len
  unfold fullW
  rw [decide_eq_true_iff]
  constructor
  · rintro ⟨h1, h2⟩ i hi
    rcases h.fin with h3 | ⟨h3, _⟩
    · have := cnt_le t.c
      obtain ⟨b, hb⟩ := cnt_all (c := t.c) (by omega) i (by omega)
      exact (h.bytes i b hb).1
    · exact absurd h3 h1
  · intro hf
    have hN := hf (k.data.length - 1) (by omega)
    obtain ⟨b, hb⟩ := h.has _ hN
    have hl : t.c.length = k.data.length := by
      by_cases hl : k.data.length - 1 < t.c.length
      · omega
      · rw [look_past (by omega)] at hb; cases hb
    have hc := cnt_of_all (c := t.c) fun i hi => h.has i (hf i (by omega))
    obtain ⟨q, hq, h1, h2⟩ := hN
    have hp := hd q hq
    have hfit := hp.fit
    have hqm := hp.last.2 (by omega)
    rcases h.fin with h3 | ⟨_, h3⟩
    · exact ⟨by omega, by omega⟩
    · have := h3 q hq
      rw [hqm] at this
      cases this
theorem Cov.flat {k : Pkt} {dn : List Pkt} {t : Wt} (h : Cov k dn t) (hf : ∀ i, i < k.data.length → Covs dn i) : bytesC t.c = k.data := by
  have hall : ∀ i, i < k.data.length → look t.c i = k.data[i]? := fun i hi => by
    obtain ⟨b, hb⟩ := h.has i (hf i hi)
    rw [hb, (h.bytes i b hb).2]
  have hl : t.c.length = k.data.length := by
    have := h.len
    rcases Nat.lt_or_ge t.c.length k.data.length with h1 | h1
    · obtain ⟨b, hb⟩ := h.has t.c.length (hf _ h1)
      rw [look_past (Nat.le_refl _)] at hb
      cases hb
    · omega
  have e : t.c = k.data.map .some := cont_ext (by rw [List.length_map]; exact hl) fun i hi => by rw [hall i (by omega), look_some]
  rw [e, bytesC_some]

/-- The table, one packet of which waits at most. -/
def CovA (k : Pkt) (dn : List Pkt) (A : List Wt) : Prop := (dn = [] ∧ A = []) ∨ ∃ t, A = [t] ∧ Cov k dn t
theorem cov_add {k q : Pkt} {dn : List Pkt} {A : List Wt} (h0 : k.off = 0) (hm : k.more = false) (hN : k.data.length ≤ 65515) (hlen : k.len ≤ 65535) (h : CovA k dn A) (hd : ∀ x ∈ dn, Pc k x) (hq : Pc k q) (hnc : ¬ (q.off = 0 ∧ q.more = false)) (now : Int) (hnow : 0 ≤ now ∧ now ≤ 1000) :
    ((∀ i, i < k.data.length → Covs (dn ++ [q]) i) → addS 1 100 now q A = ⟨[], k, true, 0⟩) ∧
    (¬ (∀ i, i < k.data.length → Covs (dn ++ [q]) i) → ∃ A', addS 1 100 now q A = ⟨A', zeroPk, false, 0⟩ ∧ CovA k (dn ++ [q]) A') := by
  have hfit := hq.fit
  have ho := hq.o0
  have hpos := hq.pos
  have hkd : k.data ≠ [] := fun e => by rw [e, List.length_nil] at hfit; omega
  have hnm : nmOf q = nmOf k := by
    obtain ⟨e1, e2, e3, e4, e5, e6, e7⟩ := hq.hdr
    unfold nmOf
    rw [e2, e5, e6, e7]
  have hend : endOf q = ((q.at_ + q.data.length : Nat) : Int) := by
    unfold endOf Pkt.at_
    omega
  have hchk : chk q = 0 := by
    unfold chk
    rw [if_neg (by
      rintro (h1 | ⟨h1, h2⟩)
      · omega
      · exact h2 (hq.mid h1)), if_neg (by omega)]
  have hoff : q.off ≤ 8191 := by
    unfold Pkt.at_ at hfit
    omega
  have hd2 : ∀ x ∈ dn ++ [q], Pc k x := fun x hx => by
    rcases List.mem_append.1 hx with h1 | h1
    · exact hd x h1
    · rw [List.mem_singleton.1 h1]; exact hq
  have hfin : ∀ (B : List Wt) (t : Wt), Cov k (dn ++ [q]) t → ((∀ i, i < k.data.length → Covs (dn ++ [q]) i) → finS [B.headD t] 0 t = ⟨[], k, true, 0⟩) ∧ (¬ (∀ i, i < k.data.length → Covs (dn ++ [q]) i) → finS [B.headD t] 0 t = ⟨[t], zeroPk, false, 0⟩) := by
    intro B t ht
    have hfu := ht.full hd2 hkd
    constructor
    · intro hf
      unfold finS
      rw [if_pos (hfu.2 hf), ht.flat hf]
      obtain ⟨f, hff⟩ : ∃ f, t.first = some f := by
        cases hff : t.first with
        | some f => exact ⟨f, rfl⟩
        | none =>
          obtain ⟨x, hx, h1, h2⟩ := hf 0 (by omega)
          have h3 := ht.none hff x hx
          have h4 := (hd2 x hx).o0
          unfold Pkt.at_ at h1
          omega
      rw [hff]
      simp only [Option.getD_some]
      rw [ht.some f hff, if_neg (by omega)]
      rfl
    · intro hf
      unfold finS
      rw [if_neg (fun e => hf (hfu.1 e))]
      rfl
  have hadd : ∃ (B : List Wt) (t : Wt), addS 1 100 now q A = finS [B.headD t] 0 t ∧ Cov k (dn ++ [q]) t := by
    unfold addS
    rw [if_neg (by omega), if_neg hnc, if_neg (by rw [hchk]; simp)]
    rcases h with ⟨rfl, rfl⟩ | ⟨t, rfl, ht⟩
    · refine ⟨[freshW (nmOf q) (now + 100)], tookW (freshW (nmOf q) (now + 100)) q, ?_, ?_⟩
      · rfl
      · rw [hnm]
        exact (Cov.fresh k _).took hq h0 hm
    · refine ⟨[t], tookW t q, ?_, ht.took hq h0 hm⟩
      have hix : idxOf [t] (nmOf q) = some 0 := by
        unfold idxOf
        rw [List.findIdx?_cons, if_pos (by rw [hnm, ht.nm]; simp)]
      rw [hix]
      simp only [List.getElem?_cons_zero]
      have hst : staleB t.fin t.c.length q = false := by
        have hl := ht.len
        unfold staleB
        rw [hend]
        by_cases hmo : q.more = true
        · rw [hmo]
          split
          · rename_i h1
            rcases ht.fin with h2 | ⟨h2, _⟩
            · simp; omega
            · exact absurd h2 h1
          · rfl
        · have hmo : q.more = false := by simpa using hmo
          have := hq.last.1 hmo
          rw [hmo]
          split
          · rename_i h1
            rcases ht.fin with h2 | ⟨h2, _⟩
            · simp; omega
            · exact absurd h2 h1
          · simp; omega
      rw [hst]
      rfl
  obtain ⟨B, t, e, ht⟩ := hadd
  rw [e]
  obtain ⟨f1, f2⟩ := hfin B t ht
  exact ⟨f1, fun hf => ⟨[t], f2 hf, .inr ⟨t, rfl, ht⟩⟩⟩
end Go.Proofs.Ytfjmcfkpbacicaa
