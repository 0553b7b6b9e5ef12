/- Contract: slices.DeleteFunc of datagrams. -/
import Derived.Test.YtkblgigpgpjjlaaUpFn
namespace Go.Proofs.Ytkblgigpgpjjlaa
set_option linter.unusedVariables false
set_option linter.unusedSimpArgs false
open Go.ChangeShapes Go.WideShapes Go.ChangeAt Go.RowKit Go.Shelf

set_option maxRecDepth 10000 in
set_option maxHeartbeats 2000000 in
theorem delFU {PQ : World → Prop} {p : Mc → Bool} {bp g : Nat} (HP : Pred PQ p bp g) (w : World) (v : Value) (l : List Mc) (h : Mcw w 0 v l) (hg : ∀ b, v.ownBlock = some b → b = g) (hl : l.length ≤ 1000) (hq : PQ w) :
    Calls Try.prog 29 #[v, .func (.func 30) #[] #[.pointer (some ⟨bp, 0, none⟩)]] w fun e w' => ∃ v', e = .returned v' ∧ Mcw w' 0 v' (l.filter fun y => !p y) ∧ v'.ownBlock = v.ownBlock ∧ ChgS (fun b => v.ownBlock = some b) w w' := by
  have cI := idxU HP w v l (OwG.rd h) hl hq
  rcases Nat.eq_zero_or_pos l.length with h0 | h0
  · obtain ⟨A, cp, hv, _⟩ := RdG.form (OwG.rd h)
    have hl0 : l = [] := List.eq_nil_of_length_eq_zero h0
    subst hl0
    have hv : v = .slice A 0 cp := hv
    subst hv
    have HH := Lib.hid h
    clear h hg hl hq HP h0
    go_enter Try.func29, Try.ntmps29
    go_wp2_with fail
    refine cI.mono ?_
    rintro e w2 ⟨g2, ⟨k, x, hk, _⟩ | ⟨_, rfl⟩⟩
    · simp at hk
    have HG2 := Lib.hid g2
    clear cI g2
    go_wp2_with fail
    go_ret
    exact ⟨_, rfl, OwG.grow HH.out HG2.out, rfl, ChgS.of_grow HG2.out⟩
  obtain ⟨g', cp, hv, hglt⟩ := OwG.somes h h0
  subst hv
  obtain rfl : g' = g := hg g' rfl
  obtain ⟨N, hN⟩ : ∃ N, N = l.length := ⟨_, rfl⟩
  rw [← hN] at cI
  obtain ⟨_, cur, hk1⟩ := h.blk1
  rw [← hN] at hk1 ⊢
  have HK1 := Lib.hid hk1
  have HH : Hid (Mcw w 0 (.slice (some ⟨g', 0, none⟩) N cp) l) := by rw [hN]; exact h
  have HPr := Lib.hid HP
  have HQ := Lib.hid hq
  have HN := Lib.hid hN
  have hN1000 : N ≤ 1000 := by omega
  have hNc := hk1.le
  have hcm := hk1.mx
  unfold maxLen at hcm
  have eg : ∀ args w, (callFunc 30 args).run Try.prog w = .ok (.enter 30 args) w := enters_of Try.func30 (by kernel_rfl) rfl
  clear h hg hl hq HP hk1 hN h0
  go_enter Try.func29, Try.ntmps29
  go_wp2_with fail
  refine cI.mono ?_
  rintro e w2 ⟨g2, ⟨k, x, hk, hpx, hlow, rfl⟩ | ⟨hall, rfl⟩⟩
  · have hkN : k < N := by rw [HN.out]; exact (List.getElem?_eq_some_iff.1 hk).1
    have HX := Lib.hid (And.intro hk (And.intro hpx hlow))
    have HG2 := Lib.hid g2
    have HQ2 := Lib.hid (HPr.out.grow w w2 HQ.out g2)
    have hkm : ((k : Int) == -1) = false := beq_eq_false_iff_ne.2 (by omega)
    have hw1 : IntKind.i64.wrap ((k : Int) + 1) = ((k + 1 : Nat) : Int) := by
      rw [IntWalk.i64_in _ (by omega)]
      omega
    clear cI g2 hk hpx hlow
    go_wp2_with fail
    go_loopg [5, 6] (N - (k + 1)) (fun gk s5 s6 wr => ∃ i j : Nat, gk = N - j ∧ s5 = .int .i64 (i : Int) ∧ s6 = .int .i64 (j : Int) ∧ Hid (DfR w wr g' N cp l p PQ i j))
    case atStart => exact ⟨k, k + 1, rfl, rfl, by go_num, ⟨Nat.lt_succ_self k, hkN, HQ2.out, ChgS.of_grow HG2.out, l, cur, HK1.out.gr HG2.out, kept_start HX.out.1 HX.out.2.1 HX.out.2.2, rfl⟩⟩
    case round =>
      obtain ⟨i, j, rfl, rfl, rfl, HR⟩ := hrel
      rename World => wo
      rcases Nat.lt_or_ge j N with hlt | hge
      · obtain ⟨hij, hjN, hPQ, hchg, m, cur2, hblk, ht, hd⟩ := HR.out
        obtain ⟨y, hy⟩ : ∃ y, l[j]? = some y := ⟨_, List.getElem?_eq_getElem (by have := HN.out; omega)⟩
        have hm := kept_at hd hy
        have hcells := own_cell (hblk.own (Nat.zero_le _))
        have y0 : wo.cell? ⟨g', j * 3, none⟩ = some (.int .u32 y.f.ad) := hcells _ _ (mcC.flat_at m j y hm 0 _ rfl)
        have y1 : wo.cell? ⟨g', j * 3 + 1, none⟩ = some (.int .u16 y.f.po) := hcells _ _ (mcC.flat_at m j y hm 1 _ rfl)
        have y2 : wo.cell? ⟨g', j * 3 + 2, none⟩ = some (.slice y.A y.n y.c) := hcells _ _ (mcC.flat_at m j y hm 2 _ rfl)
        obtain ⟨W1, hW1⟩ : ∃ W1, W1 = wo.alloc (.cells #[.int .u32 y.f.ad, .int .u16 y.f.po, .slice y.A y.n y.c] 40) := ⟨_, rfl⟩
        have g1 : Grow wo W1 := by rw [hW1]; exact Grow.alloc _ _
        have hb1 : MlB W1 wo.heap.size y.f.ad y.f.po (.slice y.A y.n y.c) := by rw [hW1]; exact heap_alloc_new wo _
        have cP := HPr.out.call W1 y (HPr.out.grow wo W1 hPQ g1)
        unfold mcV at cP
        have HY := Lib.hid (And.intro hy (And.intro hlt g1))
        have HB1 := Lib.hid hb1
        have j1 : (j : Int) < (N : Int) := by omega
        have jb : j < 1000 := by omega
        have i1 : (i : Int) < (N : Int) := by omega
        have ib : i < 1000 := by omega
        obtain ⟨px, hpx⟩ : ∃ px, px = p y := ⟨_, rfl⟩
        rw [← hpx] at cP
        have HPX := Lib.hid hpx
        have HBl := Lib.hid hblk
        have HT := Lib.hid (And.intro ht hd)
        have HC := Lib.hid hchg
        have HI := Lib.hid hij
        obtain ⟨⟨ya, yp⟩, yA, yn, yc, yd⟩ := y
        simp only at y0 y1 y2 cP hW1 HB1
        clear hij hjN hPQ hchg hblk ht hd hy hm hcells hb1 hlt hpx g1
        cases px with
        | true =>
          go_upto_region 8 with fail
          rw [← hW1]
          have HW1 := Lib.hid hW1
          clear hW1
          have z0 := HB1.out.c0
          have z1 := HB1.out.c1
          have z2 := HB1.out.c2
          go_wp2_with fail
          refine cP.mono ?_
          rintro e w3 ⟨rfl, g3⟩
          have HG3 := Lib.hid (HY.out.2.2.trans g3)
          clear cP g3 y0 y1 y2 z0 z1 z2
          go_wp2_with fail
          go_roundg (N - (j + 1))
          case measure => have := HY.out.2.1; omega
          case rel =>
            obtain ⟨q1, q2⟩ := kept_skip HY.out.1 HPX.out.symm HT.out.1 HT.out.2
            exact ⟨i, j + 1, rfl, rfl, by go_num, by have := HI.out; omega, by have := HY.out.2.1; omega, HPr.out.grow _ _ HR.out.2.2.1 HG3.out, HC.out.tr (ChgS.of_grow HG3.out), m, cur2, HBl.out.gr HG3.out, q1, q2⟩
        | false =>
          go_upto_region 8 with fail
          rw [← hW1]
          have HW1 := Lib.hid hW1
          clear hW1
          have z0 := HB1.out.c0
          have z1 := HB1.out.c1
          have z2 := HB1.out.c2
          go_wp2_with fail
          refine cP.mono ?_
          rintro e w3 ⟨rfl, g3⟩
          have hb3 := HB1.out.grow g3
          have z0 := hb3.c0
          have z1 := hb3.c1
          have z2 := hb3.c2
          have HG3 := Lib.hid (HY.out.2.2.trans g3)
          have HB3 := Lib.hid (HBl.out.gr HG3.out)
          clear cP g3 y0 y1 y2 hb3
          have HSZ : Hid (i * 3 + 3 ≤ cur2.size) := by
            have e1 := HB3.out.sz
            have e2 := HB3.out.le
            have e3 : cur2.size = cp * 3 := e1
            have e4 := HI.out
            have e5 := HY.out.2.1
            exact Lib.hid (by omega)
          obtain ⟨new, hnew⟩ : ∃ new : Array Value, cur2.toList.take (i * 3) ++ [Value.int .u32 ya, .int .u16 yp, .slice yA yn yc] ++ cur2.toList.drop (i * 3 + 3) = new.toList := ⟨(cur2.toList.take (i * 3) ++ [Value.int .u32 ya, .int .u16 yp, .slice yA yn yc] ++ cur2.toList.drop (i * 3 + 3)).toArray, rfl⟩
          have HNw := Lib.hid hnew
          clear hnew
          go_wp2_with (show wpList _ _ _ (⟨none, .store 40 (.tmp 33) (.tmp 32), _, _, _, _⟩ :: _) _ _; refine wpList_store_old w3 rfl 40 _ _ rfl rfl g' (i * 3) (.agg #[.int .u32 ya, .int .u16 yp, .slice yA yn yc]) rfl rfl [.int .u32 ya, .int .u16 yp, .slice yA yn yc] rfl 40 cur2 new HB3.out.blk sizeMl (ml_ones ya yp _ rfl) HSZ.out HNw.out ?_; intro w4 k1 k2; have H4 := Lib.hid (And.intro k1 k2); clear k1 k2)
          go_roundg (N - (j + 1))
          case measure => have := HY.out.2.1; omega
          case rel =>
            have hml : m.length = N := HB3.out.len
            obtain ⟨q1, q2⟩ := kept_put HY.out.1 HPX.out.symm HT.out.1 HT.out.2 (by have := HI.out; have := HY.out.2.1; omega) HI.out
            exact ⟨i + 1, j + 1, rfl, by go_num, by go_num, by have := HI.out; omega, by have := HY.out.2.1; omega, HPr.out.row _ _ (HPr.out.grow _ _ HR.out.2.2.1 HG3.out) H4.out.2, (HC.out.tr (ChgS.of_grow HG3.out)).grown H4.out.2 rfl, m.set i ⟨⟨ya, yp⟩, yA, yn, yc, yd⟩, _, HB3.out.set (by have := HI.out; have := HY.out.2.1; omega) ⟨⟨ya, yp⟩, yA, yn, yc, yd⟩ HNw.out H4.out.1, q1, q2⟩
      · obtain ⟨hij, hjN, hPQ, hchg, m, cur2, hblk, ht, hd⟩ := HR.out
        obtain rfl : j = N := by omega
        have HBl := Lib.hid hblk
        have HT := Lib.hid ht
        have HC := Lib.hid hchg
        have i1 : (i : Int) ≤ (j : Int) := by omega
        have i2 : ¬ cp = i := by omega
        have hip : i ≤ j := by omega
        have HI := Lib.hid hij
        have i3 : i ≤ cp := by omega
        have i4 : (i : Int) ≤ (cp : Int) := by omega
        clear hij hjN hPQ hchg hblk ht hd hge
        go_wp2_with (show wpList _ _ _ (⟨none, _, _, _, _, _⟩ :: _) _ _; refine wpList_clearK _ rfl rfl (.tmp 38) 35 rfl 40 _ 3 Try.underlying35 zeroMl rfl zml_ones g' (i * 3) (j - i) (cp - i) rfl cur2 HBl.out.blk (by rw [HBl.out.sz]; have := HBl.out.le; have := HI.out; show i * 3 + (j - i) * 3 ≤ cp * 3; omega) ?_; intro w4 new k1 k2 k3 k4; have H4 := Lib.hid (And.intro k1 (And.intro k2 (And.intro k3 k4))); clear k1 k2 k3 k4)
        go_ret
        refine ⟨_, rfl, ?_, rfl, ?_⟩
        · have q := Blk1.own (base := 0) (HBl.out.cut (w' := w4) (Nat.le_of_lt HI.out) H4.out.2.1 H4.out.2.2.1 H4.out.1) (Nat.zero_le _)
          rw [HT.out, HN.out, List.take_length] at q
          exact q
        · have q := HC.out.grown H4.out.2.2.2 rfl
          exact ⟨q.os, q.tape, q.output, q.size, fun b hb hs => q.block b hb fun e => hs (by rw [e]; rfl)⟩
  · have HA := Lib.hid hall
    have HG2 := Lib.hid g2
    clear cI g2 hall
    go_wp2_with fail
    go_ret
    refine ⟨_, rfl, ?_, rfl, ChgS.of_grow HG2.out⟩
    rw [List.filter_eq_self.2 fun y hy => by rw [HA.out y hy]; rfl]
    exact OwG.grow HH.out HG2.out
end Go.Proofs.Ytkblgigpgpjjlaa
