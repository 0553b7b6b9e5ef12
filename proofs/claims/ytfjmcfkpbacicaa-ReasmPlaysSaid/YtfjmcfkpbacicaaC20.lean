/- Contract: the reference's Add, where a packet goes on waiting or begins to. -/
import Derived.Test.YtfjmcfkpbacicaaC19
import Derived.Test.YtfjmcfkpbacicaaC01
import Derived.Test.YtfjmcfkpbacicaaC02
import Derived.OpenShut
import Derived.WideShapes
import Derived.ChangeSame
import Derived.ChangeArms
import Derived.Test.YtfjmcfkpbacicaaC05
import Derived.Deep.Slices
import Derived.Test.YtfjmcfkpbacicaaC03
import Derived.Test.YtfjmcfkpbacicaaC13
namespace Go.Proofs.Ytfjmcfkpbacicaa
set_option linter.unusedVariables false
set_option linter.unusedSimpArgs false
open Go.ChangeShapes Go.WideShapes Go.ChangeAt Go.RowKit

set_option maxRecDepth 100000 in
set_option maxHeartbeats 4000000 in
theorem rAdd_in (w : World) (base : Nat) (v : Value) (most life : Int) (A1 : List Wt) (hT : RTab w base v most life A1) (hb : base ≤ w.heap.size) (now : Int) (k : Pkt) (vo vd : Value) (hp : Piece base w k vo vd) (hl : 1 ≤ life ∧ life ≤ 65535) (h64 : A1.length ≤ 64) (hr : ¬ (now < 0 ∨ 1099511627776 < now ∨ k.off < 0 ∨ 8191 < k.off)) (hcp : ¬ (k.off = 0 ∧ k.more = false)) (hc : chk k = 0) (t : Wt) (hwo : WOk t) (hsel : (idxOf A1 (nmOf k) = none ∧ ¬ most ≤ (A1.length : Int) ∧ t = freshW (nmOf k) (now + life)) ∨ (∃ i, idxOf A1 (nmOf k) = some i ∧ A1[i]? = some t)) (hm64 : most ≤ 64) (R : AddR) (hs1 : staleB t.fin t.c.length k = true → R = ⟨A1, zeroPk, false, 120⟩)
    (hs0 : staleB t.fin t.c.length k = false → (idxOf A1 (nmOf k) = none → finL (A1 ++ [tookW t k]) A1.length (tookW t k) = R) ∧ ∀ i, idxOf A1 (nmOf k) = some i → finL (A1.set i (tookW t k)) i (tookW t k) = R) :
    Calls Try.prog 15 #[v, .int .i64 now, ipV k vo vd] w fun e w' => RAdded w base most life R e w' := by
  obtain ⟨vL0, l0, rfl, hrow, hok, hA⟩ := id hT
  obtain ⟨A0, n0, cp0, e0⟩ : ∃ A n c, vL0 = .slice A n c := by
    obtain ⟨A0, cp0, e0, _, _⟩ := (RdK.of_own hrow).form
    exact ⟨_, _, _, e0⟩
  subst e0
  obtain ⟨A, c, rfl, _⟩ := hp.o.1.form
  obtain ⟨B, d, rfl, _⟩ := hp.d.1.form
  obtain ⟨W1, hW1⟩ : ∃ W1, W1 = (((w.alloc (.cells #[.int .i64 most, .int .i64 life, .slice A0 n0 cp0] 32)).alloc (.cells #[.int .u8 (k.tos : Int), .int .u16 (k.ident : Int), .bool k.whole, .bool k.more, .int .i64 k.off, .int .u8 (k.ttl : Int), .int .u8 (k.proto : Int), .int .u32 (k.src : Int), .int .u32 (k.dst : Int), .slice A k.opts.length c, .slice B k.data.length d] 38)).alloc (.cells #[.int .i64 0, .int .i64 0, .slice none 0 0] 32)).alloc (.cells #[.int .u8 0, .int .u16 0, .bool false, .bool false, .int .i64 0, .int .u8 0, .int .u8 0, .int .u32 0, .int .u32 0, .slice none 0 0, .slice none 0 0] 38) := ⟨_, rfl⟩
  obtain ⟨ha, hsz⟩ := ra_start w most life _ k _ _ hW1
  have HA := Lib.hid ha
  have HT := Lib.hid (And.intro hT hp)
  obtain ⟨b0, b1, b2, b3, b4, b5, b6, b7, b8, b9, b10⟩ := ha.pk.boxd
  have c0 := ha.tb.c0
  have c1 := ha.tb.c1
  have c2 := ha.tb.c2
  have cF := rFind_any W1 base _ most life A1 (hT.grow ha.gr hb) h64 k _ _ (hp.ip.grow ha.gr)
  have hn0 : n0 = A1.length := by
    obtain ⟨A', N', c', l', e', h1, _⟩ := hT.box
    simp only [Value.agg.injEq, Array.mk.injEq, List.cons.injEq, and_true, true_and, Value.slice.injEq] at e'
    omega
  obtain ⟨p1, p2, p3⟩ := chk_parts hc
  have hsm := hp.small.2
  have d1 : decide (now < 0) = false := decide_eq_false (by omega)
  have d2 : decide (1099511627776 < now) = false := decide_eq_false (by omega)
  have d3 : decide (k.off < 0) = false := decide_eq_false (by omega)
  have d4 : decide (8191 < k.off) = false := decide_eq_false (by omega)
  have h0 : 0 ≤ k.off := by omega
  have h1 : k.off ≤ 8191 := by omega
  have hnow0 : 0 ≤ now := by omega
  have hnow1 : now ≤ 1099511627776 := by omega
  obtain ⟨Pn, hPn⟩ : ∃ Pn : Nat, 8 * k.off = (Pn : Int) := ⟨(8 * k.off).toNat, by omega⟩
  obtain ⟨En, hEn⟩ : ∃ En : Nat, (Pn : Int) + (k.data.length : Int) = (En : Int) := ⟨Pn + k.data.length, by omega⟩
  have hE : endOf k = (En : Int) := by unfold endOf; rw [hPn, hEn]
  have hE65 : En ≤ 65515 := by omega
  have f9 : decide ((65515 : Int) < (En : Int)) = false := decide_eq_false (by omega)
  have e0 : ((k.data.length : Int) == 0) = false := by rw [beq_eq_false_iff_ne]; omega
  have e1 : decide ((k.data.length : Int) = 0) = false := decide_eq_false (by omega)
  have HM8 := Lib.hid p2
  have HCP := Lib.hid hcp
  have HEE := Lib.hid (And.intro hE (And.intro hPn (And.intro hEn p1)))
  have HAT : Hid (∀ i t, A1[i]? = some t → i < n0 ∧ ∃ b off, A0 = some ⟨b, off, none⟩ ∧ ∃ x : Rf, (∀ w', Grow w w' → RfAt w' b (off + i * 20) x ∧ Rq.Ok base w' ⟨x, t⟩)) := by
    intro i t ht
    obtain ⟨A', N', c', l', e', h1', h2', h3', h4', h5', h6', h7'⟩ := hT.box
    simp only [Value.agg.injEq, Array.mk.injEq, List.cons.injEq, and_true, true_and, Value.slice.injEq] at e'
    obtain ⟨rfl, rfl, rfl⟩ := e'
    have hi : i < l'.length := by have := (List.getElem?_eq_some_iff.1 ht).1; omega
    obtain ⟨b, off, e, hbl, hat⟩ := h7' (by omega)
    have et : l'[i].t = t := by
      rw [← h5', List.getElem?_map, List.getElem?_eq_getElem hi] at ht
      cases ht
      rfl
    refine ⟨by omega, b, off, e, l'[i].x, fun w' g => ⟨(hat i hi).grow g hbl, ?_⟩⟩
    have := (h6' _ (List.getElem_mem hi)).grow g hb
    rw [← et]
    exact this
  obtain ⟨hl1, hl2⟩ := hl
  have HSL := Lib.hid hsel
  generalize hI : idxI A1 (nmOf k) = I at *
  have HI : Hid ((I = -1 ∧ idxOf A1 (nmOf k) = none ∧ ¬ most ≤ (n0 : Int) ∧ t = freshW (nmOf k) (now + life)) ∨ (∃ i : Nat, I = (i : Int) ∧ idxOf A1 (nmOf k) = some i ∧ A1[i]? = some t)) := by
    rcases hsel with ⟨h1, h2, h3⟩ | ⟨i, h1, h2⟩
    · exact .inl ⟨by rw [← hI]; unfold idxI; rw [h1], h1, by omega, h3⟩
    · exact .inr ⟨i, by rw [← hI]; unfold idxI; rw [h1], h1, h2⟩
  have HN0 := Lib.hid hn0
  have HS1 := Lib.hid hs1
  have HS0 := Lib.hid hs0
  have HM64 := Lib.hid hm64
  have HWO := Lib.hid hwo
  have HCK := Lib.hid hc
  clear ha hrow hok hA hT hp hsz hr hc p1 p2 p3 hcp hn0 hE hsel hI hwo hs1 hs0 hm64
  unfold ipV at cF
  go_enter Try.func15, Try.ntmps15
  go_upto_region 1 with fail
  rw [← hW1]
  clear hW1
  go_upto_region 3 with fail
  go_cut [43] from 18 to 43 (fun s43 wx => s43 = .bool false ∧ W1 = wx)
  case first =>
    by_cases o0 : k.off = 0
    · have hmo : k.more = true := by
        cases hm : k.more with
        | true => rfl
        | false => exact absurd ⟨o0, hm⟩ HCP.out
      rw [hmo] at b3
      rw [o0] at b4
      clear o0 hmo
      go_wp2_with fail
      go_meet
      exact ⟨rfl, rfl⟩
    · have q0 : (k.off == 0) = false := by rw [beq_eq_false_iff_ne]; exact o0
      have q1 : decide (k.off = 0) = false := decide_eq_false o0
      clear o0
      go_wp2_with fail
      go_meet
      exact ⟨rfl, rfl⟩
  case rest =>
    obtain ⟨rfl, rfl⟩ := hcut
    go_upto_region 5 with fail
    go_cut [60] from 44 to 60 (fun s60 wx => s60 = .bool false ∧ W1 = wx)
    case first =>
      cases hmo : k.more with
      | true =>
        have m1 : ((k.data.length : Int)).tmod 8 = 0 := by have h1 := Int.ofNat_tmod k.data.length 8; have h2 := HM8.out hmo; rw [h2] at h1; exact h1.symm
        rw [hmo] at b3
        clear hmo
        go_wp2_with fail
        go_meet
        exact ⟨rfl, rfl⟩
      | false =>
        rw [hmo] at b3
        clear hmo
        go_wp2_with fail
        go_meet
        exact ⟨rfl, rfl⟩
    case rest =>
      obtain ⟨rfl, rfl⟩ := hcut
      go_upto_region 11 with fail
      go_wp2_with fail
      refine cF.mono ?_
      rintro e w2 ⟨rfl, hg2⟩
      have HA2 := Lib.hid (HA.out.grow hg2)
      clear cF hg2 b0 b1 b2 b3 b4 b5 b6 b7 b8 b9 b10 c0 c1 c2
      obtain ⟨b0, b1, b2, b3, b4, b5, b6, b7, b8, b9, b10⟩ := HA2.out.pk.boxd
      have c0 := HA2.out.tb.c0
      have c1 := HA2.out.tb.c1
      have c2 := HA2.out.tb.c2
      go_upto_region 13 with (show wpList _ _ _ (⟨none, .store 78 (.tmp 13) (.tmp 90), _, _, _, _⟩ :: _) _ _; refine wpList_store_rf w2 _ rfl _ _ rfl rfl w2.heap.size rfl (rfNew k (now + life)) rfl (rfNew_one _ _) _ (heap_alloc_new w2 _) rfl (Grow.alloc w2 _) (Nat.le_refl _) ?_; intro w3 hX hbX gX; have HX := Lib.hid (And.intro hX (And.intro gX (HA2.out.grow gX))); clear hX hbX gX b0 b1 b2 b3 b4 b5 b6 b7 b8 b9 b10 c0 c1 c2; obtain ⟨b0, b1, b2, b3, b4, b5, b6, b7, b8, b9, b10⟩ := HX.out.2.2.pk.boxd; have c0 := HX.out.2.2.tb.c0; have c1 := HX.out.2.2.tb.c1; have c2 := HX.out.2.2.tb.c2)
      have HG3 : Hid (w.heap.size + 4 ≤ w2.heap.size) := HA2.out.low
      go_cut [100] from 61 to 100 (fun s100 wx => s100 = .bool false ∧ w3 = wx)
      case first =>
        rcases HI.out with ⟨hi, _, hm, _⟩ | ⟨i, hi, _, _⟩
        · have dful : decide (most ≤ (n0 : Int)) = false := decide_eq_false (by omega)
          subst hi
          clear hm
          go_wp2_with fail
          go_meet
          exact ⟨rfl, rfl⟩
        · have di : decide ((i : Int) < 0) = false := decide_eq_false (by omega)
          subst hi
          go_wp2_with fail
          go_meet
          exact ⟨rfl, rfl⟩
      case rest =>
        obtain ⟨rfl, rfl⟩ := hcut
        go_upto_if 104 with fail
        go_cut [12] from 101 to 109 (fun s12 wx => s12 = .int .i64 I ∧ ∃ x : Rf, (Firm base w x.vo x.f.opts ∧ Firm base w x.vx x.f.data) ∧ Hid (RfBlk wx w2.heap.size x ∧ Rq.Ok base wx ⟨x, t⟩ ∧ Ra w most life (.slice A0 n0 cp0) k (.slice A k.opts.length c) (.slice B k.data.length d) wx))
        case first =>
          rcases HI.out with ⟨hi, _, _, ht⟩ | ⟨i, hi, _, ht⟩
          · subst hi
            have HT2 := Lib.hid ht
            clear ht
            go_wp2_with fail
            go_meet
            exact ⟨rfl, _, ⟨Firm.nil _ _, Firm.nil _ _⟩, HX.out.1, by rw [HT2.out]; exact rfNew_ok _ _ _ _, HX.out.2.2⟩
          · obtain ⟨hin, b, off, e, x, hx⟩ := HAT.out i t ht
            obtain ⟨hx1, hx2⟩ := hx w3 HX.out.2.2.gr
            have HX2 := Lib.hid (And.intro hx (And.intro hx1 (Rq.Ok.one hx2)))
            have di : decide ((0 : Int) ≤ (i : Int)) = true := decide_eq_true (by omega)
            have hic : (i : Int) < (n0 : Int) := by omega
            subst hi
            subst e
            clear hx hx1 hx2 ht
            go_wp2_with (first | (show wpList _ _ _ (⟨some 109, .load 78 (.tmp 108), _, _, _, _⟩ :: _) _ _; refine wpList_load_rf w3 rfl _ rfl b (off + i * 20) rfl x HX2.out.2.1 ?_) | (show wpList _ _ _ (⟨none, .store 78 (.tmp 13) (.tmp 109), _, _, _, _⟩ :: _) _ _; refine wpList_store_rf w2 w3 rfl _ _ rfl rfl w2.heap.size rfl x rfl HX2.out.2.2 _ HX.out.1 rfl HX.out.2.1 (Nat.le_refl _) ?_; intro w4 h4 hb4 g4; have H4 := Lib.hid (And.intro h4 (And.intro (HX.out.2.2.but hb4 HG3.out (HA2.out.gr.trans g4)) (HX2.out.1 w4 (HA2.out.gr.trans g4)).2)); clear h4 hb4 g4))
            go_meet
            exact ⟨rfl, x, ⟨(HX2.out.1 w (Grow.refl _)).2.o, (HX2.out.1 w (Grow.refl _)).2.v⟩, H4.out.1, H4.out.2.2, H4.out.2.1⟩
        case rest =>
          obtain ⟨rfl, x, hFx, hH⟩ := hcut
          have HFX := Lib.hid hFx
          clear hFx
          have H4 := Lib.hid (Hid.out hH)
          obtain ⟨w4, rfl⟩ : ∃ z, z = wc := ⟨_, rfl⟩
          clear hH b0 b1 b2 b3 b4 b5 b6 b7 b8 b9 b10 c0 c1 c2
          obtain ⟨b0, b1, b2, b3, b4, b5, b6, b7, b8, b9, b10⟩ := H4.out.2.2.pk.boxd
          have c0 := H4.out.2.2.tb.c0
          have c1 := H4.out.2.2.tb.c1
          have c2 := H4.out.2.2.tb.c2
          clear b0 b1 b2 b3 b4 b5 b6 b7 b8 b9 b10 c0 c1 c2
          refine ‹∀ (a : Go.Act) (w' : World), Code.wp Try.prog _ _ a w' → _› _ _ ?_
          refine rTail17 _ w w4 base most life A0 n0 cp0 k A c B d w2.heap.size x t A1 Pn En I R H4.out.1 H4.out.2.1 H4.out.2.2 hb HG3.out HFX.out HT.out.2 HWO.out HCK.out h0 HEE.out hE65 HT.out.1 HS1.out ?hsel ?hQ _ _ _ _ _ _ _ _ _ _ _ _ _ _ _ _ _ _ _ _ _ _ _ _ _ _ _ _ _ _ _ _ _ _ _ _ _ _ _ _ _ _ _ _ _ _ _ _ _ _ _ _ _ _ _ _ _ _ _ _ _ _ _ _ _ _ _ _ _ _ _ _ _ _ _ _ _ _ _ _ _ _ _ _ _ _ _ _ _ _ _ _ _ _ _ _ _ _ _ _ _ _
          case hsel =>
            intro hst
            rcases HI.out with ⟨hi, h2, h3, _⟩ | ⟨i, hi, h2, h3⟩
            · exact .inl ⟨hi, by have := HN0.out; have := HM64.out; omega, (HS0.out hst).1 h2⟩
            · exact .inr ⟨i, hi, (List.getElem?_eq_some_iff.1 h3).1, h64, (HS0.out hst).2 i h2⟩
          case hQ =>
            rintro a w' ⟨vL, vo, vd, h6, h7, h8, h9, hd, hb1, hb2, hr, hi, hg⟩
            have hres := results4_ra (fn := Try.f15) rfl a.tmps w' (w.heap.size + 2) (w.heap.size + 3) most life vL R.k vo vd h6 h7 hb1 hb2
            rw [h8, h9] at hres
            refine bodyPost_ret hres hd ?_
            exact ⟨_, _, _, rfl, hr, hi, hg⟩
end Go.Proofs.Ytfjmcfkpbacicaa
/- Contract: the reference's Add, whatever comes; how many wait behind it. -/
namespace Go.Proofs.Ytfjmcfkpbacicaa
set_option linter.unusedVariables false
set_option linter.unusedSimpArgs false
open Go.ChangeShapes Go.WideShapes Go.ChangeAt Go.RowKit

theorem finL_new (A : List Wt) (t u : Wt) : finL (A ++ [t]) A.length t = finS (A ++ [u]) A.length t := by
  have e1 : ∀ x : Wt, (A ++ [x]).eraseIdx A.length = A := fun x => by rw [List.eraseIdx_append_of_length_le (Nat.le_refl _)]; simp
  have e2 : (A ++ [u]).set A.length t = A ++ [t] := by rw [List.set_append_right _ _ (Nat.le_refl _)]; simp
  unfold finL finS
  rw [e1, e1, e2]
theorem finL_old (A : List Wt) (i : Nat) (t : Wt) : finL (A.set i t) i t = finS A i t := by
  unfold finL finS
  rw [List.eraseIdx_set_eq]
theorem rAdd_any (w : World) (base : Nat) (v : Value) (most life : Int) (A : List Wt) (hT : RTab w base v most life A) (hb : base ≤ w.heap.size) (now : Int) (k : Pkt) (vo vd : Value) (hp : Piece base w k vo vd) (hl : 1 ≤ life ∧ life ≤ 65535) (h64 : A.length ≤ 64) (hm64 : most ≤ 64) (hAk : AOk A) :
    Calls Try.prog 15 #[v, .int .i64 now, ipV k vo vd] w fun e w' => RAdded w base most life (addS most life now k A) e w' := by
  unfold addS
  by_cases hr : now < 0 ∨ 1099511627776 < now ∨ k.off < 0 ∨ 8191 < k.off
  · rw [if_pos hr]
    exact rAdd_range w base v most life A hT hb now k vo vd hp hr
  rw [if_neg hr]
  by_cases hcp : k.off = 0 ∧ k.more = false
  · rw [if_pos hcp]
    exact rAdd_whole w base v most life A hT hb now k vo vd hp hr hcp.1 hcp.2
  rw [if_neg hcp]
  by_cases hc : chk k ≠ 0
  · rw [if_pos hc]
    exact rAdd_check w base v most life A hT hb now k vo vd hp hr hcp hc
  rw [if_neg hc]
  have hc : chk k = 0 := by simpa using hc
  have h0 : 0 ≤ k.off := by omega
  cases hix : idxOf A (nmOf k) with
  | none =>
    simp only
    by_cases hful : most ≤ (A.length : Int)
    · rw [if_pos hful]
      exact rAdd_full w base v most life A hT hb now k vo vd hp hl h64 hr hcp hc hix hful
    · rw [if_neg hful]
      refine rAdd_in w base v most life A hT hb now k vo vd hp hl h64 hr hcp hc (freshW (nmOf k) (now + life)) (freshW_ok _ _) (.inl ⟨hix, hful, rfl⟩) hm64 _ (fun hs => ?_) (fun _ => ⟨fun _ => finL_new _ _ _, fun i hi => ?_⟩)
      · rw [stale_fresh _ _ _ h0] at hs
        cases hs
      · rw [hix] at hi
        cases hi
  | some i =>
    obtain ⟨t, ht, htn⟩ := idxOf_some hix
    simp only [ht]
    have htm := List.mem_of_getElem? ht
    refine rAdd_in w base v most life A hT hb now k vo vd hp hl h64 hr hcp hc t (hAk t htm).1 (.inr ⟨i, hix, ht⟩) hm64 _ (fun hs => ?_) (fun hs => ⟨fun h => ?_, fun j hj => ?_⟩)
    · rw [if_pos hs]
    · rw [hix] at h
      cases h
    · rw [hix] at hj
      cases hj
      rw [if_neg (by rw [hs]; decide)]
      exact finL_old _ _ _
theorem finS_len {A : List Wt} {i : Nat} {t : Wt} : (finS A i t).L.length ≤ A.length := by
  unfold finS
  split
  · split
    · exact List.length_eraseIdx_le _ _
    · exact List.length_eraseIdx_le _ _
  · rw [List.length_set]
    exact Nat.le_refl _
theorem addS_len {most life now : Int} {k : Pkt} {A : List Wt} (h : A.length ≤ 64) (hm : most ≤ 64) : (addS most life now k A).L.length ≤ 64 := by
  unfold addS
  split
  · exact h
  split
  · exact h
  split
  · exact h
  split
  · split
    · exact h
    · rename_i hf
      refine Nat.le_trans finS_len ?_
      rw [List.length_append, List.length_singleton]
      omega
  · split
    · exact h
    · split
      · exact h
      · exact Nat.le_trans finS_len h
end Go.Proofs.Ytfjmcfkpbacicaa
/- A packet that came in, opened. -/
namespace Go.Proofs.Ytfjmcfkpbacicaa
set_option linter.unusedVariables false
set_option maxRecDepth 8000
set_option linter.unusedSimpArgs false
open Go.ChangeShapes Go.WideShapes Go.ChangeAt Go.RowKit

theorem array11 {α : Type} {cs : Array α} (h : cs.size = 11) : ∃ c0 c1 c2 c3 c4 c5 c6 c7 c8 c9 c10, cs = #[c0, c1, c2, c3, c4, c5, c6, c7, c8, c9, c10] := by
  obtain ⟨l⟩ := cs
  match l, h with
  | [c0, c1, c2, c3, c4, c5, c6, c7, c8, c9, c10], _ => exact ⟨c0, c1, c2, c3, c4, c5, c6, c7, c8, c9, c10, rfl⟩

theorem wf_nat {k : IntKind} {n : Int} (h : (Lit.int k n).wf = true) (hs : k.signed = false) : ∃ m : Nat, n = (m : Int) ∧ m < 2 ^ k.bits := by
  simp only [Lit.wf, IntKind.min, IntKind.max, hs, Bool.and_eq_true, decide_eq_true_eq] at h
  obtain ⟨m, rfl⟩ := Int.eq_ofNat_of_zero_le (by simpa using h.1)
  refine ⟨m, rfl, ?_⟩
  have h2 := h.2
  simp only [Bool.false_eq_true, if_false] at h2
  have : ((2 ^ k.bits : Nat) : Int) = (2 : Int) ^ k.bits := by simp
  omega

section
variable {H : Type} {enc : TypeId × Value → H} {W : World}
theorem open_bytes {n : Nat} {cs : List Value} {x : DataW H × List MemPlace} (hf : DataW.trod enc Try.prog W 0 (fun _ => true) true n 36 cs = some x) : ∃ v l, cs = [v] ∧ Byt W v l := by
  rcases open_ints Try.underlying36 Try.underlying5 (by kernel_rfl) hf with ⟨hcs, _⟩ | ⟨a, len, cap, zs, hcs, _, hl, hm, hz, hx, hcell, hwz⟩
  · exact ⟨_, [], hcs, Byt.nil W⟩
  · simp only [if_true] at hz
    obtain ⟨bs, hb, hbl⟩ := Byt.of_ints hl hm hz hcell hwz
    exact ⟨_, bs, hcs, hb⟩

set_option maxHeartbeats 1000000 in
theorem open_ip {r : Reach} {b0 : Nat} {v : Value} {d : DataW H} {p : List MemPlace} (hv : Value.okWide Try.prog W r b0 38 v) (h : DataW.Trod enc Try.prog W 0 (fun _ => true) true 38 v d p) : ∃ k, Ip W v k := by
  obtain ⟨cs, rfl, hsz⟩ := okWide_struct Try.underlying38 hv
  obtain ⟨c0, c1, c2, c3, c4, c5, c6, c7, c8, c9, c10, rfl⟩ := array11 (hsz.trans (by kernel_rfl))
  obtain ⟨fuel, hf⟩ := h
  obtain ⟨xs, n, _, _, _, hlen, hfd⟩ := DataW.trod_struct Try.underlying38 hf
  have q0 : DataW.trod enc Try.prog W 0 (fun _ => true) true n 5 [c0] = xs[0]? := hfd 0 _ rfl
  rw [List.getElem?_eq_getElem (show 0 < xs.length by rw [hlen]; decide)] at q0
  obtain ⟨n0, e0, _, wf0⟩ := DataW.trod_int Try.underlying5 q0
  obtain rfl : c0 = _ := by simpa using e0
  obtain ⟨m0, rfl, z0⟩ := wf_nat wf0 rfl
  have q1 : DataW.trod enc Try.prog W 0 (fun _ => true) true n 33 [c1] = xs[1]? := hfd 1 _ rfl
  rw [List.getElem?_eq_getElem (show 1 < xs.length by rw [hlen]; decide)] at q1
  obtain ⟨n1, e1, _, wf1⟩ := DataW.trod_int Try.underlying33 q1
  obtain rfl : c1 = _ := by simpa using e1
  obtain ⟨m1, rfl, z1⟩ := wf_nat wf1 rfl
  have q2 : DataW.trod enc Try.prog W 0 (fun _ => true) true n 4 [c2] = xs[2]? := hfd 2 _ rfl
  rw [List.getElem?_eq_getElem (show 2 < xs.length by rw [hlen]; decide)] at q2
  obtain ⟨n2, e2, _⟩ := DataW.trod_bool Try.underlying4 q2
  obtain rfl : c2 = _ := by simpa using e2
  have q3 : DataW.trod enc Try.prog W 0 (fun _ => true) true n 4 [c3] = xs[3]? := hfd 3 _ rfl
  rw [List.getElem?_eq_getElem (show 3 < xs.length by rw [hlen]; decide)] at q3
  obtain ⟨n3, e3, _⟩ := DataW.trod_bool Try.underlying4 q3
  obtain rfl : c3 = _ := by simpa using e3
  have q4 : DataW.trod enc Try.prog W 0 (fun _ => true) true n 3 [c4] = xs[4]? := hfd 4 _ rfl
  rw [List.getElem?_eq_getElem (show 4 < xs.length by rw [hlen]; decide)] at q4
  obtain ⟨n4, e4, _, wf4⟩ := DataW.trod_int Try.underlying3 q4
  obtain rfl : c4 = _ := by simpa using e4
  have z4 := bounds_i64 wf4
  have q5 : DataW.trod enc Try.prog W 0 (fun _ => true) true n 5 [c5] = xs[5]? := hfd 5 _ rfl
  rw [List.getElem?_eq_getElem (show 5 < xs.length by rw [hlen]; decide)] at q5
  obtain ⟨n5, e5, _, wf5⟩ := DataW.trod_int Try.underlying5 q5
  obtain rfl : c5 = _ := by simpa using e5
  obtain ⟨m5, rfl, z5⟩ := wf_nat wf5 rfl
  have q6 : DataW.trod enc Try.prog W 0 (fun _ => true) true n 5 [c6] = xs[6]? := hfd 6 _ rfl
  rw [List.getElem?_eq_getElem (show 6 < xs.length by rw [hlen]; decide)] at q6
  obtain ⟨n6, e6, _, wf6⟩ := DataW.trod_int Try.underlying5 q6
  obtain rfl : c6 = _ := by simpa using e6
  obtain ⟨m6, rfl, z6⟩ := wf_nat wf6 rfl
  have q7 : DataW.trod enc Try.prog W 0 (fun _ => true) true n 35 [c7] = xs[7]? := hfd 7 _ rfl
  rw [List.getElem?_eq_getElem (show 7 < xs.length by rw [hlen]; decide)] at q7
  obtain ⟨n7, e7, _, wf7⟩ := DataW.trod_int Try.underlying35 q7
  obtain rfl : c7 = _ := by simpa using e7
  obtain ⟨m7, rfl, z7⟩ := wf_nat wf7 rfl
  have q8 : DataW.trod enc Try.prog W 0 (fun _ => true) true n 35 [c8] = xs[8]? := hfd 8 _ rfl
  rw [List.getElem?_eq_getElem (show 8 < xs.length by rw [hlen]; decide)] at q8
  obtain ⟨n8, e8, _, wf8⟩ := DataW.trod_int Try.underlying35 q8
  obtain rfl : c8 = _ := by simpa using e8
  obtain ⟨m8, rfl, z8⟩ := wf_nat wf8 rfl
  have q9 : DataW.trod enc Try.prog W 0 (fun _ => true) true n 36 [c9] = xs[9]? := hfd 9 _ rfl
  rw [List.getElem?_eq_getElem (show 9 < xs.length by rw [hlen]; decide)] at q9
  obtain ⟨v9, l9, e9, z9⟩ := open_bytes q9
  obtain rfl : c9 = _ := by simpa using e9
  have q10 : DataW.trod enc Try.prog W 0 (fun _ => true) true n 36 [c10] = xs[10]? := hfd 10 _ rfl
  rw [List.getElem?_eq_getElem (show 10 < xs.length by rw [hlen]; decide)] at q10
  obtain ⟨v10, l10, e10, z10⟩ := open_bytes q10
  obtain rfl : c10 = _ := by simpa using e10
  exact ⟨⟨m0, m1, n2, n3, n4, m5, m6, m7, m8, l9, l10⟩, c9, c10, rfl, z9, z10, ⟨z0, z1, z4.1, z4.2, z5, z6, z7, z8⟩⟩
end
end Go.Proofs.Ytfjmcfkpbacicaa
/- A row of calls that came in (out, now, a packet), opened. -/
namespace Go.Proofs.Ytfjmcfkpbacicaa
set_option linter.unusedVariables false
set_option linter.unusedSimpArgs false
set_option maxRecDepth 100000
open Go.ChangeShapes Go.WideShapes Go.ChangeAt Go.RowKit

/-- A call: whether it is Expire, when, and the packet. -/
structure RAct where
  out : Bool
  now : Int
  p : Pk
instance : Inhabited RAct := ⟨⟨false, 0, ⟨⟨0, 0, false, false, 0, 0, 0, 0, 0, [], []⟩, .slice none 0 0, .slice none 0 0⟩⟩⟩
def RAct.Ok (w : World) (a : RAct) : Prop := a.p.Good w ∧ -9223372036854775808 ≤ a.now ∧ a.now ≤ 9223372036854775807
/-- The slice v holds these calls: thirteen cells each. -/
def Racts (w : World) (v : Value) (l : List RAct) : Prop :=
  ∃ A c, v = .slice A l.length c ∧ l.length ≤ c ∧ c ≤ maxLen ∧
    (0 < l.length → ∃ b off, A = some ⟨b, off, none⟩ ∧ b < w.heap.size ∧ ∀ j (hj : j < l.length), w.cell? ⟨b, off + j * 13, none⟩ = some (.bool l[j].out) ∧ w.cell? ⟨b, off + j * 13 + 1, none⟩ = some (.int .i64 l[j].now) ∧ PkAt w b (off + j * 13 + 2) l[j].p) ∧ ∀ a ∈ l, a.Ok w
theorem Racts.form {w : World} {v : Value} {l : List RAct} (h : Racts w v l) : ∃ A c, v = .slice A l.length c ∧ l.length ≤ c ∧ c ≤ maxLen := by
  obtain ⟨A, c, rfl, h1, h2, _⟩ := h
  exact ⟨A, c, rfl, h1, h2⟩
theorem Racts.grow {w w' : World} {v : Value} {l : List RAct} (h : Racts w v l) (g : Grow w w') : Racts w' v l := by
  obtain ⟨A, c, rfl, h1, h2, h3, h4⟩ := h
  refine ⟨A, c, rfl, h1, h2, fun hp => ?_, fun a ha => ⟨(h4 a ha).1.grow g, (h4 a ha).2⟩⟩
  obtain ⟨b, off, e, hb, hc⟩ := h3 hp
  refine ⟨b, off, e, Nat.lt_of_lt_of_le hb g.size, fun j hj => ?_⟩
  obtain ⟨q1, q2, q3⟩ := hc j hj
  exact ⟨(g.cell (p := ⟨b, off + j * 13, none⟩) hb).trans q1, (g.cell (p := ⟨b, off + j * 13 + 1, none⟩) hb).trans q2, q3.grow g hb⟩

section
variable {H : Type} {enc : TypeId × Value → H} {W : World}
set_option maxHeartbeats 1000000 in
theorem ip_cells {m : Nat} {c0 c1 c2 c3 c4 c5 c6 c7 c8 c9 c10 : Value} {x : DataW H × List MemPlace} (hf : DataW.trod enc Try.prog W 0 (fun _ => true) true m 38 [c0, c1, c2, c3, c4, c5, c6, c7, c8, c9, c10] = some x) : ∃ q : Pk, q.Good W ∧ [c0, c1, c2, c3, c4, c5, c6, c7, c8, c9, c10] = pc q := by
  obtain ⟨xs, n, _, _, _, hlen, hfd⟩ := DataW.trod_struct Try.underlying38 hf
  have q0 : DataW.trod enc Try.prog W 0 (fun _ => true) true n 5 [c0] = xs[0]? := hfd 0 _ rfl
  rw [List.getElem?_eq_getElem (show 0 < xs.length by rw [hlen]; decide)] at q0
  obtain ⟨n0, e0, _, wf0⟩ := DataW.trod_int Try.underlying5 q0
  obtain rfl : c0 = _ := by simpa using e0
  obtain ⟨m0, rfl, z0⟩ := wf_nat wf0 rfl
  have q1 : DataW.trod enc Try.prog W 0 (fun _ => true) true n 33 [c1] = xs[1]? := hfd 1 _ rfl
  rw [List.getElem?_eq_getElem (show 1 < xs.length by rw [hlen]; decide)] at q1
  obtain ⟨n1, e1, _, wf1⟩ := DataW.trod_int Try.underlying33 q1
  obtain rfl : c1 = _ := by simpa using e1
  obtain ⟨m1, rfl, z1⟩ := wf_nat wf1 rfl
  have q2 : DataW.trod enc Try.prog W 0 (fun _ => true) true n 4 [c2] = xs[2]? := hfd 2 _ rfl
  rw [List.getElem?_eq_getElem (show 2 < xs.length by rw [hlen]; decide)] at q2
  obtain ⟨n2, e2, _⟩ := DataW.trod_bool Try.underlying4 q2
  obtain rfl : c2 = _ := by simpa using e2
  have q3 : DataW.trod enc Try.prog W 0 (fun _ => true) true n 4 [c3] = xs[3]? := hfd 3 _ rfl
  rw [List.getElem?_eq_getElem (show 3 < xs.length by rw [hlen]; decide)] at q3
  obtain ⟨n3, e3, _⟩ := DataW.trod_bool Try.underlying4 q3
  obtain rfl : c3 = _ := by simpa using e3
  have q4 : DataW.trod enc Try.prog W 0 (fun _ => true) true n 3 [c4] = xs[4]? := hfd 4 _ rfl
  rw [List.getElem?_eq_getElem (show 4 < xs.length by rw [hlen]; decide)] at q4
  obtain ⟨n4, e4, _, wf4⟩ := DataW.trod_int Try.underlying3 q4
  obtain rfl : c4 = _ := by simpa using e4
  have z4 := bounds_i64 wf4
  have q5 : DataW.trod enc Try.prog W 0 (fun _ => true) true n 5 [c5] = xs[5]? := hfd 5 _ rfl
  rw [List.getElem?_eq_getElem (show 5 < xs.length by rw [hlen]; decide)] at q5
  obtain ⟨n5, e5, _, wf5⟩ := DataW.trod_int Try.underlying5 q5
  obtain rfl : c5 = _ := by simpa using e5
  obtain ⟨m5, rfl, z5⟩ := wf_nat wf5 rfl
  have q6 : DataW.trod enc Try.prog W 0 (fun _ => true) true n 5 [c6] = xs[6]? := hfd 6 _ rfl
  rw [List.getElem?_eq_getElem (show 6 < xs.length by rw [hlen]; decide)] at q6
  obtain ⟨n6, e6, _, wf6⟩ := DataW.trod_int Try.underlying5 q6
  obtain rfl : c6 = _ := by simpa using e6
  obtain ⟨m6, rfl, z6⟩ := wf_nat wf6 rfl
  have q7 : DataW.trod enc Try.prog W 0 (fun _ => true) true n 35 [c7] = xs[7]? := hfd 7 _ rfl
  rw [List.getElem?_eq_getElem (show 7 < xs.length by rw [hlen]; decide)] at q7
  obtain ⟨n7, e7, _, wf7⟩ := DataW.trod_int Try.underlying35 q7
  obtain rfl : c7 = _ := by simpa using e7
  obtain ⟨m7, rfl, z7⟩ := wf_nat wf7 rfl
  have q8 : DataW.trod enc Try.prog W 0 (fun _ => true) true n 35 [c8] = xs[8]? := hfd 8 _ rfl
  rw [List.getElem?_eq_getElem (show 8 < xs.length by rw [hlen]; decide)] at q8
  obtain ⟨n8, e8, _, wf8⟩ := DataW.trod_int Try.underlying35 q8
  obtain rfl : c8 = _ := by simpa using e8
  obtain ⟨m8, rfl, z8⟩ := wf_nat wf8 rfl
  have q9 : DataW.trod enc Try.prog W 0 (fun _ => true) true n 36 [c9] = xs[9]? := hfd 9 _ rfl
  rw [List.getElem?_eq_getElem (show 9 < xs.length by rw [hlen]; decide)] at q9
  obtain ⟨v9, l9, e9, z9⟩ := open_bytes q9
  obtain rfl : c9 = _ := by simpa using e9
  have q10 : DataW.trod enc Try.prog W 0 (fun _ => true) true n 36 [c10] = xs[10]? := hfd 10 _ rfl
  rw [List.getElem?_eq_getElem (show 10 < xs.length by rw [hlen]; decide)] at q10
  obtain ⟨v10, l10, e10, z10⟩ := open_bytes q10
  obtain rfl : c10 = _ := by simpa using e10
  exact ⟨⟨⟨m0, m1, n2, n3, n4, m5, m6, m7, m8, l9, l10⟩, c9, c10⟩, ⟨z9, z10, ⟨z0, z1, z4.1, z4.2, z5, z6, z7, z8⟩⟩, rfl⟩
set_option maxHeartbeats 1000000 in
theorem ract_cells {m : Nat} {cs : List Value} {x : DataW H × List MemPlace} (hf : DataW.trod enc Try.prog W 0 (fun _ => true) true m 40 cs = some x) : ∃ a : RAct, a.Ok W ∧ cs = .bool a.out :: .int .i64 a.now :: pc a.p := by
  obtain ⟨xs, n, _, _, hl, hlen, hfd⟩ := DataW.trod_struct Try.underlying40 hf
  have hl13 : cs.length = 13 := hl.trans (by kernel_rfl)
  match cs, hl13 with
  | [c0, c1, d0, d1, d2, d3, d4, d5, d6, d7, d8, d9, d10], _ =>
    have q0 : DataW.trod enc Try.prog W 0 (fun _ => true) true n 4 [c0] = xs[0]? := hfd 0 _ rfl
    rw [List.getElem?_eq_getElem (show 0 < xs.length by rw [hlen]; decide)] at q0
    obtain ⟨g, e0, _⟩ := DataW.trod_bool Try.underlying4 q0
    obtain rfl : c0 = _ := by simpa using e0
    have q1 : DataW.trod enc Try.prog W 0 (fun _ => true) true n 3 [c1] = xs[1]? := hfd 1 _ rfl
    rw [List.getElem?_eq_getElem (show 1 < xs.length by rw [hlen]; decide)] at q1
    obtain ⟨n1, e1, _, wf1⟩ := DataW.trod_int Try.underlying3 q1
    obtain rfl : c1 = _ := by simpa using e1
    have z1 := bounds_i64 wf1
    have q2 : DataW.trod enc Try.prog W 0 (fun _ => true) true n 38 [d0, d1, d2, d3, d4, d5, d6, d7, d8, d9, d10] = xs[2]? := hfd 2 _ rfl
    rw [List.getElem?_eq_getElem (show 2 < xs.length by rw [hlen]; decide)] at q2
    obtain ⟨q, hq, e⟩ := ip_cells q2
    exact ⟨⟨g, n1, q⟩, ⟨hq, z1.1, z1.2⟩, by rw [e]⟩

theorem open_racts {v : Value} {r : Reach} {b0 : Nat} {d : DataW H} {p : List MemPlace} (hv : Value.okWide Try.prog W r b0 22 v) (h : DataW.Trod enc Try.prog W 0 (fun _ => true) true 22 v d p) : ∃ l, Racts W v l := by
  obtain ⟨a0, len0, cap0, rfl⟩ := okWide_slice Try.underlying22 hv
  obtain ⟨fuel, hf⟩ := h
  rcases Go.Deep.open_slice Try.underlying22 hf with ⟨hcs, _⟩ | ⟨x, len, cap, m, n, D, Pl, hcs, hb, hl, hm, hmm, _, hx⟩
  · simp [Value.cells] at hcs
    obtain ⟨rfl, rfl, rfl⟩ := hcs
    exact ⟨[], none, 0, rfl, Nat.le_refl _, Nat.zero_le _, fun h => absurd h (by simp), by simp⟩
  · simp [Value.cells] at hcs
    obtain ⟨rfl, rfl, rfl⟩ := hcs
    simp only [if_true] at hmm
    subst hmm
    have hch : ∀ i, i < len0 → ∃ a : RAct, a.Ok W ∧ ∀ k u, (.bool a.out :: .int .i64 a.now :: pc a.p : List Value)[k]? = some u → W.cell? (x.add (i * 13 + k)) = some u := by
      intro i hi
      obtain ⟨cs, h1, h2⟩ := hx i (Nat.lt_of_lt_of_le hi hl)
      obtain ⟨a, ha, e⟩ := ract_cells h2
      obtain ⟨_, hlen, hc⟩ := World.cells?_some h1
      rw [show Try.prog.cellsOf 40 = 13 from by kernel_rfl] at hc hlen
      refine ⟨a, ha, fun k u hk => ?_⟩
      have hk13 : k < 13 := by
        have := (List.getElem?_eq_some_iff.1 hk).1
        simpa [pc] using this
      have := hc k hk13
      rw [e, hk] at this
      rw [← this]
      have ea : x.add (i * 13 + k) = (x.add (i * 13)).add k := by
        unfold Addr.add
        generalize i * 13 = q
        by_cases h1 : q = 0 <;> by_cases h2 : k = 0 <;> simp [h1, h2, Nat.add_assoc]
      rw [ea]
    obtain ⟨f, hf2⟩ := Go.Deep.choose_lt (α := RAct) hch
    refine ⟨(List.range len0).map f, some x, _, by simp, by simpa using hl, hm, fun hp => ?_, ?_⟩
    · have hp0 : 0 < len0 := by simpa using hp
      obtain ⟨b, off, spot⟩ := x
      have h0 := (hf2 0 hp0).2 0 _ rfl
      have hs : spot = none := by simpa [Addr.add] using World.cell?_spot h0
      subst hs
      refine ⟨b, off, rfl, ?_, fun j hj => ?_⟩
      · have := block_of_cell h0
        simpa [Addr.add] using this
      · have hj' : j < len0 := by simpa using hj
        have hcj := (hf2 j hj').2
        simp only [add_at] at hcj
        simp only [List.getElem_map, List.getElem_range]
        have e : ∀ a c, off + j * 13 + a + c = off + (j * 13 + (a + c)) := fun a c => by omega
        have e1 : ∀ a, off + j * 13 + a = off + (j * 13 + a) := fun a => by omega
        refine ⟨hcj 0 _ rfl, ?_, ?_, ?_, ?_, ?_, ?_, ?_, ?_, ?_, ?_, ?_, ?_⟩
        · exact hcj 1 _ rfl
        · exact hcj 2 _ rfl
        · rw [e 2 1]; exact hcj 3 _ rfl
        · rw [e 2 2]; exact hcj 4 _ rfl
        · rw [e 2 3]; exact hcj 5 _ rfl
        · rw [e 2 4]; exact hcj 6 _ rfl
        · rw [e 2 5]; exact hcj 7 _ rfl
        · rw [e 2 6]; exact hcj 8 _ rfl
        · rw [e 2 7]; exact hcj 9 _ rfl
        · rw [e 2 8]; exact hcj 10 _ rfl
        · rw [e 2 9]; exact hcj 11 _ rfl
        · rw [e 2 10]; exact hcj 12 _ rfl
    · intro a ha
      obtain ⟨i, hi, rfl⟩ := List.mem_map.1 ha
      exact (hf2 i (by simpa using hi)).1
end
end Go.Proofs.Ytfjmcfkpbacicaa
/- Contract: whether more is asked than a statement asks. -/
namespace Go.Proofs.Ytfjmcfkpbacicaa
set_option linter.unusedVariables false
set_option linter.unusedSimpArgs false
open Go.ChangeShapes Go.WideShapes Go.ChangeAt Go.RowKit

def MuchSays (w : World) (l : List RAct) (e : Ending) (w' : World) : Prop := ∃ b : Bool, e = .returned (.bool b) ∧ (b = false → l.length ≤ 100 ∧ ∀ a ∈ l, a.p.k.Small) ∧ Grow w w'
/-- What a round of it knows. -/
structure MuchAt (w : World) (l : List RAct) (i : Nat) (wr : World) : Prop where
  small : ∀ a ∈ l.take i, a.p.k.Small
  grow : Grow w wr
set_option maxRecDepth 10000 in
set_option maxHeartbeats 2000000 in
theorem much_any (w : World) (v : Value) (l : List RAct) (h : Racts w v l) :
    Calls Try.prog 7 #[v] w (MuchSays w l) := by
  obtain ⟨A, c, rfl, hlc, hcm, hat, hok⟩ := id h
  have HAT := Lib.hid (And.intro hat hok)
  unfold maxLen at hcm
  obtain ⟨N, hN⟩ : ∃ N, N = l.length := ⟨_, rfl⟩
  rw [← hN] at hlc ⊢
  have HN := Lib.hid hN
  clear hat hok h hN
  go_enter Try.func7, Try.ntmps7
  go_wp2_with fail
  go_loopg [3, 4] (100 : Nat) (fun gk s3 s4 wr => ∃ i : Nat, i ≤ 100 ∧ i ≤ N ∧ gk = 100 - i ∧ s3 = .int .i64 (i : Int) ∧ s4 = .int .i64 (i : Int) ∧ MuchAt w l i wr)
  case atStart => exact ⟨0, by omega, by omega, rfl, rfl, rfl, ⟨by simp, Grow.refl _⟩⟩
  case round =>
    obtain ⟨i, hi1, hi2, rfl, rfl, rfl, hM⟩ := hrel
    have HM := Lib.hid hM
    clear hM
    by_cases hiN : i < N
    case neg =>
      have d1 : decide ((i : Int) < (N : Int)) = false := decide_eq_false (by omega)
      have hs : ∀ a ∈ l, a.p.k.Small := by
        have h1 := HM.out.small
        rwa [List.take_of_length_le (by have := HN.out; omega)] at h1
      have HS := Lib.hid hs
      have hge : N ≤ i := by omega
      clear hs
      go_wp2_with fail
      go_ret
      exact ⟨_, rfl, fun _ => ⟨by have := HN.out; omega, HS.out⟩, HM.out.grow⟩
    have d1 : decide ((i : Int) < (N : Int)) = true := decide_eq_true (by omega)
    by_cases hi100 : i < 100
    case neg =>
      have d2 : decide ((i : Int) < 100) = false := decide_eq_false (by omega)
      have hlt : decide ((i : Int) < (N : Int)) = true := d1
      clear hi100
      go_wp2_with fail
      go_ret
      exact ⟨true, rfl, fun h => (by cases h), HM.out.grow⟩
    have d2 : decide ((i : Int) < 100) = true := decide_eq_true (by omega)
    have hil : i < l.length := by have := HN.out; omega
    obtain ⟨b, off, rfl, hb, hc⟩ := HAT.out.1 (by omega)
    obtain ⟨_, _, hq⟩ := hc i hil
    have hgood := (HAT.out.2 _ (List.getElem_mem hil)).1
    have hst : l.take (i + 1) = l.take i ++ [l[i]] := List.take_succ_eq_append_getElem hil
    generalize l[i] = a at *
    obtain ⟨out, now, ⟨k, vo, vd⟩⟩ := a
    simp only at hq hgood
    obtain ⟨Ao, co, e9, _⟩ := hgood.1.form
    obtain ⟨Ad, cd, e10, _⟩ := hgood.2.1.form
    simp only at e9 e10
    subst e9
    subst e10
    have hqr := hq.grow HM.out.grow hb
    have hbr : b < wr.heap.size := Nat.lt_of_lt_of_le hb HM.out.grow.size
    have cL := Long_any _ _ wr (Pk.Good.ip (hgood.grow HM.out.grow))
    have HQ := Lib.hid (And.intro hqr (And.intro hbr hst))
    obtain ⟨x0, x1, x2, x3, x4, x5, x6, x7, x8, x9, x10⟩ := id hqr
    unfold ipV at cL
    have hic : (i : Int) < (N : Int) := by omega
    clear hc hq hqr hbr hst hgood
    by_cases hL : 100 < k.opts.length ∨ 70000 < k.data.length
    · rw [decide_eq_true hL] at cL
      clear hL
      go_wp2_with fail
      refine cL.mono ?_
      rintro e w2 ⟨rfl, hg2⟩
      have H2 := Lib.hid hg2
      clear hg2 cL x0 x1 x2 x3 x4 x5 x6 x7 x8 x9 x10
      go_wp2_with fail
      go_ret
      exact ⟨true, rfl, fun h => (by cases h), HM.out.grow.trans H2.out⟩
    · rw [decide_eq_false hL] at cL
      have hsm : k.Small := ⟨by omega, by omega⟩
      have hd7 : k.data.length ≤ 70000 := by omega
      have HNX : Hid (∀ w2, Grow wr w2 → MuchAt w l (i + 1) w2) := fun w2 g => by
        refine ⟨fun a ha => ?_, HM.out.grow.trans g⟩
        rw [HQ.out.2.2] at ha
        rcases List.mem_append.1 ha with h | h
        · exact HM.out.small a h
        · rw [List.mem_singleton.1 h]
          exact hsm
      clear hL hsm
      go_wp2_with fail
      refine cL.mono ?_
      rintro e w2 ⟨rfl, hg2⟩
      have H2 := Lib.hid hg2
      have hnx := HNX.out w2 hg2
      have HX2 := Lib.hid hnx
      have y10 : w2.cell? ⟨b, off + i * 13 + 2 + 10, none⟩ = some (.slice Ad k.data.length cd) := (hg2.cell (p := ⟨b, off + i * 13 + 2 + 10, none⟩) HQ.out.2.1).trans x10
      clear hg2 cL hnx x0 x1 x2 x3 x4 x5 x6 x7 x8 x9 x10
      by_cases h3 : 3000 < k.data.length
      · have g1 : decide ((3000 : Int) < (k.data.length : Int)) = true := decide_eq_true (by omega)
        by_cases h20 : 20 < i
        · have g2 : decide ((20 : Int) < (i : Int)) = true := decide_eq_true (by omega)
          go_wp2_with fail
          go_ret
          exact ⟨true, rfl, fun h => (by cases h), HM.out.grow.trans H2.out⟩
        · have g2 : decide ((20 : Int) < (i : Int)) = false := decide_eq_false (by omega)
          have h20' : i ≤ 20 := by omega
          clear h20
          go_wp2_with fail
          go_roundg (100 - (i + 1))
          case measure => omega
          case rel => exact ⟨i + 1, by omega, by omega, rfl, by go_num, by go_num, HX2.out⟩
      · have g1 : decide ((3000 : Int) < (k.data.length : Int)) = false := decide_eq_false (by omega)
        have h3' : k.data.length ≤ 3000 := by omega
        go_wp2_with fail
        go_roundg (100 - (i + 1))
        case measure => omega
        case rel => exact ⟨i + 1, by omega, by omega, rfl, by go_num, by go_num, HX2.out⟩
end Go.Proofs.Ytfjmcfkpbacicaa
/- The pieces of pieces, from either side: what the two loops of Twice keep. -/
namespace Go.Proofs.Ytfjmcfkpbacicaa
set_option linter.unusedVariables false
set_option linter.unusedSimpArgs false
open Go.ChangeShapes Go.WideShapes Go.ChangeAt Go.RowKit

def TwL (k : Pkt) (L : List Pkt) : Prop := (L = [k] ∧ k.data = []) ∨ (Run k 0 L k.data.length ∧ 0 < L.length)
theorem TwL.of {k : Pkt} {mtu : Int} (he : fcodeS k mtu = 0) (h0 : k.off = 0) (hm : k.more = false) (ho : k.opts.length ≤ 40) : TwL k (flist k mtu) := by
  by_cases hd : k.data = []
  · exact .inl ⟨flist_nil he hd, hd⟩
  · have h := flist_run he (Pc.self h0 hm hd ho)
    have e : k.at_ = 0 := by unfold Pkt.at_; rw [h0]; rfl
    rw [e, Nat.zero_add] at h
    refine .inr ⟨h, ?_⟩
    rcases Nat.eq_zero_or_pos (flist k mtu).length with hl | hl
    · rw [List.eq_nil_of_length_eq_zero hl] at h
      have h1 : (0 : Nat) = k.data.length := h
      exact absurd (List.eq_nil_of_length_eq_zero h1.symm) hd
    · exact hl
theorem TwL.mem {k : Pkt} {L : List Pkt} (h : TwL k L) (ho : k.opts.length ≤ 40) {q : Pkt} (hq : q ∈ L) : q.opts.length ≤ 40 ∧ q.data.length ≤ k.data.length := by
  rcases h with ⟨rfl, _⟩ | ⟨h, _⟩
  · rw [List.mem_singleton] at hq
    subst hq
    exact ⟨ho, Nat.le_refl _⟩
  · have hp := h.mem q hq
    exact ⟨hp.few, by have := hp.fit; omega⟩
theorem TwL.le {k : Pkt} {L : List Pkt} (h : TwL k L) : L.length ≤ k.data.length + 1 := by
  rcases h with ⟨rfl, _⟩ | ⟨h, _⟩
  · simp
  · have := h.le
    omega
theorem TwL.flat {k : Pkt} {L : List Pkt} {small : Int} (h : TwL k L) (i : Nat) (hc : ∀ q ∈ L.take i, fcodeS q small = 0) : ((L.take i).flatMap fun q => flist q small).length ≤ k.data.length + 1 := by
  rcases h with ⟨rfl, hd⟩ | ⟨h, _⟩
  · cases i with
    | zero => simp
    | succ i =>
      have e : ([k] : List Pkt).take (i + 1) = [k] := by simp
      rw [e] at hc ⊢
      rw [List.flatMap_cons, flist_nil (hc k (by simp)) hd]
      simp
  · rw [← List.take_append_drop i L] at h
    obtain ⟨e, h1, h2⟩ := h.split
    have h3 := (run_flat h1 hc).le
    have h4 := h2.le
    omega
theorem TwL.all {k : Pkt} {L : List Pkt} {small : Int} (h : TwL k L) (h0 : k.off = 0) (hm : k.more = false) (hc : ∀ q ∈ L, fcodeS q small = 0) : (L.flatMap fun q => flist q small) = [k] ∨ (2 ≤ (L.flatMap fun q => flist q small).length ∧ Run k 0 (L.flatMap fun q => flist q small) k.data.length) := by
  rcases h with ⟨rfl, hd⟩ | ⟨h, hl⟩
  · left
    rw [List.flatMap_cons, flist_nil (hc k (by simp)) hd]
    rfl
  · have h1 := run_flat h hc
    generalize (L.flatMap fun q => flist q small) = M at *
    match M, h1 with
    | [], h1 =>
      have h2 : (0 : Nat) = k.data.length := h1
      have h3 := h.le
      omega
    | [y], h1 => left; rw [run_one h1 h0 hm]
    | y :: z :: r, h1 => right; exact ⟨by simp, h1⟩

/-- Which have come, when there were i. -/
def Side (back : Bool) (n i j : Nat) : Prop := if back = true then n - i ≤ j else j < i
def TwS (k : Pkt) (M : List Pkt) (back : Bool) (i : Nat) (A : List Wt) : Prop :=
  (M = [k] ∧ A = []) ∨ (2 ≤ M.length ∧ Run k 0 M k.data.length ∧ ∃ dn, CovA k dn A ∧ ∀ x, x ∈ dn ↔ ∃ j, Side back M.length i j ∧ M[j]? = some x)
theorem TwS.start {k : Pkt} {M : List Pkt} {back : Bool} (h : M = [k] ∨ (2 ≤ M.length ∧ Run k 0 M k.data.length)) : TwS k M back 0 [] := by
  rcases h with h | ⟨h1, h2⟩
  · exact .inl ⟨h, rfl⟩
  · refine .inr ⟨h1, h2, [], .inl ⟨rfl, rfl⟩, fun x => ⟨fun h => (by cases h), fun ⟨j, h3, h4⟩ => ?_⟩⟩
    obtain ⟨h5, _⟩ := List.getElem?_eq_some_iff.1 h4
    unfold Side at h3
    split at h3 <;> omega
def nth (back : Bool) (n i : Nat) : Nat := if back = true then n - 1 - i else i
theorem nth_lt {back : Bool} {n i : Nat} (h : i < n) : nth back n i < n := by unfold nth; split <;> omega
theorem side_next {back : Bool} {n i j : Nat} (h : i < n) (hj : j < n) : Side back n (i + 1) j ↔ Side back n i j ∨ j = nth back n i := by
  unfold Side nth
  split <;> omega
theorem side_all {back : Bool} {n i : Nat} (h : i < n) : (∀ j, j < n → Side back n (i + 1) j) ↔ i + 1 = n := by
  constructor
  · intro h1
    unfold Side at h1
    split at h1
    · have := h1 0 (by omega); omega
    · have := h1 (n - 1) (by omega); omega
  · intro h1 j hj
    unfold Side
    split <;> omega
theorem two_call (w : World) (B tb : Nat) (A : List Wt) (k q : Pkt) (M : List Pkt) (back : Bool) (i : Nat) (hT : TabA w B tb 1 100 A) (h0 : k.off = 0) (hm : k.more = false) (hN : k.data.length ≤ 65515) (hlen : k.len ≤ 65535) (hS : TwS k M back i A) (hi : i < M.length) (hq : M[nth back M.length i]? = some q) (now : Int) (hnow : 0 ≤ now ∧ now ≤ 1000) (vo vd : Value) (hp : Piece B w q vo vd) :
    Calls Try.prog 14 #[.pointer (some ⟨tb, 0, none⟩), .int .i64 now, ipV q vo vd] w fun e w' => ∃ fl r A' vo' vd', e = .returned (.tuple #[ipV r vo' vd', .bool fl, .int .i64 0]) ∧ Ip w' (ipV r vo' vd') r ∧ TabA w' B tb 1 100 A' ∧ Only B Za w w' ∧ (fl = true ↔ i + 1 = M.length) ∧ (fl = true → r = k ∧ A' = []) ∧ (fl = false → TwS k M back (i + 1) A') := by
  rcases hS with ⟨rfl, rfl⟩ | ⟨h2, hrun, dn, hcov, hdn⟩
  · have hi0 : i = 0 := by simpa using hi
    subst hi0
    have hqk : q = k := by
      have e : nth back ([k] : List Pkt).length 0 = 0 := by unfold nth; split <;> rfl
      rw [e] at hq
      simpa using hq.symm
    subst hqk
    refine (RsAdd_any w B tb 1 100 [] hT now q vo vd hp).mono ?_
    have ea : addS 1 100 now q [] = ⟨[], q, true, 0⟩ := by
      unfold addS
      rw [if_neg (by omega), if_pos ⟨h0, hm⟩]
    rw [ea]
    rintro e w' ⟨vo', vd', rfl, h1, h2, h3⟩
    exact ⟨true, q, [], vo', vd', rfl, h1, h2, h3, ⟨fun _ => rfl, fun _ => rfl⟩, fun _ => ⟨rfl, rfl⟩, fun h => (by cases h)⟩
  · have hmem : q ∈ M := List.mem_of_getElem? hq
    have hd : ∀ x ∈ dn, Pc k x := fun x hx => by
      obtain ⟨j, _, h⟩ := (hdn x).1 hx
      exact hrun.mem _ (List.mem_of_getElem? h)
    have hdn2 : ∀ x, x ∈ dn ++ [q] ↔ ∃ j, Side back M.length (i + 1) j ∧ M[j]? = some x := by
      intro x
      rw [List.mem_append, hdn x]
      constructor
      · rintro (⟨j, h3, h4⟩ | h3)
        · obtain ⟨h5, _⟩ := List.getElem?_eq_some_iff.1 h4
          exact ⟨j, (side_next hi h5).2 (.inl h3), h4⟩
        · rw [List.mem_singleton.1 h3]
          exact ⟨_, (side_next hi (nth_lt hi)).2 (.inr rfl), hq⟩
      · rintro ⟨j, h3, h4⟩
        obtain ⟨h5, _⟩ := List.getElem?_eq_some_iff.1 h4
        rcases (side_next hi h5).1 h3 with h6 | rfl
        · exact .inl ⟨j, h6, h4⟩
        · rw [hq] at h4
          cases h4
          exact .inr (by simp)
    have hfull : Full k (dn ++ [q]) ↔ i + 1 = M.length := (run_full hrun hdn2).trans (side_all hi)
    refine (cov_call w B tb A k q dn hT h0 hm hN hlen hcov hd (hrun.mem _ hmem) (run_part hrun h2 _ hmem) now hnow vo vd hp).mono ?_
    rintro e w' ⟨fl, r, A', vo', vd', rfl, h3, h4, h5, h6, h7, h8⟩
    exact ⟨fl, r, A', vo', vd', rfl, h3, h4, h5, h6.trans hfull, h7, fun h => .inr ⟨h2, hrun, _, h8 h, hdn2⟩⟩
end Go.Proofs.Ytfjmcfkpbacicaa
/- Contract: Split. -/
namespace Go.Proofs.Ytfjmcfkpbacicaa
set_option linter.unusedVariables false
set_option linter.unusedSimpArgs false
open Go.ChangeShapes Go.WideShapes Go.ChangeAt Go.RowKit

end Go.Proofs.Ytfjmcfkpbacicaa
