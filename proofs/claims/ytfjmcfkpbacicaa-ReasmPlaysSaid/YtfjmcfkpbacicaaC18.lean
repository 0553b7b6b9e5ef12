/- The reference's Add, from the copy of the packet on: its bytes are painted. -/
import Derived.Test.YtfjmcfkpbacicaaC17
import Derived.StillTailTactics
import Derived.IntWalk
namespace Go.Proofs.Ytfjmcfkpbacicaa
set_option linter.unusedVariables false
set_option linter.unusedSimpArgs false
open Go.ChangeShapes Go.WideShapes Go.ChangeAt Go.RowKit

set_option maxRecDepth 100000 in
set_option maxHeartbeats 4000000 in
theorem rTail19 (Q : Exit → Go.Act → World → Prop) (w W : World) (base : Nat) (most life : Int) (A0 : Option Addr) (n0 cp0 : Nat) (k : Pkt) (A : Option Addr) (c : Nat) (B : Option Addr) (d : Nat) (g : Nat) (x : Rf) (t : Wt) (A1 : List Wt) (Pn En : Nat) (I : Int) (R : AddR)
    (hB5 : RfBlk W g x ∧ Rq.Ok base W ⟨x, t⟩) (hra : Ra w most life (.slice A0 n0 cp0) k (.slice A k.opts.length c) (.slice B k.data.length d) W) (hb : base ≤ w.heap.size) (hg3 : w.heap.size + 4 ≤ g)
    (hfx : Firm base w x.vo x.f.opts ∧ Firm base w x.vx x.f.data) (hp : Piece base w k (.slice A k.opts.length c) (.slice B k.data.length d))
    (hwo : WOk t) (hc : chk k = 0) (h0 : 0 ≤ k.off) (hst : staleB t.fin t.c.length k = false) (hee : endOf k = (En : Int) ∧ 8 * k.off = (Pn : Int) ∧ (Pn : Int) + (k.data.length : Int) = (En : Int) ∧ ¬ k.data.length = 0) (hE65 : En ≤ 65515) (hT : RTab w base (.agg #[.int .i64 most, .int .i64 life, .slice A0 n0 cp0]) most life A1)
    (hsel : (I = -1 ∧ A1.length < 64 ∧ finL (A1 ++ [tookW t k]) A1.length (tookW t k) = R) ∨ (∃ i : Nat, I = (i : Int) ∧ i < A1.length ∧ A1.length ≤ 64 ∧ finL (A1.set i (tookW t k)) i (tookW t k) = R))
    (hQ : ∀ a w', RaEnd w base most life R a w' → Q Exit.ret a w') (u0 u1 u2 u4 u8 u9 u14 u15 u16 u17 u18 u19 u20 u21 u22 u23 u24 u25 u26 u27 u28 u29 u30 u31 u32 u33 u34 u35 u36 u37 u38 u39 u40 u41 u42 u43 u44 u45 u46 u47 u48 u49 u50 u51 u52 u53 u54 u55 u56 u57 u58 u59 u60 u61 u62 u63 u64 u65 u66 u67 u68 u69 u70 u71 u72 u73 u74 u75 u76 u77 u78 u79 u80 u81 u82 u83 u84 u85 u86 u87 u88 u89 u90 u91 u92 u93 u94 u95 u96 u97 u98 u99 u100 u101 u102 u103 u104 u105 u106 u107 u108 u109 u110 u111 u112 u113 u114 u115 u116 u117 u118 u119 u120 u121 u122 u123 u124 u125 u126 u127 u128 u129 u130 u131 u132 u133 u134 u135 u136 u137 u138 u139 u140 u141 u142 u143 u144 u145 u146 u147 u148 u149 u150 u151 u152 u153 u154 u155 u156 u157 u158 u159 u160 u161 u162 u163 u164 u165 u166 u167 u168 u169 u170 u171 u172 u173 u174 u175 u176 u177 u178 u179 u180 u181 u182 u183 u184 u185 u186 u187 u188 u189 u190 u191 u192 u193 u194 u195 u196 u197 u198 u199 u200 u201 u202 u203 u204 u205 u206 u207 u208 u209 u210 u211 u212 u213 u214 u215 u216 u217 u218 u219 u220 u221 u222 u223 u224 u225 u226 u227 u228 u229 u230 u231 u232 u233 u234 u235 u236 u237 u238 u239 u240 u241 u242 u243 u244 u245 u246 u247 u248 u249 u250 u251 u252 u253 u254 u255 : Value) :
    Code.wp Try.prog (dropS 12 ((Try.f15.body).getD .skip)) Q ⟨#[u0, u1, u2, .pointer (some ⟨w.heap.size, 0, none⟩), u4, .pointer (some ⟨w.heap.size + 1, 0, none⟩), .pointer (some ⟨w.heap.size + 2, 0, none⟩), .pointer (some ⟨w.heap.size + 3, 0, none⟩), u8, u9, .int .i64 (Pn : Int), .int .i64 (En : Int), .int .i64 I, .pointer (some ⟨g, 0, none⟩), u14, u15, u16, u17, u18, u19, u20, u21, u22, u23, u24, u25, u26, u27, u28, u29, u30, u31, u32, u33, u34, u35, u36, u37, u38, u39, u40, u41, u42, u43, u44, u45, u46, u47, u48, u49, u50, u51, u52, u53, u54, u55, u56, u57, u58, u59, u60, u61, u62, u63, u64, u65, u66, u67, u68, u69, u70, u71, u72, u73, u74, u75, u76, u77, u78, u79, u80, u81, u82, u83, u84, u85, u86, u87, u88, u89, u90, u91, u92, u93, u94, u95, u96, u97, u98, u99, u100, u101, u102, u103, u104, u105, u106, u107, u108, u109, u110, u111, u112, u113, u114, u115, u116, u117, u118, u119, u120, u121, u122, u123, u124, u125, u126, u127, u128, u129, u130, u131, u132, u133, u134, u135, u136, u137, u138, u139, u140, u141, u142, u143, u144, u145, u146, u147, u148, u149, u150, u151, u152, u153, u154, u155, u156, u157, u158, u159, u160, u161, u162, u163, u164, u165, u166, u167, u168, u169, u170, u171, u172, u173, u174, u175, u176, u177, u178, u179, u180, u181, u182, u183, u184, u185, u186, u187, u188, u189, u190, u191, u192, u193, u194, u195, u196, u197, u198, u199, u200, u201, u202, u203, u204, u205, u206, u207, u208, u209, u210, u211, u212, u213, u214, u215, u216, u217, u218, u219, u220, u221, u222, u223, u224, u225, u226, u227, u228, u229, u230, u231, u232, u233, u234, u235, u236, u237, u238, u239, u240, u241, u242, u243, u244, u245, u246, u247, u248, u249, u250, u251, u252, u253, u254, u255], []⟩ W := by
  conv => arg 2; whnf
  have HQQ := Lib.hid hQ
  have HB5 := Lib.hid hB5
  have HR5 := Lib.hid hra
  have HG3 := Lib.hid hg3
  have HFX := Lib.hid hfx
  have HT := Lib.hid (And.intro hT hp)
  have HWO := Lib.hid hwo
  have HCK := Lib.hid hc
  have HEE := Lib.hid hee
  have HST := Lib.hid hst
  have HH0 := Lib.hid h0
  have HSEL := Lib.hid hsel
  clear hQ hB5 hra hg3 hfx hT hp hwo hc hee hst h0 hsel
  have hm5 : g < W.heap.size := HB5.out.1.lt
  have HM5 := Lib.hid hm5
  have cP := rCopied_any W base ⟨x, t⟩ HB5.out.2 HWO.out.top En hE65
  have HON : Hid (x.One) := HB5.out.2.one
  clear hm5
  go_upto_region 20 with (first | (show wpList _ _ _ (⟨some 143, .load 78 (.tmp 13), _, _, _, _⟩ :: _) _ _; refine wpList_load_rf W rfl _ rfl g 0 rfl x HB5.out.1.at_ ?_) | (go_at_call 36; refine cP.mono ?_; rintro e w6 ⟨vd6, vh6, rfl, hd6, hh6, hg6⟩; have H6 := Lib.hid (And.intro hd6 (And.intro hh6 hg6)); clear hd6 hh6 hg6) | (show wpList _ _ _ (⟨none, .store 78 (.tmp 13) (.tmp 145), _, _, _, _⟩ :: _) _ _; refine wpList_store_rf w w6 rfl _ _ rfl rfl g rfl { x with vd := vd6, vh := vh6 } rfl ⟨ownsRow_one H6.out.1, ownsRow_one H6.out.2.1, HON.out.2.2.1, HON.out.2.2.2⟩ _ (HB5.out.1.grow H6.out.2.2) rfl (HR5.out.gr.trans H6.out.2.2) (by have := HG3.out; omega) ?_; intro w7 h7 hb7 g7; have H7 := Lib.hid (And.intro h7 (And.intro hb7 g7)); clear h7 hb7 g7))
  obtain ⟨x2, hx2⟩ : ∃ x2 : Rf, x2 = { x with vd := vd6, vh := vh6 } := ⟨_, rfl⟩
  have HX2 := Lib.hid hx2
  rw [← hx2] at H7
  clear hx2
  have HP0 : Hid (Pnt w W most life (.slice A0 n0 cp0) k (.slice A k.opts.length c) (.slice B k.data.length d) g x2 (pad t.c En) w7) := ⟨(HR5.out.grow H6.out.2.2).but H7.out.2.1 HG3.out H7.out.2.2, H7.out.1, by rw [HX2.out]; exact ownsRow_but H6.out.1 H7.out.2.1 HM5.out, by rw [HX2.out]; exact ownsRow_but H6.out.2.1 H7.out.2.1 HM5.out⟩
  have HL : Hid (En = Pn + k.data.length ∧ k.data ≠ []) := ⟨by have := HEE.out.2.2.1; omega, fun e => HEE.out.2.2.2 (by rw [e]; rfl)⟩
  clear cP
  go_wp2_with fail
  go_loopg [14] k.data.length (fun gk s14 wr => ∃ i : Nat, i ≤ k.data.length ∧ gk = k.data.length - i ∧ s14 = .int .i64 ((Pn + i : Nat) : Int) ∧ Pnt w W most life (.slice A0 n0 cp0) k (.slice A k.opts.length c) (.slice B k.data.length d) g x2 (paint (pad t.c En) Pn (k.data.take i)) wr)
  case atStart => exact ⟨0, Nat.zero_le _, rfl, rfl, by rw [List.take_zero, paint_nil]; exact HP0.out⟩
  case round =>
    obtain ⟨i, hi, rfl, rfl, hP⟩ := hrel
    obtain ⟨j, hj⟩ : ∃ j, j = Pn + i := ⟨_, rfl⟩
    rw [← hj]
    have HJ := Lib.hid hj
    have hjE : j ≤ En := by have := HL.out.1; omega
    rcases Nat.lt_or_ge i k.data.length with hlt | hge
    · have hjlt : j < En := by have := HL.out.1; omega
      have dlt : decide ((j : Int) < (En : Int)) = true := decide_eq_true (by omega)
      have hcl : (paint (pad t.c En) Pn (k.data.take i)).length = max t.c.length En := by rw [HL.out.1]; exact paint_take_length _ _ _ _
      have hcn : paint (pad t.c En) Pn (k.data.take (i + 1)) = paint (paint (pad t.c En) Pn (k.data.take i)) (Pn + i) [k.data[i]] := paint_next _ _ _ _ hlt
      generalize hcc : paint (pad t.c En) Pn (k.data.take i) = c' at *
      obtain ⟨n', hn'⟩ : ∃ n', n' = c'.length := ⟨_, rfl⟩
      have hjn : j < n' := by rw [hn', hcl]; have := HL.out.1; omega
      have hn65 : n' ≤ 65515 := by rw [hn', hcl]; have := HWO.out.top; omega
      obtain ⟨gd, cd, gh, ch, ev, eh, r1, r2, r3, r4, r5, r6, r7, r8, r9, r10, r11⟩ := hP.rows (by omega)
      rw [← hn'] at ev eh r1 r3
      obtain ⟨rb, rbf⟩ := r10 j (by omega)
      obtain ⟨⟨du, rd⟩, rdf⟩ := r11 j (by omega)
      have y4 : wr.cell? ⟨g, 4, none⟩ = some (.slice (some ⟨gd, 0, none⟩) n' cd) := by rw [← ev]; exact hP.pb.cell 4
      have y5 : wr.cell? ⟨g, 5, none⟩ = some (.slice (some ⟨gh, 0, none⟩) n' ch) := by rw [← eh]; exact hP.pb.cell 5
      have HR := Lib.hid (And.intro hP (And.intro hn' (And.intro hcn (And.intro ev (And.intro eh (And.intro r6 (And.intro r8 r9)))))))
      have hjc : (j : Int) < (n' : Int) := by omega
      unfold maxLen at r2 r4
      clear hP hn' hcn hcc r10 r11 hj hcl ev eh
      cases hs : (look c' j).isSome with
      | true =>
        rw [hs] at rb
        have HN : Hid (paint (pad t.c En) Pn (k.data.take (i + 1)) = c') := by
          obtain ⟨b1, hb1⟩ := Option.isSome_iff_exists.1 hs
          show _ = _
          rw [HR.out.2.2.1, ← HJ.out]
          exact paint_one_some hb1
        clear hs
        go_wp2_with fail
        go_roundg (k.data.length - (i + 1))
        case measure => omega
        case rel => exact ⟨i + 1, hlt, rfl, by rw [HJ.out]; go_num, by rw [HN.out]; exact HR.out.1⟩
      | false =>
        rw [hs] at rb
        have HN : Hid (paint (pad t.c En) Pn (k.data.take (i + 1)) = c'.set j (some k.data[i])) := by
          show _ = _
          rw [HR.out.2.2.1, ← HJ.out]
          exact paint_one_none (by have := HR.out.2.1; omega) (by cases hl : look c' j with | none => rfl | some b => rw [hl] at hs; cases hs)
        clear hs
        go_upto_region 25 with fail
        obtain ⟨wA, hwA⟩ : ∃ wA, wA = wr.setCell ⟨gh, j, none⟩ (.bool true) := ⟨_, rfl⟩
        rw [← hwA]
        have hbA : Below W.heap.size wr wA := by rw [hwA]; exact (Below.refl _ wr).setCell HR.out.2.2.2.2.2.2.1 _
        have raA := HR.out.1.ra.below hbA (by have := HG3.out; have := HM5.out; omega)
        have HD : Hid (Byt w (.slice B k.data.length d) k.data) := HT.out.2.d.1
        obtain ⟨bd, od, rfl, hbd, hcd⟩ := HD.out.at_ (by omega)
        have xb : wA.cell? ⟨bd, od + i, none⟩ = some (.int .u8 ((k.data[i]).toNat : Int)) := (raA.gr.cell (p := ⟨bd, od + i, none⟩) hbd).trans (hcd i hlt)
        have xc := raA.pk.boxd.2.2.2.2.2.2.2.2.2.2
        have y4A : wA.cell? ⟨g, 4, none⟩ = some (.slice (some ⟨gd, 0, none⟩) n' cd) := (hbA.cell (p := ⟨g, 4, none⟩) HM5.out).trans y4
        have rdA : wA.cell? ⟨gd, j, none⟩ = some du := by rw [hwA]; exact (World.cell?_setCell_other _ _ _ _ (by simp <;> exact fun e => absurd e HR.out.2.2.2.2.2.2.2)).trans rd
        have rdfA : wA.frozen? ⟨gd, j, none⟩ = false := by rw [hwA]; simpa using rdf
        have eji : (j : Int) - (Pn : Int) = (i : Int) := by have := HJ.out; omega
        have hic : (i : Int) < (k.data.length : Int) := by omega
        have HW := Lib.hid hwA
        clear hwA hbA raA hcd rb rbf rd rdf y4 y5
        obtain ⟨wD, hwD⟩ : ∃ wD, wD = wA.drew := ⟨_, rfl⟩
        have y4D : wD.cell? ⟨g, 4, none⟩ = some (.slice (some ⟨gd, 0, none⟩) n' cd) := by rw [hwD]; exact y4A
        have xbD : wD.cell? ⟨bd, od + i, none⟩ = some (.int .u8 ((k.data[i]).toNat : Int)) := by rw [hwD]; exact xb
        have xcD : wD.cell? ⟨w.heap.size + 1, 10, none⟩ = some (.slice (some ⟨bd, od, none⟩) k.data.length d) := by rw [hwD]; exact xc
        have rdD : wD.cell? ⟨gd, j, none⟩ = some du := by rw [hwD]; exact rdA
        have rdfD : wD.frozen? ⟨gd, j, none⟩ = false := by rw [hwD]; exact rdfA
        have HWD := Lib.hid hwD
        have ew0 : IntKind.i64.wrap (i : Int) = (i : Int) := IntWalk.i64_in _ (by omega)
        have ew1 : IntKind.i64.wrap ((j : Int) - (Pn : Int)) = (i : Int) := by rw [eji]; exact ew0
        have ew2 : (0 : Int) ≤ (i : Int) := by omega
        refine wp_region_still_tail 11 (by kernel_rfl) (by kernel_rfl) ?_
        simp only [List.take_succ_cons, List.take_zero, List.drop_succ_cons, List.drop_zero]
        change wpStill _ _ wA.drew (fun a' => wpList _ _ _ _ a' wA.drew) _ _
        rw [← hwD]
        clear hwD y4A xb xc rdA rdfA
        repeat still_step
        refine wpStill_nil ?_
        go_wp2_with fail
        all_goals
          obtain ⟨wz, hwz⟩ : ∃ wz, wz = wD.setCell ⟨gd, j, none⟩ (.int .u8 ((k.data[i]).toNat : Int)) := ⟨_, rfl⟩
          rw [← hwz]
          have HZ : Hid (Pnt w W most life (.slice A0 n0 cp0) k (.slice A k.opts.length c) (.slice (some ⟨bd, od, none⟩) k.data.length d) g x2 (paint (pad t.c En) Pn (k.data.take (i + 1))) wz) := by
            have h := HR.out.1.paint (by rw [← HR.out.2.1]; exact HR.out.2.2.2.1) (by rw [← HR.out.2.1]; exact HR.out.2.2.2.2.1) HR.out.2.2.2.2.2.1 HR.out.2.2.2.2.2.2.1 HR.out.2.2.2.2.2.2.2 HM5.out (by have := HG3.out; have := HM5.out; omega) j k.data[i]
            rw [← HW.out] at h
            rw [HN.out, hwz]
            rw [HWD.out]
            exact h.grow (Grow.drew _)
          clear hwz
          go_wp2_with fail
          go_roundg (k.data.length - (i + 1))
          case measure => omega
          case rel => exact ⟨i + 1, hlt, rfl, by rw [HJ.out]; go_num, HZ.out⟩
    · have hjg : En ≤ j := by have := HL.out.1; omega
      have dlt : decide ((j : Int) < (En : Int)) = false := decide_eq_false (by omega)
      have HQ : Hid (Pnt w W most life (.slice A0 n0 cp0) k (.slice A k.opts.length c) (.slice B k.data.length d) g x2 (tookW t k).c wr) := by
        have h := hP
        rw [List.take_of_length_le hge] at h
        rw [took_c HEE.out.2.1 HL.out.2, ← HL.out.1]
        exact h
      clear hP hj
      go_upto_if 149 with fail
      refine wp_cond_false (by first | rfl | (go_simp; done)) (wp_exit ?_)
      conv => whnf
      refine ‹∀ (a : Go.Act) (w' : World), Code.wp Try.prog _ Q a w' → _› _ _ ?_
      refine rTail26 Q w W wr base most life A0 n0 cp0 k A c B d g x2 x t A1 Pn En I R HQ.out hb HB5.out.1 HM5.out HG3.out ?_ ?_ HT.out.2 HWO.out HCK.out HH0.out HST.out ⟨HEE.out.1, HEE.out.2.1, HEE.out.2.2.1⟩ HL.out HT.out.1 HSEL.out HQQ.out _ _ _ _ _ _ _ _ _ _ _ _ _ _ _ _ _ _ _ _ _ _ _ _ _ _ _ _ _ _ _ _ _ _ _ _ _ _ _ _ _ _ _ _ _ _ _ _ _ _ _ _ _ _ _ _ _ _ _ _ _ _ _ _ _ _ _ _ _ _ _ _ _ _ _ _ _ _ _ _ _ _ _ _ _ _ _ _ _ _ _ _ _ _ _ _ _ _ _ _ _ _ _ _ _ _ _ _ _ _ _ _ _ _ _ _ _ _ _ _ _ _ _ _ _ _ _ _ _ _ _ _ _ _ _ _ _ _ _ _ _ _ _ _ _ _ _ _ _ _ _ _ _ _ _ _ _ _ _ _ _ _ _ _ _ _ _ _ _ _ _ _ _ _ _ _ _ _ _ _ _ _ _ _ _ _ _ _ _ _ _ _ _ _ _ _ _ _ _ _ _ _ _ _ _ _ _ _ _ _ _ _ _ _ _ _ _ _ _ _ _ _ _ _ _ _ _ _ _ _ _ _ _ _ _ _ _ _ _ _ _ _ _ _ _ _ _ _ _
      · rw [HX2.out]; exact ⟨HB5.out.2.nm, HB5.out.2.till, HB5.out.2.f, HB5.out.2.last, HB5.out.2.begun⟩
      · rw [HX2.out]; exact HFX.out
end Go.Proofs.Ytfjmcfkpbacicaa
