/- The reference's Add, from the question whether all is there. -/
import Derived.Test.YtfjmcfkpbacicaaC15
import Derived.Test.YtfjmcfkpbacicaaC01
import Derived.Test.YtfjmcfkpbacicaaC03
namespace Go.Proofs.Ytfjmcfkpbacicaa
set_option linter.unusedVariables false
set_option linter.unusedSimpArgs false
open Go.ChangeShapes Go.WideShapes Go.ChangeAt Go.RowKit

/-- The statements behind the first n. -/
def dropS : Nat → Code → Code
  | 0, c => c
  | n + 1, .seq _ b => dropS n b
  | _, c => c
/-- What the end of Add hands on. -/
def RaEnd (w : World) (base : Nat) (most life : Int) (R : AddR) (a : Go.Act) (w' : World) : Prop :=
  ∃ vL vo vd, a.tmps.getD 6 undef = .pointer (some ⟨w.heap.size + 2, 0, none⟩) ∧ a.tmps.getD 7 undef = .pointer (some ⟨w.heap.size + 3, 0, none⟩) ∧ a.tmps.getD 8 undef = .bool R.ok ∧ a.tmps.getD 9 undef = .int .i64 R.e ∧ a.defers = [] ∧
    TbBlk w' (w.heap.size + 2) most life vL ∧ Blk w' (w.heap.size + 3) R.k vo vd ∧ RTab w' base (.agg #[.int .i64 most, .int .i64 life, vL]) most life R.L ∧ IpF base w' vo vd R.k ∧ Grow w w'
/-- What comes of L2, whose i-th packet is t. -/
def finL (L2 : List Wt) (i : Nat) (t : Wt) : AddR :=
  if fullW t then (if 65535 < (wholeK (t.first.getD zeroPk) (bytesC t.c)).len then ⟨L2.eraseIdx i, zeroPk, false, 9⟩ else ⟨L2.eraseIdx i, wholeK (t.first.getD zeroPk) (bytesC t.c), true, 0⟩)
  else ⟨L2, zeroPk, false, 0⟩
/-- Where Add stands then. -/
structure R40 (w : World) (base : Nat) (most life : Int) (g : Nat) (x : Rf) (t : Wt) (vL : Value) (L2 : List Wt) (W : World) : Prop where
  tb : TbBlk W w.heap.size most life vL
  rt : TbBlk W (w.heap.size + 2) 0 0 (.slice none 0 0)
  ri : Blk W (w.heap.size + 3) zeroPk (.slice none 0 0) (.slice none 0 0)
  gr : Grow w W
  pb : RfBlk W g x
  ok : Rq.Ok base W ⟨x, t⟩
  tab : RTab W base (.agg #[.int .i64 most, .int .i64 life, vL]) most life L2
  low : w.heap.size + 4 ≤ g
set_option maxRecDepth 100000 in
set_option maxHeartbeats 4000000 in
theorem rTail40 (Q : Exit → Go.Act → World → Prop) (w W : World) (base : Nat) (most life : Int) (g : Nat) (z : Rf) (t : Wt) (A2 : Option Addr) (n2 c2 : Nat) (L2 : List Wt) (h : R40 w base most life g z t (.slice A2 n2 c2) L2 W) (hb : base ≤ w.heap.size) (hwo : WOk t) (h64 : L2.length ≤ 64) (i : Nat) (hi : i < L2.length) (b : Bool) (hbf : b = fullW t)
    (hQ : ∀ a w', RaEnd w base most life (finL L2 i t) a w' → Q Exit.ret a w') (u0 u1 u2 u4 u8 u9 u10 u11 u14 u16 u17 u18 u19 u20 u21 u22 u23 u24 u25 u26 u27 u28 u29 u30 u31 u32 u33 u34 u35 u36 u37 u38 u39 u40 u41 u42 u43 u44 u45 u46 u47 u48 u49 u50 u51 u52 u53 u54 u55 u56 u57 u58 u59 u60 u61 u62 u63 u64 u65 u66 u67 u68 u69 u70 u71 u72 u73 u74 u75 u76 u77 u78 u79 u80 u81 u82 u83 u84 u85 u86 u87 u88 u89 u90 u91 u92 u93 u94 u95 u96 u97 u98 u99 u100 u101 u102 u103 u104 u105 u106 u107 u108 u109 u110 u111 u112 u113 u114 u115 u116 u117 u118 u119 u120 u121 u122 u123 u124 u125 u126 u127 u128 u129 u130 u131 u132 u133 u134 u135 u136 u137 u138 u139 u140 u141 u142 u143 u144 u145 u146 u147 u148 u149 u150 u151 u152 u153 u154 u155 u156 u157 u158 u159 u160 u161 u162 u163 u164 u165 u166 u167 u168 u169 u170 u171 u172 u173 u174 u175 u176 u177 u178 u179 u180 u181 u182 u183 u184 u185 u186 u187 u188 u189 u190 u191 u192 u193 u194 u195 u196 u197 u198 u199 u200 u201 u202 u203 u204 u205 u206 u207 u208 u209 u210 u211 u212 u213 u214 u215 u216 u217 u218 u219 u220 u221 u222 u223 u224 u225 u226 u227 u228 u229 u230 u231 u232 u233 u234 u235 u236 u237 u238 u239 u240 u241 u242 u243 u244 u245 u246 u247 u248 u249 u250 u251 u252 u253 u254 u255 : Value) :
    Code.wp Try.prog (dropS 19 ((Try.f15.body).getD .skip)) Q ⟨#[u0, u1, u2, .pointer (some ⟨w.heap.size, 0, none⟩), u4, .pointer (some ⟨w.heap.size + 1, 0, none⟩), .pointer (some ⟨w.heap.size + 2, 0, none⟩), .pointer (some ⟨w.heap.size + 3, 0, none⟩), u8, u9, u10, u11, .int .i64 (i : Int), .pointer (some ⟨g, 0, none⟩), u14, .bool b, u16, u17, u18, u19, u20, u21, u22, u23, u24, u25, u26, u27, u28, u29, u30, u31, u32, u33, u34, u35, u36, u37, u38, u39, u40, u41, u42, u43, u44, u45, u46, u47, u48, u49, u50, u51, u52, u53, u54, u55, u56, u57, u58, u59, u60, u61, u62, u63, u64, u65, u66, u67, u68, u69, u70, u71, u72, u73, u74, u75, u76, u77, u78, u79, u80, u81, u82, u83, u84, u85, u86, u87, u88, u89, u90, u91, u92, u93, u94, u95, u96, u97, u98, u99, u100, u101, u102, u103, u104, u105, u106, u107, u108, u109, u110, u111, u112, u113, u114, u115, u116, u117, u118, u119, u120, u121, u122, u123, u124, u125, u126, u127, u128, u129, u130, u131, u132, u133, u134, u135, u136, u137, u138, u139, u140, u141, u142, u143, u144, u145, u146, u147, u148, u149, u150, u151, u152, u153, u154, u155, u156, u157, u158, u159, u160, u161, u162, u163, u164, u165, u166, u167, u168, u169, u170, u171, u172, u173, u174, u175, u176, u177, u178, u179, u180, u181, u182, u183, u184, u185, u186, u187, u188, u189, u190, u191, u192, u193, u194, u195, u196, u197, u198, u199, u200, u201, u202, u203, u204, u205, u206, u207, u208, u209, u210, u211, u212, u213, u214, u215, u216, u217, u218, u219, u220, u221, u222, u223, u224, u225, u226, u227, u228, u229, u230, u231, u232, u233, u234, u235, u236, u237, u238, u239, u240, u241, u242, u243, u244, u245, u246, u247, u248, u249, u250, u251, u252, u253, u254, u255], []⟩ W := by
  conv => arg 2; whnf
  have HQ := Lib.hid hQ
  have HR := Lib.hid h
  have c0 := h.tb.c0
  have c1 := h.tb.c1
  have c2' := h.tb.c2
  have HF := Lib.hid (And.intro hbf (And.intro hwo (And.intro h64 hi)))
  clear hQ h hbf hwo
  cases b with
  | false =>
    have HFL : Hid (finL L2 i t = ⟨L2, zeroPk, false, 0⟩) := by unfold finL; rw [← HF.out.1]; rfl
    go_wp2_with (first | (show wpList _ _ _ (⟨none, .store 32 (.tmp 6) (.tmp 235), _, _, _, _⟩ :: _) _ _; refine wpList_store_tb w W rfl _ _ rfl rfl (w.heap.size + 2) rfl most life (.slice A2 n2 c2) rfl rfl 0 0 (.slice none 0 0) HR.out.rt HR.out.gr (by omega) ?_; intro wA hA hbA gA; have FA := Lib.hid (And.intro hA (And.intro gA (And.intro ((hbA.2 (w.heap.size + 3) (by omega)).trans HR.out.ri) (RTab.only HR.out.tab (Only.but HR.out.gr gA hbA (by omega) HR.out.rt) (fun b => by decide) (fun b => by decide) (fun b => by decide))))); clear hA hbA gA) | (show wpList _ _ _ (⟨none, .store 38 (.tmp 7) (.tmp 236), _, _, _, _⟩ :: _) _ _; refine wpList_store_ip w wA rfl _ _ rfl rfl (w.heap.size + 3) rfl zeroPk zeroPk (.slice none 0 0) (.slice none 0 0) (.slice none 0 0) (.slice none 0 0) rfl rfl rfl FA.out.2.2.1 FA.out.2.1 (by omega) ?_; intro wB hB hbB gB; have FB := Lib.hid (And.intro hB (And.intro (TbBlk.but FA.out.1 hbB (by omega)) (And.intro gB (RTab.only FA.out.2.2.2 (Only.but FA.out.2.1 gB hbB (by omega) FA.out.2.2.1) (fun b => by decide) (fun b => by decide) (fun b => by decide))))); clear hB hbB gB))
    refine HQ.out _ _ ?_
    rw [HFL.out]
    exact ⟨_, _, _, rfl, rfl, rfl, rfl, rfl, FB.out.2.1, FB.out.1, FB.out.2.2.2, zero_ipF _ _, FB.out.2.2.1⟩
  | true =>
    have cW := rWithout_any W base _ most life L2 HR.out.tab h64 (Nat.le_trans hb HR.out.gr.size) i hi
    go_wp2_with fail
    refine cW.mono ?_
    rintro e W2 ⟨v', rfl, hT2, hg2⟩
    obtain ⟨vL3, l3, rfl, hrow3, _⟩ := id hT2
    obtain ⟨A3, n3, c3, hv3⟩ : ∃ A n c, vL3 = .slice A n c := by
      obtain ⟨A3, c3, e, _⟩ := (RdK.of_own hrow3).form
      exact ⟨A3, _, c3, e⟩
    subst hv3
    have H2 := Lib.hid (And.intro hT2 hg2)
    clear hT2 hg2 hrow3 c0 c1 c2' cW
    have hone := HR.out.ok.one
    have H1 := Lib.hid hone
    clear hone
    go_upto_region 44 with (first | (show wpList _ _ _ (⟨none, .store 32 (.tmp 3) (.tmp 239), _, _, _, _⟩ :: _) _ _; refine wpList_store_tb w W2 rfl _ _ rfl rfl w.heap.size rfl most life (.slice A3 n3 c3) rfl rfl most life _ (HR.out.tb.grow H2.out.2) (HR.out.gr.trans H2.out.2) (Nat.le_refl _) ?_; intro W3 h3 hb3 g3; have H3 := Lib.hid (And.intro h3 (And.intro g3 (And.intro hb3 (RTab.only H2.out.1 (Only.but (HR.out.gr.trans H2.out.2) g3 hb3 hb (HR.out.tb.grow H2.out.2)) (fun b => by decide) (fun b => by decide) (fun b => by decide))))); clear h3 hb3 g3; have H5 := Lib.hid (show RfBlk W3 g z from (HR.out.pb.grow H2.out.2).but H3.out.2.2.1 (by have := HR.out.low; omega))) | (show wpList _ _ _ (⟨some 241, .load 38 (.tmp 240), _, _, _, _⟩ :: _) _ _; refine wpList_load_cs W3 rfl _ _ rfl g 8 rfl #[.int .u8 (z.f.tos : Int), .int .u16 (z.f.ident : Int), .bool z.f.whole, .bool z.f.more, .int .i64 z.f.off, .int .u8 (z.f.ttl : Int), .int .u8 (z.f.proto : Int), .int .u32 (z.f.src : Int), .int .u32 (z.f.dst : Int), z.vo, z.vx] (fun j u hu => by have := H5.out.at_.first j u hu; simpa using this) _ Try.underlying38 rfl (by kernel_rfl) ?_) | (show wpList _ _ _ (⟨none, .store 38 (.tmp 17) (.tmp 241), _, _, _, _⟩ :: _) _ _; refine wpList_store_ip W3 _ rfl _ _ rfl rfl W3.heap.size rfl z.f zeroPk z.vo z.vx (.slice none 0 0) (.slice none 0 0) rfl H1.out.2.2.1 H1.out.2.2.2 (Blk.new W3 zeroPk (.slice none 0 0) (.slice none 0 0)) (Grow.alloc W3 _) (Nat.le_refl _) ?_; intro W4 h4 hb4 g4; have H4 := Lib.hid (And.intro h4 g4); clear h4 hb4 g4))
    obtain ⟨gW, hgW⟩ : ∃ gW, gW = W3.heap.size := ⟨_, rfl⟩
    rw [← hgW] at H4 ⊢
    have HGW : Hid (W3.heap.size ≤ gW) := Nat.le_of_eq hgW.symm
    have hfull := bytes_full HF.out.2.1 HF.out.1.symm
    obtain ⟨Ad, cd, hvd, hlc, hcm⟩ := (RdK.of_own HR.out.ok.d).form
    rw [List.length_map, hfull.2] at hvd hlc
    have HCD := Lib.hid hlc
    have hvd : z.vd = .slice Ad t.fin cd := hvd
    have HY : Hid (∀ q, Grow W3 q → q.cell? ⟨g, 4, none⟩ = some (.slice Ad t.fin cd) ∧ q.cell? ⟨g, 6, none⟩ = some (.int .i64 (t.fin : Int))) := fun q gq => by
      have h4 : q.cell? ⟨g, 4, none⟩ = some z.vd := (H5.out.grow gq).cell 4
      have h6 : q.cell? ⟨g, 6, none⟩ = some (.int .i64 z.last) := (H5.out.grow gq).cell 6
      have hl : z.last = (t.fin : Int) := by
        have h1 : z.last = lastI t := HR.out.ok.last
        rw [h1]
        unfold lastI
        rw [if_neg ((full_flags HF.out.2.1).1 HF.out.1.symm).2.1]
      rw [hvd] at h4
      rw [hl] at h6
      exact ⟨h4, h6⟩
    have hE : Hid (t.c.map byteOf = bytesC t.c ∧ z.f = t.first.getD zeroPk) := ⟨by have := hfull.1; rwa [List.take_of_length_le (by rw [List.length_map]; omega)] at this, HR.out.ok.f⟩
    have HBY : Hid (∀ q, Grow W3 q → Firm base q z.vo z.f.opts ∧ Firm base q (.slice Ad t.fin cd) (bytesC t.c)) := fun q gq => by
      have hd0 := HR.out.ok.d
      have e0 : ({ x := z, t := t } : Rq).x.vd = .slice Ad t.fin cd := hvd
      rw [e0, hE.out.1] at hd0
      have oo := Only.but (HR.out.gr.trans H2.out.2) H3.out.2.1 H3.out.2.2.1 hb (HR.out.tb.grow H2.out.2)
      have hb3 := Nat.le_trans hb H3.out.2.1.size
      exact ⟨((HR.out.ok.o.grow H2.out.2 (Nat.le_trans hb HR.out.gr.size)).only oo (fun b => by decide)).grow gq hb3, Firm.grow (Firm.own (oo.row (hd0.grow H2.out.2) (fun b _ => by decide))) gq hb3⟩
    clear hfull hvd hlc hgW
    refine wp_region_weave (A := ?frame44) [6, 8] (fun q => Grow W3 q) (inVals (isW (.pointer (some ⟨g, 4, none⟩)) :: isW (.slice Ad t.fin cd) :: isW (.pointer (some ⟨g, 6, none⟩)) :: isW (.int .i64 (t.fin : Int)) :: isW (.slice Ad t.fin cd) :: isW (.pointer (some ⟨gW, 3, none⟩)) :: isAll :: isW (.pointer (some ⟨gW, 10, none⟩)) :: isAll :: [])) (fun j vs q => match j, vs with | 0, [] => Blk q gW z.f z.vo z.vx | 1, [_] => Blk q gW { z.f with more := false } z.vo z.vx | 2, [_, _] => Blk q gW { z.f with more := false, data := bytesC t.c } z.vo (.slice Ad t.fin cd) | _, _ => False) (by kernel_rfl) (by kernel_rfl) (by kernel_rfl) (by kernel_rfl) (fun x => ?frameEq44) (H4.out.2.trans (Grow.drew _)) (H4.out.1.grow (Grow.drew _)) ?_ ?_ ?_
    case frameEq44 => go_simp; rfl
    · refine ⟨fun _ x w1 hI hd post hp => ?_, fun _ x w1 hI hd post hp => ?_, fun _ x w1 hI hd post hp => ?_, fun _ x w1 hI hd post hp => ?_, fun _ x w1 hI hd post hp => ?_, fun _ x w1 hI hd post hp => ?_, fun hn => absurd hn (by decide), fun _ x w1 hI hd post hp => ?_, fun hn => absurd hn (by decide), trivial⟩
      · -- 0: slot 242: Op.fieldAddr 78 t13 4
        clear hd
        go_simp
        exact hp _ rfl
      · -- 1: slot 243: Op.load 36 t242
        have h242 : x 242 = .pointer (some ⟨g, 4, none⟩) := hd 0 (by decide) (by decide) _ rfl
        clear hd
        have e4 := HY.out w1 hI
        have e4' := e4.1
        go_simp
        exact hp _ rfl
      · -- 2: slot 244: Op.fieldAddr 78 t13 6
        clear hd
        go_simp
        exact hp _ rfl
      · -- 3: slot 245: Op.load 3 t244
        have h244 : x 244 = .pointer (some ⟨g, 6, none⟩) := hd 2 (by decide) (by decide) _ rfl
        clear hd
        have e4 := HY.out w1 hI
        have e4' := e4.2
        go_simp
        exact hp _ rfl
      · -- 4: slot 246: Op.slice 36 t243 none (some t245) none
        have h243 : x 243 = .slice Ad t.fin cd := hd 1 (by decide) (by decide) _ rfl
        have h245 : x 245 = .int .i64 (t.fin : Int) := hd 3 (by decide) (by decide) _ rfl
        clear hd
        have f1 : (0 : Int) ≤ (t.fin : Int) := by omega
        have f2 : (t.fin : Int) ≤ (cd : Int) := (by have := HCD.out; omega)
        go_simp
        exact hp _ rfl
      · -- 5: slot 247: Op.fieldAddr 38 t17 3
        clear hd
        go_simp
        exact hp _ rfl
      · -- 7: slot 248: Op.fieldAddr 38 t17 10
        clear hd
        go_simp
        exact hp _ rfl
    · refine ⟨fun x w1 hI hd hs post hp => ?_, fun x w1 hI hd hs post hp => ?_, trivial⟩
      · -- 6: slot none:0: Op.store 4 t247 (const (Value.bool false))
        have h247 : x 247 = .pointer (some ⟨gW, 3, none⟩) := hd 5 (by decide) (by decide) _ rfl
        clear hd
        have s0 : Blk w1 gW z.f z.vo z.vx := hs
        exact upon_cs W3 w1 rfl 4 (.tmp 247) (.const (.bool false)) rfl gW 3 (.bool false) h247 rfl [.bool false] rfl 38 (cellsP z.f z.vo z.vx) (cellsP { z.f with more := false } z.vo z.vx) s0 (by kernel_rfl) (fun y hy => by rw [List.mem_singleton.1 hy]; rfl) (by simp [cellsP]) rfl hI HGW.out (fun w3' h3' hb3' g3' => hp _ _ g3' h3')
      · -- 8: slot none:1: Op.store 36 t248 t246
        have h248 : x 248 = .pointer (some ⟨gW, 10, none⟩) := hd 7 (by decide) (by decide) _ rfl
        have h246 : x 246 = .slice Ad t.fin cd := hd 4 (by decide) (by decide) _ rfl
        clear hd
        have s1 : Blk w1 gW { z.f with more := false } z.vo z.vx := hs
        exact upon_cs W3 w1 rfl 36 (.tmp 248) (.tmp 246) rfl gW 10 (.slice Ad t.fin cd) h248 h246 [.slice Ad t.fin cd] rfl 38 (cellsP { z.f with more := false } z.vo z.vx) (cellsP { z.f with more := false, data := bytesC t.c } z.vo (.slice Ad t.fin cd)) s1 (by kernel_rfl) (fun y hy => by rw [List.mem_singleton.1 hy]; rfl) (by simp [cellsP]) rfl hI HGW.out (fun w3' h3' hb3' g3' => hp _ _ g3' h3')
    · intro x w1 hI hd hs
      have HS5 : Hid (Blk w1 gW { z.f with more := false, data := bytesC t.c } z.vo (.slice Ad t.fin cd) ∧ Grow W3 w1) := ⟨hs, hI⟩
      clear hd hs hI
      have H6 : Hid (TbBlk w1 w.heap.size most life (.slice A3 n3 c3) ∧ Blk w1 gW (wholeK z.f (bytesC t.c)) z.vo (.slice Ad t.fin cd) ∧ Grow w w1 ∧ RTab w1 base (.agg #[.int .i64 most, .int .i64 life, .slice A3 n3 c3]) most life (L2.eraseIdx i) ∧ (Firm base w1 z.vo z.f.opts ∧ Firm base w1 (.slice Ad t.fin cd) (bytesC t.c)) ∧ TbBlk w1 (w.heap.size + 2) 0 0 (.slice none 0 0) ∧ Blk w1 (w.heap.size + 3) zeroPk (.slice none 0 0) (.slice none 0 0) ∧ w.heap.size + 4 ≤ gW) := by
        refine ⟨H3.out.1.grow HS5.out.2, HS5.out.1, H3.out.2.1.trans HS5.out.2, RTab.grow H3.out.2.2.2 HS5.out.2 (Nat.le_trans hb H3.out.2.1.size), HBY.out w1 HS5.out.2, ?_, ?_, ?_⟩
        · exact ((HR.out.rt.grow H2.out.2).but H3.out.2.2.1 (by omega)).grow HS5.out.2
        · exact Blk.grow ((H3.out.2.2.1.2 (w.heap.size + 3) (by omega)).trans (HR.out.ri.grow H2.out.2)) HS5.out.2
        · have h1 := HGW.out
          have h2 := H5.out.lt
          have h3 := HR.out.low
          omega
      have hkok : (wholeK z.f (bytesC t.c)).Ok ∧ (wholeK z.f (bytesC t.c)).Small := by
        obtain ⟨f, hf⟩ := fullW_first HF.out.2.1 HF.out.1.symm
        obtain ⟨k1, k2⟩ := HF.out.2.1.pk f hf
        have e : z.f = f := by rw [hE.out.2, hf]; rfl
        rw [e]
        refine ⟨⟨k1.tos, k1.ident, k1.off1, k1.off2, k1.ttl, k1.proto, k1.src, k1.dst⟩, k2.1, ?_⟩
        have h1 := HF.out.2.1.top
        have h2 : (bytesC t.c).length = t.c.length := by rw [← hE.out.1, List.length_map]
        show (bytesC t.c).length ≤ 1000000
        omega
      have hip : Ip w1 (ipV (wholeK z.f (bytesC t.c)) z.vo (.slice Ad t.fin cd)) (wholeK z.f (bytesC t.c)) := ⟨_, _, rfl, H6.out.2.2.2.2.1.1.1, H6.out.2.2.2.2.1.2.1, hkok.1⟩
      have cL := RLen_any _ _ w1 hip hkok.2
      have HK := Lib.hid hkok
      obtain ⟨z0, z1, z2, z3, z4, z5, z6, z7, z8, z9, z10⟩ := H6.out.2.1.boxd
      clear hkok hip
      obtain ⟨ln, hln⟩ : ∃ ln : Nat, ln = (wholeK z.f (bytesC t.c)).len := ⟨_, rfl⟩
      rw [← hln] at cL
      have HLN := Lib.hid hln
      unfold ipV at cL
      clear hln
      by_cases hlong : 65535 < ln
      · have HFL : Hid (finL L2 i t = ⟨L2.eraseIdx i, zeroPk, false, 9⟩) := by
          show _ = _
          unfold finL
          rw [← HF.out.1, if_pos rfl, ← hE.out.2, ← HLN.out, if_pos hlong]
        have g1 : decide ((65535 : Int) < (ln : Int)) = true := decide_eq_true (by omega)
        clear hlong
        go_wp2_with fail
        refine cL.mono ?_
        rintro e w5 ⟨rfl, hg5⟩
        have H7 := Lib.hid (And.intro (H6.out.1.grow hg5) (And.intro (H6.out.2.2.1.trans hg5) (And.intro (RTab.grow H6.out.2.2.2.1 hg5 (Nat.le_trans hb H6.out.2.2.1.size)) (And.intro (H6.out.2.2.2.2.2.1.grow hg5) (H6.out.2.2.2.2.2.2.1.grow hg5)))))
        have c0 := H7.out.1.c0
        have c1 := H7.out.1.c1
        have c2' := H7.out.1.c2
        clear cL hg5 z0 z1 z2 z3 z4 z5 z6 z7 z8 z9 z10
        go_upto_region 46 with fail
        go_wp2_with (first | (show wpList _ _ _ (⟨none, .store 32 (.tmp 6) (.tmp 252), _, _, _, _⟩ :: _) _ _; refine wpList_store_tb w w5 rfl _ _ rfl rfl (w.heap.size + 2) rfl most life (.slice A3 n3 c3) rfl rfl 0 0 (.slice none 0 0) H7.out.2.2.2.1 H7.out.2.1 (by omega) ?_; intro wA hA hbA gA; have FA := Lib.hid (And.intro hA (And.intro gA (And.intro ((hbA.2 (w.heap.size + 3) (by omega)).trans H7.out.2.2.2.2) (RTab.only H7.out.2.2.1 (Only.but H7.out.2.1 gA hbA (by omega) H7.out.2.2.2.1) (fun b => by decide) (fun b => by decide) (fun b => by decide))))); clear hA hbA gA) | (show wpList _ _ _ (⟨none, .store 38 (.tmp 7) (.tmp 253), _, _, _, _⟩ :: _) _ _; refine wpList_store_ip w wA rfl _ _ rfl rfl (w.heap.size + 3) rfl zeroPk zeroPk (.slice none 0 0) (.slice none 0 0) (.slice none 0 0) (.slice none 0 0) rfl rfl rfl FA.out.2.2.1 FA.out.2.1 (by omega) ?_; intro wB hB hbB gB; have FB := Lib.hid (And.intro hB (And.intro (TbBlk.but FA.out.1 hbB (by omega)) (And.intro gB (RTab.only FA.out.2.2.2 (Only.but FA.out.2.1 gB hbB (by omega) FA.out.2.2.1) (fun b => by decide) (fun b => by decide) (fun b => by decide))))); clear hB hbB gB))
        refine HQ.out _ _ ?_
        rw [HFL.out]
        exact ⟨_, _, _, rfl, rfl, rfl, rfl, rfl, FB.out.2.1, FB.out.1, FB.out.2.2.2, zero_ipF _ _, FB.out.2.2.1⟩
      · have HFL : Hid (finL L2 i t = ⟨L2.eraseIdx i, wholeK z.f (bytesC t.c), true, 0⟩) := by
          show _ = _
          unfold finL
          rw [← HF.out.1, if_pos rfl, ← hE.out.2, ← HLN.out, if_neg hlong]
        have g1 : decide ((65535 : Int) < (ln : Int)) = false := decide_eq_false (by omega)
        clear hlong
        go_wp2_with fail
        refine cL.mono ?_
        rintro e w5 ⟨rfl, hg5⟩
        have H7 : Hid (TbBlk w5 w.heap.size most life (.slice A3 n3 c3) ∧ Blk w5 gW (wholeK z.f (bytesC t.c)) z.vo (.slice Ad t.fin cd) ∧ Grow w w5 ∧ RTab w5 base (.agg #[.int .i64 most, .int .i64 life, .slice A3 n3 c3]) most life (L2.eraseIdx i) ∧ (Firm base w5 z.vo z.f.opts ∧ Firm base w5 (.slice Ad t.fin cd) (bytesC t.c)) ∧ TbBlk w5 (w.heap.size + 2) 0 0 (.slice none 0 0) ∧ Blk w5 (w.heap.size + 3) zeroPk (.slice none 0 0) (.slice none 0 0)) := ⟨H6.out.1.grow hg5, H6.out.2.1.grow hg5, H6.out.2.2.1.trans hg5, RTab.grow H6.out.2.2.2.1 hg5 (Nat.le_trans hb H6.out.2.2.1.size), ⟨H6.out.2.2.2.2.1.1.grow hg5 (Nat.le_trans hb H6.out.2.2.1.size), H6.out.2.2.2.2.1.2.grow hg5 (Nat.le_trans hb H6.out.2.2.1.size)⟩, H6.out.2.2.2.2.2.1.grow hg5, H6.out.2.2.2.2.2.2.1.grow hg5⟩
        have HGG : Hid (w.heap.size + 4 ≤ gW) := H6.out.2.2.2.2.2.2.2
        clear cL hg5 z0 z1 z2 z3 z4 z5 z6 z7 z8 z9 z10
        go_upto_region 47 with fail
        refine wp_region_weave (A := ?frame47) [2, 3] (fun q => TbBlk q w.heap.size most life (.slice A3 n3 c3) ∧ Blk q gW (wholeK z.f (bytesC t.c)) z.vo (.slice Ad t.fin cd) ∧ Grow w q ∧ RTab q base (.agg #[.int .i64 most, .int .i64 life, .slice A3 n3 c3]) most life (L2.eraseIdx i) ∧ Firm base q z.vo z.f.opts ∧ Firm base q (.slice Ad t.fin cd) (bytesC t.c)) (inVals (isW (.agg #[.int .i64 most, .int .i64 life, .slice A3 n3 c3]) :: isW (ipV (wholeK z.f (bytesC t.c)) z.vo (.slice Ad t.fin cd)) :: isAll :: isAll :: isW (.bool true) :: isW (.int .i64 0) :: [])) (fun j vs q => match j, vs with | 0, [] => TbBlk q (w.heap.size + 2) 0 0 (.slice none 0 0) ∧ Blk q (w.heap.size + 3) zeroPk (.slice none 0 0) (.slice none 0 0) | 1, [_] => TbBlk q (w.heap.size + 2) most life (.slice A3 n3 c3) ∧ Blk q (w.heap.size + 3) zeroPk (.slice none 0 0) (.slice none 0 0) | 2, [_, _] => TbBlk q (w.heap.size + 2) most life (.slice A3 n3 c3) ∧ Blk q (w.heap.size + 3) (wholeK z.f (bytesC t.c)) z.vo (.slice Ad t.fin cd) | _, _ => False) (by kernel_rfl) (by kernel_rfl) (by kernel_rfl) (by kernel_rfl) (fun x => ?frameEq47) ⟨H7.out.1.grow (Grow.drew _), H7.out.2.1.grow (Grow.drew _), H7.out.2.2.1.trans (Grow.drew _), RTab.grow H7.out.2.2.2.1 (Grow.drew _) (Nat.le_trans hb H7.out.2.2.1.size), H7.out.2.2.2.2.1.1.grow (Grow.drew _) (Nat.le_trans hb H7.out.2.2.1.size), H7.out.2.2.2.2.1.2.grow (Grow.drew _) (Nat.le_trans hb H7.out.2.2.1.size)⟩ ⟨H7.out.2.2.2.2.2.1.grow (Grow.drew _), H7.out.2.2.2.2.2.2.grow (Grow.drew _)⟩ ?_ ?_ ?_
        case frameEq47 => go_simp; rfl
        · refine ⟨fun _ x w1 hI hd post hp => ?_, fun _ x w1 hI hd post hp => ?_, fun hn => absurd hn (by decide), fun hn => absurd hn (by decide), fun _ x w1 hI hd post hp => ?_, fun _ x w1 hI hd post hp => ?_, trivial⟩
          · -- 0: slot 254: Op.load 32 t3
            clear hd
            have d0 := hI.1.c0
            have d1' := hI.1.c1
            have d2' := hI.1.c2
            go_simp
            exact hp _ rfl
          · -- 1: slot 255: Op.load 38 t17
            clear hd
            obtain ⟨d0, d1', d2', d3, d4, d5, d6, d7, d8, d9, d10⟩ := hI.2.1.boxd
            go_simp
            exact hp _ rfl
          · -- 4: slot 8: Op.assign (const (Value.bool true))
            clear hd
            go_simp
            exact hp _ rfl
          · -- 5: slot 9: Op.assign (const (0:i64))
            clear hd
            go_simp
            exact hp _ rfl
        · refine ⟨fun x w1 hI hd hs post hp => ?_, fun x w1 hI hd hs post hp => ?_, trivial⟩
          · -- 2: slot none:0: Op.store 32 t6 t254
            have h254 : x 254 = .agg #[.int .i64 most, .int .i64 life, .slice A3 n3 c3] := hd 0 (by decide) (by decide) _ rfl
            clear hd
            have s0 : TbBlk w1 (w.heap.size + 2) 0 0 (.slice none 0 0) ∧ Blk w1 (w.heap.size + 3) zeroPk (.slice none 0 0) (.slice none 0 0) := hs
            exact upon_cs w w1 rfl 32 (.tmp 6) (.tmp 254) rfl (w.heap.size + 2) 0 (.agg #[.int .i64 most, .int .i64 life, .slice A3 n3 c3]) rfl h254 [.int .i64 most, .int .i64 life, .slice A3 n3 c3] rfl 32 _ #[.int .i64 most, .int .i64 life, .slice A3 n3 c3] s0.1 (by kernel_rfl) (tb_one rfl) (Nat.le_refl 3) rfl hI.2.2.1 (by omega) (fun w2 h2 hb2 g2 => hp _ _ ⟨TbBlk.but hI.1 hb2 (by omega), (hb2.2 gW (by have := HGG.out; omega)).trans hI.2.1, g2, RTab.only hI.2.2.2.1 (Only.but hI.2.2.1 g2 hb2 (by omega) s0.1) (fun b => by decide) (fun b => by decide) (fun b => by decide), Firm.only hI.2.2.2.2.1 (Only.but hI.2.2.1 g2 hb2 (by omega) s0.1) (fun b => by decide), Firm.only hI.2.2.2.2.2 (Only.but hI.2.2.1 g2 hb2 (by omega) s0.1) (fun b => by decide)⟩ ⟨h2, (hb2.2 (w.heap.size + 3) (by omega)).trans s0.2⟩)
          · -- 3: slot none:1: Op.store 38 t7 t255
            have h255 : x 255 = ipV (wholeK z.f (bytesC t.c)) z.vo (.slice Ad t.fin cd) := hd 1 (by decide) (by decide) _ rfl
            clear hd
            have s1 : TbBlk w1 (w.heap.size + 2) most life (.slice A3 n3 c3) ∧ Blk w1 (w.heap.size + 3) zeroPk (.slice none 0 0) (.slice none 0 0) := hs
            exact upon_cs w w1 rfl 38 (.tmp 7) (.tmp 255) rfl (w.heap.size + 3) 0 (ipV (wholeK z.f (bytesC t.c)) z.vo (.slice Ad t.fin cd)) rfl h255 (pc ⟨(wholeK z.f (bytesC t.c)), z.vo, .slice Ad t.fin cd⟩) rfl 38 _ (cellsP (wholeK z.f (bytesC t.c)) z.vo (.slice Ad t.fin cd)) s1.2 (by kernel_rfl) (pc_one H1.out.2.2.1 rfl) (Nat.le_refl 11) rfl hI.2.2.1 (by omega) (fun w2 h2 hb2 g2 => hp _ _ ⟨TbBlk.but hI.1 hb2 (by omega), (hb2.2 gW (by have := HGG.out; omega)).trans hI.2.1, g2, RTab.only hI.2.2.2.1 (Only.but hI.2.2.1 g2 hb2 (by omega) s1.2) (fun b => by decide) (fun b => by decide) (fun b => by decide), Firm.only hI.2.2.2.2.1 (Only.but hI.2.2.1 g2 hb2 (by omega) s1.2) (fun b => by decide), Firm.only hI.2.2.2.2.2 (Only.but hI.2.2.1 g2 hb2 (by omega) s1.2) (fun b => by decide)⟩ ⟨TbBlk.but s1.1 hb2 (by omega), h2⟩)
        · intro x w1 hI hd hs
          have HW : Hid (TbBlk w1 (w.heap.size + 2) most life (.slice A3 n3 c3) ∧ Blk w1 (w.heap.size + 3) (wholeK z.f (bytesC t.c)) z.vo (.slice Ad t.fin cd) ∧ Grow w w1 ∧ RTab w1 base (.agg #[.int .i64 most, .int .i64 life, .slice A3 n3 c3]) most life (L2.eraseIdx i) ∧ Firm base w1 z.vo z.f.opts ∧ Firm base w1 (.slice Ad t.fin cd) (bytesC t.c)) := ⟨hs.1, hs.2, hI.2.2.1, hI.2.2.2.1, hI.2.2.2.2.1, hI.2.2.2.2.2⟩
          have h8 : x 8 = .bool true := hd 4 _ rfl (by decide)
          have h9 : x 9 = .int .i64 0 := hd 5 _ rfl (by decide)
          clear hd hs hI
          go_wp2_with fail
          refine HQ.out _ _ ?_
          rw [HFL.out]
          exact ⟨_, _, _, rfl, rfl, h8, h9, rfl, HW.out.1, HW.out.2.1, HW.out.2.2.2.1, ⟨HW.out.2.2.2.2.1, HW.out.2.2.2.2.2, HK.out.1⟩, HW.out.2.2.1⟩
end Go.Proofs.Ytfjmcfkpbacicaa
/- A REGION THAT DRAWS ITS ORDER AND ENDS IN ONE OPERATION THAT WAITS FOR ALL OTHERS: the others by facts that stay (Loose); the last one by whatever it does. Nothing here is trusted. -/
namespace Go.Proofs.Ytfjmcfkpbacicaa
set_option linter.unusedVariables false
open Go.RowKit

section
variable {P : Program} {ops : Array Oper} {Q : Exit → Act → World → Prop} {md : Region.Mode}

/-- Each operation but the last is waited for by a later one. -/
def tailOk (md : Region.Mode) (ops : Array Oper) : Bool :=
  (List.range (ops.size - 1)).all fun j => ops.toList.zipIdx.any fun (o, i) => decide (j < i) && (bindsOn md o).contains j

theorem tailOk_at (h : tailOk md ops = true) {j : Nat} (hj : j + 1 < ops.size) : ∃ i o, ops[i]? = some o ∧ j < i ∧ j ∈ bindsOn md o := by
  unfold tailOk at h
  rw [List.all_eq_true] at h
  have h1 := h j (List.mem_range.2 (by omega))
  rw [List.any_eq_true] at h1
  obtain ⟨⟨o, i⟩, hm, hc⟩ := h1
  rw [List.mem_zipIdx_iff_getElem?] at hm
  simp only [Bool.and_eq_true, decide_eq_true_eq, List.contains_iff_mem] at hc
  exact ⟨i, o, by simpa using hm, hc.1, hc.2⟩

/-- Where the last one may come, all others have come. -/
theorem tail_all (h : tailOk md ops = true) {listed : Array Bool} (hcl : ∀ (i : Nat) o, ops[i]? = some o → (listed.getD i true = true ∨ i + 1 = ops.size) → ∀ j ∈ bindsOn md o, listed.getD j true = true) :
    ∀ (n j : Nat), j + n + 1 = ops.size → 0 < n → listed.getD j true = true := by
  intro n
  induction n using Nat.strongRecOn with
  | _ n ih =>
    intro j hj hn
    obtain ⟨i, o, ho, hji, hb⟩ := tailOk_at h (j := j) (by omega)
    have hi : i < ops.size := (Array.getElem?_eq_some_iff.1 ho).1
    rcases Nat.lt_or_ge (i + 1) ops.size with h1 | h1
    · exact hcl i o ho (.inl (ih (ops.size - 1 - i) (by omega) i (by omega) (by omega))) j hb
    · exact hcl i o ho (.inr (by omega)) j hb

theorem wpAny_tail {a₀ : Act} {w₀ : World} {F : Nat → Value → World → Prop} {m : Nat} {oL : Oper} (hm : ops.size = m + 1) (hoL : ops[m]? = some oL) (hk : looseOk md ops a₀.tmps.size = true) (ht : tailOk md ops = true)
    (hF : ∀ i v w w', Grow w w' → F i v w → F i v w') (hs : looseSteps P md ops (fun x => fillAct x ops.toList a₀) w₀ F 0 (ops.toList.take m))
    (fin : ∀ (x : Tmp → Value) (w : World), Grow w₀ w → (∀ (j : Nat) o', j < m → ops[j]? = some o' → F j (leftBy x o') w) →
      if Region.wanted oL (yielded ops (fillAct x ops.toList a₀).tmps) = true then looseUpon P (fun v w' => Q .normal ((fillAct x ops.toList a₀).put oL.dst v) w') ((execOp (fillAct x ops.toList a₀).eval oL).run P w)
      else Q .normal ((fillAct x ops.toList a₀).put oL.dst undef) w) :
    ∀ (fuel : Nat) (listed : Array Bool) (x : Tmp → Value) (w : World), unl listed ops.size ≤ fuel → listed.size = ops.size → Grow w₀ w →
      listed.getD m true = false → (∀ (i : Nat) o, ops[i]? = some o → listed.getD i true = true → ∀ j ∈ bindsOn md o, listed.getD j true = true) →
      (∀ i o, ops[i]? = some o → listed.getD i true = true → F i (leftBy x o) w) → wpAny P md ops Q fuel listed (fillAct x ops.toList a₀) w := by
  have none_ready : ∀ (listed : Array Bool), (∀ i, i < ops.size → listed.getD i true = true) → Region.ready md ops listed = [] := by
    intro listed h
    rw [List.eq_nil_iff_forall_not_mem]
    intro j hj
    obtain ⟨h0, o, ho, _⟩ := mem_ready.1 hj
    rw [h j (Array.getElem?_eq_some_iff.1 ho).1] at h0
    cases h0
  have ended : ∀ (fuel : Nat) (listed : Array Bool) (a : Act) (w : World), (∀ i, i < ops.size → listed.getD i true = true) → Q .normal a w → wpAny P md ops Q fuel listed a w := by
    intro fuel listed a w h hq
    have hr := none_ready listed h
    cases fuel with
    | zero => exact ⟨hr, hq⟩
    | succ fuel => exact ⟨fun _ => hq, fun i hi => by rw [hr] at hi; cases hi⟩
  intro fuel
  induction fuel with
  | zero =>
    intro listed x w hu hsz hg hm0 hcl hf
    have := unl_zero listed ops.size (by omega) m (by omega)
    rw [this] at hm0
    cases hm0
  | succ fuel ih =>
    intro listed x w hu hsz hg hm0 hcl hf
    refine ⟨fun hr => ?_, fun i hi => ?_⟩
    · have := all_listed hk hr m (by omega)
      rw [this] at hm0
      cases hm0
    · obtain ⟨h0, o, ho, hall⟩ := mem_ready.1 hi
      have hilt : i < ops.size := (Array.getElem?_eq_some_iff.1 ho).1
      have hdepl : ∀ j ∈ bindsOn md o, listed.getD j true = true := fun j hj => by
        unfold bindsOn at hj
        obtain ⟨e, he, rfl⟩ := List.mem_map.1 hj
        obtain ⟨he1, he2⟩ := List.mem_filter.1 he
        have h1 := hall e (by simpa using he1) he2
        have hs' : e.on < listed.size := by
          rcases Nat.lt_or_ge e.on listed.size with h' | h'
          · exact h'
          · simp [Array.getElem?_eq_none h'] at h1
        simpa [hs'] using h1
      by_cases him : i = m
      · subst him
        have hoe : o = oL := Option.some.inj (ho.symm.trans hoL)
        subst hoe
        have hbef : ∀ j, j < i → listed.getD j true = true := fun j hj =>
          tail_all ht (listed := listed) (fun i' o' ho' hor => by
            rcases hor with h | h
            · exact hcl i' o' ho' h
            · have e : i' = i := by omega
              subst e
              rw [ho] at ho'
              cases ho'
              exact hdepl) (i - j) j (by omega) (by omega)
        have h1 := fin x w hg fun j o' hj ho' => hf j o' ho' (hbef j hj)
        have hall' : ∀ j, j < ops.size → (listed.setIfInBounds i true).getD j true = true := fun j hj => by
          by_cases hji : j = i
          · subst hji
            simp [hsz, hj]
          · rw [getD_set_ne true (Ne.symm hji)]
            exact hbef j (by omega)
        unfold wpOp
        rw [hoL]
        show if Region.wanted _ (yielded ops (fillAct x ops.toList a₀).tmps) = true then _ else _
        split
        · rename_i hw
          rw [if_pos hw] at h1
          exact .inl (wp_of_loose (fun v w' hq => ended _ _ _ _ hall' hq) h1)
        · rename_i hw
          rw [if_neg hw] at h1
          exact ended _ _ _ _ hall' h1
      · have hst := looseSteps_at (ops.toList.take m) 0 hs i o (by rw [List.getElem?_take, if_pos (by omega)]; simpa using ho)
        rw [Nat.zero_add] at hst
        have hdeps : ∀ j ∈ bindsOn md o, ∀ o', ops[j]? = some o' → F j (leftBy x o') w := fun j hj o' ho' => hf j o' ho' (hdepl j hj)
        have hm1 : (listed.setIfInBounds i true).getD m true = false := by rw [getD_set_ne true him]; exact hm0
        have hcl1 : ∀ (i' : Nat) o', ops[i']? = some o' → (listed.setIfInBounds i true).getD i' true = true → ∀ j ∈ bindsOn md o', (listed.setIfInBounds i true).getD j true = true := by
          intro i' o' ho' hl j hj
          have up : listed.getD j true = true → (listed.setIfInBounds i true).getD j true = true := fun h => by
            by_cases e : i = j
            · subst e
              have : i < listed.size := by omega
              simp [this]
            · rw [getD_set_ne true e]; exact h
          by_cases e : i = i'
          · subst e
            rw [ho] at ho'
            cases ho'
            exact up (hdepl j hj)
          · rw [getD_set_ne true e] at hl
            exact up (hcl i' o' ho' hl j hj)
        have next : ∀ v w', Grow w w' → F i (leftAs o v) w' → wpAny P md ops Q fuel (listed.setIfInBounds i true) ((fillAct x ops.toList a₀).put o.dst v) w' := by
          intro v w' hg' hv
          have hun := unl_set listed i h0 ops.size hilt
          cases hd : o.dst with
          | none =>
            refine ih _ x w' (by omega) (by simpa using hsz) (hg.trans hg') hm1 hcl1 fun j o' ho' hl => ?_
            by_cases hij : i = j
            · subst hij
              rw [ho] at ho'
              cases ho'
              simpa [leftBy, leftAs, hd] using hv
            · rw [getD_set_ne true hij] at hl
              exact hF _ _ _ _ hg' (hf j o' ho' hl)
          | some d =>
            obtain ⟨hds, hdn⟩ := looseOk_slot hk ho hd
            rw [fillAct_put x ops.toList a₀ d v ⟨o, by simpa using Array.mem_of_getElem? ho, hd⟩ hds]
            refine ih _ _ w' (by omega) (by simpa using hsz) (hg.trans hg') hm1 hcl1 fun j o' ho' hl => ?_
            by_cases hij : i = j
            · subst hij
              rw [ho] at ho'
              cases ho'
              simpa [leftBy, leftAs, hd] using hv
            · rw [getD_set_ne true hij] at hl
              have hne := hdn j o' ho' hij
              have : leftBy (fun t => if t = d then v else x t) o' = leftBy x o' := by
                unfold leftBy
                cases hd' : o'.dst with
                | none => rfl
                | some d' =>
                  have : d' ≠ d := fun e => hne (by rw [hd', e])
                  simp [this]
              rw [this]
              exact hF _ _ _ _ hg' (hf j o' ho' hl)
        have h1 := hst x w hg hdeps (fun v w' => wpAny P md ops Q fuel (listed.setIfInBounds i true) ((fillAct x ops.toList a₀).put o.dst v) w') next
        unfold wpOp
        rw [ho]
        show if Region.wanted o (yielded ops (fillAct x ops.toList a₀).tmps) = true then _ else _
        split
        · rename_i hw
          rw [if_pos hw] at h1
          exact .inl (wp_of_loose (fun _ _ h => h) h1)
        · rename_i hw
          rw [if_neg hw] at h1
          exact h1

/-- **A region that draws its order and ends in one operation.** -/
theorem wp_region_tail {id : Nat} {a : Act} {w : World} {A : (Tmp → Value) → Act} (F : Nat → Value → World → Prop) (m : Nat) (oL : Oper) (hm : P.follows .mixedOrders = true) (hsz : ops.size = m + 1) (hoL : ops[m]? = some oL) (hk : looseOk .any ops a.tmps.size = true) (ht : tailOk .any ops = true)
    (hF : ∀ i v w w', Grow w w' → F i v w → F i v w') (hA : ∀ x, fillAct x ops.toList a = A x) (hs : looseSteps P .any ops A w F 0 (ops.toList.take m))
    (fin : ∀ (x : Tmp → Value) (w' : World), Grow w w' → (∀ (j : Nat) o', j < m → ops[j]? = some o' → F j (leftBy x o') w') →
      if Region.wanted oL (yielded ops (A x).tmps) = true then looseUpon P (fun v w'' => Q .normal ((A x).put oL.dst v) w'') ((execOp (A x).eval oL).run P w')
      else Q .normal ((A x).put oL.dst undef) w') :
    (Code.region id ops true).wp P Q a w := by
  obtain rfl : (fun x => fillAct x ops.toList a) = A := funext hA
  refine wp_region_any hm ?_
  have h := wpAny_tail (Q := Q) hsz hoL hk ht hF hs fin ops.size (Array.replicate ops.size false) (fun t => a.tmps.getD t undef) w.drew ?_ (by simp) (Grow.drew w) (by simp [hsz]) ?_ ?_
  · rw [fillAct_own a ops.toList fun o ho d hd => ?_] at h
    · exact h
    · obtain ⟨i, hi⟩ := List.getElem?_of_mem ho
      exact (looseOk_slot hk (i := i) (by simpa using hi) hd).1
  · have : ∀ n, unl (Array.replicate ops.size false) n ≤ n := fun n => by
      induction n with
      | zero => exact Nat.le_refl _
      | succ n ih => simp only [unl]; split <;> omega
    exact this _
  · intro i o ho hl
    have hi : i < ops.size := (Array.getElem?_eq_some_iff.1 ho).1
    simp [hi] at hl
  · intro i o ho hl
    have hi : i < ops.size := (Array.getElem?_eq_some_iff.1 ho).1
    simp [hi] at hl
end
end Go.Proofs.Ytfjmcfkpbacicaa
/- A region that draws its order and ends in one operation that waits for all others (Tail, TailR): a relation for each operation, and a fact need only outlive an operation where another one still waits for it. Nothing here is trusted. -/
namespace Go.Proofs.Ytfjmcfkpbacicaa
set_option linter.unusedVariables false
open Go.RowKit

section
variable {P : Program} {ops : Array Oper} {Q : Exit → Act → World → Prop} {md : Region.Mode}

def waits (md : Region.Mode) (ops : Array Oper) (k : Nat) : List Nat := match ops[k]? with | some o => bindsOn md o | none => []

theorem waits_of {k : Nat} {o : Oper} (ho : ops[k]? = some o) : waits md ops k = bindsOn md o := by unfold waits; rw [ho]

/-- An operation waits for 'i' that is none of those that are done once 'j' is ready, nor 'j'. -/
def stillFor (md : Region.Mode) (ops : Array Oper) (nd : Nat → List Nat) (i j : Nat) : Bool := (List.range ops.size).any fun k => decide (k ≠ j) && (!(waits md ops j).contains k && (nd k).contains i)

theorem stillFor_of {nd : Nat → List Nat} {i j k : Nat} {o oj : Oper} (ho : ops[k]? = some o) (hj : ops[j]? = some oj) (hkj : k ≠ j) (hn : k ∉ bindsOn md oj) (hi : i ∈ nd k) : stillFor md ops nd i j = true := by
  unfold stillFor
  rw [List.any_eq_true]
  refine ⟨k, List.mem_range.2 (Array.getElem?_eq_some_iff.1 ho).1, ?_⟩
  rw [waits_of hj]
  simp only [Bool.and_eq_true, decide_eq_true_eq, Bool.not_eq_true', List.contains_eq_mem, decide_eq_false_iff_not]
  exact ⟨hkj, hn, hi⟩

def looseStepJ (nd : Nat → List Nat) (R : World → World → Prop) (RJ : Nat → World → World → Prop) (P : Program) (md : Region.Mode) (ops : Array Oper) (A : (Tmp → Value) → Act) (w₀ : World) (F : Nat → Value → World → Prop) (i : Nat) (o : Oper) : Prop :=
  ∀ (x : Tmp → Value) (w : World), R w₀ w → (∀ j ∈ nd i, ∀ o', ops[j]? = some o' → F j (leftBy x o') w) → ∀ post : Value → World → Prop, (∀ v w', R w w' → RJ i w w' → F i (leftAs o v) w' → post v w') →
    if Region.wanted o (yielded ops (A x).tmps) = true then looseUpon P post ((execOp (A x).eval o).run P w) else post undef w

def looseStepsJ (nd : Nat → List Nat) (R : World → World → Prop) (RJ : Nat → World → World → Prop) (P : Program) (md : Region.Mode) (ops : Array Oper) (A : (Tmp → Value) → Act) (w₀ : World) (F : Nat → Value → World → Prop) : Nat → List Oper → Prop
  | _, [] => True
  | i, o :: r => looseStepJ nd R RJ P md ops A w₀ F i o ∧ looseStepsJ nd R RJ P md ops A w₀ F (i + 1) r

theorem looseStepsJ_at {nd : Nat → List Nat} {R : World → World → Prop} {RJ : Nat → World → World → Prop} {A : (Tmp → Value) → Act} {w₀ : World} {F : Nat → Value → World → Prop} : ∀ (l : List Oper) (k : Nat), looseStepsJ nd R RJ P md ops A w₀ F k l → ∀ (i : Nat) (o : Oper), l[i]? = some o → looseStepJ nd R RJ P md ops A w₀ F (k + i) o
  | [], _, _, _, _, h => by simp at h
  | o' :: r, k, hs, 0, o, h => by
    simp at h
    subst h
    exact hs.1
  | o' :: r, k, hs, i + 1, o, h => by
    have := looseStepsJ_at r (k + 1) hs.2 i o (by simpa using h)
    rwa [show k + 1 + i = k + (i + 1) from by omega] at this

theorem wpAny_tailJ {nd : Nat → List Nat} (hnd : ∀ k o, ops[k]? = some o → ∀ i ∈ nd k, i ∈ bindsOn md o) {R : World → World → Prop} {RJ : Nat → World → World → Prop} (hRt : ∀ a b c, R a b → R b c → R a c) {a₀ : Act} {w₀ : World} {F : Nat → Value → World → Prop} {m : Nat} {oL : Oper} (hm : ops.size = m + 1) (hoL : ops[m]? = some oL) (hk : looseOk md ops a₀.tmps.size = true) (ht : tailOk md ops = true)
    (hF : ∀ i j v w w', i ≠ j → stillFor md ops nd i j = true → RJ j w w' → F i v w → F i v w') (hs : looseStepsJ nd R RJ P md ops (fun x => fillAct x ops.toList a₀) w₀ F 0 (ops.toList.take m))
    (fin : ∀ (x : Tmp → Value) (w : World), R w₀ w → (∀ j ∈ nd m, ∀ o', ops[j]? = some o' → F j (leftBy x o') w) →
      if Region.wanted oL (yielded ops (fillAct x ops.toList a₀).tmps) = true then looseUpon P (fun v w' => Q .normal ((fillAct x ops.toList a₀).put oL.dst v) w') ((execOp (fillAct x ops.toList a₀).eval oL).run P w)
      else Q .normal ((fillAct x ops.toList a₀).put oL.dst undef) w) :
    ∀ (fuel : Nat) (listed : Array Bool) (x : Tmp → Value) (w : World), unl listed ops.size ≤ fuel → listed.size = ops.size → R w₀ w →
      listed.getD m true = false → (∀ (i : Nat) o, ops[i]? = some o → listed.getD i true = true → ∀ j ∈ bindsOn md o, listed.getD j true = true) →
      (∀ i o, ops[i]? = some o → listed.getD i true = true → (∃ j o', ops[j]? = some o' ∧ listed.getD j true = false ∧ i ∈ nd j) → F i (leftBy x o) w) → wpAny P md ops Q fuel listed (fillAct x ops.toList a₀) w := by
  have none_ready : ∀ (listed : Array Bool), (∀ i, i < ops.size → listed.getD i true = true) → Region.ready md ops listed = [] := by
    intro listed h
    rw [List.eq_nil_iff_forall_not_mem]
    intro j hj
    obtain ⟨h0, o, ho, _⟩ := mem_ready.1 hj
    rw [h j (Array.getElem?_eq_some_iff.1 ho).1] at h0
    cases h0
  have ended : ∀ (fuel : Nat) (listed : Array Bool) (a : Act) (w : World), (∀ i, i < ops.size → listed.getD i true = true) → Q .normal a w → wpAny P md ops Q fuel listed a w := by
    intro fuel listed a w h hq
    have hr := none_ready listed h
    cases fuel with
    | zero => exact ⟨hr, hq⟩
    | succ fuel => exact ⟨fun _ => hq, fun i hi => by rw [hr] at hi; cases hi⟩
  intro fuel
  induction fuel with
  | zero =>
    intro listed x w hu hsz hg hm0 hcl hf
    have := unl_zero listed ops.size (by omega) m (by omega)
    rw [this] at hm0
    cases hm0
  | succ fuel ih =>
    intro listed x w hu hsz hg hm0 hcl hf
    refine ⟨fun hr => ?_, fun i hi => ?_⟩
    · have := all_listed hk hr m (by omega)
      rw [this] at hm0
      cases hm0
    · obtain ⟨h0, o, ho, hall⟩ := mem_ready.1 hi
      have hilt : i < ops.size := (Array.getElem?_eq_some_iff.1 ho).1
      have hdepl : ∀ j ∈ bindsOn md o, listed.getD j true = true := fun j hj => by
        unfold bindsOn at hj
        obtain ⟨e, he, rfl⟩ := List.mem_map.1 hj
        obtain ⟨he1, he2⟩ := List.mem_filter.1 he
        have h1 := hall e (by simpa using he1) he2
        have hs' : e.on < listed.size := by
          rcases Nat.lt_or_ge e.on listed.size with h' | h'
          · exact h'
          · simp [Array.getElem?_eq_none h'] at h1
        simpa [hs'] using h1
      by_cases him : i = m
      · subst him
        have hoe : o = oL := Option.some.inj (ho.symm.trans hoL)
        subst hoe
        have hbef : ∀ j, j < i → listed.getD j true = true := fun j hj =>
          tail_all ht (listed := listed) (fun i' o' ho' hor => by
            rcases hor with h | h
            · exact hcl i' o' ho' h
            · have e : i' = i := by omega
              subst e
              rw [ho] at ho'
              cases ho'
              exact hdepl) (i - j) j (by omega) (by omega)
        have h1 := fin x w hg fun j hj o' ho' => hf j o' ho' (hdepl j (hnd _ _ ho j hj)) ⟨_, _, ho, h0, hj⟩
        have hall' : ∀ j, j < ops.size → (listed.setIfInBounds i true).getD j true = true := fun j hj => by
          by_cases hji : j = i
          · subst hji
            simp [hsz, hj]
          · rw [getD_set_ne true (Ne.symm hji)]
            exact hbef j (by omega)
        unfold wpOp
        rw [hoL]
        show if Region.wanted _ (yielded ops (fillAct x ops.toList a₀).tmps) = true then _ else _
        split
        · rename_i hw
          rw [if_pos hw] at h1
          exact .inl (wp_of_loose (fun v w' hq => ended _ _ _ _ hall' hq) h1)
        · rename_i hw
          rw [if_neg hw] at h1
          exact ended _ _ _ _ hall' h1
      · have hst := looseStepsJ_at (ops.toList.take m) 0 hs i o (by rw [List.getElem?_take, if_pos (by omega)]; simpa using ho)
        rw [Nat.zero_add] at hst
        have hdeps : ∀ j ∈ nd i, ∀ o', ops[j]? = some o' → F j (leftBy x o') w := fun j hj o' ho' => hf j o' ho' (hdepl j (hnd _ _ ho j hj)) ⟨_, _, ho, h0, hj⟩
        have hm1 : (listed.setIfInBounds i true).getD m true = false := by rw [getD_set_ne true him]; exact hm0
        have hcl1 : ∀ (i' : Nat) o', ops[i']? = some o' → (listed.setIfInBounds i true).getD i' true = true → ∀ j ∈ bindsOn md o', (listed.setIfInBounds i true).getD j true = true := by
          intro i' o' ho' hl j hj
          have up : listed.getD j true = true → (listed.setIfInBounds i true).getD j true = true := fun h => by
            by_cases e : i = j
            · subst e
              have : i < listed.size := by omega
              simp [this]
            · rw [getD_set_ne true e]; exact h
          by_cases e : i = i'
          · subst e
            rw [ho] at ho'
            cases ho'
            exact up (hdepl j hj)
          · rw [getD_set_ne true e] at hl
            exact up (hcl i' o' ho' hl j hj)
        have hex : ∀ j, (∃ k o', ops[k]? = some o' ∧ (listed.setIfInBounds i true).getD k true = false ∧ j ∈ nd k) → stillFor md ops nd j i = true ∧ (∃ k o', ops[k]? = some o' ∧ listed.getD k true = false ∧ j ∈ nd k) := by
          rintro j ⟨k, o', hko, hkl, hkj⟩
          have hki : k ≠ i := by
            rintro rfl
            have : k < listed.size := by omega
            simp [this] at hkl
          rw [getD_set_ne true (Ne.symm hki)] at hkl
          exact ⟨stillFor_of hko ho hki (fun hin => by rw [hdepl k hin] at hkl; cases hkl) hkj, k, o', hko, hkl, hkj⟩
        have next : ∀ v w', R w w' → RJ i w w' → F i (leftAs o v) w' → wpAny P md ops Q fuel (listed.setIfInBounds i true) ((fillAct x ops.toList a₀).put o.dst v) w' := by
          intro v w' hg' hgj hv
          have hun := unl_set listed i h0 ops.size hilt
          cases hd : o.dst with
          | none =>
            refine ih _ x w' (by omega) (by simpa using hsz) (hRt _ _ _ hg hg') hm1 hcl1 fun j o' ho' hl hux => ?_
            by_cases hij : i = j
            · subst hij
              rw [ho] at ho'
              cases ho'
              simpa [leftBy, leftAs, hd] using hv
            · rw [getD_set_ne true hij] at hl
              exact hF _ _ _ _ _ (Ne.symm hij) (hex j hux).1 hgj (hf j o' ho' hl (hex j hux).2)
          | some d =>
            obtain ⟨hds, hdn⟩ := looseOk_slot hk ho hd
            rw [fillAct_put x ops.toList a₀ d v ⟨o, by simpa using Array.mem_of_getElem? ho, hd⟩ hds]
            refine ih _ _ w' (by omega) (by simpa using hsz) (hRt _ _ _ hg hg') hm1 hcl1 fun j o' ho' hl hux => ?_
            by_cases hij : i = j
            · subst hij
              rw [ho] at ho'
              cases ho'
              simpa [leftBy, leftAs, hd] using hv
            · rw [getD_set_ne true hij] at hl
              have hne := hdn j o' ho' hij
              have : leftBy (fun t => if t = d then v else x t) o' = leftBy x o' := by
                unfold leftBy
                cases hd' : o'.dst with
                | none => rfl
                | some d' =>
                  have : d' ≠ d := fun e => hne (by rw [hd', e])
                  simp [this]
              rw [this]
              exact hF _ _ _ _ _ (Ne.symm hij) (hex j hux).1 hgj (hf j o' ho' hl (hex j hux).2)
        have h1 := hst x w hg hdeps (fun v w' => wpAny P md ops Q fuel (listed.setIfInBounds i true) ((fillAct x ops.toList a₀).put o.dst v) w') next
        unfold wpOp
        rw [ho]
        show if Region.wanted o (yielded ops (fillAct x ops.toList a₀).tmps) = true then _ else _
        split
        · rename_i hw
          rw [if_pos hw] at h1
          exact .inl (wp_of_loose (fun _ _ h => h) h1)
        · rename_i hw
          rw [if_neg hw] at h1
          exact h1

/-- **A region that draws its order and ends in one operation.** -/
theorem wp_region_tailJ {id : Nat} {a : Act} {w : World} {A : (Tmp → Value) → Act} (nd : Nat → List Nat) (R : World → World → Prop) (RJ : Nat → World → World → Prop) (hRt : ∀ a b c, R a b → R b c → R a c) (hRd : R w w.drew) (F : Nat → Value → World → Prop) (m : Nat) (oL : Oper) (hnd : ((List.range ops.size).all fun k => (nd k).all fun i => (waits .any ops k).contains i) = true) (hm : P.follows .mixedOrders = true) (hsz : ops.size = m + 1) (hoL : ops[m]? = some oL) (hk : looseOk .any ops a.tmps.size = true) (ht : tailOk .any ops = true)
    (hF : ∀ i j v w w', i ≠ j → stillFor .any ops nd i j = true → RJ j w w' → F i v w → F i v w') (hA : ∀ x, fillAct x ops.toList a = A x) (hs : looseStepsJ nd R RJ P .any ops A w F 0 (ops.toList.take m))
    (fin : ∀ (x : Tmp → Value) (w' : World), R w w' → (∀ j ∈ nd m, ∀ o', ops[j]? = some o' → F j (leftBy x o') w') →
      if Region.wanted oL (yielded ops (A x).tmps) = true then looseUpon P (fun v w'' => Q .normal ((A x).put oL.dst v) w'') ((execOp (A x).eval oL).run P w')
      else Q .normal ((A x).put oL.dst undef) w') :
    (Code.region id ops true).wp P Q a w := by
  obtain rfl : (fun x => fillAct x ops.toList a) = A := funext hA
  refine wp_region_any hm ?_
  have h := wpAny_tailJ (Q := Q) (nd := nd) (fun k o ho i hi => by
    rw [List.all_eq_true] at hnd
    have h1 := hnd k (List.mem_range.2 (Array.getElem?_eq_some_iff.1 ho).1)
    rw [List.all_eq_true] at h1
    have h2 := h1 i hi
    rw [waits_of ho] at h2
    simpa using h2) hRt hsz hoL hk ht hF hs fin ops.size (Array.replicate ops.size false) (fun t => a.tmps.getD t undef) w.drew ?_ (by simp) hRd (by simp [hsz]) ?_ ?_
  · rw [fillAct_own a ops.toList fun o ho d hd => ?_] at h
    · exact h
    · obtain ⟨i, hi⟩ := List.getElem?_of_mem ho
      exact (looseOk_slot hk (i := i) (by simpa using hi) hd).1
  · have : ∀ n, unl (Array.replicate ops.size false) n ≤ n := fun n => by
      induction n with
      | zero => exact Nat.le_refl _
      | succ n ih => simp only [unl]; split <;> omega
    exact this _
  · intro i o ho hl
    have hi : i < ops.size := (Array.getElem?_eq_some_iff.1 ho).1
    simp [hi] at hl
  · intro i o ho hl _
    have hi : i < ops.size := (Array.getElem?_eq_some_iff.1 ho).1
    simp [hi] at hl
end

/-- append as one such step. -/
theorem loose_appK {P : Program} (w : World) {ops : Array Oper} {o : Oper} {a : Act} {post : Value → World → Prop} {E : Prop} (hgd : o.guard = none) (s x : Operand) (t : TypeId)
    (ho : o.op = .call { callee := .builtin .append, args := #[s, x], argTypes := #[t, t] })
    (e : TypeId) (z : Value) (k bytes : Nat) (ht : P.underlying t = some (.slice e)) (hi : (P.info? e).map (fun i => (i.zero, i.size, i.bytes)) = some (some z, k, bytes)) (hz : z.cells.size = k) (hk : 0 < k)
    (base : Nat) (v u : Value) (n m : Nat) (xs ys : List Value) (hs : a.eval s = v) (hx : a.eval x = u) (hown : w.ownsRow base e k v n xs) (hr : RdK w k u m ys) (h1 : ∀ y ∈ ys, y.oneCell' = true)
    (hbytes : (n + m) * bytes ≤ 140737488355328) (hlen : n + m ≤ maxLen) (hbase : base ≤ w.heap.size)
    (h : ∀ v' w', w'.ownsRow base e k v' (n + m) (xs ++ ys) → w.grownBy w' v.ownBlock → (v'.ownBlock = v.ownBlock ∨ v'.ownBlock = some w.heap.size) → post v' w') :
    if Region.wanted o (yielded ops a.tmps) = true then looseUpon P post ((execOp a.eval o).run P w) else E := by
  have hw : Region.wanted o (yielded ops a.tmps) = true := by simp [Region.wanted, hgd]
  rw [if_pos hw]
  obtain ⟨v', w', hrun, h2, h3, h4⟩ := run_appK (P := P) w base t o.type e z k bytes ht hi hz hk v n xs hown u m ys hr h1 hbytes hlen hbase
  unfold execOp
  simp only [ho, resolve, invoke, builtin, Sem.run_bind, Sem.run_pure, Result.andThen_ok, List.map_toArray, List.map_cons, List.map_nil, hs, hx, hrun]
  exact h v' w' h2 h3 h4
end Go.Proofs.Ytfjmcfkpbacicaa
