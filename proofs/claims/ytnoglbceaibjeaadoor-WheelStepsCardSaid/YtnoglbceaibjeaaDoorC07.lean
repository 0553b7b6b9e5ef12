/- Contract: slices' symMerge on a row of timers: behind its search. -/
import Derived.Test.YtnoglbceaibjeaaDoorC06
import Derived.Test.YtnoglbceaibjeaaDoorC05
import Derived.Test.YtnoglbceaibjeaaDoorC04
namespace Go.Proofs.YtnoglbceaibjeaaDoor
set_option linter.unusedVariables false
set_option linter.unusedSimpArgs false
open Go.ChangeShapes Go.WideShapes Go.ChangeAt Go.RowKit Go.Shelf
attribute [local irreducible] wpQuiet

set_option maxRecDepth 100000 in
set_option maxHeartbeats 8000000 in
theorem symT8 (Q : Exit → Go.Act → World → Prop) (N : Nat) (ih : SymOk N) (w w1 : World) (base g c n : Nat) (p u v u1 u2 v1 v2 s : List Tm) (A M B D st E NN : Nat) (hP : SymP n p u v u1 u2 v1 v2 A M B D st E NN N)
    (hW : Arow w1 base g c n (p ++ (u1 ++ (u2 ++ (v1 ++ (v2 ++ s))))) ∧ Only base Zr w w1) (hQ : ∀ a w', SymEnd w base g c n p s (u ++ v) a w' → Q Exit.normal a w') (u5 u6 u7 u8 u9 u10 u11 u12 u13 u14 u15 u16 u17 u21 u22 u23 u24 u25 u26 u27 u28 u29 u30 u31 u32 u33 u34 u35 u36 u37 u38 u39 u40 u41 u42 u43 u44 u45 u46 u47 u48 u49 u50 u51 u52 u53 u54 u55 u56 u57 u58 u59 u60 u61 u62 u63 u64 u65 u66 u67 u68 u69 u70 u71 u72 u73 u74 u75 u76 u77 u78 u79 u80 u81 u82 u83 u84 u85 u86 u87 u88 u89 u90 u91 u92 u93 u94 u95 u96 u97 u98 u99 u100 u101 u102 u103 u104 u105 u106 u107 u108 u109 u110 u111 u112 u113 u114 u115 u116 u117 u118 u119 u120 u121 u122 u123 u124 u125 u126 u127 u128 u129 u130 u131 u132 u133 u134 u135 u136 u137 u138 u139 u140 u141 u142 u143 u144 u145 u146 u147 u148 u149 u150 u151 u152 u153 u154 u155 u156 u157 u158 u159 u160 u161 u162 u163 u164 u165 u166 u167 u168 u169 u170 u171 u172 u173 u174 u175 u176 u177 u178 u179 u180 u181 u182 u183 u184 u185 u186 u187 u188 u189 u190 u191 u192 u193 u194 u195 u196 u197 u198 u199 u200 u201 u202 u203 u204 u205 u206 u207 u208 u209 u210 u211 u212 u213 u214 u215 u216 u217 u218 u219 : Value) :
    Code.wp Tryd.prog (dropS 8 ((Tryd.f43.body).getD .skip)) Q ⟨#[.slice (some ⟨g, 0, none⟩) n c, .int .i64 (A : Int), .int .i64 (M : Int), .int .i64 (B : Int), .func (.func 29) #[] #[], u5, u6, u7, u8, u9, u10, u11, u12, u13, u14, u15, u16, u17, .int .i64 (D : Int), .int .i64 (NN : Int), .int .i64 (st : Int), u21, u22, u23, u24, u25, u26, u27, u28, u29, u30, u31, u32, u33, u34, u35, u36, u37, u38, u39, u40, u41, u42, u43, u44, u45, u46, u47, u48, u49, u50, u51, u52, u53, u54, u55, u56, u57, u58, u59, u60, u61, u62, u63, u64, u65, u66, u67, u68, u69, u70, u71, u72, u73, u74, u75, u76, u77, u78, u79, u80, u81, u82, u83, u84, u85, u86, u87, u88, u89, u90, u91, u92, u93, u94, u95, u96, u97, u98, u99, u100, u101, u102, u103, u104, u105, u106, u107, u108, u109, u110, u111, u112, u113, u114, u115, u116, u117, u118, u119, u120, u121, u122, u123, u124, u125, u126, u127, u128, u129, u130, u131, u132, u133, u134, u135, u136, u137, u138, u139, u140, u141, u142, u143, u144, u145, u146, u147, u148, u149, u150, u151, u152, u153, u154, u155, u156, u157, u158, u159, u160, u161, u162, u163, u164, u165, u166, u167, u168, u169, u170, u171, u172, u173, u174, u175, u176, u177, u178, u179, u180, u181, u182, u183, u184, u185, u186, u187, u188, u189, u190, u191, u192, u193, u194, u195, u196, u197, u198, u199, u200, u201, u202, u203, u204, u205, u206, u207, u208, u209, u210, u211, u212, u213, u214, u215, u216, u217, u218, u219], []⟩ w1 := by
  conv => arg 2; whnf
  conv => arg 4; arg 1; simp only []
  have eg := enterBt
  have HE := Lib.hid hP.e
  have HEU := Lib.hid hP.eu
  have HS := Lib.hid hP.s
  have HD := Lib.hid hP.d
  have HL := Lib.hid hP.l
  have HMB := Lib.hid hP.mb
  have HZ := Lib.hid hP.sz
  have HNN := Lib.hid hP.nn
  have HP := Lib.hid hP
  have HW := Lib.hid hW
  have HQ := Lib.hid hQ
  clear hP hW hQ
  have n0 : (NN : Int) - (st : Int) = (E : Int) := by have := HNN.out; omega
  have n3 : IntKind.i64.wrap (E : Int) = (E : Int) := IntWalk.i64_in _ (by have := HL.out; have := HE.out; omega)
  have n2 : IntKind.i64.wrap ((NN : Int) - (st : Int)) = (E : Int) := by rw [n0]; exact n3
  go_upto_region 39 with fail
  clear n0 n2 n3
  obtain ⟨b1, hb1⟩ : ∃ b1, b1 = decide (st < M ∧ M < E) := ⟨_, rfl⟩
  have HB1 := Lib.hid hb1
  clear hb1
  go_cut [185] from 178 to 185 (fun s185 wx => s185 = .bool b1 ∧ w1 = wx)
  case first =>
    rcases Nat.lt_or_ge st M with q | q
    · have t1 : (st : Int) < (M : Int) := by omega
      have t2 := decide_eq_true q
      rcases Nat.lt_or_ge M E with z | z
      · have t3 : (M : Int) < (E : Int) := by omega
        have t4 := decide_eq_true z
        have HBB : Hid (true = b1) := by rw [HB1.out]; exact (decide_eq_true ⟨q, z⟩).symm
        go_wp2_with fail
        go_meet
        exact ⟨by rw [← HBB.out], rfl⟩
      · have t3 : ¬ ((M : Int) < (E : Int)) := by omega
        have t4 : decide (M < E) = false := decide_eq_false (by omega)
        have HBB : Hid (false = b1) := by rw [HB1.out]; exact (decide_eq_false (fun e => by omega)).symm
        go_wp2_with fail
        go_meet
        exact ⟨by rw [← HBB.out], rfl⟩
    · have t1 : ¬ ((st : Int) < (M : Int)) := by omega
      have t2 : decide (st < M) = false := decide_eq_false (by omega)
      have HBB : Hid (false = b1) := by rw [HB1.out]; exact (decide_eq_false (fun e => by omega)).symm
      go_wp2_with fail
      go_meet
      exact ⟨by rw [← HBB.out], rfl⟩
  case rest =>
    obtain ⟨rfl, rfl⟩ := hcut
    go_upto_if 185 with fail
    go_cut [] from 186 to 191 (fun wx => Hid (Arow wx base g c n (p ++ (u1 ++ (v1 ++ (u2 ++ (v2 ++ s))))) ∧ Only base Zr w wx))
    case first =>
      cases b1 with
      | true =>
        have hb := of_decide_eq_true HB1.out.symm
        have c0 := rotate_any w1 base g c n (p ++ u1) u2 v1 (v2 ++ s) (.func (.func 29) #[] #[]) (by simpa using HW.out.1) (fun e => by have := HE.out; rw [e] at this; simp at this; omega) (fun e => by have := HE.out; rw [e] at this; simp at this; omega) HL.out.2.1 st M E (by have := HE.out; have := HL.out; simp; omega) (by have := HE.out; have := HL.out; simp; omega) (by have := HE.out; have := HL.out; simp; omega)
        clear hb
        go_wp2_with fail
        refine c0.mono ?_
        rintro e w2 ⟨rfl, h2, o2⟩
        have H2 := Lib.hid (And.intro h2 o2)
        clear h2 o2 c0
        go_wp2_with fail
        go_meet
        exact ⟨by simpa using H2.out.1, HW.out.2.trans H2.out.2⟩
      | false =>
        have hb := of_decide_eq_false HB1.out.symm
        have HV : Hid (u2 = [] ∨ v1 = []) := by
          have := HE.out
          rcases Nat.lt_or_ge st M with q | q
          · exact .inr (List.eq_nil_of_length_eq_zero (by omega))
          · exact .inl (List.eq_nil_of_length_eq_zero (by omega))
        clear hb
        go_wp2_with fail
        go_meet
        refine ⟨?_, HW.out.2⟩
        have := HW.out.1
        rcases HV.out with e | e <;> rw [e] at this ⊢ <;> simpa using this
    case rest =>
      rename World => w5
      have H1 := Lib.hid hcut.out
      clear hcut
      refine ‹∀ (a : Go.Act) (w' : World), Code.wp Tryd.prog _ Q a w' → _› _ _ ?_
      refine symT10 Q N ih w w5 base g c n p u v u1 u2 v1 v2 s A M B D st E NN HP.out H1.out HQ.out _ _ _ _ _ _ _ _ _ _ _ _ _ _ _ _ _ _ _ _ _ _ _ _ _ _ _ _ _ _ _ _ _ _ _ _ _ _ _ _ _ _ _ _ _ _ _ _ _ _ _ _ _ _ _ _ _ _ _ _ _ _ _ _ _ _ _ _ _ _ _ _ _ _ _ _ _ _ _ _ _ _ _ _ _ _ _ _ _ _ _ _ _ _ _ _ _ _ _ _ _ _ _ _ _ _ _ _ _ _ _ _ _ _ _ _ _ _ _ _ _ _ _ _ _ _ _ _ _ _ _ _ _ _ _ _ _ _ _ _ _ _ _ _ _ _ _ _ _ _ _ _ _ _ _ _ _ _ _ _ _ _ _ _ _ _ _ _ _ _ _ _ _ _ _ _ _ _ _ _ _ _ _ _ _ _ _ _ _ _ _ _ _ _ _ _ _ _ _ _ _ _ _ _ _ _ _ _ _ _ _ _
end Go.Proofs.YtnoglbceaibjeaaDoor
/- Contract: slices' symMerge on a row of timers: whatever its parts. -/
namespace Go.Proofs.YtnoglbceaibjeaaDoor
set_option linter.unusedVariables false
set_option linter.unusedSimpArgs false
open Go.ChangeShapes Go.WideShapes Go.ChangeAt Go.RowKit Go.Shelf
attribute [local irreducible] wpQuiet

set_option maxRecDepth 100000 in
set_option maxHeartbeats 8000000 in
theorem symC (N : Nat) (ih : SymOk N) (w : World) (base g c n : Nat) (p u v s : List Tm) (A M B D NN P st0 r0 : Nat) (h : Arow w base g c n (p ++ (u ++ (v ++ s)))) (hn : n ≤ 1000000) (hsu : Srt tkI u) (hsv : Srt tkI v) (hA : A = p.length) (hN : SymN u v A M B D NN P st0 r0) (hsz : u.length + v.length ≤ N) :
    Calls Tryd.prog 43 #[.slice (some ⟨g, 0, none⟩) n c, .int .i64 (A : Int), .int .i64 (M : Int), .int .i64 (B : Int), .func (.func 29) #[] #[]] w fun e w' => e = .returned (.tuple #[]) ∧ ∃ m, Arow w' base g c n (p ++ (m ++ s)) ∧ Srt tkI m ∧ Stb tkI m (u ++ v) ∧ Only base Zr w w' := by
  have eg := enterBt
  have hlen := h.len
  simp only [List.length_append] at hlen
  have hlM := hN.hM
  have hlB := hN.hB
  have hlu := hN.hu
  have hlv := hN.hv
  have hlD := hN.hD
  have hlN := hN.hN
  have hlP := hN.hP
  have hle := hN.le
  have HL : Hid (B ≤ n ∧ n ≤ 1000000 ∧ A = p.length ∧ P ≤ 2000000 ∧ NN = P + 1) := ⟨by omega, hn, hA, by omega, by omega⟩
  have HN := Lib.hid hN
  have H0 := Lib.hid h
  have HS := Lib.hid (And.intro hsu hsv)
  have HZ := Lib.hid hsz
  obtain ⟨Du, hDu⟩ : ∃ Du, Du = M - A := ⟨_, rfl⟩
  obtain ⟨Dv, hDv⟩ : ∃ Dv, Dv = B - M := ⟨_, rfl⟩
  obtain ⟨SAB, hSAB⟩ : ∃ SAB, SAB = A + B := ⟨_, rfl⟩
  have e1 : (M : Int) - (A : Int) = (Du : Int) := by omega
  have e3 : IntKind.i64.wrap (Du : Int) = (Du : Int) := IntWalk.i64_in _ (by omega)
  have e2 : IntKind.i64.wrap ((M : Int) - (A : Int)) = (Du : Int) := by rw [e1]; exact e3
  have e4 : ¬ ((Du : Int) = 1) := by omega
  have e7 : ((Du : Int) == 1) = false := by rw [beq_eq_false_iff_ne]; exact e4
  have f1 : (B : Int) - (M : Int) = (Dv : Int) := by omega
  have f3 : IntKind.i64.wrap (Dv : Int) = (Dv : Int) := IntWalk.i64_in _ (by omega)
  have f2 : IntKind.i64.wrap ((B : Int) - (M : Int)) = (Dv : Int) := by rw [f1]; exact f3
  have f4 : ¬ ((Dv : Int) = 1) := by omega
  have f7 : ((Dv : Int) == 1) = false := by rw [beq_eq_false_iff_ne]; exact f4
  have m0 : (A : Int) + (B : Int) = (SAB : Int) := by omega
  have m1 : (SAB : Int) / 2 = (D : Int) := by omega
  have m3 : IntKind.i64.wrap (SAB : Int) = (SAB : Int) := IntWalk.i64_in _ (by omega)
  have m2 : IntKind.i64.wrap ((A : Int) + (B : Int)) = (SAB : Int) := by rw [m0]; exact m3
  have m4 : IntKind.u64.wrap (SAB : Int) = (SAB : Int) := by rw [IntKind.wrap_u64]; omega
  have m5 : IntKind.i64.wrap (D : Int) = (D : Int) := IntWalk.i64_in _ (by omega)
  have n0 : (D : Int) + (M : Int) = (NN : Int) := by omega
  have n3 : IntKind.i64.wrap (NN : Int) = (NN : Int) := IntWalk.i64_in _ (by omega)
  have n2 : IntKind.i64.wrap ((D : Int) + (M : Int)) = (NN : Int) := by rw [n0]; exact n3
  have r1 : (NN : Int) - 1 = (P : Int) := by omega
  have r3 : IntKind.i64.wrap (P : Int) = (P : Int) := IntWalk.i64_in _ (by omega)
  have r2 : IntKind.i64.wrap ((NN : Int) - 1) = (P : Int) := by rw [r1]; exact r3
  have HR1 := Lib.hid (And.intro r1 (And.intro r2 r3))
  clear h hn hsu hsv hA hN hlen hDu hDv hSAB hlM hlB hlu hlv hlD hlN hlP hle hsz r1 r2 r3
  go_enter Tryd.func43, Tryd.ntmps43
  go_upto_region 27 with fail
  clear e1 e2 e3 e4 e7 f1 f2 f3 f4 f7 m0 m1 m2 m3 m4 m5 n0 n2 n3
  go_cut [140] (fun s140 wx => s140 = .bool (decide (D < M)) ∧ w = wx)
  case first =>
    rcases Nat.lt_or_ge D M with q | q
    · have q2 := decide_eq_true q
      have q3 : (D : Int) < (M : Int) := by omega
      go_wp2_with fail
      go_meet
      exact ⟨by rw [q2], rfl⟩
    · have q2 : decide (D < M) = false := decide_eq_false (by omega)
      have q3 : ¬ ((D : Int) < (M : Int)) := by omega
      go_wp2_with fail
      go_meet
      exact ⟨by rw [q2], rfl⟩
  case rest =>
    obtain ⟨rfl, rfl⟩ := hcut
    go_upto_if 140 with fail
    go_cut [20, 21] (fun s20 s21 wx => s20 = .int .i64 (st0 : Int) ∧ s21 = .int .i64 (r0 : Int) ∧ w = wx)
    case first =>
      rcases HN.out.hc with ⟨b1, b2, b3⟩ | ⟨b1, b2, b3⟩
      · have q2 := decide_eq_true b1
        have q3 : (D : Int) < (M : Int) := by omega
        have q4 : (NN : Int) - (B : Int) = (st0 : Int) := by have := HN.out.le.2.2.2.2.1 b1; omega
        have q5 : IntKind.i64.wrap (st0 : Int) = (st0 : Int) := IntWalk.i64_in _ (by have := HL.out; omega)
        have q6 : IntKind.i64.wrap ((NN : Int) - (B : Int)) = (st0 : Int) := by rw [q4]; exact q5
        have HB3 := Lib.hid b3
        clear b1 b2 b3
        go_wp2_with fail
        go_meet
        exact ⟨rfl, by rw [HB3.out], rfl⟩
      · have q2 : decide (D < M) = false := decide_eq_false (by omega)
        have q3 : ¬ ((D : Int) < (M : Int)) := by omega
        have HB3 := Lib.hid (And.intro b2 b3)
        clear b2 b3
        go_wp2_with fail
        go_meet
        exact ⟨by rw [HB3.out.1], by rw [HB3.out.2], rfl⟩
    case rest =>
      obtain ⟨rfl, rfl, rfl⟩ := hcut
      obtain ⟨r1, r2, r3⟩ := HR1.out
      go_wp2_with fail
      clear r1 r2 r3
      go_loopg [20, 21] (r0 - st0) (fun gk s20 s21 wr => ∃ st r : Nat, gk = r - st ∧ s20 = .int .i64 (st : Int) ∧ s21 = .int .i64 (r : Int) ∧ Hid (SymS u v A M P st0 r0 st r ∧ Grow w wr))
      case atStart => exact ⟨st0, r0, rfl, rfl, rfl, ⟨⟨Nat.le_refl _, HN.out.le.1, Nat.le_refl _⟩, .inl rfl, .inl rfl⟩, Grow.refl _⟩
      case round =>
        obtain ⟨st, r, rfl, rfl, rfl, HR⟩ := hrel
        rcases Nat.lt_or_ge st r with hlt | hge
        · have hle := HR.out.1.le
          have hMd := HL.out
          have hM := HN.out.hM
          have hB := HN.out.hB
          obtain ⟨h, hh⟩ : ∃ h, h = (st + r) / 2 := ⟨_, rfl⟩
          obtain ⟨S, hS⟩ : ∃ S, S = st + r := ⟨_, rfl⟩
          obtain ⟨y1, y2, y3, y4, y5⟩ := HN.out.rng (c := h) (by omega) (by omega)
          obtain ⟨a, ha⟩ : ∃ a, u[h - A]? = some a := ⟨_, List.getElem?_eq_getElem (by omega)⟩
          obtain ⟨b, hb⟩ : ∃ b, v[P - h - M]? = some b := ⟨_, List.getElem?_eq_getElem (by omega)⟩
          obtain ⟨K, hK⟩ : ∃ K, K = P - h := ⟨_, rfl⟩
          have hA0 := H0.out.grow HR.out.2
          obtain ⟨q1, q2, q3⟩ := hA0.at_ (u := p) (v := u ++ (v ++ s)) rfl (i := h - A) (by rw [List.getElem?_append_left (by omega)]; exact ha) (I := h) (by omega)
          obtain ⟨t1, t2, t3⟩ := hA0.at_ (u := p ++ u) (v := v ++ s) (by simp) (i := P - h - M) (by rw [List.getElem?_append_left (by omega)]; exact hb) (I := K) (by simp; omega)
          have hgl := hA0.blkLt
          have e2 := fun z : Gw wr => Gw.cell hgl q2 z
          have e3 := fun z : Gw wr => Gw.cell hgl t2 z
          have tb := hA0.ticks t3
          have ta := hA0.ticks q3
          have i0 : (st : Int) < (r : Int) := by omega
          have i3 : (K : Int) < (n : Int) := by omega
          have i4 : (h : Int) < (n : Int) := by omega
          have m0 : (st : Int) + (r : Int) = (S : Int) := by omega
          have m1 : (S : Int) / 2 = (h : Int) := by omega
          have m3 : IntKind.i64.wrap (S : Int) = (S : Int) := IntWalk.i64_in _ (by omega)
          have m2 : IntKind.i64.wrap ((st : Int) + (r : Int)) = (S : Int) := by rw [m0]; exact m3
          have m4 : IntKind.u64.wrap (S : Int) = (S : Int) := by rw [IntKind.wrap_u64]; omega
          have m5 : IntKind.i64.wrap (h : Int) = (h : Int) := IntWalk.i64_in _ (by omega)
          have n0 : (P : Int) - (h : Int) = (K : Int) := by omega
          have n3 : IntKind.i64.wrap (K : Int) = (K : Int) := IntWalk.i64_in _ (by omega)
          have n2 : IntKind.i64.wrap ((P : Int) - (h : Int)) = (K : Int) := by rw [n0]; exact n3
          obtain ⟨h1, hh1⟩ : ∃ h1, h1 = h + 1 := ⟨_, rfl⟩
          have m6 : (h : Int) + 1 = (h1 : Int) := by omega
          have m8 : IntKind.i64.wrap (h1 : Int) = (h1 : Int) := IntWalk.i64_in _ (by omega)
          have m7 : IntKind.i64.wrap ((h : Int) + 1) = (h1 : Int) := by rw [m6]; exact m8
          have HK1 := Lib.hid hh1
          have HK : Hid (st ≤ h ∧ h < r ∧ st < r) := ⟨by omega, by omega, hlt⟩
          have HA := Lib.hid (And.intro ha hb)
          have HG := Lib.hid HR.out.2
          clear hle hMd hM hB hh hS ha hb hK hA0 hh1 q1 q2 q3 t1 t2 t3 hgl hlt y1 y2 y3 y4 y5
          by_cases hax : b.tk < a.tk
          · have cS : ∀ z : Gw wr, Calls Tryd.prog 29 #[.pointer (some ⟨b.blk, 0, none⟩), .pointer (some ⟨a.blk, 0, none⟩)] z.v fun e w' => e = .returned (.int .i64 (-1)) ∧ Grow z.v w' := fun z => bt_lt z.v b a (tb z) (ta z) hax
            have HX := Lib.hid hax
            clear tb ta hax
            go_wp2_with fail
            refine wp_region_gw (by kernel_rfl) (by kernel_rfl) ?_
            repeat (quiet_step ((go_at_call 29; exact Calls.gw (cS _))))
            refine wpQuiet_nil ?_
            intro _ hw'
            obtain ⟨⟨wq, hgq⟩, hw2⟩ := hw'
            subst hw2
            clear e2 e3 cS
            go_wp2_with fail
            go_roundg (h - st)
            case measure => have := HK.out; omega
            case rel => exact ⟨st, h, rfl, rfl, rfl, HR.out.1.down HK.out.1 HK.out.2.1 HA.out.1 HA.out.2 HX.out, HG.out.trans hgq⟩
          · obtain ⟨r', hr⟩ : ∃ r : Int, r = if b.tk = a.tk then 0 else 1 := ⟨_, rfl⟩
            have cS : ∀ z : Gw wr, Calls Tryd.prog 29 #[.pointer (some ⟨b.blk, 0, none⟩), .pointer (some ⟨a.blk, 0, none⟩)] z.v fun e w' => e = .returned (.int .i64 r') ∧ Grow z.v w' := fun z => bt_ge z.v b a (tb z) (ta z) r' hr (by omega)
            have hd : decide (r' < 0) = false := decide_eq_false (by rw [hr]; split <;> omega)
            have HX := Lib.hid hax
            clear tb ta hax hr
            go_wp2_with fail
            refine wp_region_gw (by kernel_rfl) (by kernel_rfl) ?_
            repeat (quiet_step ((go_at_call 29; exact Calls.gw (cS _))))
            refine wpQuiet_nil ?_
            intro _ hw'
            obtain ⟨⟨wq, hgq⟩, hw2⟩ := hw'
            subst hw2
            clear e2 e3 cS
            go_wp2_with fail
            go_roundg (r - (h + 1))
            case measure => have := HK.out; omega
            case rel => exact ⟨h + 1, r, rfl, by have := HK1.out; subst this; rfl, rfl, HR.out.1.up HK.out.1 HK.out.2.1 HA.out.1 HA.out.2 (by have := HX.out; omega), HG.out.trans hgq⟩
        · rename World => wo
          have hle := HR.out.1.le
          obtain rfl : st = r := by omega
          obtain ⟨E, hE⟩ : ∃ E, E = NN - st := ⟨_, rfl⟩
          have hl := HN.out.le
          have hM := HN.out.hM
          have hB := HN.out.hB
          have hNN := HN.out.hN
          obtain ⟨d1, d2⟩ := HN.out.done HR.out.1 HS.out.1 HS.out.2
          rw [← hE] at d1 d2
          have hMd := HL.out
          obtain ⟨u1, hu1⟩ : ∃ u1, u1 = u.take (st - A) := ⟨_, rfl⟩
          obtain ⟨u2, hu2⟩ : ∃ u2, u2 = u.drop (st - A) := ⟨_, rfl⟩
          obtain ⟨v1, hv1⟩ : ∃ v1, v1 = v.take (E - M) := ⟨_, rfl⟩
          obtain ⟨v2, hv2⟩ : ∃ v2, v2 = v.drop (E - M) := ⟨_, rfl⟩
          rw [← hu1, ← hv2] at d1
          rw [← hv1, ← hu2] at d2
          have eu : u = u1 ++ u2 := by rw [hu1, hu2, List.take_append_drop]
          have ev : v = v1 ++ v2 := by rw [hv1, hv2, List.take_append_drop]
          have HE : Hid (u1.length = st - A ∧ u2.length = M - st ∧ v1.length = E - M ∧ v2.length = B - E ∧ A ≤ st ∧ st ≤ M ∧ M ≤ E ∧ E ≤ B ∧ st ≤ D ∧ D ≤ E ∧ D + M = st + E ∧ A < D ∧ D < B) := by
            refine ⟨?_, ?_, ?_, ?_, by omega, by omega, by omega, by omega, by omega, by omega, by omega, by omega, by omega⟩
            · rw [hu1, List.length_take]; omega
            · rw [hu2, List.length_drop]; omega
            · rw [hv1, List.length_take]; omega
            · rw [hv2, List.length_drop]; omega
          have HD := Lib.hid (And.intro d1 d2)
          have HEU := Lib.hid (And.intro eu ev)
          have HW : Hid (Arow wo base g c n (p ++ (u1 ++ (u2 ++ (v1 ++ (v2 ++ s))))) ∧ Only base Zr w wo) := by
            have := H0.out.grow HR.out.2
            rw [eu, ev] at this
            exact ⟨by simpa using this, Only.grow HR.out.2 H0.out.bas Zr⟩
          have HP : Hid (SymP n p u v u1 u2 v1 v2 A M B D st E NN N) := ⟨HE.out, HEU.out, HS.out, HD.out, ⟨HL.out.1, HL.out.2.1, HL.out.2.2.1⟩, ⟨HN.out.hM, HN.out.hB⟩, HZ.out, by omega⟩
          clear hle hE hl hM hB hNN d1 d2 hMd hu1 hu2 hv1 hv2 eu ev
          go_upto_if 151 with fail
          refine wp_cond_false rfl (wp_exit ?_)
          conv => whnf
          apply_assumption
          refine symT8 _ N ih w wo base g c n p u v u1 u2 v1 v2 s A M B D st E NN HP.out HW.out ?_ _ _ _ _ _ _ _ _ _ _ _ _ _ _ _ _ _ _ _ _ _ _ _ _ _ _ _ _ _ _ _ _ _ _ _ _ _ _ _ _ _ _ _ _ _ _ _ _ _ _ _ _ _ _ _ _ _ _ _ _ _ _ _ _ _ _ _ _ _ _ _ _ _ _ _ _ _ _ _ _ _ _ _ _ _ _ _ _ _ _ _ _ _ _ _ _ _ _ _ _ _ _ _ _ _ _ _ _ _ _ _ _ _ _ _ _ _ _ _ _ _ _ _ _ _ _ _ _ _ _ _ _ _ _ _ _ _ _ _ _ _ _ _ _ _ _ _ _ _ _ _ _ _ _ _ _ _ _ _ _ _ _ _ _ _ _ _ _ _ _ _ _ _ _ _ _ _ _ _ _ _ _ _ _ _ _ _ _ _ _ _ _ _ _ _ _ _ _ _ _ _ _ _ _ _ _ _ _ _ _ _ _
          rintro a w' ⟨hd, m, k1, k2, k3, k4⟩
          exact bodyPost_end (results_none rfl _ _ _) hd ⟨rfl, m, k1, k2, k3, k4⟩
end Go.Proofs.YtnoglbceaibjeaaDoor
/- Parts of a list that are sorted: how a sort by merging goes on; on lists alone. -/
namespace Go.Proofs.YtnoglbceaibjeaaDoor
set_option linter.unusedVariables false
set_option linter.unusedSimpArgs false

section
variable {α : Type} {key : α → Int}
def seg (l : List α) (a k : Nat) : List α := (l.drop a).take k
theorem seg_low {p x : List α} {a k : Nat} (h : a + k ≤ p.length) : seg (p ++ x) a k = seg p a k := by
  unfold seg
  rw [List.drop_append_of_le_length (by omega), List.take_append_of_le_length (by rw [List.length_drop]; omega)]
theorem seg_high {p x : List α} {a k : Nat} (h : p.length ≤ a) : seg (p ++ x) a k = seg x (a - p.length) k := by
  unfold seg
  rw [List.drop_append, List.drop_eq_nil_of_le h, List.nil_append]
theorem seg_mid {p m s : List α} {k : Nat} (h : m.length = k ∨ s = [] ∧ m.length ≤ k) : seg (p ++ (m ++ s)) p.length k = m := by
  rw [seg_high (Nat.le_refl _), Nat.sub_self]
  unfold seg
  rw [List.drop_zero]
  rcases h with h | ⟨rfl, h⟩
  · rw [List.take_append_of_le_length (by omega), List.take_of_length_le (by omega)]
  · rw [List.append_nil, List.take_of_length_le h]
theorem seg_none {l : List α} {a k : Nat} (h : l.length ≤ a) : seg l a k = [] := by
  unfold seg
  rw [List.drop_eq_nil_of_le h, List.take_nil]
theorem seg_all {l : List α} {k : Nat} (h : l.length ≤ k) : seg l 0 k = l := by
  unfold seg
  rw [List.drop_zero, List.take_of_length_le h]
/-- A part, and what lies round it. -/
theorem seg_cut (l : List α) (a k : Nat) : l = l.take a ++ (seg l a k ++ l.drop (a + k)) := by
  unfold seg
  rw [← List.drop_drop, List.take_append_drop, List.take_append_drop]
theorem seg_len {l : List α} {a k : Nat} (h : a + k ≤ l.length) : (seg l a k).length = k := by
  unfold seg
  rw [List.length_take, List.length_drop]
  omega
variable (key) in
/-- The first i parts of k each are sorted. -/
def Fst (l : List α) (k i : Nat) : Prop := ∀ j, j < i → Srt key (seg l (j * k) k)
theorem fst_more {p s s' q : List α} {k i : Nat} (h : Fst key (p ++ (s ++ q)) k i) (hp : p.length = i * k) (hs : Srt key s') (hk : s'.length = k ∨ q = [] ∧ s'.length ≤ k) : Fst key (p ++ (s' ++ q)) k (i + 1) := by
  intro j hj
  rcases Nat.lt_or_ge j i with h1 | h1
  · have h2 : j * k + k ≤ p.length := by
      rw [hp, ← Nat.succ_mul]
      exact Nat.mul_le_mul_right k h1
    have := h j h1
    rw [seg_low h2] at this ⊢
    exact this
  · obtain rfl : j = i := by omega
    rw [← hp, seg_mid hk]
    exact hs
/-- All parts are sorted once those that there are. -/
theorem fst_all {l : List α} {k i : Nat} (h : Fst key l k i) (hl : l.length ≤ i * k) : ∀ j, Srt key (seg l (j * k) k) := by
  intro j
  rcases Nat.lt_or_ge j i with h1 | h1
  · exact h j h1
  · rw [seg_none (Nat.le_trans hl (Nat.mul_le_mul_right k h1))]
    exact srt_nil
variable (key) in
/-- The first i parts of 2 k each are sorted, and the parts of k each behind them. -/
def Mid (l : List α) (k i : Nat) : Prop := Fst key l (2 * k) i ∧ ∀ j, 2 * i ≤ j → Srt key (seg l (j * k) k)
theorem mid_zero {l : List α} {k : Nat} (h : ∀ j, Srt key (seg l (j * k) k)) : Mid key l k 0 := ⟨fun j hj => absurd hj (Nat.not_lt_zero _), fun j _ => h j⟩
theorem two_mul_mul (i k : Nat) : 2 * i * k = i * (2 * k) := by
  rw [Nat.mul_comm 2 i, Nat.mul_assoc]
theorem mid_more {p u v s m : List α} {k i : Nat} (h : Mid key (p ++ (u ++ (v ++ s))) k i) (hp : p.length = i * (2 * k)) (hu : u.length = k) (hv : v.length = k ∨ s = [] ∧ v.length ≤ k) (hm : Srt key m) (hl : m.length = u.length + v.length) : Mid key (p ++ (m ++ s)) k (i + 1) := by
  obtain ⟨h1, h2⟩ := h
  refine ⟨?_, fun j hj => ?_⟩
  · have e : p ++ (u ++ (v ++ s)) = p ++ ((u ++ v) ++ s) := by simp
    rw [e] at h1
    refine fst_more h1 hp hm ?_
    rcases hv with q | ⟨q1, q2⟩
    · exact .inl (by omega)
    · exact .inr ⟨q1, by omega⟩
  · have hj2 : p.length + 2 * k ≤ j * k := by
      have := Nat.mul_le_mul_right k hj
      rw [two_mul_mul, Nat.succ_mul] at this
      omega
    have e1 : p ++ (u ++ (v ++ s)) = (p ++ (u ++ v)) ++ s := by simp
    have e2 : p ++ (m ++ s) = (p ++ m) ++ s := by simp
    have h3 := h2 j (by omega)
    rw [e1, seg_high (by simp; omega)] at h3
    rw [e2, seg_high (by simp; omega)]
    have e3 : (p ++ (u ++ v)).length = (p ++ m).length := by simp; omega
    rw [← e3]
    exact h3
theorem mid_at {l : List α} {k i : Nat} (h : Mid key l k i) : Srt key (seg l (i * (2 * k)) k) ∧ Srt key (seg l (i * (2 * k) + k) k) := by
  have a := h.2 (2 * i) (Nat.le_refl _)
  have b := h.2 (2 * i + 1) (by omega)
  rw [two_mul_mul] at a
  rw [Nat.succ_mul, two_mul_mul] at b
  exact ⟨a, b⟩
theorem mid_last {l : List α} {k i : Nat} (h : Mid key l k i) (hl : l.length ≤ i * (2 * k) + k) : ∀ j, Srt key (seg l (j * (2 * k)) (2 * k)) := by
  refine fst_all (i := i + 1) ?_ (by rw [Nat.succ_mul]; omega)
  intro j hj
  rcases Nat.lt_or_ge j i with h1 | h1
  · exact h.1 j h1
  · obtain rfl : j = i := by omega
    have := (mid_at h).1
    have e : seg l (j * (2 * k)) (2 * k) = seg l (j * (2 * k)) k := by
      unfold seg
      rw [List.take_of_length_le (by rw [List.length_drop]; omega), List.take_of_length_le (by rw [List.length_drop]; omega)]
    rw [e]
    exact this
end
end Go.Proofs.YtnoglbceaibjeaaDoor
/- Contract: slices' stable sort on a row of timers. -/
namespace Go.Proofs.YtnoglbceaibjeaaDoor
set_option linter.unusedVariables false
set_option linter.unusedSimpArgs false
open Go.ChangeShapes Go.WideShapes Go.ChangeAt Go.RowKit Go.Shelf

theorem sym_ok : ∀ N, SymOk N
  | 0 => fun w base g c n p u v s A M B _ _ _ _ _ _ _ _ _ h => absurd h (Nat.not_lt_zero _)
  | N + 1 => fun w base g c n p u v s A M B h hn hu hv hsu hsv hA hM hB hlt => by
    have hu0 := List.length_pos_iff.2 hu
    have hv0 := List.length_pos_iff.2 hv
    by_cases h1 : u.length = 1
    · obtain ⟨x, rfl⟩ := List.length_eq_one_iff.1 h1
      exact symA w base g c n p v s x A M B h hn hv hsv hA (by simpa using hM) (by simpa using hB)
    · by_cases h2 : v.length = 1
      · obtain ⟨x, rfl⟩ := List.length_eq_one_iff.1 h2
        exact symB w base g c n p u s x A M B h hn h1 hsu hA hM (by simpa using hB)
      · obtain ⟨D, hD⟩ : ∃ D, D = (A + B) / 2 := ⟨_, rfl⟩
        rcases Nat.lt_or_ge D M with q | q
        · exact symC N (sym_ok N) w base g c n p u v s A M B D (D + M) (D + M - 1) (D + M - B) D h hn hsu hsv hA ⟨by omega, by omega, by omega, by omega, hD, rfl, rfl, .inl ⟨q, rfl, rfl⟩⟩ (by omega)
        · exact symC N (sym_ok N) w base g c n p u v s A M B D (D + M) (D + M - 1) A M h hn hsu hsv hA ⟨by omega, by omega, by omega, by omega, hD, rfl, rfl, .inr ⟨q, rfl, rfl⟩⟩ (by omega)
theorem insert_any (w : World) (base g c n : Nat) (p s q : List Tm) (h : Arow w base g c n (p ++ (s ++ q))) (hn : n ≤ 1000000) (A B : Nat) (hA : A = p.length) (hB : B = p.length + s.length) :
    Calls Tryd.prog 42 #[.slice (some ⟨g, 0, none⟩) n c, .int .i64 (A : Int), .int .i64 (B : Int), .func (.func 29) #[] #[]] w fun e w' => e = .returned (.tuple #[]) ∧ ∃ s', Arow w' base g c n (p ++ (s' ++ q)) ∧ Srt tkI s' ∧ Stb tkI s' s ∧ Only base Zr w w' := by
  by_cases hs : s = []
  · subst hs
    have hl := h.len
    simp only [List.length_append] at hl
    obtain rfl : B = A := by rw [hA, hB]; rfl
    refine (insert_nil w _ _ B (by omega)).mono ?_
    rintro e w' ⟨rfl, rfl⟩
    exact ⟨rfl, [], h, srt_nil, Stb.refl _, Only.refl _ _ _⟩
  · exact insert_some w base g c n p s q h hs hn A B hA hB
/-- One part of the row sorted. -/
theorem ins_part {w : World} {base g c n : Nat} {l l0 : List Tm} {k : Nat} (h : Arow w base g c n l) (hn : n ≤ 1000000) (hf : Fst tkI l 20 k) (hst : Stb tkI l l0) (A B : Nat) (hA : A = k * 20) (hB : B = A + 20 ∧ B ≤ n ∨ B = n ∧ A ≤ n ∧ n < A + 20) :
    Calls Tryd.prog 42 #[.slice (some ⟨g, 0, none⟩) n c, .int .i64 (A : Int), .int .i64 (B : Int), .func (.func 29) #[] #[]] w fun e w' => e = .returned (.tuple #[]) ∧ ∃ l', Arow w' base g c n l' ∧ Fst tkI l' 20 (k + 1) ∧ Stb tkI l' l0 ∧ Only base Zr w w' := by
  have hl := h.len
  have hpl : (l.take A).length = A := by rw [List.length_take]; omega
  have e := seg_cut l A 20
  have hsl : (seg l A 20).length = B - A := by
    unfold seg
    rw [List.length_take, List.length_drop]
    omega
  rw [e] at h hf
  refine (insert_any w base g c n (l.take A) (seg l A 20) (l.drop (A + 20)) h hn A B hpl.symm (by rw [hpl, hsl]; omega)).mono ?_
  rintro e' w' ⟨rfl, s', h1, h2, h3, h4⟩
  have hs' : s'.length = (seg l A 20).length := h3.len
  refine ⟨rfl, _, h1, fst_more hf (by rw [hpl]; exact hA) h2 ?_, ?_, h4⟩
  · rcases hB with ⟨q1, q2⟩ | ⟨q1, q2, q3⟩
    · left; omega
    · right
      exact ⟨List.drop_eq_nil_of_le (by omega), by omega⟩
  · have hst' := hst
    rw [e] at hst'
    exact ((Stb.refl _).app (h3.app (Stb.refl _))).trans hst'
/-- Two parts merged. -/
theorem sym_part {w : World} {base g c n : Nat} {l l0 : List Tm} {k i : Nat} (h : Arow w base g c n l) (hn : n ≤ 1000000) (hf : Mid tkI l k i) (hst : Stb tkI l l0) (hk : 0 < k) (A M B : Nat) (hA : A = i * (2 * k)) (hM : M = A + k) (hM2 : M < n) (hB : B = A + 2 * k ∧ B ≤ n ∨ B = n ∧ n < A + 2 * k) :
    Calls Tryd.prog 43 #[.slice (some ⟨g, 0, none⟩) n c, .int .i64 (A : Int), .int .i64 (M : Int), .int .i64 (B : Int), .func (.func 29) #[] #[]] w fun e w' => e = .returned (.tuple #[]) ∧ ∃ l', Arow w' base g c n l' ∧ Mid tkI l' k (i + 1) ∧ Stb tkI l' l0 ∧ Only base Zr w w' := by
  have hl := h.len
  have hpl : (l.take A).length = A := by rw [List.length_take]; omega
  have e0 := seg_cut l A k
  have e1 : l.drop (A + k) = seg l M k ++ l.drop (A + 2 * k) := by
    rw [hM, show A + 2 * k = A + k + k from by omega]
    unfold seg
    rw [show l.drop (A + k + k) = (l.drop (A + k)).drop k from by rw [List.drop_drop], List.take_append_drop]
  rw [e1] at e0
  obtain ⟨m1, m2⟩ := mid_at hf
  rw [← hA] at m1
  rw [← hA, ← hM] at m2
  have hul : (seg l A k).length = k := seg_len (by omega)
  have hvl : (seg l M k).length = B - M := by
    unfold seg
    rw [List.length_take, List.length_drop]
    omega
  have hf' := hf
  have hst' := hst
  rw [e0] at h hf' hst'
  refine (sym_ok (2 * k + 1) w base g c n (l.take A) (seg l A k) (seg l M k) (l.drop (A + 2 * k)) A M B h hn (fun e => by rw [e] at hul; simp at hul; omega) (fun e => by rw [e] at hvl; simp at hvl; omega) m1 m2 hpl.symm (by rw [hpl, hul]; exact hM) (by rw [hpl, hul, hvl]; omega) (by omega)).mono ?_
  rintro e' w' ⟨rfl, m, h1, h2, h3, h4⟩
  have hml := h3.len
  rw [List.length_append] at hml
  refine ⟨rfl, _, h1, mid_more hf' (by rw [hpl]; exact hA) hul ?_ h2 hml, ?_, h4⟩
  · rcases hB with ⟨q1, q2⟩ | ⟨q1, q2⟩
    · left; omega
    · right
      exact ⟨List.drop_eq_nil_of_le (by omega), by omega⟩
  · refine ((Stb.refl (l.take A)).app ((h3.app (Stb.refl (l.drop (A + 2 * k)))))).trans ?_
    rw [List.append_assoc]
    exact hst'

set_option maxRecDepth 10000 in
set_option maxHeartbeats 4000000 in
theorem stable_any (w : World) (base g c n : Nat) (l : List Tm) (h : Arow w base g c n l) (hn : n ≤ 1000000) :
    Calls Tryd.prog 39 #[.slice (some ⟨g, 0, none⟩) n c, .int .i64 (n : Int), .func (.func 29) #[] #[]] w fun e w' => e = .returned (.tuple #[]) ∧ ∃ l', Arow w' base g c n l' ∧ Srt tkI l' ∧ Stb tkI l' l ∧ Only base Zr w w' := by
  have H0 := Lib.hid h
  have HN := Lib.hid hn
  clear h hn
  go_enter Tryd.func39, Tryd.ntmps39
  go_wp2_with fail
  go_loopg [7, 8] n (fun gk s7 s8 wr => ∃ (k A B : Nat) (l1 : List Tm), gk = n - A ∧ s7 = .int .i64 (A : Int) ∧ s8 = .int .i64 (B : Int) ∧ Hid (A = k * 20 ∧ B = A + 20 ∧ A ≤ n ∧ Arow wr base g c n l1 ∧ Fst tkI l1 20 k ∧ Stb tkI l1 l ∧ Only base Zr w wr))
  case atStart => exact ⟨0, 0, 20, l, rfl, rfl, rfl, rfl, rfl, Nat.zero_le _, H0.out, fun j hj => absurd hj (Nat.not_lt_zero _), Stb.refl _, Only.refl _ _ _⟩
  case round =>
    obtain ⟨k, A, B, l1, rfl, rfl, rfl, HR⟩ := hrel
    rcases Nat.lt_or_ge n B with hlt | hge
    · have i0 : ¬ ((B : Int) ≤ (n : Int)) := by omega
      have c0 := ins_part HR.out.2.2.2.1 HN.out HR.out.2.2.2.2.1 HR.out.2.2.2.2.2.1 A n HR.out.1 (.inr ⟨rfl, HR.out.2.2.1, by have := HR.out.2.1; omega⟩)
      have HT := Lib.hid hlt
      rename World => wo
      go_wp2_with fail
      refine c0.mono ?_
      rintro e w2 ⟨rfl, l2, h1, h2, h3, h4⟩
      have H2 : Hid (Arow w2 base g c n l2 ∧ (∀ j, Srt tkI (seg l2 (j * 20) 20)) ∧ Stb tkI l2 l ∧ Only base Zr w w2) := ⟨h1, fst_all h2 (by rw [h1.len, Nat.succ_mul, ← HR.out.1]; have := HR.out.2.1; omega), h3, HR.out.2.2.2.2.2.2.trans h4⟩
      clear c0 h1 h2 h3 h4 i0 hlt
      go_wp2_with fail
      go_loopg [6] (n - 20) (fun gk s6 wr => ∃ (bs : Nat) (l1 : List Tm), gk = n - bs ∧ s6 = .int .i64 (bs : Int) ∧ Hid (0 < bs ∧ bs ≤ 2000000 ∧ Arow wr base g c n l1 ∧ (∀ j, Srt tkI (seg l1 (j * bs) bs)) ∧ Stb tkI l1 l ∧ Only base Zr w wr))
      case atStart => exact ⟨20, l2, rfl, rfl, by omega, by omega, H2.out⟩
      case round =>
        obtain ⟨bs, l1, rfl, rfl, HS⟩ := hrel
        rename World => wp
        rcases Nat.lt_or_ge bs n with hlt | hge
        · obtain ⟨b2, hb2⟩ : ∃ b2, b2 = 2 * bs := ⟨_, rfl⟩
          have hb0 := HS.out.1
          have hn := HN.out
          have i0 : (bs : Int) < (n : Int) := by omega
          have m1 : 2 * (bs : Int) = (b2 : Int) := by omega
          have m2 : (bs : Int) * 2 = (b2 : Int) := by omega
          have m3 : IntKind.i64.wrap (b2 : Int) = (b2 : Int) := IntWalk.i64_in _ (by omega)
          have m4 : IntKind.i64.wrap (2 * (bs : Int)) = (b2 : Int) := by rw [m1]; exact m3
          have m5 : IntKind.i64.wrap ((bs : Int) * 2) = (b2 : Int) := by rw [m2]; exact m3
          have HM := Lib.hid (And.intro m1 (And.intro m2 (And.intro m3 (And.intro m4 m5))))
          have HB : Hid (b2 = 2 * bs ∧ 0 < bs ∧ bs < n) := ⟨hb2, hb0, hlt⟩
          clear hb0 hn hb2 hlt
          go_wp2_with fail
          clear m1 m2 m3 m4 m5 i0
          go_loopg [7, 8] n (fun gk s7 s8 wr => ∃ (i A B : Nat) (l3 : List Tm), gk = n - A ∧ s7 = .int .i64 (A : Int) ∧ s8 = .int .i64 (B : Int) ∧ Hid (A = i * (2 * bs) ∧ B = A + 2 * bs ∧ A ≤ n ∧ Arow wr base g c n l3 ∧ Mid tkI l3 bs i ∧ Stb tkI l3 l ∧ Only base Zr w wr))
          case atStart => exact ⟨0, 0, b2, l1, rfl, rfl, rfl, by rw [Nat.zero_mul], by rw [HB.out.1, Nat.zero_add], Nat.zero_le _, HS.out.2.2.1, mid_zero HS.out.2.2.2.1, HS.out.2.2.2.2⟩
          case round =>
            obtain ⟨i, A, B, l3, rfl, rfl, rfl, HU⟩ := hrel
            have hn := HN.out
            have hB2 := HB.out
            have hA := HU.out
            obtain ⟨M, hM⟩ : ∃ M, M = A + bs := ⟨_, rfl⟩
            have n1 : (A : Int) + (bs : Int) = (M : Int) := by omega
            have n2 : IntKind.i64.wrap (M : Int) = (M : Int) := IntWalk.i64_in _ (by omega)
            have n3 : IntKind.i64.wrap ((A : Int) + (bs : Int)) = (M : Int) := by rw [n1]; exact n2
            obtain ⟨m1, m2, m3, m4, m5⟩ := HM.out
            have HMM := Lib.hid hM
            rcases Nat.lt_or_ge n B with hlt | hge
            · have i0 : ¬ ((B : Int) ≤ (n : Int)) := by omega
              have HT := Lib.hid hlt
              by_cases hMn : M < n
              · have i1 : (M : Int) < (n : Int) := by omega
                have c0 := sym_part hA.2.2.2.1 hn hA.2.2.2.2.1 hA.2.2.2.2.2.1 hB2.2.1 A M n hA.1 hM hMn (.inr ⟨rfl, by omega⟩)
                have HE : Hid (∀ w2 l', Arow w2 base g c n l' → Mid tkI l' bs (i + 1) → ∀ j, Srt tkI (seg l' (j * b2) b2)) := by
                  intro w2 l' h1 h2
                  rw [HB.out.1]
                  refine fst_all h2.1 ?_
                  rw [h1.len, Nat.succ_mul]
                  have := HU.out.1
                  have := HT.out
                  have := HU.out.2.1
                  omega
                clear hM hlt hA hn hB2 hMn
                go_wp2_with fail
                refine c0.mono ?_
                rintro e w2 ⟨rfl, l4, h1, h2, h3, h4⟩
                have H4 : Hid (Arow w2 base g c n l4 ∧ (∀ j, Srt tkI (seg l4 (j * b2) b2)) ∧ Stb tkI l4 l ∧ Only base Zr w w2) := ⟨h1, HE.out w2 l4 h1 h2, h3, HU.out.2.2.2.2.2.2.trans h4⟩
                clear c0 h1 h2 h3 h4
                go_wp2_with fail
                go_roundg (n - b2)
                case measure => have := HB.out; omega
                case rel => exact ⟨b2, l4, rfl, rfl, by have := HB.out; omega, by have := HB.out; have := HN.out; omega, H4.out⟩
              · have i1 : ¬ ((M : Int) < (n : Int)) := by omega
                have i2 : n ≤ M := by omega
                have H4 : Hid (∀ j, Srt tkI (seg l3 (j * b2) b2)) := by
                  rw [HB.out.1]
                  exact mid_last hA.2.2.2.2.1 (by rw [hA.2.2.2.1.len, ← hA.1]; omega)
                clear hM hlt hA hn hB2 hMn
                go_wp2_with fail
                go_roundg (n - b2)
                case measure => have := HB.out; omega
                case rel => exact ⟨b2, l3, rfl, rfl, by have := HB.out; omega, by have := HB.out; have := HN.out; omega, HU.out.2.2.2.1, H4.out, HU.out.2.2.2.2.2.1, HU.out.2.2.2.2.2.2⟩
            · have i0 : (B : Int) ≤ (n : Int) := by omega
              have c0 := sym_part hA.2.2.2.1 hn hA.2.2.2.2.1 hA.2.2.2.2.2.1 hB2.2.1 A M B hA.1 hM (by omega) (.inl ⟨by omega, hge⟩)
              obtain ⟨B3, hB3⟩ : ∃ B3, B3 = B + b2 := ⟨_, rfl⟩
              have n4 : (B : Int) + (b2 : Int) = (B3 : Int) := by omega
              have n5 : IntKind.i64.wrap (B3 : Int) = (B3 : Int) := IntWalk.i64_in _ (by omega)
              have n6 : IntKind.i64.wrap ((B : Int) + (b2 : Int)) = (B3 : Int) := by rw [n4]; exact n5
              have HE : Hid (B3 = B + b2 ∧ B ≤ n ∧ A < B) := ⟨hB3, hge, by omega⟩
              clear hM hA hn hB2 hge hB3
              go_wp2_with fail
              refine c0.mono ?_
              rintro e w2 ⟨rfl, l4, h1, h2, h3, h4⟩
              have H4 : Hid (Arow w2 base g c n l4 ∧ Mid tkI l4 bs (i + 1) ∧ Stb tkI l4 l ∧ Only base Zr w w2) := ⟨h1, h2, h3, HU.out.2.2.2.2.2.2.trans h4⟩
              clear c0 h1 h2 h3 h4
              go_wp2_with fail
              go_roundg (n - B)
              case measure => have := HE.out; omega
              case rel => exact ⟨i + 1, B, B3, l4, rfl, rfl, rfl, by rw [Nat.succ_mul, ← HU.out.1]; exact HU.out.2.1, by rw [HE.out.1, HB.out.1], HE.out.2.1, H4.out⟩
        · have i0 : ¬ ((bs : Int) < (n : Int)) := by omega
          have HE : Hid (Srt tkI l1) := by
            have := HS.out.2.2.2.1 0
            rw [Nat.zero_mul, seg_all (by rw [HS.out.2.2.1.len]; exact hge)] at this
            exact this
          go_wp2_with fail
          refine bodyPost_end (results_none rfl _ _ _) rfl ?_
          exact ⟨rfl, l1, HS.out.2.2.1, HE.out, HS.out.2.2.2.2.1, HS.out.2.2.2.2.2⟩
    · have i0 : (B : Int) ≤ (n : Int) := by omega
      have hA := HR.out
      have hn := HN.out
      have c0 := ins_part hA.2.2.2.1 hn hA.2.2.2.2.1 hA.2.2.2.2.2.1 A B hA.1 (.inl ⟨hA.2.1, hge⟩)
      obtain ⟨B3, hB3⟩ : ∃ B3, B3 = B + 20 := ⟨_, rfl⟩
      have n4 : (B : Int) + 20 = (B3 : Int) := by omega
      have n5 : IntKind.i64.wrap (B3 : Int) = (B3 : Int) := IntWalk.i64_in _ (by omega)
      have n6 : IntKind.i64.wrap ((B : Int) + 20) = (B3 : Int) := by rw [n4]; exact n5
      have HE : Hid (B3 = B + 20 ∧ B ≤ n ∧ A < B) := ⟨hB3, hge, by omega⟩
      clear hA hn hge hB3
      go_wp2_with fail
      refine c0.mono ?_
      rintro e w2 ⟨rfl, l4, h1, h2, h3, h4⟩
      have H4 : Hid (Arow w2 base g c n l4 ∧ Fst tkI l4 20 (k + 1) ∧ Stb tkI l4 l ∧ Only base Zr w w2) := ⟨h1, h2, h3, HR.out.2.2.2.2.2.2.trans h4⟩
      clear c0 h1 h2 h3 h4
      go_wp2_with fail
      go_roundg (n - B)
      case measure => have := HE.out; omega
      case rel => exact ⟨k + 1, B, B3, l4, rfl, rfl, rfl, by have := HR.out.1; have := HR.out.2.1; omega, HE.out.1, HE.out.2.1, H4.out⟩
set_option maxHeartbeats 1000000 in
theorem stable_nil (w : World) (v F : Value) : Calls Tryd.prog 39 #[v, .int .i64 0, F] w fun e w' => e = .returned (.tuple #[]) ∧ w' = w := by
  have c0 := insert_nil w v F 0 (by omega)
  go_enter Tryd.func39, Tryd.ntmps39
  go_wp2_with fail
  go_loopg [7, 8] 0 (fun gk s7 s8 wr => s7 = .int .i64 0 ∧ s8 = .int .i64 20 ∧ wr = w ∧ gk = 0)
  case atStart => exact ⟨rfl, rfl, rfl, rfl⟩
  case round =>
    obtain ⟨rfl, rfl, rfl, rfl⟩ := hrel
    go_wp2_with fail
    refine c0.mono ?_
    rintro e w2 ⟨rfl, rfl⟩
    clear c0
    go_wp2_with fail
    rename World => wo
    go_loopg [6] 0 (fun gk s6 wr => s6 = .int .i64 20 ∧ wr = wo ∧ gk = 0)
    case atStart => exact ⟨rfl, rfl, rfl⟩
    case round =>
      obtain ⟨rfl, rfl, rfl⟩ := hrel
      go_wp2_with fail
      refine bodyPost_end (results_none rfl _ _ _) rfl ?_
      exact ⟨rfl, rfl⟩
set_option maxHeartbeats 1000000 in
theorem ssf_walk (w : World) (A : Option Addr) (n c : Nat) (F : Value) (R : Ending → World → Prop) (h : Calls Tryd.prog 39 #[.slice A n c, .int .i64 (n : Int), F] w fun e w' => e = .returned (.tuple #[]) ∧ R e w') :
    Calls Tryd.prog 28 #[.slice A n c, F] w fun e w' => R e w' := by
  go_enter Tryd.func28, Tryd.ntmps28
  go_wp2_with fail
  refine h.mono ?_
  rintro e w2 ⟨rfl, h2⟩
  have H2 := Lib.hid h2
  clear h h2
  go_wp2_with fail
  refine bodyPost_end (results_none rfl _ _ _) rfl ?_
  exact H2.out
/-- slices.SortStableFunc on a row of timers. -/
theorem ssf_any (w : World) (base : Nat) (v : Value) (l : List Tm) (h : Trow w base v l) (ht : ∀ t ∈ l, ∃ x y, w.heap[t.blk]? = some (.cells (tmC t x y) 70 (0, 0))) (hn : l.length ≤ 1000000) :
    Calls Tryd.prog 28 #[v, .func (.func 29) #[] #[]] w fun e w' => e = .returned (.tuple #[]) ∧ ∃ l', Trow w' base v l' ∧ Srt tkI l' ∧ Stb tkI l' l ∧ Only base Zr w w' := by
  rcases h.2 with ⟨e1, e2⟩ | ⟨g, cap, cur, e1, e2, hh, hnc, hcm, hcs, hx⟩
  · subst e1
    obtain rfl : l = [] := List.eq_nil_of_length_eq_zero e2
    refine ssf_walk w none 0 0 _ _ ((stable_nil w _ _).mono ?_)
    rintro e w' ⟨rfl, rfl⟩
    exact ⟨rfl, rfl, [], h, srt_nil, Stb.refl _, Only.refl _ _ _⟩
  · subst e1
    have hA : Arow w base g cap l.length l := ⟨h, rfl, e2, ht⟩
    refine ssf_walk w _ _ _ _ _ ((stable_any w base g cap l.length l hA hn).mono ?_)
    rintro e w' ⟨rfl, l', h1, h2, h3, h4⟩
    refine ⟨rfl, rfl, l', ?_, h2, h3, h4⟩
    have := h1.row
    unfold Trow
    rw [h1.len]
    exact this
end Go.Proofs.YtnoglbceaibjeaaDoor
/- Contract: Next. -/
namespace Go.Proofs.YtnoglbceaibjeaaDoor
set_option linter.unusedVariables false
set_option linter.unusedSimpArgs false
open Go.ChangeShapes Go.WideShapes Go.ChangeAt Go.RowKit Go.Shelf

theorem TabAt.only {w w' : World} {base : Nat} {Z : Nat → TypeId → Prop} {T : List Nat} (h : TabAt 0 T w) (o : Only base Z w w') (hb : 0 < base) : TabAt 0 T w' := fun j hj => (o.low.cell (p := ⟨0, j, none⟩) hb).trans (h j hj)
theorem TabAt.grow {w w' : World} {T : List Nat} (h : TabAt 0 T w) (g : Grow w w') (hb : 0 < w.heap.size) : TabAt 0 T w' := fun j hj => (g.cell (p := ⟨0, j, none⟩) hb).trans (h j hj)
theorem ix7 (U : Nat → Nat) (i : Nat) (hi : i < 7) (w : World) : (Instr.index 66 (.agg #[.int .u64 (U 0 : Int), .int .u64 (U 1 : Int), .int .u64 (U 2 : Int), .int .u64 (U 3 : Int), .int .u64 (U 4 : Int), .int .u64 (U 5 : Int), .int .u64 (U 6 : Int)]) (.int .i64 (i : Int))).run Tryd.prog w = .ok (.int .u64 (U i : Int)) w := by
  rcases (show i = 0 ∨ i = 1 ∨ i = 2 ∨ i = 3 ∨ i = 4 ∨ i = 5 ∨ i = 6 by omega) with rfl | rfl | rfl | rfl | rfl | rfl | rfl <;> kernel_rfl
theorem lmin_uniq {L : List Tm} {m : Nat} (h1 : ∃ u ∈ L, u.tk = m) (h2 : ∀ u ∈ L, m ≤ u.tk) : lmin L = m := by
  obtain ⟨u, hu, rfl⟩ := h1
  obtain ⟨v, hv, hve⟩ := lmin_mem (List.ne_nil_of_mem hu)
  have := lmin_le u hu
  have := h2 v hv
  omega
/-- What the first i wheels tell. -/
def Acc (now : Nat) (L : List Tm) (i : Nat) (s2 s3 : Value) : Prop :=
  ((∀ u ∈ L, ¬ (plc now u.tk).1 < i) ∧ s2 = .int .i64 0 ∧ s3 = .bool false) ∨
  ∃ m : Nat, s2 = .int .i64 (m : Int) ∧ s3 = .bool true ∧ (∃ u ∈ L, u.tk = m) ∧ ∀ u ∈ L, (plc now u.tk).1 < i → m ≤ u.tk
def NextV (L : List Tm) : Value := if L = [] then .tuple #[.int .i64 0, .bool false] else .tuple #[.int .i64 (lmin L : Int), .bool true]

set_option maxRecDepth 10000 in
set_option maxHeartbeats 4000000 in
theorem wNext_any (w : World) (base wb mb now : Nat) (L : List Tm) (U : Nat → Nat) (h : Wst w base wb mb now L U) (hT : TabAt 0 Lib.deBruijn64tab w) :
    Calls Tryd.prog 18 #[.pointer (some ⟨wb, 0, none⟩)] w fun e w' => e = .returned (NextV L) ∧ Grow w w' := by
  have a0 : w.cell? ⟨wb, 898, none⟩ = some (.int .u64 (U 0 : Int)) := (h.whl.cellU (no := 0) (by omega)).1
  have a1 : w.cell? ⟨wb, 899, none⟩ = some (.int .u64 (U 1 : Int)) := (h.whl.cellU (no := 1) (by omega)).1
  have a2 : w.cell? ⟨wb, 900, none⟩ = some (.int .u64 (U 2 : Int)) := (h.whl.cellU (no := 2) (by omega)).1
  have a3 : w.cell? ⟨wb, 901, none⟩ = some (.int .u64 (U 3 : Int)) := (h.whl.cellU (no := 3) (by omega)).1
  have a4 : w.cell? ⟨wb, 902, none⟩ = some (.int .u64 (U 4 : Int)) := (h.whl.cellU (no := 4) (by omega)).1
  have a5 : w.cell? ⟨wb, 903, none⟩ = some (.int .u64 (U 5 : Int)) := (h.whl.cellU (no := 5) (by omega)).1
  have a6 : w.cell? ⟨wb, 904, none⟩ = some (.int .u64 (U 6 : Int)) := (h.whl.cellU (no := 6) (by omega)).1
  have h0 : 0 < w.heap.size := by
    obtain ⟨cs, hB, _⟩ := h.whl.blk
    exact Nat.lt_of_le_of_lt (Nat.zero_le _) (Array.getElem?_eq_some_iff.1 hB).1
  have HW := Lib.hid (And.intro h (And.intro hT h0))
  clear h hT h0
  go_enter Tryd.func18, Tryd.ntmps18
  go_wp2_with fail
  clear a0 a1 a2 a3 a4 a5 a6
  go_loopg [2, 3, 13] 7 (fun gk s2 s3 s13 wr => ∃ i : Nat, gk = 7 - i ∧ s13 = .int .i64 (i : Int) ∧ Hid (i ≤ 7 ∧ Acc now L i s2 s3 ∧ Grow w wr))
  case atStart => exact ⟨0, rfl, rfl, Nat.zero_le _, .inl ⟨fun u _ => Nat.not_lt_zero _, rfl, rfl⟩, Grow.refl _⟩
  case round =>
    obtain ⟨i, rfl, rfl, HR⟩ := hrel
    rcases Nat.lt_or_ge i 7 with hlt | hge
    · have i0 : (i : Int) < 7 := by omega
      have x0 := ix7 U i hlt wr
      have HI := Lib.hid hlt
      have n1 : (i : Int) + 1 = ((i + 1 : Nat) : Int) := by omega
      obtain ⟨i1, hi1⟩ : ∃ i1, i1 = i + 1 := ⟨_, rfl⟩
      rw [← hi1] at n1
      have n2 : IntKind.i64.wrap (i1 : Int) = (i1 : Int) := IntWalk.i64_in _ (by omega)
      have HI1 := Lib.hid hi1
      clear hlt hi1
      by_cases hU : U i = 0
      · have HA : Hid (∀ s2 s3, Acc now L i s2 s3 → Acc now L i1 s2 s3) := by
          have hn := wheel_none HW.out.1 HI.out hU
          intro s2 s3 h
          rw [HI1.out]
          rcases h with ⟨q1, q2, q3⟩ | ⟨m, q1, q2, q3, q4⟩
          · exact .inl ⟨fun u hu => by have := q1 u hu; have := hn u hu; omega, q2, q3⟩
          · exact .inr ⟨m, q1, q2, q3, fun u hu hlt => q4 u hu (by have := hn u hu; omega)⟩
        rw [hU] at x0
        clear hU
        go_wp2_with fail
        go_roundg (7 - i1)
        case measure => have := HI.out; have := HI1.out; omega
        case rel => exact ⟨i1, rfl, rfl, by have := HI.out; have := HI1.out; omega, HA.out _ _ HR.out.2.1, HR.out.2.2⟩
      · obtain ⟨k1, k2, k3⟩ := wheel_least HW.out.1 HI.out hU
        have hUlt := HW.out.1.uLt i HI.out
        obtain ⟨s, hs⟩ : ∃ s, s = low (U i) := ⟨_, rfl⟩
        rw [← hs] at k1 k2 k3
        obtain ⟨t0, r, hc⟩ : ∃ t0 r, chn now L i s = t0 :: r := by
          cases hcc : chn now L i s with
          | nil => exact absurd hcc k2
          | cons a l => exact ⟨a, l, rfl⟩
        obtain ⟨m0, hm0⟩ : ∃ m0, m0 = lmin (chn now L i s) := ⟨_, rfl⟩
        have hgr := HR.out.2.2
        have cT : ∀ wx, Grow w wx → Calls Tryd.prog 31 #[.int .u64 (U i : Int)] wx fun e w' => e = .returned (.int .i64 (s : Int)) ∧ w' = wx := by
          intro wx g
          rw [hs]
          exact tz_any (U i) hUlt wx fun _ => TabAt.grow HW.out.2.1 g HW.out.2.2
        have cL : ∀ wx, Grow w wx → Calls Tryd.prog 32 #[.pointer (some ⟨wb, 2 + i * 128 + s * 2, none⟩)] wx fun e w' => e = .returned (.int .i64 (m0 : Int)) ∧ w' = wx := by
          intro wx g
          have hch := HW.out.1.whl.chn i s HI.out k1
          rw [hm0]
          rw [hc] at hch ⊢
          refine least_any wx wb _ t0 r ?_ (hch.keep fun t ht => g.block _ ?_)
          · have := HW.out.1.whl.cellF HI.out k1
            rw [hc] at this
            have hb : wb < w.heap.size := by
              obtain ⟨cs, hB, _⟩ := HW.out.1.whl.blk
              exact (Array.getElem?_eq_some_iff.1 hB).1
            rw [show 2 + i * 128 + s * 2 = so i s from by unfold so; omega]
            exact (g.cell (p := ⟨wb, so i s, none⟩) hb).trans this
          · exact (HW.out.1.whl.ltT HI.out k1 (by rw [hc]; exact ht)).1
        have HA : Hid (∀ s2 s3, Acc now L i s2 s3 → (s3 = .bool false ∧ Acc now L i1 (.int .i64 (m0 : Int)) (.bool true)) ∨ ∃ m : Nat, s2 = .int .i64 (m : Int) ∧ s3 = .bool true ∧ (m0 < m → Acc now L i1 (.int .i64 (m0 : Int)) (.bool true)) ∧ (m ≤ m0 → Acc now L i1 s2 s3)) := by
          intro s2 s3 h
          have hmem : ∃ u ∈ L, u.tk = m0 := by
            obtain ⟨u, hu, he⟩ := lmin_mem k2
            exact ⟨u, (List.mem_filter.1 hu).1, by rw [hm0]; exact he⟩
          have hi : ∀ u ∈ L, (plc now u.tk).1 = i → m0 ≤ u.tk := by rw [hm0]; exact k3
          rw [HI1.out]
          rcases h with ⟨q1, q2, q3⟩ | ⟨m, q1, q2, q3, q4⟩
          · left
            refine ⟨q3, .inr ⟨m0, rfl, rfl, hmem, fun u hu hlt => ?_⟩⟩
            exact hi u hu (by have := q1 u hu; omega)
          · right
            refine ⟨m, q1, q2, fun hlt => .inr ⟨m0, rfl, rfl, hmem, fun u hu hl => ?_⟩, fun hle => .inr ⟨m, q1, q2, q3, fun u hu hl => ?_⟩⟩
            · rcases Nat.lt_or_ge (plc now u.tk).1 i with a | a
              · have := q4 u hu a; omega
              · exact hi u hu (by omega)
            · rcases Nat.lt_or_ge (plc now u.tk).1 i with a | a
              · exact q4 u hu a
              · have := hi u hu (by omega); omega
        have j1 : ¬ ((U i : Int) = 0) := by omega
        have j2 : ((U i : Int) == 0) = false := by rw [beq_eq_false_iff_ne]; exact j1
        have j3 : (s : Int) < 64 := by omega
        have c1 := cT wr.drew (hgr.trans (Grow.drew _))
        have c2 := cL wr.drew (hgr.trans (Grow.drew _))
        have HG := Lib.hid hgr
        generalize U i = ui at *
        clear hs hc hm0 k1 k2 k3 hUlt cT cL hgr hU
        go_upto_region 7 with fail
        clear x0
        refine wp_region_still_lit (by kernel_rfl) (by kernel_rfl) ?_
        still_step
        still_step
        still_step
        still_call c1
        still_step
        still_step
        still_step
        still_step
        still_call c2
        still_step
        refine wpStill_nil ?_
        clear c1 c2 j1 j2 j3
        rcases HA.out _ _ HR.out.2.1 with ⟨q1, q2⟩ | ⟨m, q1, q2, q3, q4⟩
        · subst q1
          have HQ := Lib.hid q2
          clear q2
          go_wp2_with fail
          go_roundg (7 - i1)
          case measure => have := HI.out; have := HI1.out; omega
          case rel => exact ⟨i1, rfl, rfl, by have := HI.out; have := HI1.out; omega, HQ.out, HG.out.trans (Grow.drew _)⟩
        · subst q1 q2
          by_cases hm : m0 < m
          · have HQ := Lib.hid (q3 hm)
            have t1 : (m0 : Int) < (m : Int) := by omega
            clear q3 q4
            go_wp2_with fail
            go_roundg (7 - i1)
            case measure => have := HI.out; have := HI1.out; omega
            case rel => exact ⟨i1, rfl, rfl, by have := HI.out; have := HI1.out; omega, HQ.out, HG.out.trans (Grow.drew _)⟩
          · have HQ := Lib.hid (q4 (by omega))
            have t1 : ¬ ((m0 : Int) < (m : Int)) := by omega
            have t2 : m ≤ m0 := by omega
            clear q3 q4
            go_wp2_with fail
            go_roundg (7 - i1)
            case measure => have := HI.out; have := HI1.out; omega
            case rel => exact ⟨i1, rfl, rfl, by have := HI.out; have := HI1.out; omega, HQ.out, HG.out.trans (Grow.drew _)⟩
    · obtain rfl : i = 7 := by have := HR.out.1; omega
      have hA := HR.out.2.1
      rcases hA with ⟨q1, q2, q3⟩ | ⟨m, q1, q2, q3, q4⟩
      · have HL : Hid (L = []) := by
          cases hL : L with
          | nil => rfl
          | cons a l =>
            have ha : a ∈ L := by rw [hL]; simp
            exact absurd (plc_lt HW.out.1.nowM (HW.out.1.tks a ha)).1 (q1 a ha)
        subst q2 q3
        clear q1
        go_wp2_with fail
        go_ret2
        exact ⟨by unfold NextV; rw [if_pos HL.out]; rfl, HR.out.2.2⟩
      · have HL : Hid (NextV L = .tuple #[.int .i64 (m : Int), .bool true]) := by
          have e := lmin_uniq q3 (fun u hu => q4 u hu (plc_lt HW.out.1.nowM (HW.out.1.tks u hu)).1)
          obtain ⟨u, hu, _⟩ := q3
          show _ = _
          unfold NextV
          rw [if_neg (List.ne_nil_of_mem hu), e]
        subst q1 q2
        clear q3 q4
        go_wp2_with fail
        go_ret2
        exact ⟨by rw [HL.out]; rfl, HR.out.2.2⟩
end Go.Proofs.YtnoglbceaibjeaaDoor
