/- The reference's Add: whether a piece is stale (one region, seven ways). -/
import Derived.Test.YtfjmcfkpbacicaaC18
namespace Go.Proofs.Ytfjmcfkpbacicaa
set_option linter.unusedVariables false
set_option linter.unusedSimpArgs false
open Go.ChangeShapes Go.WideShapes Go.ChangeAt Go.RowKit

/-- A load of a whole struct as one step, guarded or not. -/
theorem wpList_load_csg {P : Program} (w : World) {ops : Array Oper} {rest : List Oper} {o : Oper} {a : Act} {Q : Exit → Act → World → Prop} (ty : TypeId) (x : Operand) (ho : o.op = .load ty x) (hw : Region.wanted o (yielded ops a.tmps) = true)
    (b off : Nat) (hx : a.eval x = .pointer (some ⟨b, off, none⟩)) (cs : Array Value) (hc : ∀ j u, cs[j]? = some u → w.cell? ⟨b, off + j, none⟩ = some u) (d : TypeDesc)
    (hu : P.underlying ty = some d) (hd : (match d with | .struct _ | .array _ _ => true | _ => false) = true) (hi : (P.info? ty).map (·.size) = some cs.size)
    (h : wpList P ops Q rest (a.put o.dst (.agg cs)) w) : wpList P ops Q (o :: rest) a w := by
  refine wpList_step fun _ hK => ?_
  rw [if_pos hw]
  unfold Oper.wp execOp
  simp only [ho, hx, Instr.loadAt, Instr.sureAddr, Sem.run_bind, Sem.run_pure, Result.andThen_ok, run_load_cs w b off ty cs d hc hu hd hi]
  exact hK _ _ h
/-- The region ahead of the n-th statement's test. -/
def regS (n : Nat) (c : Code) : Code := match dropS n c with | .seq (.seq r _) _ => r | .seq r _ => r | c => c
set_option maxRecDepth 100000 in
set_option maxHeartbeats 4000000 in
theorem rReg17_a (Q : Exit → Go.Act → World → Prop) (W : World) (base pb g En : Nat) (x : Rf) (t : Wt) (st : Bool) (hb4 : RfBlk W g x) (hok : Rq.Ok base W ⟨x, t⟩) (b3 : W.cell? ⟨pb, 3, none⟩ = some (.bool true)) (hwo : WOk t) (hf : t.fin = 0) (hst : st = false)
    (u0 u1 u2 u3 u4 u6 u7 u8 u9 u10 u12 u14 u15 u16 u17 u18 u19 u20 u21 u22 u23 u24 u25 u26 u27 u28 u29 u30 u31 u32 u33 u34 u35 u36 u37 u38 u39 u40 u41 u42 u43 u44 u45 u46 u47 u48 u49 u50 u51 u52 u53 u54 u55 u56 u57 u58 u59 u60 u61 u62 u63 u64 u65 u66 u67 u68 u69 u70 u71 u72 u73 u74 u75 u76 u77 u78 u79 u80 u81 u82 u83 u84 u85 u86 u87 u88 u89 u90 u91 u92 u93 u94 u95 u96 u97 u98 u99 u100 u101 u102 u103 u104 u105 u106 u107 u108 u109 : Value) (hQ : ∀ (u110 u111 u112 u113 u114 u115 u116 u117 u118 u119 u120 u121 u122 u123 u124 u125 u126 u127 u128 u129 u130 u131 u132 u133 u134 u135 u136 u137 u138 u139 : Value) (w' : World), Grow W w' → Q Exit.normal ⟨#[u0, u1, u2, u3, u4, .pointer (some ⟨pb, 0, none⟩), u6, u7, u8, u9, u10, .int .i64 (En : Int), u12, .pointer (some ⟨g, 0, none⟩), u14, u15, u16, u17, u18, u19, u20, u21, u22, u23, u24, u25, u26, u27, u28, u29, u30, u31, u32, u33, u34, u35, u36, u37, u38, u39, u40, u41, u42, u43, u44, u45, u46, u47, u48, u49, u50, u51, u52, u53, u54, u55, u56, u57, u58, u59, u60, u61, u62, u63, u64, u65, u66, u67, u68, u69, u70, u71, u72, u73, u74, u75, u76, u77, u78, u79, u80, u81, u82, u83, u84, u85, u86, u87, u88, u89, u90, u91, u92, u93, u94, u95, u96, u97, u98, u99, u100, u101, u102, u103, u104, u105, u106, u107, u108, u109, u110, u111, u112, u113, u114, u115, u116, u117, u118, u119, u120, u121, u122, u123, u124, u125, u126, u127, u128, u129, u130, u131, u132, u133, u134, u135, u136, u137, u138, u139, .bool st, undef, undef, undef, undef, undef, undef, undef, undef, undef, undef, undef, undef, undef, undef, undef, undef, undef, undef, undef, undef, undef, undef, undef, undef, undef, undef, undef, undef, undef, undef, undef, undef, undef, undef, undef, undef, undef, undef, undef, undef, undef, undef, undef, undef, undef, undef, undef, undef, undef, undef, undef, undef, undef, undef, undef, undef, undef, undef, undef, undef, undef, undef, undef, undef, undef, undef, undef, undef, undef, undef, undef, undef, undef, undef, undef, undef, undef, undef, undef, undef, undef, undef, undef, undef, undef, undef, undef, undef, undef, undef, undef, undef, undef, undef, undef, undef, undef, undef, undef, undef, undef, undef, undef, undef, undef, undef, undef, undef, undef, undef, undef, undef, undef, undef, undef], []⟩ w') :
    Code.wp Try.prog (regS 11 ((Try.f15.body).getD .skip)) Q ⟨#[u0, u1, u2, u3, u4, .pointer (some ⟨pb, 0, none⟩), u6, u7, u8, u9, u10, .int .i64 (En : Int), u12, .pointer (some ⟨g, 0, none⟩), u14, u15, u16, u17, u18, u19, u20, u21, u22, u23, u24, u25, u26, u27, u28, u29, u30, u31, u32, u33, u34, u35, u36, u37, u38, u39, u40, u41, u42, u43, u44, u45, u46, u47, u48, u49, u50, u51, u52, u53, u54, u55, u56, u57, u58, u59, u60, u61, u62, u63, u64, u65, u66, u67, u68, u69, u70, u71, u72, u73, u74, u75, u76, u77, u78, u79, u80, u81, u82, u83, u84, u85, u86, u87, u88, u89, u90, u91, u92, u93, u94, u95, u96, u97, u98, u99, u100, u101, u102, u103, u104, u105, u106, u107, u108, u109, undef, undef, undef, undef, undef, undef, undef, undef, undef, undef, undef, undef, undef, undef, undef, undef, undef, undef, undef, undef, undef, undef, undef, undef, undef, undef, undef, undef, undef, undef, undef, undef, undef, undef, undef, undef, undef, undef, undef, undef, undef, undef, undef, undef, undef, undef, undef, undef, undef, undef, undef, undef, undef, undef, undef, undef, undef, undef, undef, undef, undef, undef, undef, undef, undef, undef, undef, undef, undef, undef, undef, undef, undef, undef, undef, undef, undef, undef, undef, undef, undef, undef, undef, undef, undef, undef, undef, undef, undef, undef, undef, undef, undef, undef, undef, undef, undef, undef, undef, undef, undef, undef, undef, undef, undef, undef, undef, undef, undef, undef, undef, undef, undef, undef, undef, undef, undef, undef, undef, undef, undef, undef, undef, undef, undef, undef, undef, undef, undef, undef, undef, undef, undef, undef, undef, undef, undef, undef, undef, undef, undef, undef, undef, undef, undef, undef], []⟩ W := by
  conv => arg 2; whnf
  conv => arg 4; arg 1; simp only []
  have HQ := Lib.hid hQ
  have HB := Lib.hid hb4
  have hlast := hok.last
  simp only at hlast
  obtain ⟨y0, y1, y2, y3, y4, y5, y6, y7, y8, y9, y10, y11, y12, y13, y14, y15, y16, y17, y18, y19⟩ := RfAt.cells0 hb4.cell
  rw [hlast] at y6
  have hl0 : lastI t = -1 := by unfold lastI; rw [if_pos hf]
  rw [hl0] at y6
  clear hQ hb4 hok hwo hlast hl0 hf
  go_wp2_with fail
  subst hst
  exact HQ.out _ _ _ _ _ _ _ _ _ _ _ _ _ _ _ _ _ _ _ _ _ _ _ _ _ _ _ _ _ _ _ (Grow.refl _)
set_option maxRecDepth 100000 in
set_option maxHeartbeats 4000000 in
theorem rReg17_b (Q : Exit → Go.Act → World → Prop) (W : World) (base pb g En : Nat) (x : Rf) (t : Wt) (st : Bool) (hb4 : RfBlk W g x) (hok : Rq.Ok base W ⟨x, t⟩) (b3 : W.cell? ⟨pb, 3, none⟩ = some (.bool true)) (hwo : WOk t) (hf : t.fin ≠ 0) (hst : st = decide (t.fin < En))
    (u0 u1 u2 u3 u4 u6 u7 u8 u9 u10 u12 u14 u15 u16 u17 u18 u19 u20 u21 u22 u23 u24 u25 u26 u27 u28 u29 u30 u31 u32 u33 u34 u35 u36 u37 u38 u39 u40 u41 u42 u43 u44 u45 u46 u47 u48 u49 u50 u51 u52 u53 u54 u55 u56 u57 u58 u59 u60 u61 u62 u63 u64 u65 u66 u67 u68 u69 u70 u71 u72 u73 u74 u75 u76 u77 u78 u79 u80 u81 u82 u83 u84 u85 u86 u87 u88 u89 u90 u91 u92 u93 u94 u95 u96 u97 u98 u99 u100 u101 u102 u103 u104 u105 u106 u107 u108 u109 : Value) (hQ : ∀ (u110 u111 u112 u113 u114 u115 u116 u117 u118 u119 u120 u121 u122 u123 u124 u125 u126 u127 u128 u129 u130 u131 u132 u133 u134 u135 u136 u137 u138 u139 : Value) (w' : World), Grow W w' → Q Exit.normal ⟨#[u0, u1, u2, u3, u4, .pointer (some ⟨pb, 0, none⟩), u6, u7, u8, u9, u10, .int .i64 (En : Int), u12, .pointer (some ⟨g, 0, none⟩), u14, u15, u16, u17, u18, u19, u20, u21, u22, u23, u24, u25, u26, u27, u28, u29, u30, u31, u32, u33, u34, u35, u36, u37, u38, u39, u40, u41, u42, u43, u44, u45, u46, u47, u48, u49, u50, u51, u52, u53, u54, u55, u56, u57, u58, u59, u60, u61, u62, u63, u64, u65, u66, u67, u68, u69, u70, u71, u72, u73, u74, u75, u76, u77, u78, u79, u80, u81, u82, u83, u84, u85, u86, u87, u88, u89, u90, u91, u92, u93, u94, u95, u96, u97, u98, u99, u100, u101, u102, u103, u104, u105, u106, u107, u108, u109, u110, u111, u112, u113, u114, u115, u116, u117, u118, u119, u120, u121, u122, u123, u124, u125, u126, u127, u128, u129, u130, u131, u132, u133, u134, u135, u136, u137, u138, u139, .bool st, undef, undef, undef, undef, undef, undef, undef, undef, undef, undef, undef, undef, undef, undef, undef, undef, undef, undef, undef, undef, undef, undef, undef, undef, undef, undef, undef, undef, undef, undef, undef, undef, undef, undef, undef, undef, undef, undef, undef, undef, undef, undef, undef, undef, undef, undef, undef, undef, undef, undef, undef, undef, undef, undef, undef, undef, undef, undef, undef, undef, undef, undef, undef, undef, undef, undef, undef, undef, undef, undef, undef, undef, undef, undef, undef, undef, undef, undef, undef, undef, undef, undef, undef, undef, undef, undef, undef, undef, undef, undef, undef, undef, undef, undef, undef, undef, undef, undef, undef, undef, undef, undef, undef, undef, undef, undef, undef, undef, undef, undef, undef, undef, undef, undef, undef], []⟩ w') :
    Code.wp Try.prog (regS 11 ((Try.f15.body).getD .skip)) Q ⟨#[u0, u1, u2, u3, u4, .pointer (some ⟨pb, 0, none⟩), u6, u7, u8, u9, u10, .int .i64 (En : Int), u12, .pointer (some ⟨g, 0, none⟩), u14, u15, u16, u17, u18, u19, u20, u21, u22, u23, u24, u25, u26, u27, u28, u29, u30, u31, u32, u33, u34, u35, u36, u37, u38, u39, u40, u41, u42, u43, u44, u45, u46, u47, u48, u49, u50, u51, u52, u53, u54, u55, u56, u57, u58, u59, u60, u61, u62, u63, u64, u65, u66, u67, u68, u69, u70, u71, u72, u73, u74, u75, u76, u77, u78, u79, u80, u81, u82, u83, u84, u85, u86, u87, u88, u89, u90, u91, u92, u93, u94, u95, u96, u97, u98, u99, u100, u101, u102, u103, u104, u105, u106, u107, u108, u109, undef, undef, undef, undef, undef, undef, undef, undef, undef, undef, undef, undef, undef, undef, undef, undef, undef, undef, undef, undef, undef, undef, undef, undef, undef, undef, undef, undef, undef, undef, undef, undef, undef, undef, undef, undef, undef, undef, undef, undef, undef, undef, undef, undef, undef, undef, undef, undef, undef, undef, undef, undef, undef, undef, undef, undef, undef, undef, undef, undef, undef, undef, undef, undef, undef, undef, undef, undef, undef, undef, undef, undef, undef, undef, undef, undef, undef, undef, undef, undef, undef, undef, undef, undef, undef, undef, undef, undef, undef, undef, undef, undef, undef, undef, undef, undef, undef, undef, undef, undef, undef, undef, undef, undef, undef, undef, undef, undef, undef, undef, undef, undef, undef, undef, undef, undef, undef, undef, undef, undef, undef, undef, undef, undef, undef, undef, undef, undef, undef, undef, undef, undef, undef, undef, undef, undef, undef, undef, undef, undef, undef, undef, undef, undef, undef, undef], []⟩ W := by
  conv => arg 2; whnf
  conv => arg 4; arg 1; simp only []
  have HQ := Lib.hid hQ
  have HB := Lib.hid hb4
  have hlast := hok.last
  simp only at hlast
  obtain ⟨y0, y1, y2, y3, y4, y5, y6, y7, y8, y9, y10, y11, y12, y13, y14, y15, y16, y17, y18, y19⟩ := RfAt.cells0 hb4.cell
  rw [hlast] at y6
  have hl0 : lastI t = (t.fin : Int) := by unfold lastI; rw [if_neg hf]
  have g0 : decide ((0 : Int) ≤ (t.fin : Int)) = true := decide_eq_true (by omega)
  rw [hl0] at y6
  by_cases hlt : t.fin < En
  case neg =>
    have hn0 : En ≤ t.fin := by omega
    have hn2 : ¬ (t.fin < En) := hlt
    have hn1 : decide ((t.fin : Int) < (En : Int)) = false := decide_eq_false (by omega)
    have hst2 : st = false := by rw [hst]; exact decide_eq_false hlt
    clear hst hQ hb4 hlt hok hwo hlast hl0 hf
    go_wp2_with fail
    subst hst2
    exact HQ.out _ _ _ _ _ _ _ _ _ _ _ _ _ _ _ _ _ _ _ _ _ _ _ _ _ _ _ _ _ _ _ (Grow.refl _)
  have hn1 : decide ((t.fin : Int) < (En : Int)) = true := decide_eq_true (by omega)
  have hn2 : ¬ (En ≤ t.fin) := by omega
  have hn3 : t.fin < En := hlt
  replace hst : st = true := by rw [hst]; exact decide_eq_true hlt
  clear hQ hb4 hok hwo hlast hl0 hf
  go_wp2_with fail
  subst hst
  exact HQ.out _ _ _ _ _ _ _ _ _ _ _ _ _ _ _ _ _ _ _ _ _ _ _ _ _ _ _ _ _ _ _ (Grow.refl _)
set_option maxRecDepth 100000 in
set_option maxHeartbeats 4000000 in
theorem rReg17_c (Q : Exit → Go.Act → World → Prop) (W : World) (base pb g En : Nat) (x : Rf) (t : Wt) (st : Bool) (hb4 : RfBlk W g x) (hok : Rq.Ok base W ⟨x, t⟩) (b3 : W.cell? ⟨pb, 3, none⟩ = some (.bool false)) (hwo : WOk t) (hf : t.fin = 0) (hlt : En < t.c.length) (hst : st = true)
    (u0 u1 u2 u3 u4 u6 u7 u8 u9 u10 u12 u14 u15 u16 u17 u18 u19 u20 u21 u22 u23 u24 u25 u26 u27 u28 u29 u30 u31 u32 u33 u34 u35 u36 u37 u38 u39 u40 u41 u42 u43 u44 u45 u46 u47 u48 u49 u50 u51 u52 u53 u54 u55 u56 u57 u58 u59 u60 u61 u62 u63 u64 u65 u66 u67 u68 u69 u70 u71 u72 u73 u74 u75 u76 u77 u78 u79 u80 u81 u82 u83 u84 u85 u86 u87 u88 u89 u90 u91 u92 u93 u94 u95 u96 u97 u98 u99 u100 u101 u102 u103 u104 u105 u106 u107 u108 u109 : Value) (hQ : ∀ (u110 u111 u112 u113 u114 u115 u116 u117 u118 u119 u120 u121 u122 u123 u124 u125 u126 u127 u128 u129 u130 u131 u132 u133 u134 u135 u136 u137 u138 u139 : Value) (w' : World), Grow W w' → Q Exit.normal ⟨#[u0, u1, u2, u3, u4, .pointer (some ⟨pb, 0, none⟩), u6, u7, u8, u9, u10, .int .i64 (En : Int), u12, .pointer (some ⟨g, 0, none⟩), u14, u15, u16, u17, u18, u19, u20, u21, u22, u23, u24, u25, u26, u27, u28, u29, u30, u31, u32, u33, u34, u35, u36, u37, u38, u39, u40, u41, u42, u43, u44, u45, u46, u47, u48, u49, u50, u51, u52, u53, u54, u55, u56, u57, u58, u59, u60, u61, u62, u63, u64, u65, u66, u67, u68, u69, u70, u71, u72, u73, u74, u75, u76, u77, u78, u79, u80, u81, u82, u83, u84, u85, u86, u87, u88, u89, u90, u91, u92, u93, u94, u95, u96, u97, u98, u99, u100, u101, u102, u103, u104, u105, u106, u107, u108, u109, u110, u111, u112, u113, u114, u115, u116, u117, u118, u119, u120, u121, u122, u123, u124, u125, u126, u127, u128, u129, u130, u131, u132, u133, u134, u135, u136, u137, u138, u139, .bool st, undef, undef, undef, undef, undef, undef, undef, undef, undef, undef, undef, undef, undef, undef, undef, undef, undef, undef, undef, undef, undef, undef, undef, undef, undef, undef, undef, undef, undef, undef, undef, undef, undef, undef, undef, undef, undef, undef, undef, undef, undef, undef, undef, undef, undef, undef, undef, undef, undef, undef, undef, undef, undef, undef, undef, undef, undef, undef, undef, undef, undef, undef, undef, undef, undef, undef, undef, undef, undef, undef, undef, undef, undef, undef, undef, undef, undef, undef, undef, undef, undef, undef, undef, undef, undef, undef, undef, undef, undef, undef, undef, undef, undef, undef, undef, undef, undef, undef, undef, undef, undef, undef, undef, undef, undef, undef, undef, undef, undef, undef, undef, undef, undef, undef, undef], []⟩ w') :
    Code.wp Try.prog (regS 11 ((Try.f15.body).getD .skip)) Q ⟨#[u0, u1, u2, u3, u4, .pointer (some ⟨pb, 0, none⟩), u6, u7, u8, u9, u10, .int .i64 (En : Int), u12, .pointer (some ⟨g, 0, none⟩), u14, u15, u16, u17, u18, u19, u20, u21, u22, u23, u24, u25, u26, u27, u28, u29, u30, u31, u32, u33, u34, u35, u36, u37, u38, u39, u40, u41, u42, u43, u44, u45, u46, u47, u48, u49, u50, u51, u52, u53, u54, u55, u56, u57, u58, u59, u60, u61, u62, u63, u64, u65, u66, u67, u68, u69, u70, u71, u72, u73, u74, u75, u76, u77, u78, u79, u80, u81, u82, u83, u84, u85, u86, u87, u88, u89, u90, u91, u92, u93, u94, u95, u96, u97, u98, u99, u100, u101, u102, u103, u104, u105, u106, u107, u108, u109, undef, undef, undef, undef, undef, undef, undef, undef, undef, undef, undef, undef, undef, undef, undef, undef, undef, undef, undef, undef, undef, undef, undef, undef, undef, undef, undef, undef, undef, undef, undef, undef, undef, undef, undef, undef, undef, undef, undef, undef, undef, undef, undef, undef, undef, undef, undef, undef, undef, undef, undef, undef, undef, undef, undef, undef, undef, undef, undef, undef, undef, undef, undef, undef, undef, undef, undef, undef, undef, undef, undef, undef, undef, undef, undef, undef, undef, undef, undef, undef, undef, undef, undef, undef, undef, undef, undef, undef, undef, undef, undef, undef, undef, undef, undef, undef, undef, undef, undef, undef, undef, undef, undef, undef, undef, undef, undef, undef, undef, undef, undef, undef, undef, undef, undef, undef, undef, undef, undef, undef, undef, undef, undef, undef, undef, undef, undef, undef, undef, undef, undef, undef, undef, undef, undef, undef, undef, undef, undef, undef, undef, undef, undef, undef, undef, undef], []⟩ W := by
  conv => arg 2; whnf
  conv => arg 4; arg 1; simp only []
  have HQ := Lib.hid hQ
  have HB := Lib.hid hb4
  have hlast := hok.last
  simp only at hlast
  obtain ⟨y0, y1, y2, y3, y4, y5, y6, y7, y8, y9, y10, y11, y12, y13, y14, y15, y16, y17, y18, y19⟩ := RfAt.cells0 hb4.cell
  rw [hlast] at y6
  have cT := rTop_any W base ⟨x, t⟩ hok hwo.last hwo.top
  unfold rfV at cT
  have hl0 : lastI t = -1 := by unfold lastI; rw [if_pos hf]
  rw [hl0] at y6
  have YG : Hid (∀ w', Grow W w' → w'.cell? ⟨g, 6, none⟩ = some (.int .i64 (-1))) := fun w' gr => by
    have h := (HB.out.grow gr).cell 6
    rw [← hl0, ← hlast]
    exact h
  have g1 : decide ((En : Int) < (t.c.length : Int)) = true := decide_eq_true (by omega)
  have hn1 : ¬ (t.c.length ≤ En) := by omega
  clear hQ hb4 hok hwo hlast hl0 hf
  clear y0 y1 y2 y3 y4 y5 y7 y8 y9 y10 y11 y12 y13 y14 y15 y16 y17 y18 y19
  go_wp2_with (refine wpList_load_csg W 78 (.tmp 13) rfl rfl g 0 rfl (rfA x) HB.out.at_ _ Try.underlying78 rfl (by kernel_rfl) ?_)
  refine cT.mono ?_
  rintro e w5 ⟨rfl, hg5⟩
  have H5 := Lib.hid hg5
  have y6' := YG.out w5 hg5
  clear hg5 cT y6
  go_wp2_with fail
  subst hst
  exact HQ.out _ _ _ _ _ _ _ _ _ _ _ _ _ _ _ _ _ _ _ _ _ _ _ _ _ _ _ _ _ _ _ H5.out
set_option maxRecDepth 100000 in
set_option maxHeartbeats 4000000 in
theorem rReg17_d (Q : Exit → Go.Act → World → Prop) (W : World) (base pb g En : Nat) (x : Rf) (t : Wt) (st : Bool) (hb4 : RfBlk W g x) (hok : Rq.Ok base W ⟨x, t⟩) (b3 : W.cell? ⟨pb, 3, none⟩ = some (.bool false)) (hwo : WOk t) (hf : t.fin = 0) (hlt : t.c.length ≤ En) (hst : st = false)
    (u0 u1 u2 u3 u4 u6 u7 u8 u9 u10 u12 u14 u15 u16 u17 u18 u19 u20 u21 u22 u23 u24 u25 u26 u27 u28 u29 u30 u31 u32 u33 u34 u35 u36 u37 u38 u39 u40 u41 u42 u43 u44 u45 u46 u47 u48 u49 u50 u51 u52 u53 u54 u55 u56 u57 u58 u59 u60 u61 u62 u63 u64 u65 u66 u67 u68 u69 u70 u71 u72 u73 u74 u75 u76 u77 u78 u79 u80 u81 u82 u83 u84 u85 u86 u87 u88 u89 u90 u91 u92 u93 u94 u95 u96 u97 u98 u99 u100 u101 u102 u103 u104 u105 u106 u107 u108 u109 : Value) (hQ : ∀ (u110 u111 u112 u113 u114 u115 u116 u117 u118 u119 u120 u121 u122 u123 u124 u125 u126 u127 u128 u129 u130 u131 u132 u133 u134 u135 u136 u137 u138 u139 : Value) (w' : World), Grow W w' → Q Exit.normal ⟨#[u0, u1, u2, u3, u4, .pointer (some ⟨pb, 0, none⟩), u6, u7, u8, u9, u10, .int .i64 (En : Int), u12, .pointer (some ⟨g, 0, none⟩), u14, u15, u16, u17, u18, u19, u20, u21, u22, u23, u24, u25, u26, u27, u28, u29, u30, u31, u32, u33, u34, u35, u36, u37, u38, u39, u40, u41, u42, u43, u44, u45, u46, u47, u48, u49, u50, u51, u52, u53, u54, u55, u56, u57, u58, u59, u60, u61, u62, u63, u64, u65, u66, u67, u68, u69, u70, u71, u72, u73, u74, u75, u76, u77, u78, u79, u80, u81, u82, u83, u84, u85, u86, u87, u88, u89, u90, u91, u92, u93, u94, u95, u96, u97, u98, u99, u100, u101, u102, u103, u104, u105, u106, u107, u108, u109, u110, u111, u112, u113, u114, u115, u116, u117, u118, u119, u120, u121, u122, u123, u124, u125, u126, u127, u128, u129, u130, u131, u132, u133, u134, u135, u136, u137, u138, u139, .bool st, undef, undef, undef, undef, undef, undef, undef, undef, undef, undef, undef, undef, undef, undef, undef, undef, undef, undef, undef, undef, undef, undef, undef, undef, undef, undef, undef, undef, undef, undef, undef, undef, undef, undef, undef, undef, undef, undef, undef, undef, undef, undef, undef, undef, undef, undef, undef, undef, undef, undef, undef, undef, undef, undef, undef, undef, undef, undef, undef, undef, undef, undef, undef, undef, undef, undef, undef, undef, undef, undef, undef, undef, undef, undef, undef, undef, undef, undef, undef, undef, undef, undef, undef, undef, undef, undef, undef, undef, undef, undef, undef, undef, undef, undef, undef, undef, undef, undef, undef, undef, undef, undef, undef, undef, undef, undef, undef, undef, undef, undef, undef, undef, undef, undef, undef], []⟩ w') :
    Code.wp Try.prog (regS 11 ((Try.f15.body).getD .skip)) Q ⟨#[u0, u1, u2, u3, u4, .pointer (some ⟨pb, 0, none⟩), u6, u7, u8, u9, u10, .int .i64 (En : Int), u12, .pointer (some ⟨g, 0, none⟩), u14, u15, u16, u17, u18, u19, u20, u21, u22, u23, u24, u25, u26, u27, u28, u29, u30, u31, u32, u33, u34, u35, u36, u37, u38, u39, u40, u41, u42, u43, u44, u45, u46, u47, u48, u49, u50, u51, u52, u53, u54, u55, u56, u57, u58, u59, u60, u61, u62, u63, u64, u65, u66, u67, u68, u69, u70, u71, u72, u73, u74, u75, u76, u77, u78, u79, u80, u81, u82, u83, u84, u85, u86, u87, u88, u89, u90, u91, u92, u93, u94, u95, u96, u97, u98, u99, u100, u101, u102, u103, u104, u105, u106, u107, u108, u109, undef, undef, undef, undef, undef, undef, undef, undef, undef, undef, undef, undef, undef, undef, undef, undef, undef, undef, undef, undef, undef, undef, undef, undef, undef, undef, undef, undef, undef, undef, undef, undef, undef, undef, undef, undef, undef, undef, undef, undef, undef, undef, undef, undef, undef, undef, undef, undef, undef, undef, undef, undef, undef, undef, undef, undef, undef, undef, undef, undef, undef, undef, undef, undef, undef, undef, undef, undef, undef, undef, undef, undef, undef, undef, undef, undef, undef, undef, undef, undef, undef, undef, undef, undef, undef, undef, undef, undef, undef, undef, undef, undef, undef, undef, undef, undef, undef, undef, undef, undef, undef, undef, undef, undef, undef, undef, undef, undef, undef, undef, undef, undef, undef, undef, undef, undef, undef, undef, undef, undef, undef, undef, undef, undef, undef, undef, undef, undef, undef, undef, undef, undef, undef, undef, undef, undef, undef, undef, undef, undef, undef, undef, undef, undef, undef, undef], []⟩ W := by
  conv => arg 2; whnf
  conv => arg 4; arg 1; simp only []
  have HQ := Lib.hid hQ
  have HB := Lib.hid hb4
  have hlast := hok.last
  simp only at hlast
  obtain ⟨y0, y1, y2, y3, y4, y5, y6, y7, y8, y9, y10, y11, y12, y13, y14, y15, y16, y17, y18, y19⟩ := RfAt.cells0 hb4.cell
  rw [hlast] at y6
  have cT := rTop_any W base ⟨x, t⟩ hok hwo.last hwo.top
  unfold rfV at cT
  have hl0 : lastI t = -1 := by unfold lastI; rw [if_pos hf]
  rw [hl0] at y6
  have YG : Hid (∀ w', Grow W w' → w'.cell? ⟨g, 6, none⟩ = some (.int .i64 (-1))) := fun w' gr => by
    have h := (HB.out.grow gr).cell 6
    rw [← hl0, ← hlast]
    exact h
  have g1 : decide ((En : Int) < (t.c.length : Int)) = false := decide_eq_false (by omega)
  have hn1 : ¬ (En < t.c.length) := by omega
  clear hQ hb4 hok hwo hlast hl0 hf
  clear y0 y1 y2 y3 y4 y5 y7 y8 y9 y10 y11 y12 y13 y14 y15 y16 y17 y18 y19
  go_wp2_with (refine wpList_load_csg W 78 (.tmp 13) rfl rfl g 0 rfl (rfA x) HB.out.at_ _ Try.underlying78 rfl (by kernel_rfl) ?_)
  refine cT.mono ?_
  rintro e w5 ⟨rfl, hg5⟩
  have H5 := Lib.hid hg5
  have y6' := YG.out w5 hg5
  clear hg5 cT y6
  go_wp2_with fail
  subst hst
  exact HQ.out _ _ _ _ _ _ _ _ _ _ _ _ _ _ _ _ _ _ _ _ _ _ _ _ _ _ _ _ _ _ _ H5.out
set_option maxRecDepth 100000 in
set_option maxHeartbeats 4000000 in
theorem rReg17_e (Q : Exit → Go.Act → World → Prop) (W : World) (base pb g En : Nat) (x : Rf) (t : Wt) (st : Bool) (hb4 : RfBlk W g x) (hok : Rq.Ok base W ⟨x, t⟩) (b3 : W.cell? ⟨pb, 3, none⟩ = some (.bool false)) (hwo : WOk t) (hf : t.fin ≠ 0) (hc3 : En < t.fin) (hst : st = true)
    (u0 u1 u2 u3 u4 u6 u7 u8 u9 u10 u12 u14 u15 u16 u17 u18 u19 u20 u21 u22 u23 u24 u25 u26 u27 u28 u29 u30 u31 u32 u33 u34 u35 u36 u37 u38 u39 u40 u41 u42 u43 u44 u45 u46 u47 u48 u49 u50 u51 u52 u53 u54 u55 u56 u57 u58 u59 u60 u61 u62 u63 u64 u65 u66 u67 u68 u69 u70 u71 u72 u73 u74 u75 u76 u77 u78 u79 u80 u81 u82 u83 u84 u85 u86 u87 u88 u89 u90 u91 u92 u93 u94 u95 u96 u97 u98 u99 u100 u101 u102 u103 u104 u105 u106 u107 u108 u109 : Value) (hQ : ∀ (u110 u111 u112 u113 u114 u115 u116 u117 u118 u119 u120 u121 u122 u123 u124 u125 u126 u127 u128 u129 u130 u131 u132 u133 u134 u135 u136 u137 u138 u139 : Value) (w' : World), Grow W w' → Q Exit.normal ⟨#[u0, u1, u2, u3, u4, .pointer (some ⟨pb, 0, none⟩), u6, u7, u8, u9, u10, .int .i64 (En : Int), u12, .pointer (some ⟨g, 0, none⟩), u14, u15, u16, u17, u18, u19, u20, u21, u22, u23, u24, u25, u26, u27, u28, u29, u30, u31, u32, u33, u34, u35, u36, u37, u38, u39, u40, u41, u42, u43, u44, u45, u46, u47, u48, u49, u50, u51, u52, u53, u54, u55, u56, u57, u58, u59, u60, u61, u62, u63, u64, u65, u66, u67, u68, u69, u70, u71, u72, u73, u74, u75, u76, u77, u78, u79, u80, u81, u82, u83, u84, u85, u86, u87, u88, u89, u90, u91, u92, u93, u94, u95, u96, u97, u98, u99, u100, u101, u102, u103, u104, u105, u106, u107, u108, u109, u110, u111, u112, u113, u114, u115, u116, u117, u118, u119, u120, u121, u122, u123, u124, u125, u126, u127, u128, u129, u130, u131, u132, u133, u134, u135, u136, u137, u138, u139, .bool st, undef, undef, undef, undef, undef, undef, undef, undef, undef, undef, undef, undef, undef, undef, undef, undef, undef, undef, undef, undef, undef, undef, undef, undef, undef, undef, undef, undef, undef, undef, undef, undef, undef, undef, undef, undef, undef, undef, undef, undef, undef, undef, undef, undef, undef, undef, undef, undef, undef, undef, undef, undef, undef, undef, undef, undef, undef, undef, undef, undef, undef, undef, undef, undef, undef, undef, undef, undef, undef, undef, undef, undef, undef, undef, undef, undef, undef, undef, undef, undef, undef, undef, undef, undef, undef, undef, undef, undef, undef, undef, undef, undef, undef, undef, undef, undef, undef, undef, undef, undef, undef, undef, undef, undef, undef, undef, undef, undef, undef, undef, undef, undef, undef, undef, undef], []⟩ w') :
    Code.wp Try.prog (regS 11 ((Try.f15.body).getD .skip)) Q ⟨#[u0, u1, u2, u3, u4, .pointer (some ⟨pb, 0, none⟩), u6, u7, u8, u9, u10, .int .i64 (En : Int), u12, .pointer (some ⟨g, 0, none⟩), u14, u15, u16, u17, u18, u19, u20, u21, u22, u23, u24, u25, u26, u27, u28, u29, u30, u31, u32, u33, u34, u35, u36, u37, u38, u39, u40, u41, u42, u43, u44, u45, u46, u47, u48, u49, u50, u51, u52, u53, u54, u55, u56, u57, u58, u59, u60, u61, u62, u63, u64, u65, u66, u67, u68, u69, u70, u71, u72, u73, u74, u75, u76, u77, u78, u79, u80, u81, u82, u83, u84, u85, u86, u87, u88, u89, u90, u91, u92, u93, u94, u95, u96, u97, u98, u99, u100, u101, u102, u103, u104, u105, u106, u107, u108, u109, undef, undef, undef, undef, undef, undef, undef, undef, undef, undef, undef, undef, undef, undef, undef, undef, undef, undef, undef, undef, undef, undef, undef, undef, undef, undef, undef, undef, undef, undef, undef, undef, undef, undef, undef, undef, undef, undef, undef, undef, undef, undef, undef, undef, undef, undef, undef, undef, undef, undef, undef, undef, undef, undef, undef, undef, undef, undef, undef, undef, undef, undef, undef, undef, undef, undef, undef, undef, undef, undef, undef, undef, undef, undef, undef, undef, undef, undef, undef, undef, undef, undef, undef, undef, undef, undef, undef, undef, undef, undef, undef, undef, undef, undef, undef, undef, undef, undef, undef, undef, undef, undef, undef, undef, undef, undef, undef, undef, undef, undef, undef, undef, undef, undef, undef, undef, undef, undef, undef, undef, undef, undef, undef, undef, undef, undef, undef, undef, undef, undef, undef, undef, undef, undef, undef, undef, undef, undef, undef, undef, undef, undef, undef, undef, undef, undef], []⟩ W := by
  conv => arg 2; whnf
  conv => arg 4; arg 1; simp only []
  have HQ := Lib.hid hQ
  have HB := Lib.hid hb4
  have hlast := hok.last
  simp only at hlast
  obtain ⟨y0, y1, y2, y3, y4, y5, y6, y7, y8, y9, y10, y11, y12, y13, y14, y15, y16, y17, y18, y19⟩ := RfAt.cells0 hb4.cell
  rw [hlast] at y6
  have cT := rTop_any W base ⟨x, t⟩ hok hwo.last hwo.top
  unfold rfV at cT
  have hl0 : lastI t = (t.fin : Int) := by unfold lastI; rw [if_neg hf]
  have g0 : decide ((0 : Int) ≤ (t.fin : Int)) = true := decide_eq_true (by omega)
  rw [hl0] at y6
  have hwl := hwo.fin hf
  dsimp only at cT
  rw [hwl] at cT
  have YG : Hid (∀ w', Grow W w' → w'.cell? ⟨g, 6, none⟩ = some (.int .i64 (t.fin : Int))) := fun w' gr => by
    have h := (HB.out.grow gr).cell 6
    rw [← hl0, ← hlast]
    exact h
  have g1 : decide ((En : Int) < (t.fin : Int)) = true := decide_eq_true (by omega)
  have g2 : ((t.fin : Int) != (En : Int)) = true := by rw [bne_iff_ne]; omega
  have g3 : decide ((t.fin : Int) < (En : Int)) = false := decide_eq_false (by omega)
  have hn0 : ¬ (t.fin ≤ En) := by omega
  have hn1 : En < t.fin := by omega
  have hn2 : En ≤ t.fin := by omega
  clear hc3
  clear hQ hb4 hok hwo hlast hl0 hf
  clear y0 y1 y2 y3 y4 y5 y7 y8 y9 y10 y11 y12 y13 y14 y15 y16 y17 y18 y19
  go_wp2_with (refine wpList_load_csg W 78 (.tmp 13) rfl rfl g 0 rfl (rfA x) HB.out.at_ _ Try.underlying78 rfl (by kernel_rfl) ?_)
  refine cT.mono ?_
  rintro e w5 ⟨rfl, hg5⟩
  have H5 := Lib.hid hg5
  have y6' := YG.out w5 hg5
  clear hg5 cT y6
  go_wp2_with fail
  subst hst
  exact HQ.out _ _ _ _ _ _ _ _ _ _ _ _ _ _ _ _ _ _ _ _ _ _ _ _ _ _ _ _ _ _ _ H5.out
set_option maxRecDepth 100000 in
set_option maxHeartbeats 4000000 in
theorem rReg17_f (Q : Exit → Go.Act → World → Prop) (W : World) (base pb g En : Nat) (x : Rf) (t : Wt) (st : Bool) (hb4 : RfBlk W g x) (hok : Rq.Ok base W ⟨x, t⟩) (b3 : W.cell? ⟨pb, 3, none⟩ = some (.bool false)) (hwo : WOk t) (hf : t.fin ≠ 0) (hc3 : En = t.fin) (hst : st = false)
    (u0 u1 u2 u3 u4 u6 u7 u8 u9 u10 u12 u14 u15 u16 u17 u18 u19 u20 u21 u22 u23 u24 u25 u26 u27 u28 u29 u30 u31 u32 u33 u34 u35 u36 u37 u38 u39 u40 u41 u42 u43 u44 u45 u46 u47 u48 u49 u50 u51 u52 u53 u54 u55 u56 u57 u58 u59 u60 u61 u62 u63 u64 u65 u66 u67 u68 u69 u70 u71 u72 u73 u74 u75 u76 u77 u78 u79 u80 u81 u82 u83 u84 u85 u86 u87 u88 u89 u90 u91 u92 u93 u94 u95 u96 u97 u98 u99 u100 u101 u102 u103 u104 u105 u106 u107 u108 u109 : Value) (hQ : ∀ (u110 u111 u112 u113 u114 u115 u116 u117 u118 u119 u120 u121 u122 u123 u124 u125 u126 u127 u128 u129 u130 u131 u132 u133 u134 u135 u136 u137 u138 u139 : Value) (w' : World), Grow W w' → Q Exit.normal ⟨#[u0, u1, u2, u3, u4, .pointer (some ⟨pb, 0, none⟩), u6, u7, u8, u9, u10, .int .i64 (En : Int), u12, .pointer (some ⟨g, 0, none⟩), u14, u15, u16, u17, u18, u19, u20, u21, u22, u23, u24, u25, u26, u27, u28, u29, u30, u31, u32, u33, u34, u35, u36, u37, u38, u39, u40, u41, u42, u43, u44, u45, u46, u47, u48, u49, u50, u51, u52, u53, u54, u55, u56, u57, u58, u59, u60, u61, u62, u63, u64, u65, u66, u67, u68, u69, u70, u71, u72, u73, u74, u75, u76, u77, u78, u79, u80, u81, u82, u83, u84, u85, u86, u87, u88, u89, u90, u91, u92, u93, u94, u95, u96, u97, u98, u99, u100, u101, u102, u103, u104, u105, u106, u107, u108, u109, u110, u111, u112, u113, u114, u115, u116, u117, u118, u119, u120, u121, u122, u123, u124, u125, u126, u127, u128, u129, u130, u131, u132, u133, u134, u135, u136, u137, u138, u139, .bool st, undef, undef, undef, undef, undef, undef, undef, undef, undef, undef, undef, undef, undef, undef, undef, undef, undef, undef, undef, undef, undef, undef, undef, undef, undef, undef, undef, undef, undef, undef, undef, undef, undef, undef, undef, undef, undef, undef, undef, undef, undef, undef, undef, undef, undef, undef, undef, undef, undef, undef, undef, undef, undef, undef, undef, undef, undef, undef, undef, undef, undef, undef, undef, undef, undef, undef, undef, undef, undef, undef, undef, undef, undef, undef, undef, undef, undef, undef, undef, undef, undef, undef, undef, undef, undef, undef, undef, undef, undef, undef, undef, undef, undef, undef, undef, undef, undef, undef, undef, undef, undef, undef, undef, undef, undef, undef, undef, undef, undef, undef, undef, undef, undef, undef, undef], []⟩ w') :
    Code.wp Try.prog (regS 11 ((Try.f15.body).getD .skip)) Q ⟨#[u0, u1, u2, u3, u4, .pointer (some ⟨pb, 0, none⟩), u6, u7, u8, u9, u10, .int .i64 (En : Int), u12, .pointer (some ⟨g, 0, none⟩), u14, u15, u16, u17, u18, u19, u20, u21, u22, u23, u24, u25, u26, u27, u28, u29, u30, u31, u32, u33, u34, u35, u36, u37, u38, u39, u40, u41, u42, u43, u44, u45, u46, u47, u48, u49, u50, u51, u52, u53, u54, u55, u56, u57, u58, u59, u60, u61, u62, u63, u64, u65, u66, u67, u68, u69, u70, u71, u72, u73, u74, u75, u76, u77, u78, u79, u80, u81, u82, u83, u84, u85, u86, u87, u88, u89, u90, u91, u92, u93, u94, u95, u96, u97, u98, u99, u100, u101, u102, u103, u104, u105, u106, u107, u108, u109, undef, undef, undef, undef, undef, undef, undef, undef, undef, undef, undef, undef, undef, undef, undef, undef, undef, undef, undef, undef, undef, undef, undef, undef, undef, undef, undef, undef, undef, undef, undef, undef, undef, undef, undef, undef, undef, undef, undef, undef, undef, undef, undef, undef, undef, undef, undef, undef, undef, undef, undef, undef, undef, undef, undef, undef, undef, undef, undef, undef, undef, undef, undef, undef, undef, undef, undef, undef, undef, undef, undef, undef, undef, undef, undef, undef, undef, undef, undef, undef, undef, undef, undef, undef, undef, undef, undef, undef, undef, undef, undef, undef, undef, undef, undef, undef, undef, undef, undef, undef, undef, undef, undef, undef, undef, undef, undef, undef, undef, undef, undef, undef, undef, undef, undef, undef, undef, undef, undef, undef, undef, undef, undef, undef, undef, undef, undef, undef, undef, undef, undef, undef, undef, undef, undef, undef, undef, undef, undef, undef, undef, undef, undef, undef, undef, undef], []⟩ W := by
  conv => arg 2; whnf
  conv => arg 4; arg 1; simp only []
  have HQ := Lib.hid hQ
  have HB := Lib.hid hb4
  have hlast := hok.last
  simp only at hlast
  obtain ⟨y0, y1, y2, y3, y4, y5, y6, y7, y8, y9, y10, y11, y12, y13, y14, y15, y16, y17, y18, y19⟩ := RfAt.cells0 hb4.cell
  rw [hlast] at y6
  have cT := rTop_any W base ⟨x, t⟩ hok hwo.last hwo.top
  unfold rfV at cT
  have hl0 : lastI t = (t.fin : Int) := by unfold lastI; rw [if_neg hf]
  have g0 : decide ((0 : Int) ≤ (t.fin : Int)) = true := decide_eq_true (by omega)
  rw [hl0] at y6
  have hwl := hwo.fin hf
  dsimp only at cT
  rw [hwl] at cT
  have YG : Hid (∀ w', Grow W w' → w'.cell? ⟨g, 6, none⟩ = some (.int .i64 (t.fin : Int))) := fun w' gr => by
    have h := (HB.out.grow gr).cell 6
    rw [← hl0, ← hlast]
    exact h
  have g1 : decide ((En : Int) < (t.fin : Int)) = false := decide_eq_false (by omega)
  have g2 : ((t.fin : Int) != (En : Int)) = false := by rw [bne_eq_false_iff_eq]; omega
  have g3 : decide ((t.fin : Int) < (En : Int)) = false := decide_eq_false (by omega)
  have hn0 : t.fin ≤ En := by omega
  have hn1 : En ≤ t.fin := by omega
  have hn2 : ¬ (t.fin < En) := by omega
  have hn3 : ¬ (En < t.fin) := by omega
  clear hc3
  clear hQ hb4 hok hwo hlast hl0 hf
  clear y0 y1 y2 y3 y4 y5 y7 y8 y9 y10 y11 y12 y13 y14 y15 y16 y17 y18 y19
  go_wp2_with (refine wpList_load_csg W 78 (.tmp 13) rfl rfl g 0 rfl (rfA x) HB.out.at_ _ Try.underlying78 rfl (by kernel_rfl) ?_)
  refine cT.mono ?_
  rintro e w5 ⟨rfl, hg5⟩
  have H5 := Lib.hid hg5
  have y6' := YG.out w5 hg5
  clear hg5 cT y6
  go_wp2_with fail
  subst hst
  exact HQ.out _ _ _ _ _ _ _ _ _ _ _ _ _ _ _ _ _ _ _ _ _ _ _ _ _ _ _ _ _ _ _ H5.out
set_option maxRecDepth 100000 in
set_option maxHeartbeats 4000000 in
theorem rReg17_g (Q : Exit → Go.Act → World → Prop) (W : World) (base pb g En : Nat) (x : Rf) (t : Wt) (st : Bool) (hb4 : RfBlk W g x) (hok : Rq.Ok base W ⟨x, t⟩) (b3 : W.cell? ⟨pb, 3, none⟩ = some (.bool false)) (hwo : WOk t) (hf : t.fin ≠ 0) (hc3 : t.fin < En) (hst : st = true)
    (u0 u1 u2 u3 u4 u6 u7 u8 u9 u10 u12 u14 u15 u16 u17 u18 u19 u20 u21 u22 u23 u24 u25 u26 u27 u28 u29 u30 u31 u32 u33 u34 u35 u36 u37 u38 u39 u40 u41 u42 u43 u44 u45 u46 u47 u48 u49 u50 u51 u52 u53 u54 u55 u56 u57 u58 u59 u60 u61 u62 u63 u64 u65 u66 u67 u68 u69 u70 u71 u72 u73 u74 u75 u76 u77 u78 u79 u80 u81 u82 u83 u84 u85 u86 u87 u88 u89 u90 u91 u92 u93 u94 u95 u96 u97 u98 u99 u100 u101 u102 u103 u104 u105 u106 u107 u108 u109 : Value) (hQ : ∀ (u110 u111 u112 u113 u114 u115 u116 u117 u118 u119 u120 u121 u122 u123 u124 u125 u126 u127 u128 u129 u130 u131 u132 u133 u134 u135 u136 u137 u138 u139 : Value) (w' : World), Grow W w' → Q Exit.normal ⟨#[u0, u1, u2, u3, u4, .pointer (some ⟨pb, 0, none⟩), u6, u7, u8, u9, u10, .int .i64 (En : Int), u12, .pointer (some ⟨g, 0, none⟩), u14, u15, u16, u17, u18, u19, u20, u21, u22, u23, u24, u25, u26, u27, u28, u29, u30, u31, u32, u33, u34, u35, u36, u37, u38, u39, u40, u41, u42, u43, u44, u45, u46, u47, u48, u49, u50, u51, u52, u53, u54, u55, u56, u57, u58, u59, u60, u61, u62, u63, u64, u65, u66, u67, u68, u69, u70, u71, u72, u73, u74, u75, u76, u77, u78, u79, u80, u81, u82, u83, u84, u85, u86, u87, u88, u89, u90, u91, u92, u93, u94, u95, u96, u97, u98, u99, u100, u101, u102, u103, u104, u105, u106, u107, u108, u109, u110, u111, u112, u113, u114, u115, u116, u117, u118, u119, u120, u121, u122, u123, u124, u125, u126, u127, u128, u129, u130, u131, u132, u133, u134, u135, u136, u137, u138, u139, .bool st, undef, undef, undef, undef, undef, undef, undef, undef, undef, undef, undef, undef, undef, undef, undef, undef, undef, undef, undef, undef, undef, undef, undef, undef, undef, undef, undef, undef, undef, undef, undef, undef, undef, undef, undef, undef, undef, undef, undef, undef, undef, undef, undef, undef, undef, undef, undef, undef, undef, undef, undef, undef, undef, undef, undef, undef, undef, undef, undef, undef, undef, undef, undef, undef, undef, undef, undef, undef, undef, undef, undef, undef, undef, undef, undef, undef, undef, undef, undef, undef, undef, undef, undef, undef, undef, undef, undef, undef, undef, undef, undef, undef, undef, undef, undef, undef, undef, undef, undef, undef, undef, undef, undef, undef, undef, undef, undef, undef, undef, undef, undef, undef, undef, undef, undef], []⟩ w') :
    Code.wp Try.prog (regS 11 ((Try.f15.body).getD .skip)) Q ⟨#[u0, u1, u2, u3, u4, .pointer (some ⟨pb, 0, none⟩), u6, u7, u8, u9, u10, .int .i64 (En : Int), u12, .pointer (some ⟨g, 0, none⟩), u14, u15, u16, u17, u18, u19, u20, u21, u22, u23, u24, u25, u26, u27, u28, u29, u30, u31, u32, u33, u34, u35, u36, u37, u38, u39, u40, u41, u42, u43, u44, u45, u46, u47, u48, u49, u50, u51, u52, u53, u54, u55, u56, u57, u58, u59, u60, u61, u62, u63, u64, u65, u66, u67, u68, u69, u70, u71, u72, u73, u74, u75, u76, u77, u78, u79, u80, u81, u82, u83, u84, u85, u86, u87, u88, u89, u90, u91, u92, u93, u94, u95, u96, u97, u98, u99, u100, u101, u102, u103, u104, u105, u106, u107, u108, u109, undef, undef, undef, undef, undef, undef, undef, undef, undef, undef, undef, undef, undef, undef, undef, undef, undef, undef, undef, undef, undef, undef, undef, undef, undef, undef, undef, undef, undef, undef, undef, undef, undef, undef, undef, undef, undef, undef, undef, undef, undef, undef, undef, undef, undef, undef, undef, undef, undef, undef, undef, undef, undef, undef, undef, undef, undef, undef, undef, undef, undef, undef, undef, undef, undef, undef, undef, undef, undef, undef, undef, undef, undef, undef, undef, undef, undef, undef, undef, undef, undef, undef, undef, undef, undef, undef, undef, undef, undef, undef, undef, undef, undef, undef, undef, undef, undef, undef, undef, undef, undef, undef, undef, undef, undef, undef, undef, undef, undef, undef, undef, undef, undef, undef, undef, undef, undef, undef, undef, undef, undef, undef, undef, undef, undef, undef, undef, undef, undef, undef, undef, undef, undef, undef, undef, undef, undef, undef, undef, undef, undef, undef, undef, undef, undef, undef], []⟩ W := by
  conv => arg 2; whnf
  conv => arg 4; arg 1; simp only []
  have HQ := Lib.hid hQ
  have HB := Lib.hid hb4
  have hlast := hok.last
  simp only at hlast
  obtain ⟨y0, y1, y2, y3, y4, y5, y6, y7, y8, y9, y10, y11, y12, y13, y14, y15, y16, y17, y18, y19⟩ := RfAt.cells0 hb4.cell
  rw [hlast] at y6
  have cT := rTop_any W base ⟨x, t⟩ hok hwo.last hwo.top
  unfold rfV at cT
  have hl0 : lastI t = (t.fin : Int) := by unfold lastI; rw [if_neg hf]
  have g0 : decide ((0 : Int) ≤ (t.fin : Int)) = true := decide_eq_true (by omega)
  rw [hl0] at y6
  have hwl := hwo.fin hf
  dsimp only at cT
  rw [hwl] at cT
  have YG : Hid (∀ w', Grow W w' → w'.cell? ⟨g, 6, none⟩ = some (.int .i64 (t.fin : Int))) := fun w' gr => by
    have h := (HB.out.grow gr).cell 6
    rw [← hl0, ← hlast]
    exact h
  have g1 : decide ((En : Int) < (t.fin : Int)) = false := decide_eq_false (by omega)
  have g2 : ((t.fin : Int) != (En : Int)) = true := by rw [bne_iff_ne]; omega
  have g3 : decide ((t.fin : Int) < (En : Int)) = true := decide_eq_true (by omega)
  have hn0 : t.fin ≤ En := by omega
  have hn1 : t.fin < En := by omega
  have hn2 : ¬ (En ≤ t.fin) := by omega
  clear hc3
  clear hQ hb4 hok hwo hlast hl0 hf
  clear y0 y1 y2 y3 y4 y5 y7 y8 y9 y10 y11 y12 y13 y14 y15 y16 y17 y18 y19
  go_wp2_with (refine wpList_load_csg W 78 (.tmp 13) rfl rfl g 0 rfl (rfA x) HB.out.at_ _ Try.underlying78 rfl (by kernel_rfl) ?_)
  refine cT.mono ?_
  rintro e w5 ⟨rfl, hg5⟩
  have H5 := Lib.hid hg5
  have y6' := YG.out w5 hg5
  clear hg5 cT y6
  go_wp2_with fail
  subst hst
  exact HQ.out _ _ _ _ _ _ _ _ _ _ _ _ _ _ _ _ _ _ _ _ _ _ _ _ _ _ _ _ _ _ _ H5.out
set_option maxRecDepth 100000 in
theorem rReg17 (Q : Exit → Go.Act → World → Prop) (W : World) (base pb g En : Nat) (x : Rf) (t : Wt) (k : Pkt) (hb4 : RfBlk W g x) (hok : Rq.Ok base W ⟨x, t⟩) (b3 : W.cell? ⟨pb, 3, none⟩ = some (.bool k.more)) (hwo : WOk t) (hE : endOf k = (En : Int))
    (u0 u1 u2 u3 u4 u6 u7 u8 u9 u10 u12 u14 u15 u16 u17 u18 u19 u20 u21 u22 u23 u24 u25 u26 u27 u28 u29 u30 u31 u32 u33 u34 u35 u36 u37 u38 u39 u40 u41 u42 u43 u44 u45 u46 u47 u48 u49 u50 u51 u52 u53 u54 u55 u56 u57 u58 u59 u60 u61 u62 u63 u64 u65 u66 u67 u68 u69 u70 u71 u72 u73 u74 u75 u76 u77 u78 u79 u80 u81 u82 u83 u84 u85 u86 u87 u88 u89 u90 u91 u92 u93 u94 u95 u96 u97 u98 u99 u100 u101 u102 u103 u104 u105 u106 u107 u108 u109 : Value) (hQ : ∀ (u110 u111 u112 u113 u114 u115 u116 u117 u118 u119 u120 u121 u122 u123 u124 u125 u126 u127 u128 u129 u130 u131 u132 u133 u134 u135 u136 u137 u138 u139 : Value) (w' : World), Grow W w' → Q Exit.normal ⟨#[u0, u1, u2, u3, u4, .pointer (some ⟨pb, 0, none⟩), u6, u7, u8, u9, u10, .int .i64 (En : Int), u12, .pointer (some ⟨g, 0, none⟩), u14, u15, u16, u17, u18, u19, u20, u21, u22, u23, u24, u25, u26, u27, u28, u29, u30, u31, u32, u33, u34, u35, u36, u37, u38, u39, u40, u41, u42, u43, u44, u45, u46, u47, u48, u49, u50, u51, u52, u53, u54, u55, u56, u57, u58, u59, u60, u61, u62, u63, u64, u65, u66, u67, u68, u69, u70, u71, u72, u73, u74, u75, u76, u77, u78, u79, u80, u81, u82, u83, u84, u85, u86, u87, u88, u89, u90, u91, u92, u93, u94, u95, u96, u97, u98, u99, u100, u101, u102, u103, u104, u105, u106, u107, u108, u109, u110, u111, u112, u113, u114, u115, u116, u117, u118, u119, u120, u121, u122, u123, u124, u125, u126, u127, u128, u129, u130, u131, u132, u133, u134, u135, u136, u137, u138, u139, .bool (staleB t.fin t.c.length k), undef, undef, undef, undef, undef, undef, undef, undef, undef, undef, undef, undef, undef, undef, undef, undef, undef, undef, undef, undef, undef, undef, undef, undef, undef, undef, undef, undef, undef, undef, undef, undef, undef, undef, undef, undef, undef, undef, undef, undef, undef, undef, undef, undef, undef, undef, undef, undef, undef, undef, undef, undef, undef, undef, undef, undef, undef, undef, undef, undef, undef, undef, undef, undef, undef, undef, undef, undef, undef, undef, undef, undef, undef, undef, undef, undef, undef, undef, undef, undef, undef, undef, undef, undef, undef, undef, undef, undef, undef, undef, undef, undef, undef, undef, undef, undef, undef, undef, undef, undef, undef, undef, undef, undef, undef, undef, undef, undef, undef, undef, undef, undef, undef, undef, undef], []⟩ w') :
    Code.wp Try.prog (regS 11 ((Try.f15.body).getD .skip)) Q ⟨#[u0, u1, u2, u3, u4, .pointer (some ⟨pb, 0, none⟩), u6, u7, u8, u9, u10, .int .i64 (En : Int), u12, .pointer (some ⟨g, 0, none⟩), u14, u15, u16, u17, u18, u19, u20, u21, u22, u23, u24, u25, u26, u27, u28, u29, u30, u31, u32, u33, u34, u35, u36, u37, u38, u39, u40, u41, u42, u43, u44, u45, u46, u47, u48, u49, u50, u51, u52, u53, u54, u55, u56, u57, u58, u59, u60, u61, u62, u63, u64, u65, u66, u67, u68, u69, u70, u71, u72, u73, u74, u75, u76, u77, u78, u79, u80, u81, u82, u83, u84, u85, u86, u87, u88, u89, u90, u91, u92, u93, u94, u95, u96, u97, u98, u99, u100, u101, u102, u103, u104, u105, u106, u107, u108, u109, undef, undef, undef, undef, undef, undef, undef, undef, undef, undef, undef, undef, undef, undef, undef, undef, undef, undef, undef, undef, undef, undef, undef, undef, undef, undef, undef, undef, undef, undef, undef, undef, undef, undef, undef, undef, undef, undef, undef, undef, undef, undef, undef, undef, undef, undef, undef, undef, undef, undef, undef, undef, undef, undef, undef, undef, undef, undef, undef, undef, undef, undef, undef, undef, undef, undef, undef, undef, undef, undef, undef, undef, undef, undef, undef, undef, undef, undef, undef, undef, undef, undef, undef, undef, undef, undef, undef, undef, undef, undef, undef, undef, undef, undef, undef, undef, undef, undef, undef, undef, undef, undef, undef, undef, undef, undef, undef, undef, undef, undef, undef, undef, undef, undef, undef, undef, undef, undef, undef, undef, undef, undef, undef, undef, undef, undef, undef, undef, undef, undef, undef, undef, undef, undef, undef, undef, undef, undef, undef, undef, undef, undef, undef, undef, undef, undef], []⟩ W := by
  cases hmo : k.more with
  | true =>
    rw [hmo] at b3
    by_cases hf : t.fin = 0
    · exact rReg17_a Q W base pb g En x t _ hb4 hok b3 hwo hf (by unfold staleB; rw [if_neg (fun h => h hf), hmo]; rfl) _ _ _ _ _ _ _ _ _ _ _ _ _ _ _ _ _ _ _ _ _ _ _ _ _ _ _ _ _ _ _ _ _ _ _ _ _ _ _ _ _ _ _ _ _ _ _ _ _ _ _ _ _ _ _ _ _ _ _ _ _ _ _ _ _ _ _ _ _ _ _ _ _ _ _ _ _ _ _ _ _ _ _ _ _ _ _ _ _ _ _ _ _ _ _ _ _ _ _ _ _ _ _ _ _ _ _ hQ
    · exact rReg17_b Q W base pb g En x t _ hb4 hok b3 hwo hf (by unfold staleB; rw [if_pos hf, hmo, hE]; simp) _ _ _ _ _ _ _ _ _ _ _ _ _ _ _ _ _ _ _ _ _ _ _ _ _ _ _ _ _ _ _ _ _ _ _ _ _ _ _ _ _ _ _ _ _ _ _ _ _ _ _ _ _ _ _ _ _ _ _ _ _ _ _ _ _ _ _ _ _ _ _ _ _ _ _ _ _ _ _ _ _ _ _ _ _ _ _ _ _ _ _ _ _ _ _ _ _ _ _ _ _ _ _ _ _ _ _ hQ
  | false =>
    rw [hmo] at b3
    by_cases hf : t.fin = 0
    · have hs : staleB t.fin t.c.length k = decide ((En : Int) < (t.c.length : Int)) := by unfold staleB; rw [if_neg (fun h => h hf), hmo, hE]; simp
      by_cases hlt : En < t.c.length
      · exact rReg17_c Q W base pb g En x t _ hb4 hok b3 hwo hf hlt (by rw [hs]; exact decide_eq_true (by omega)) _ _ _ _ _ _ _ _ _ _ _ _ _ _ _ _ _ _ _ _ _ _ _ _ _ _ _ _ _ _ _ _ _ _ _ _ _ _ _ _ _ _ _ _ _ _ _ _ _ _ _ _ _ _ _ _ _ _ _ _ _ _ _ _ _ _ _ _ _ _ _ _ _ _ _ _ _ _ _ _ _ _ _ _ _ _ _ _ _ _ _ _ _ _ _ _ _ _ _ _ _ _ _ _ _ _ _ hQ
      · exact rReg17_d Q W base pb g En x t _ hb4 hok b3 hwo hf (by omega) (by rw [hs]; exact decide_eq_false (by omega)) _ _ _ _ _ _ _ _ _ _ _ _ _ _ _ _ _ _ _ _ _ _ _ _ _ _ _ _ _ _ _ _ _ _ _ _ _ _ _ _ _ _ _ _ _ _ _ _ _ _ _ _ _ _ _ _ _ _ _ _ _ _ _ _ _ _ _ _ _ _ _ _ _ _ _ _ _ _ _ _ _ _ _ _ _ _ _ _ _ _ _ _ _ _ _ _ _ _ _ _ _ _ _ _ _ _ _ hQ
    · rcases Nat.lt_trichotomy En t.fin with hc3 | hc3 | hc3
      · exact rReg17_e Q W base pb g En x t _ hb4 hok b3 hwo hf hc3 (by unfold staleB; rw [if_pos hf, hmo, hE]; simp; omega) _ _ _ _ _ _ _ _ _ _ _ _ _ _ _ _ _ _ _ _ _ _ _ _ _ _ _ _ _ _ _ _ _ _ _ _ _ _ _ _ _ _ _ _ _ _ _ _ _ _ _ _ _ _ _ _ _ _ _ _ _ _ _ _ _ _ _ _ _ _ _ _ _ _ _ _ _ _ _ _ _ _ _ _ _ _ _ _ _ _ _ _ _ _ _ _ _ _ _ _ _ _ _ _ _ _ _ hQ
      · exact rReg17_f Q W base pb g En x t _ hb4 hok b3 hwo hf hc3 (by unfold staleB; rw [if_pos hf, hmo, hE]; simp; omega) _ _ _ _ _ _ _ _ _ _ _ _ _ _ _ _ _ _ _ _ _ _ _ _ _ _ _ _ _ _ _ _ _ _ _ _ _ _ _ _ _ _ _ _ _ _ _ _ _ _ _ _ _ _ _ _ _ _ _ _ _ _ _ _ _ _ _ _ _ _ _ _ _ _ _ _ _ _ _ _ _ _ _ _ _ _ _ _ _ _ _ _ _ _ _ _ _ _ _ _ _ _ _ _ _ _ _ hQ
      · exact rReg17_g Q W base pb g En x t _ hb4 hok b3 hwo hf hc3 (by unfold staleB; rw [if_pos hf, hmo, hE]; simp; omega) _ _ _ _ _ _ _ _ _ _ _ _ _ _ _ _ _ _ _ _ _ _ _ _ _ _ _ _ _ _ _ _ _ _ _ _ _ _ _ _ _ _ _ _ _ _ _ _ _ _ _ _ _ _ _ _ _ _ _ _ _ _ _ _ _ _ _ _ _ _ _ _ _ _ _ _ _ _ _ _ _ _ _ _ _ _ _ _ _ _ _ _ _ _ _ _ _ _ _ _ _ _ _ _ _ _ _ hQ
end Go.Proofs.Ytfjmcfkpbacicaa
/- The reference's Add, from the question whether a piece is stale on. -/
namespace Go.Proofs.Ytfjmcfkpbacicaa
set_option linter.unusedVariables false
set_option linter.unusedSimpArgs false
open Go.ChangeShapes Go.WideShapes Go.ChangeAt Go.RowKit

set_option maxRecDepth 100000 in
set_option maxHeartbeats 4000000 in
theorem rTail17 (Q : Exit → Go.Act → World → Prop) (w W : World) (base : Nat) (most life : Int) (A0 : Option Addr) (n0 cp0 : Nat) (k : Pkt) (A : Option Addr) (c : Nat) (B : Option Addr) (d : Nat) (g : Nat) (x : Rf) (t : Wt) (A1 : List Wt) (Pn En : Nat) (I : Int) (R : AddR)
    (hB4 : RfBlk W g x) (hok : Rq.Ok base W ⟨x, t⟩) (hra : Ra w most life (.slice A0 n0 cp0) k (.slice A k.opts.length c) (.slice B k.data.length d) W) (hb : base ≤ w.heap.size) (hg3 : w.heap.size + 4 ≤ g)
    (hfx : Firm base w x.vo x.f.opts ∧ Firm base w x.vx x.f.data) (hp : Piece base w k (.slice A k.opts.length c) (.slice B k.data.length d))
    (hwo : WOk t) (hc : chk k = 0) (h0 : 0 ≤ k.off) (hee : endOf k = (En : Int) ∧ 8 * k.off = (Pn : Int) ∧ (Pn : Int) + (k.data.length : Int) = (En : Int) ∧ ¬ k.data.length = 0) (hE65 : En ≤ 65515) (hT : RTab w base (.agg #[.int .i64 most, .int .i64 life, .slice A0 n0 cp0]) most life A1)
    (hs1 : staleB t.fin t.c.length k = true → R = ⟨A1, zeroPk, false, 120⟩)
    (hsel : staleB t.fin t.c.length k = false → (I = -1 ∧ A1.length < 64 ∧ finL (A1 ++ [tookW t k]) A1.length (tookW t k) = R) ∨ (∃ i : Nat, I = (i : Int) ∧ i < A1.length ∧ A1.length ≤ 64 ∧ finL (A1.set i (tookW t k)) i (tookW t k) = R))
    (hQ : ∀ a w', RaEnd w base most life R a w' → Q Exit.ret a w') (u0 u1 u2 u4 u8 u9 u14 u15 u16 u17 u18 u19 u20 u21 u22 u23 u24 u25 u26 u27 u28 u29 u30 u31 u32 u33 u34 u35 u36 u37 u38 u39 u40 u41 u42 u43 u44 u45 u46 u47 u48 u49 u50 u51 u52 u53 u54 u55 u56 u57 u58 u59 u60 u61 u62 u63 u64 u65 u66 u67 u68 u69 u70 u71 u72 u73 u74 u75 u76 u77 u78 u79 u80 u81 u82 u83 u84 u85 u86 u87 u88 u89 u90 u91 u92 u93 u94 u95 u96 u97 u98 u99 u100 u101 u102 u103 u104 u105 u106 u107 u108 u109 : Value) :
    Code.wp Try.prog (dropS 11 ((Try.f15.body).getD .skip)) Q ⟨#[u0, u1, u2, .pointer (some ⟨w.heap.size, 0, none⟩), u4, .pointer (some ⟨w.heap.size + 1, 0, none⟩), .pointer (some ⟨w.heap.size + 2, 0, none⟩), .pointer (some ⟨w.heap.size + 3, 0, none⟩), u8, u9, .int .i64 (Pn : Int), .int .i64 (En : Int), .int .i64 I, .pointer (some ⟨g, 0, none⟩), u14, u15, u16, u17, u18, u19, u20, u21, u22, u23, u24, u25, u26, u27, u28, u29, u30, u31, u32, u33, u34, u35, u36, u37, u38, u39, u40, u41, u42, u43, u44, u45, u46, u47, u48, u49, u50, u51, u52, u53, u54, u55, u56, u57, u58, u59, u60, u61, u62, u63, u64, u65, u66, u67, u68, u69, u70, u71, u72, u73, u74, u75, u76, u77, u78, u79, u80, u81, u82, u83, u84, u85, u86, u87, u88, u89, u90, u91, u92, u93, u94, u95, u96, u97, u98, u99, u100, u101, u102, u103, u104, u105, u106, u107, u108, u109, undef, undef, undef, undef, undef, undef, undef, undef, undef, undef, undef, undef, undef, undef, undef, undef, undef, undef, undef, undef, undef, undef, undef, undef, undef, undef, undef, undef, undef, undef, undef, undef, undef, undef, undef, undef, undef, undef, undef, undef, undef, undef, undef, undef, undef, undef, undef, undef, undef, undef, undef, undef, undef, undef, undef, undef, undef, undef, undef, undef, undef, undef, undef, undef, undef, undef, undef, undef, undef, undef, undef, undef, undef, undef, undef, undef, undef, undef, undef, undef, undef, undef, undef, undef, undef, undef, undef, undef, undef, undef, undef, undef, undef, undef, undef, undef, undef, undef, undef, undef, undef, undef, undef, undef, undef, undef, undef, undef, undef, undef, undef, undef, undef, undef, undef, undef, undef, undef, undef, undef, undef, undef, undef, undef, undef, undef, undef, undef, undef, undef, undef, undef, undef, undef, undef, undef, undef, undef, undef, undef, undef, undef, undef, undef, undef, undef], []⟩ W := by
  conv => arg 2; whnf
  conv => arg 4; arg 1; simp only []
  have HQQ := Lib.hid hQ
  have H4 := Lib.hid (And.intro hB4 (And.intro hok hra))
  have HG3 := Lib.hid hg3
  have HFX := Lib.hid hfx
  have HT := Lib.hid (And.intro hT hp)
  have HWO := Lib.hid hwo
  have HCK := Lib.hid hc
  have HEE := Lib.hid hee
  have HH0 := Lib.hid h0
  have HS1 := Lib.hid hs1
  have HSEL := Lib.hid hsel
  clear hQ hB4 hok hra hg3 hfx hT hp hwo hc hee h0 hs1 hsel
  obtain ⟨b0, b1, b2, b3, b4, b5, b6, b7, b8, b9, b10⟩ := H4.out.2.2.pk.boxd
  have c0 := H4.out.2.2.tb.c0
  have c1 := H4.out.2.2.tb.c1
  have c2 := H4.out.2.2.tb.c2
  go_upto_region 17 with fail
  go_cut [140] from 110 to 140 (fun s140 wx => s140 = .bool (staleB t.fin t.c.length k) ∧ Hid (Grow W wx))
  case first =>
    refine rReg17 _ W base (w.heap.size + 1) g En x t k H4.out.1 H4.out.2.1 b3 HWO.out HEE.out.1 _ _ _ _ _ _ _ _ _ _ _ _ _ _ _ _ _ _ _ _ _ _ _ _ _ _ _ _ _ _ _ _ _ _ _ _ _ _ _ _ _ _ _ _ _ _ _ _ _ _ _ _ _ _ _ _ _ _ _ _ _ _ _ _ _ _ _ _ _ _ _ _ _ _ _ _ _ _ _ _ _ _ _ _ _ _ _ _ _ _ _ _ _ _ _ _ _ _ _ _ _ _ _ _ _ _ _ ?_
    intro u110 u111 u112 u113 u114 u115 u116 u117 u118 u119 u120 u121 u122 u123 u124 u125 u126 u127 u128 u129 u130 u131 u132 u133 u134 u135 u136 u137 u138 u139 w' hg'
    have HG' := Lib.hid hg'
    clear hg'
    show Exit.then _ _ Exit.normal _ _
    conv => arg 4; arg 1; simp only []
    conv => whnf
    refine ‹∀ (a : Go.Act) (w' : World), Met _ a w' → _› _ _ ?_
    go_meet
    exact ⟨rfl, HG'.out⟩
  case rest =>
    obtain ⟨e140, hH⟩ := hcut
    have H5 := Lib.hid (Hid.out hH)
    obtain ⟨w5, rfl⟩ : ∃ z, z = wc := ⟨_, rfl⟩
    have HR5 := Lib.hid (H4.out.2.2.grow H5.out)
    have HB5 := Lib.hid (And.intro (H4.out.1.grow H5.out) (H4.out.2.1.grow H5.out (Nat.le_trans hb H4.out.2.2.gr.size)))
    clear hH b0 b1 b2 b3 b4 b5 b6 b7 b8 b9 b10 c0 c1 c2
    obtain ⟨b0, b1, b2, b3, b4, b5, b6, b7, b8, b9, b10⟩ := HR5.out.pk.boxd
    have c0 := HR5.out.tb.c0
    have c1 := HR5.out.tb.c1
    have c2 := HR5.out.tb.c2
    cases hst : staleB t.fin t.c.length k with
    | true =>
      rw [hst] at e140
      subst e140
      have HFL := Lib.hid (HS1.out hst)
      have HTB := Lib.hid (RTab.grow HT.out.1 HR5.out.gr hb)
      clear hst
      go_upto_region 18 with fail
      go_wp2_with (first | (show wpList _ _ _ (⟨none, .store 32 (.tmp 6) (.tmp 141), _, _, _, _⟩ :: _) _ _; refine wpList_store_tb w w5 rfl _ _ rfl rfl (w.heap.size + 2) rfl most life (.slice A0 n0 cp0) rfl rfl 0 0 (.slice none 0 0) HR5.out.rt HR5.out.gr (by omega) ?_; intro wA hA hbA gA; have FA := Lib.hid (And.intro hA (And.intro gA (And.intro ((hbA.2 (w.heap.size + 3) (by omega)).trans HR5.out.ri) (RTab.only HTB.out (Only.but HR5.out.gr gA hbA (by omega) HR5.out.rt) (fun b => by decide) (fun b => by decide) (fun b => by decide))))); clear hA hbA gA) | (show wpList _ _ _ (⟨none, .store 38 (.tmp 7) (.tmp 142), _, _, _, _⟩ :: _) _ _; refine wpList_store_ip w wA rfl _ _ rfl rfl (w.heap.size + 3) rfl zeroPk zeroPk (.slice none 0 0) (.slice none 0 0) (.slice none 0 0) (.slice none 0 0) rfl rfl rfl FA.out.2.2.1 FA.out.2.1 (by omega) ?_; intro wB hB hbB gB; have FB := Lib.hid (And.intro hB (And.intro (TbBlk.but FA.out.1 hbB (by omega)) (And.intro gB (RTab.only FA.out.2.2.2 (Only.but FA.out.2.1 gB hbB (by omega) FA.out.2.2.1) (fun b => by decide) (fun b => by decide) (fun b => by decide))))); clear hB hbB gB))
      refine HQQ.out _ _ ?_
      rw [HFL.out]
      exact ⟨_, _, _, rfl, rfl, rfl, rfl, rfl, FB.out.2.1, FB.out.1, FB.out.2.2.2, zero_ipF _ _, FB.out.2.2.1⟩
    | false =>
      rw [hst] at e140
      subst e140
      have HST := Lib.hid hst
      clear hst
      clear b0 b1 b2 b3 b4 b5 b6 b7 b8 b9 b10 c0 c1 c2
      refine ‹∀ (a : Go.Act) (w' : World), Code.wp Try.prog (Code.cond (Operand.tmp 140) _ _) _ a w' → _› _ _ ?_
      refine wp_cond_false rfl (wp_skip ?_)
      conv => whnf
      refine ‹∀ (a : Go.Act) (w' : World), Code.wp Try.prog _ Q a w' → _› _ _ ?_
      exact rTail19 Q w w5 base most life A0 n0 cp0 k A c B d g x t A1 Pn En I R HB5.out HR5.out hb HG3.out HFX.out HT.out.2 HWO.out HCK.out HH0.out HST.out HEE.out hE65 HT.out.1 (HSEL.out HST.out) HQQ.out _ _ _ _ _ _ _ _ _ _ _ _ _ _ _ _ _ _ _ _ _ _ _ _ _ _ _ _ _ _ _ _ _ _ _ _ _ _ _ _ _ _ _ _ _ _ _ _ _ _ _ _ _ _ _ _ _ _ _ _ _ _ _ _ _ _ _ _ _ _ _ _ _ _ _ _ _ _ _ _ _ _ _ _ _ _ _ _ _ _ _ _ _ _ _ _ _ _ _ _ _ _ _ _ _ _ _ _ _ _ _ _ _ _ _ _ _ _ _ _ _ _ _ _ _ _ _ _ _ _ _ _ _ _ _ _ _ _ _ _ _ _ _ _ _ _ _ _ _ _ _ _ _ _ _ _ _ _ _ _ _ _ _ _ _ _ _ _ _ _ _ _ _ _ _ _ _ _ _ _ _ _ _ _ _ _ _ _ _ _ _ _ _ _ _ _ _ _ _ _ _ _ _ _ _ _ _ _ _ _ _ _ _ _ _ _ _ _ _ _ _ _ _ _ _ _ _ _ _ _ _ _ _ _ _ _ _ _ _ _ _ _ _ _ _ _ _ _
end Go.Proofs.Ytfjmcfkpbacicaa
