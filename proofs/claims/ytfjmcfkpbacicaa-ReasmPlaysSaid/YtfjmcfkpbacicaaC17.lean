/- The reference's Add: the list with what came of the packet. -/
import Derived.Test.YtfjmcfkpbacicaaC16
import Derived.Test.YtfjmcfkpbacicaaC15
namespace Go.Proofs.Ytfjmcfkpbacicaa
set_option linter.unusedVariables false
set_option linter.unusedSimpArgs false
open Go.ChangeShapes Go.WideShapes Go.ChangeAt Go.RowKit

/-- The block of an own row of packets: its cells, and what it is with one element written over. -/
theorem Rfrow.block {w : World} {base : Nat} {v : Value} {l : List Rf} (h : Rfrow w base v l) (hp : 0 < l.length) : ∃ g cap cur, v = .slice (some ⟨g, 0, none⟩) l.length cap ∧ base ≤ g ∧ l.length ≤ cap ∧ cap ≤ maxLen ∧ w.heap[g]? = some (.cells cur 78 (0, 0)) ∧ (∀ i, i < l.length → i * 20 + 20 ≤ cur.size) ∧
    ∀ i (hi : i < l.length) (x : Rf) (w' : World), w'.heap[g]? = some (.cells (cur.toList.take (i * 20) ++ (rfA x).toList ++ cur.toList.drop (i * 20 + 20)).toArray 78 (0, 0)) → Rfrow w' base v (l.set i x) := by
  obtain ⟨h0, h1⟩ := h
  rcases h1 with ⟨_, e⟩ | ⟨g, cap, cur, rfl, e2, hh, hn, hm, hc, ht⟩
  · have := cells20_length l
    rw [e] at this
    simp at this
    omega
  · have hs0 : ∀ i, i < l.length → i * 20 + 20 ≤ cur.size := fun i hi => by
      rw [hc]
      have : (i + 1) * 20 ≤ cap * 20 := Nat.mul_le_mul_right _ (by omega)
      omega
    refine ⟨g, cap, cur, rfl, e2, hn, hm, hh, hs0, fun i hi x w' hw => ?_⟩
    have hsz := hs0 i hi
    have h20 : (rfA x).toList.length = 20 := rfl
    have hlen : cur.toList.length = cap * 20 := by rw [Array.length_toList]; exact hc
    refine ⟨by rw [cells20_length], .inr ⟨g, cap, _, by rw [List.length_set], e2, hw, by rw [List.length_set]; exact hn, hm, ?_, ?_⟩⟩
    · rw [List.size_toArray, List.length_append, List.length_append, List.length_take, List.length_drop, h20, hlen]
      have : (i + 1) * 20 ≤ cap * 20 := Nat.mul_le_mul_right _ (by omega)
      omega
    · rw [List.length_set, List.toList_toArray, ← cells20_set l i hi x, ← ht]
      have hi2 : (i + 1) * 20 ≤ l.length * 20 := Nat.mul_le_mul_right _ (by omega)
      have hcp : l.length * 20 ≤ cap * 20 := Nat.mul_le_mul_right _ hn
      have e1 : (cur.toList.take (i * 20) ++ (rfA x).toList).length = i * 20 + 20 := by rw [List.length_append, List.length_take, h20, hlen]; omega
      rw [List.take_append, e1, List.take_of_length_le (by rw [e1]; omega), List.take_take, Nat.min_eq_left (by omega), List.take_drop, show i * 20 + 20 + (l.length * 20 - (i * 20 + 20)) = l.length * 20 by omega]
/-- append([]Packet{}, l...): new memory. -/
theorem app0_row {W w1 : World} {base : Nat} {v1 : Value} {l : List Rf} (ho : w1.ownsRow base 78 20 v1 (0 + l.length) ([] ++ cells20 l)) (hg : (W.alloc (.cells #[] 78)).grownBy w1 (Value.slice (some ⟨W.heap.size, 0, none⟩) 0 0).ownBlock) (hat : v1.ownBlock = (Value.slice (some ⟨W.heap.size, 0, none⟩) 0 0).ownBlock ∨ v1.ownBlock = some (W.alloc (.cells #[] 78)).heap.size) (hp : 0 < l.length) :
    Grow W w1 ∧ Rfrow w1 base v1 l ∧ ∃ g1 cap1 cur1, v1 = .slice (some ⟨g1, 0, none⟩) l.length cap1 ∧ W.heap.size ≤ g1 ∧ l.length ≤ cap1 ∧ cap1 ≤ maxLen ∧ w1.heap[g1]? = some (.cells cur1 78 (0, 0)) ∧ (∀ i, i < l.length → i * 20 + 20 ≤ cur1.size) ∧
      ∀ i (hi : i < l.length) (x : Rf) (w' : World), w'.heap[g1]? = some (.cells (cur1.toList.take (i * 20) ++ (rfA x).toList ++ cur1.toList.drop (i * 20 + 20)).toArray 78 (0, 0)) → Rfrow w' base v1 (l.set i x) := by
  have hr : Rfrow w1 base v1 l := by simpa using ho
  have hgw : Grow W w1 := (Grow.alloc W (.cells #[] 78)).grown hg (Grow.alloc W _).size (fun k hk => by cases hk; exact Nat.le_refl _)
  obtain ⟨g1, cap1, cur1, e, _, h2, h3, h4, h5, h6⟩ := hr.block hp
  refine ⟨hgw, hr, g1, cap1, cur1, e, ?_, h2, h3, h4, h5, h6⟩
  subst e
  rcases hat with e | e
  · cases e
    exact Nat.le_refl _
  · cases e
    simp
theorem loose_load_cs {P : Program} (w : World) {ops : Array Oper} {o : Oper} {a : Act} {post : Value → World → Prop} {E : Prop} (hgd : o.guard = none) (ty : TypeId) (x : Operand) (ho : o.op = .load ty x)
    (b off : Nat) (hx : a.eval x = .pointer (some ⟨b, off, none⟩)) (cs : Array Value) (hc : ∀ j u, cs[j]? = some u → w.cell? ⟨b, off + j, none⟩ = some u) (d : TypeDesc)
    (hu : P.underlying ty = some d) (hd : (match d with | .struct _ | .array _ _ => true | _ => false) = true) (hi : (P.info? ty).map (·.size) = some cs.size)
    (h : post (.agg cs) w) : if Region.wanted o (yielded ops a.tmps) = true then looseUpon P post ((execOp a.eval o).run P w) else E := by
  have hw : Region.wanted o (yielded ops a.tmps) = true := by simp [Region.wanted, hgd]
  rw [if_pos hw]
  unfold execOp
  simp only [ho, hx, Instr.loadAt, Instr.sureAddr, Sem.run_bind, Sem.run_pure, Result.andThen_ok, run_load_cs w b off ty cs d hc hu hd hi]
  exact h

theorem Rfrow.ofGrow {w w' : World} {base : Nat} {v : Value} {l : List Rf} (h : Rfrow w base v l) (gr : Grow w w') : Rfrow w' base v l := by
  obtain ⟨h0, h1⟩ := h
  refine ⟨h0, ?_⟩
  rcases h1 with h1 | ⟨g, cap, cur, e1, e2, hh, hn, hm, hc, ht⟩
  · exact .inl h1
  · exact .inr ⟨g, cap, cur, e1, e2, (Below.block gr g (Array.getElem?_eq_some_iff.1 hh).1).trans hh, hn, hm, hc, ht⟩
theorem Rfrow.but {w w' : World} {base b : Nat} {v : Value} {l : List Rf} (h : Rfrow w base v l) (hb : But b w w') (hne : b < base) : Rfrow w' base v l := by
  obtain ⟨h0, h1⟩ := h
  refine ⟨h0, ?_⟩
  rcases h1 with h1 | ⟨g, cap, cur, e1, e2, hh, hn, hm, hc, ht⟩
  · exact .inl h1
  · exact .inr ⟨g, cap, cur, e1, e2, (hb.2 g (by omega)).trans hh, hn, hm, hc, ht⟩
theorem Rfrow.lower {w : World} {base base' : Nat} {v : Value} {l : List Rf} (h : Rfrow w base v l) (hb : base' ≤ base) : Rfrow w base' v l := by
  obtain ⟨h0, h1⟩ := h
  refine ⟨h0, ?_⟩
  rcases h1 with h1 | ⟨g, cap, cur, e1, e2, hh, hn, hm, hc, ht⟩
  · exact .inl h1
  · exact .inr ⟨g, cap, cur, e1, Nat.le_trans hb e2, hh, hn, hm, hc, ht⟩
theorem alloc_at (u : World) (o : Obj) : (u.alloc o).heap[u.heap.size]? = some o := by
  show (u.heap.push o)[u.heap.size]? = _
  simp

def R37F (w W : World) (base : Nat) (A2 : Option Addr) (n2 c2 : Nat) (l : List Rf) (z : Rf) (i : Nat) (v : Value) (u : World) : Prop :=
  match i with
  | 0 => ∃ g, v = .slice (some ⟨g, 0, none⟩) 0 0 ∧ W.heap.size ≤ g ∧ u.heap[g]? = some (.cells #[] 78 (0, 0))
  | 1 => v = .pointer (some ⟨w.heap.size, 2, none⟩)
  | 2 => v = .slice A2 n2 c2
  | 3 => Rfrow u W.heap.size v l
  | 4 => v = rfV z
  | 5 => ∃ g, v = .slice (some ⟨g, 0, none⟩) 1 1 ∧ W.heap.size ≤ g ∧ u.heap[g]? = some (.cells (rfA z) 78 (0, 0))
  | 6 => Rfrow u W.heap.size v (l ++ [z])
  | 7 => v = .pointer (some ⟨w.heap.size, 2, none⟩)
  | _ => True

def R37N (k : Nat) : List Nat := if k = 2 then [1] else if k = 3 then [0, 2] else if k = 5 then [4] else if k = 6 then [3, 5] else if k = 8 then [6, 7] else []

def R37J (j : Nat) (a b : World) : Prop :=
  if j = 3 then ∃ g, a.heap[g]? = some (.cells #[] 78 (0, 0)) ∧ a.grownBy b (some g) else if j = 6 then True else Grow a b

set_option maxRecDepth 100000 in
set_option maxHeartbeats 4000000 in
theorem rTail35 (Q : Exit → Go.Act → World → Prop) (w W : World) (base : Nat) (most life : Int) (g : Nat) (z : Rf) (t : Wt) (A2 : Option Addr) (n2 c2 : Nat) (L1 : List Wt) (h : R40 w base most life g z t (.slice A2 n2 c2) L1 W) (hb : base ≤ w.heap.size) (hwo : WOk t) (I : Int) (b : Bool) (hbf : b = fullW t) (R : AddR)
    (hsel : (I = -1 ∧ L1.length < 64 ∧ finL (L1 ++ [t]) L1.length t = R) ∨ (∃ i : Nat, I = (i : Int) ∧ i < L1.length ∧ L1.length ≤ 64 ∧ finL (L1.set i t) i t = R))
    (hQ : ∀ a w', RaEnd w base most life R a w' → Q Exit.ret a w') (u0 u1 u2 u4 u8 u9 u10 u11 u14 u16 u17 u18 u19 u20 u21 u22 u23 u24 u25 u26 u27 u28 u29 u30 u31 u32 u33 u34 u35 u36 u37 u38 u39 u40 u41 u42 u43 u44 u45 u46 u47 u48 u49 u50 u51 u52 u53 u54 u55 u56 u57 u58 u59 u60 u61 u62 u63 u64 u65 u66 u67 u68 u69 u70 u71 u72 u73 u74 u75 u76 u77 u78 u79 u80 u81 u82 u83 u84 u85 u86 u87 u88 u89 u90 u91 u92 u93 u94 u95 u96 u97 u98 u99 u100 u101 u102 u103 u104 u105 u106 u107 u108 u109 u110 u111 u112 u113 u114 u115 u116 u117 u118 u119 u120 u121 u122 u123 u124 u125 u126 u127 u128 u129 u130 u131 u132 u133 u134 u135 u136 u137 u138 u139 u140 u141 u142 u143 u144 u145 u146 u147 u148 u149 u150 u151 u152 u153 u154 u155 u156 u157 u158 u159 u160 u161 u162 u163 u164 u165 u166 u167 u168 u169 u170 u171 u172 u173 u174 u175 u176 u177 u178 u179 u180 u181 u182 u183 u184 u185 u186 u187 u188 u189 u190 u191 u192 u193 u194 u195 u196 u197 u198 u199 u200 u201 u202 u203 u204 u205 u206 u207 u208 u209 u210 u211 u212 u213 u214 u215 u216 u217 u218 u219 u220 u221 u222 u223 u224 u225 u226 u227 u228 u229 u230 u231 u232 u233 u234 u235 u236 u237 u238 u239 u240 u241 u242 u243 u244 u245 u246 u247 u248 u249 u250 u251 u252 u253 u254 u255 : Value) :
    Code.wp Try.prog (dropS 18 ((Try.f15.body).getD .skip)) Q ⟨#[u0, u1, u2, .pointer (some ⟨w.heap.size, 0, none⟩), u4, .pointer (some ⟨w.heap.size + 1, 0, none⟩), .pointer (some ⟨w.heap.size + 2, 0, none⟩), .pointer (some ⟨w.heap.size + 3, 0, none⟩), u8, u9, u10, u11, .int .i64 I, .pointer (some ⟨g, 0, none⟩), u14, .bool b, u16, u17, u18, u19, u20, u21, u22, u23, u24, u25, u26, u27, u28, u29, u30, u31, u32, u33, u34, u35, u36, u37, u38, u39, u40, u41, u42, u43, u44, u45, u46, u47, u48, u49, u50, u51, u52, u53, u54, u55, u56, u57, u58, u59, u60, u61, u62, u63, u64, u65, u66, u67, u68, u69, u70, u71, u72, u73, u74, u75, u76, u77, u78, u79, u80, u81, u82, u83, u84, u85, u86, u87, u88, u89, u90, u91, u92, u93, u94, u95, u96, u97, u98, u99, u100, u101, u102, u103, u104, u105, u106, u107, u108, u109, u110, u111, u112, u113, u114, u115, u116, u117, u118, u119, u120, u121, u122, u123, u124, u125, u126, u127, u128, u129, u130, u131, u132, u133, u134, u135, u136, u137, u138, u139, u140, u141, u142, u143, u144, u145, u146, u147, u148, u149, u150, u151, u152, u153, u154, u155, u156, u157, u158, u159, u160, u161, u162, u163, u164, u165, u166, u167, u168, u169, u170, u171, u172, u173, u174, u175, u176, u177, u178, u179, u180, u181, u182, u183, u184, u185, u186, u187, u188, u189, u190, u191, u192, u193, u194, u195, u196, u197, u198, u199, u200, u201, u202, u203, u204, u205, u206, u207, u208, u209, u210, u211, u212, u213, u214, u215, u216, u217, u218, u219, u220, u221, u222, u223, u224, u225, u226, u227, u228, u229, u230, u231, u232, u233, u234, u235, u236, u237, u238, u239, u240, u241, u242, u243, u244, u245, u246, u247, u248, u249, u250, u251, u252, u253, u254, u255], []⟩ W := by
  conv => arg 2; whnf
  have HQ := Lib.hid hQ
  have HR := Lib.hid h
  have c0 := h.tb.c0
  have c1 := h.tb.c1
  have c2' := h.tb.c2
  obtain ⟨vL', l, e', hrow, hok, hl⟩ := id h.tab
  simp only [Value.agg.injEq, Array.mk.injEq, List.cons.injEq, and_true, true_and] at e'
  subst e'
  have hnl : n2 = (l.map Rq.x).length := by
    obtain ⟨A', c', e', _⟩ := (RdK.of_own hrow).form
    cases e'
    rfl
  have HF := Lib.hid (And.intro hbf (And.intro hwo hsel))
  have HL := Lib.hid (And.intro hnl (And.intro hl (And.intro hok hrow)))
  have HLL : Hid ((l.map Rq.x).length = L1.length) := by
    show _ = _
    rw [← hl, List.length_map, List.length_map]
  have hbW := Nat.le_trans hb h.gr.size
  clear hQ h hbf hwo hnl hl hok hrow
  go_upto_if 211 with fail
  go_cut [12] from 210 to 232 (fun s12 wx => ∃ (i : Nat) (L2 : List Wt) (A3 : Option Addr) (n3 c3 : Nat), s12 = .int .i64 (i : Int) ∧ Hid (R40 w base most life g z t (.slice A3 n3 c3) L2 wx ∧ i < L2.length ∧ L2.length ≤ 64 ∧ finL L2 i t = R))
  case first =>
    rcases hsel with ⟨rfl, h63, hR⟩ | ⟨i, rfl, hi, h64, hR⟩
    · have HS := Lib.hid (And.intro h63 hR)
      clear h63 hR
      have HONE := Lib.hid (cells20_one (RTab.rf_one HL.out.2.2.1))
      have HZ : Hid (∀ y ∈ (rfA z).toList, y.oneCell' = true) := rfA_one HR.out.ok.one
      have HL64 : Hid ((l.map Rq.x).length < 64) := by show _ < _; rw [HLL.out]; exact HS.out.1
      go_upto_region 37 with fail
      refine wp_region_tailJ (A := ?frame37) R37N (fun a b => Grow W a → Grow W b) R37J (fun a b c h1 h2 h3 => h2 (h1 h3)) (fun h => h.trans (Grow.drew _)) (R37F w W base A2 n2 c2 (l.map Rq.x) z) 8 _ (by kernel_rfl) (by kernel_rfl) rfl rfl (by kernel_rfl) (by kernel_rfl) ?hF (fun x => ?frameEq37) ?hs ?fin
      case frameEq37 => go_simp; rfl
      case hF =>
        intro i j v u u' hij hst hr hf
        by_cases h3 : j = 3
        · subst h3
          match i, hij, hst, hf with
          | 0, _, hst, _ => exact absurd (hst.symm.trans (show stillFor .any _ R37N 0 3 = false by kernel_rfl)) (by decide)
          | 1, _, _, hf => exact hf
          | 2, _, _, hf => exact hf
          | 3, hij, _, _ => exact absurd rfl hij
          | 4, _, _, hf => exact hf
          | 5, _, _, hf =>
            obtain ⟨g5, e5, h5, hh5⟩ := hf
            obtain ⟨g0, hh0, hg0⟩ := (show ∃ g, u.heap[g]? = some (.cells #[] 78 (0, 0)) ∧ u.grownBy u' (some g) from hr)
            refine ⟨g5, e5, h5, (hg0.block g5 (Array.getElem?_eq_some_iff.1 hh5).1 ?_).trans hh5⟩
            intro e
            cases e
            rw [hh5] at hh0
            simp at hh0
          | 6, _, _, hf =>
            obtain ⟨q0, q1⟩ := (show Rfrow u W.heap.size v (l.map Rq.x ++ [z]) from hf)
            obtain ⟨g0, hh0, hg0⟩ := (show ∃ g, u.heap[g]? = some (.cells #[] 78 (0, 0)) ∧ u.grownBy u' (some g) from hr)
            show Rfrow u' W.heap.size v (l.map Rq.x ++ [z])
            refine ⟨q0, ?_⟩
            rcases q1 with ⟨_, e⟩ | ⟨g5, cap, cur, e1, e2, hh5, hn, hm, hc, ht⟩
            · simp at e
            · refine .inr ⟨g5, cap, cur, e1, e2, (hg0.block g5 (Array.getElem?_eq_some_iff.1 hh5).1 ?_).trans hh5, hn, hm, hc, ht⟩
              intro e
              cases e
              rw [hh5] at hh0
              simp only [Option.some.injEq, Obj.cells.injEq] at hh0
              rw [hh0.1] at hc
              have h1 : (#[] : Array Value).size = 0 := rfl
              rw [List.length_append, List.length_singleton] at hn
              omega
          | 7, _, _, hf => exact hf
          | (k + 8), _, _, hf => exact hf
        · by_cases h6 : j = 6
          · subst h6
            match i, hij, hst, hf with
            | 0, _, hst, _ => exact absurd (hst.symm.trans (show stillFor .any _ R37N 0 6 = false by kernel_rfl)) (by decide)
            | 1, _, _, hf => exact hf
            | 2, _, _, hf => exact hf
            | 3, _, hst, _ => exact absurd (hst.symm.trans (show stillFor .any _ R37N 3 6 = false by kernel_rfl)) (by decide)
            | 4, _, _, hf => exact hf
            | 5, _, hst, _ => exact absurd (hst.symm.trans (show stillFor .any _ R37N 5 6 = false by kernel_rfl)) (by decide)
            | 6, hij, _, _ => exact absurd rfl hij
            | 7, _, _, hf => exact hf
            | (k + 8), _, _, hf => exact hf
          · unfold R37J at hr
            rw [if_neg h3, if_neg h6] at hr
            match i, hf with
            | 0, hf => obtain ⟨g5, e5, h5, hh5⟩ := hf; exact ⟨g5, e5, h5, (Below.block hr g5 (Array.getElem?_eq_some_iff.1 hh5).1).trans hh5⟩
            | 1, hf => exact hf
            | 2, hf => exact hf
            | 3, hf => exact Rfrow.ofGrow hf hr
            | 4, hf => exact hf
            | 5, hf => obtain ⟨g5, e5, h5, hh5⟩ := hf; exact ⟨g5, e5, h5, (Below.block hr g5 (Array.getElem?_eq_some_iff.1 hh5).1).trans hh5⟩
            | 6, hf => exact Rfrow.ofGrow hf hr
            | 7, hf => exact hf
            | (k + 8), hf => exact hf
      case hs =>
        refine ⟨fun x u hg hd post hp => ?_, fun x u hg hd post hp => ?_, fun x u hg hd post hp => ?_, fun x u hg hd post hp => ?_, fun x u hg hd post hp => ?_, fun x u hg hd post hp => ?_, fun x u hg hd post hp => ?_, fun x u hg hd post hp => ?_, trivial⟩
        · clear hd
          have gW := hg (Grow.refl _)
          go_simp
          exact hp _ _ (fun h => h.trans (Grow.alloc _ _)) (Grow.alloc _ _) ⟨_, rfl, gW.size, alloc_at _ _⟩
        · clear hd
          go_simp
          exact hp _ _ (fun h => h) (Grow.refl _) rfl
        · have h216 : x 216 = .pointer (some ⟨w.heap.size, 2, none⟩) := hd 1 (by decide) _ rfl
          clear hd
          have gW := hg (Grow.refl _)
          have c2u := (HR.out.tb.grow gW).c2
          go_simp
          exact hp _ _ (fun h => h) (Grow.refl _) rfl
        · obtain ⟨g0, h215, hg0, hh0⟩ := (show ∃ g, x 215 = .slice (some ⟨g, 0, none⟩) 0 0 ∧ W.heap.size ≤ g ∧ u.heap[g]? = some (.cells #[] 78 (0, 0)) from hd 0 (by decide) _ rfl)
          have h217 : x 217 = .slice A2 n2 c2 := hd 2 (by decide) _ rfl
          clear hd
          have gW := hg (Grow.refl _)
          refine loose_appK u rfl (.tmp 215) (.tmp 217) 30 rfl 78 _ 20 168 Try.underlying30 infoRf rfl (by decide) W.heap.size (.slice (some ⟨g0, 0, none⟩) 0 0) (.slice A2 n2 c2) 0 _ [] _ h215 h217 ⟨rfl, .inr ⟨g0, 0, #[], rfl, hg0, hh0, Nat.le_refl _, Nat.zero_le _, rfl, rfl⟩⟩ ((RdK.of_own HL.out.2.2.2).grow gW) HONE.out (by have := HL64.out; omega) (by have := HL64.out; unfold maxLen; omega) gW.size ?_
          intro v1 w1 ho1 hg1 hat1
          exact hp _ _ (fun h => h.grown hg1 h.size fun k hk => by cases hk; exact hg0) ⟨g0, hh0, hg1⟩ (by
            show w1.ownsRow W.heap.size 78 20 v1 (l.map Rq.x).length (cells20 (l.map Rq.x))
            have h := ho1
            rw [Nat.zero_add, List.nil_append] at h
            exact h)
        · clear hd
          have gW := hg (Grow.refl _)
          refine loose_load_cs u rfl 78 (.tmp 13) rfl g 0 rfl (rfA z) (RfBlk.at_ (HR.out.pb.grow gW)) _ Try.underlying78 rfl (by kernel_rfl) ?_
          exact hp _ _ (fun h => h) (Grow.refl _) rfl
        · have h219 : x 219 = rfV z := hd 4 (by decide) _ rfl
          clear hd
          have gW := hg (Grow.refl _)
          go_simp
          exact hp _ _ (fun h => h.trans (Grow.alloc _ _)) (Grow.alloc _ _) ⟨_, rfl, gW.size, alloc_at _ _⟩
        · have h218 : Rfrow u W.heap.size (x 218) (l.map Rq.x) := hd 3 (by decide) _ rfl
          obtain ⟨g5, h220, hg5, hh5⟩ := (show ∃ g, x 220 = .slice (some ⟨g, 0, none⟩) 1 1 ∧ W.heap.size ≤ g ∧ u.heap[g]? = some (.cells (rfA z) 78 (0, 0)) from hd 5 (by decide) _ rfl)
          clear hd
          have gW := hg (Grow.refl _)
          refine loose_appK u rfl (.tmp 218) (.tmp 220) 30 rfl 78 _ 20 168 Try.underlying30 infoRf rfl (by decide) W.heap.size (x 218) (.slice (some ⟨g5, 0, none⟩) 1 1) (l.map Rq.x).length 1 _ (rfA z).toList rfl h220 h218 (RdK.of_own (base := W.heap.size) (e := 78) ⟨rfl, .inr ⟨g5, 1, rfA z, rfl, hg5, hh5, Nat.le_refl _, by unfold maxLen; omega, rfl, rfl⟩⟩) HZ.out (by have := HL64.out; omega) (by have := HL64.out; unfold maxLen; omega) gW.size ?_
          intro v1 w1 ho1 hg1 hat1
          exact hp _ _ (fun h => h.grown hg1 h.size fun k hk => (World.ownsRow.lt h218 k hk).1) trivial (by
            show w1.ownsRow W.heap.size 78 20 v1 (l.map Rq.x ++ [z]).length (cells20 (l.map Rq.x ++ [z]))
            rw [List.length_append, cells20_append, show cells20 [z] = (rfA z).toList by simp [cells20]]
            exact ho1)
        · clear hd
          go_simp
          exact hp _ _ (fun h => h) (Grow.refl _) rfl
      case fin =>
        intro x u hg hd
        have gW := hg (Grow.refl _)
        have h221 : Rfrow u W.heap.size (x 221) (l.map Rq.x ++ [z]) := hd 6 (by decide) _ rfl
        have h222 : x 222 = .pointer (some ⟨w.heap.size, 2, none⟩) := hd 7 (by decide) _ rfl
        clear hd
        obtain ⟨g1, cap1, cur1, hv1, hg1W, hc1, hm1, hh1, hsz1, hset1⟩ := h221.block (by simp)
        obtain ⟨n1, hn1⟩ : ∃ n1, n1 = (l.map Rq.x ++ [z]).length := ⟨_, rfl⟩
        rw [← hn1] at hv1
        refine upon_cs w u rfl 30 (.tmp 222) (.tmp 221) rfl w.heap.size 2 (.slice (some ⟨g1, 0, none⟩) n1 cap1) h222 hv1 [.slice (some ⟨g1, 0, none⟩) n1 cap1] rfl 32 _ #[.int .i64 most, .int .i64 life, .slice (some ⟨g1, 0, none⟩) n1 cap1] (HR.out.tb.grow gW) (by kernel_rfl) (fun y hy => by rw [List.mem_singleton.1 hy]; rfl) (by simp) rfl (HR.out.gr.trans gW) (Nat.le_refl _) ?_
        intro w2 h2 hb2 g2
        have H2 := Lib.hid (And.intro (show TbBlk w2 w.heap.size most life (.slice (some ⟨g1, 0, none⟩) n1 cap1) from h2) (And.intro hb2 (And.intro g2 (And.intro gW (And.intro h221 hv1)))))
        clear h2 hb2 g2 h221 h222 hg hh1 hsz1 hset1 hc1 hm1 hn1 hg1W c0 c1 c2'
        go_wp2_with fail
        go_meet
        refine ⟨n2, L1 ++ [t], some ⟨g1, 0, none⟩, n1, cap1, rfl, ?_⟩
        have hn2 : n2 = L1.length := HL.out.1.trans HLL.out
        refine Lib.hid (And.intro ?_ (And.intro (by rw [List.length_append, List.length_singleton]; omega) (And.intro (by have := HS.out.1; rw [List.length_append, List.length_singleton]; omega) (by rw [hn2]; exact HS.out.2))))
        have o2 := Only.but (HR.out.gr.trans gW) H2.out.2.2.1 H2.out.2.1 hb (HR.out.tb.grow gW)
        have hgl := HR.out.low
        have hlt := HR.out.tb.lt
        have hok : ∀ q : Rq, q.Ok base W → q.Ok base w2 := fun q hq => (hq.grow gW hbW).only o2 (fun b => by decide) (fun b => by decide)
        refine ⟨H2.out.1, (HR.out.rt.grow gW).but H2.out.2.1 (by omega), (H2.out.2.1.2 (w.heap.size + 3) (by omega)).trans (HR.out.ri.grow gW), H2.out.2.2.1, (HR.out.pb.grow gW).but H2.out.2.1 (by omega), hok _ HR.out.ok, ⟨_, l ++ [⟨z, t⟩], rfl, ?_, fun q hq => ?_, ?_⟩, hgl⟩
        · have h5 := H2.out.2.2.2.2
          rw [h5.2] at h5
          rw [List.map_append]
          exact Rfrow.lower (h5.1.but H2.out.2.1 hlt) hbW
        · rcases List.mem_append.1 hq with h1 | h1
          · exact hok q (HL.out.2.2.1 q h1)
          · rw [List.mem_singleton.1 h1]; exact hok _ HR.out.ok
        · rw [List.map_append, HL.out.2.1]; rfl
    · have HS := Lib.hid (And.intro hi (And.intro h64 hR))
      have di : decide ((i : Int) < 0) = false := decide_eq_false (by omega)
      have c2a : (W.alloc (.cells #[] 78)).cell? ⟨w.heap.size, 2, none⟩ = some (.slice A2 n2 c2) := (HR.out.tb.grow (Grow.alloc W _)).c2
      have hli : i < (l.map Rq.x).length := by rw [HLL.out]; exact hi
      have hi64 : i ≤ 64 := by omega
      have HLI := Lib.hid hli
      have HONE := Lib.hid (cells20_one (RTab.rf_one HL.out.2.2.1))
      have HL64 : Hid ((l.map Rq.x).length ≤ 64) := by rw [HLL.out]; exact h64
      clear hi h64 hR hli
      go_wp2_with (first
        | (at_builtin; refine wpList_appK (W.alloc (.cells #[] 78)) rfl (.tmp 223) (.tmp 225) 30 rfl 78 _ 20 168 Try.underlying30 infoRf rfl (by decide) base _ (.slice A2 n2 c2) 0 _ [] _ rfl rfl (Rfrow.lit0 W base hbW) ((RdK.of_own HL.out.2.2.2).grow (Grow.alloc W _)) HONE.out (by have := HL64.out; omega) (by have := HL64.out; unfold maxLen; omega) (Nat.le_trans hbW (Grow.alloc W _).size) ?_; intro v1 w1 ho1 hg1 hat1; obtain ⟨hgw, hr1, g1, cap1, cur1, hv1, hhat, hc1, hm1, hh1, hsz1, hset1⟩ := app0_row ho1 hg1 hat1 (Nat.lt_of_le_of_lt (Nat.zero_le _) HLI.out); obtain ⟨n1, hn1⟩ : ∃ n1, n1 = (l.map Rq.x).length := ⟨_, rfl⟩; rw [← hn1] at hv1 hc1; subst hv1; have HN1 := Lib.hid hn1; have hin1 : (i : Int) < (n1 : Int) := (by have h1 := HN1.out; have h2 := HLI.out; omega); have H1 := Lib.hid (And.intro hgw (And.intro hh1 (And.intro hset1 (And.intro hhat (hsz1 i HLI.out))))); clear ho1 hg1 hat1 hgw hr1 hh1 hset1 hsz1 hhat hn1 c0 c1 c2' c2a)
        | (show wpList _ _ _ (⟨none, .store 30 (.tmp 227) (.tmp 226), _, _, _, _⟩ :: _) _ _; refine wpList_store_cs w w1 rfl _ _ _ rfl rfl w.heap.size 2 (.slice (some ⟨g1, 0, none⟩) n1 cap1) rfl rfl [.slice (some ⟨g1, 0, none⟩) n1 cap1] rfl 32 _ #[.int .i64 most, .int .i64 life, .slice (some ⟨g1, 0, none⟩) n1 cap1] (HR.out.tb.grow H1.out.1) (by kernel_rfl) (fun y hy => by rw [List.mem_singleton.1 hy]; rfl) (by simp) rfl (HR.out.gr.trans H1.out.1) (Nat.le_refl _) ?_; intro w2 h2 hb2 g2; have H2 := Lib.hid (And.intro (show TbBlk w2 w.heap.size most life (.slice (some ⟨g1, 0, none⟩) n1 cap1) from h2) (And.intro hb2 g2)); have c2b := H2.out.1.c2; clear h2 hb2 g2)
        | (show wpList _ _ _ (⟨some 231, .load 78 (.tmp 13), _, _, _, _⟩ :: _) _ _; refine wpList_load_rf w2 rfl _ rfl g 0 rfl z (RfBlk.at_ ((HR.out.pb.grow H1.out.1).but H2.out.2.1 (by have := HR.out.low; omega))) ?_)
        | (show wpList _ _ _ (⟨none, .store 78 (.tmp 232) (.tmp 231), _, _, _, _⟩ :: _) _ _; refine wpList_store_cs w w2 rfl _ _ _ rfl rfl g1 (i * 20) (rfV z) rfl rfl (rfA z).toList rfl 78 cur1 ((cur1.toList.take (i * 20) ++ (rfA z).toList ++ cur1.toList.drop (i * 20 + 20)).toArray) ((H2.out.2.1.2 g1 (by have := H1.out.2.2.2.1; have := HR.out.tb.lt; omega)).trans H1.out.2.1) (by kernel_rfl) (rfA_one HR.out.ok.one) H1.out.2.2.2.2 (by simp) H2.out.2.2 (by have := H1.out.2.2.2.1; have := HR.out.tb.lt; omega) ?_; intro w3 h3 hb3 g3; have H3 := Lib.hid (And.intro h3 (And.intro hb3 g3)); clear h3 hb3 g3))
      go_meet
      refine ⟨i, L1.set i t, some ⟨g1, 0, none⟩, n1, cap1, rfl, ?_⟩
      refine Lib.hid (And.intro ?_ (And.intro (by rw [List.length_set]; exact HS.out.1) (And.intro (by rw [List.length_set]; exact HS.out.2.1) HS.out.2.2)))
      have hg1w : w.heap.size + 4 ≤ g1 := by have h1 := H1.out.2.2.2.1; have h2 := HR.out.ri.lt; omega
      have gW1 := HR.out.gr.trans H1.out.1
      have o2 := Only.but gW1 H2.out.2.2 H2.out.2.1 hb (HR.out.tb.grow H1.out.1)
      have o3 := Only.but H2.out.2.2 H3.out.2.2 H3.out.2.1 (show base ≤ g1 by omega) ((H2.out.2.1.2 g1 (by omega)).trans H1.out.2.1)
      have hgg : g ≠ g1 := by have h1 := H1.out.2.2.2.1; have h2 := HR.out.pb.lt; omega
      have hgl := HR.out.low
      have hok : ∀ q : Rq, q.Ok base W → q.Ok base w3 := fun q hq => ((hq.grow H1.out.1 hbW).only o2 (fun b => by decide) (fun b => by decide)).only o3 (fun b => by decide) (fun b => by decide)
      refine ⟨H2.out.1.but H3.out.2.1 (by omega), ((HR.out.rt.grow H1.out.1).but H2.out.2.1 (by omega)).but H3.out.2.1 (by omega), (H3.out.2.1.2 (w.heap.size + 3) (by omega)).trans ((H2.out.2.1.2 (w.heap.size + 3) (by omega)).trans (HR.out.ri.grow H1.out.1)), H3.out.2.2, ((HR.out.pb.grow H1.out.1).but H2.out.2.1 (by omega)).but H3.out.2.1 hgg, hok _ HR.out.ok, ⟨_, l.set i ⟨z, t⟩, rfl, ?_, fun q hq => ?_, ?_⟩, hgl⟩
      · rw [List.map_set]
        exact H1.out.2.2.1 i HLI.out z w3 H3.out.1
      · rcases List.mem_or_eq_of_mem_set hq with h1 | h1
        · exact hok q (HL.out.2.2.1 q h1)
        · rw [h1]; exact hok _ HR.out.ok
      · rw [List.map_set, HL.out.2.1]
  case rest =>
    obtain ⟨i, L2, A3, n3, c3, rfl, hH⟩ := hcut
    have H := Hid.out hH
    refine ‹∀ (a : Go.Act) (w' : World), Code.wp Try.prog _ Q a w' → _› _ _ ?_
    refine rTail40 Q w wc base most life g z t A3 n3 c3 L2 H.1 hb HF.out.2.1 H.2.2.1 i H.2.1 b HF.out.1 (by rw [H.2.2.2]; exact HQ.out) _ _ _ _ _ _ _ _ _ _ _ _ _ _ _ _ _ _ _ _ _ _ _ _ _ _ _ _ _ _ _ _ _ _ _ _ _ _ _ _ _ _ _ _ _ _ _ _ _ _ _ _ _ _ _ _ _ _ _ _ _ _ _ _ _ _ _ _ _ _ _ _ _ _ _ _ _ _ _ _ _ _ _ _ _ _ _ _ _ _ _ _ _ _ _ _ _ _ _ _ _ _ _ _ _ _ _ _ _ _ _ _ _ _ _ _ _ _ _ _ _ _ _ _ _ _ _ _ _ _ _ _ _ _ _ _ _ _ _ _ _ _ _ _ _ _ _ _ _ _ _ _ _ _ _ _ _ _ _ _ _ _ _ _ _ _ _ _ _ _ _ _ _ _ _ _ _ _ _ _ _ _ _ _ _ _ _ _ _ _ _ _ _ _ _ _ _ _ _ _ _ _ _ _ _ _ _ _ _ _ _ _ _ _ _ _ _ _ _ _ _ _ _ _ _ _ _ _ _ _ _ _ _ _ _ _ _ _ _ _ _ _ _ _ _ _ _ _ _
end Go.Proofs.Ytfjmcfkpbacicaa
/- What stands while the reference's Add paints bytes. -/
namespace Go.Proofs.Ytfjmcfkpbacicaa
set_option linter.unusedVariables false
set_option linter.unusedSimpArgs false
open Go.ChangeShapes Go.WideShapes Go.ChangeAt Go.RowKit

/-- Where the painting of Add stands. -/
structure Pnt (w w5 : World) (most life : Int) (vL : Value) (k : Pkt) (vo vd : Value) (g : Nat) (x : Rf) (c : Cont) (wr : World) : Prop where
  ra : Ra w most life vL k vo vd wr
  pb : RfBlk wr g x
  d : Own wr w5.heap.size x.vd (c.map byteOf)
  h : Bools wr w5.heap.size x.vh (c.map Option.isSome)
section
variable {w w5 wr : World} {most life : Int} {vL : Value} {k : Pkt} {vo vd : Value} {g : Nat} {x : Rf} {c : Cont}
/-- Its rows: where they lie, how they are read. -/
theorem Pnt.rows (h : Pnt w w5 most life vL k vo vd g x c wr) (hp : 0 < c.length) : ∃ gd cd gh ch, x.vd = .slice (some ⟨gd, 0, none⟩) c.length cd ∧ x.vh = .slice (some ⟨gh, 0, none⟩) c.length ch ∧ c.length ≤ cd ∧ cd ≤ maxLen ∧ c.length ≤ ch ∧ ch ≤ maxLen ∧ gd < wr.heap.size ∧ w5.heap.size ≤ gd ∧ gh < wr.heap.size ∧ w5.heap.size ≤ gh ∧ gd ≠ gh ∧
    (∀ j, j < c.length → wr.cell? ⟨gh, j, none⟩ = some (.bool (look c j).isSome) ∧ wr.frozen? ⟨gh, j, none⟩ = false) ∧ (∀ j, j < c.length → (∃ u, wr.cell? ⟨gd, j, none⟩ = some u) ∧ wr.frozen? ⟨gd, j, none⟩ = false) := by
  obtain ⟨Ah, ch, e2, h1, h2, h3⟩ := h.h.at_
  have el : (c.map Option.isSome).length = c.length := List.length_map _
  obtain ⟨gh, rfl, h4, h5, h6⟩ := h3 (by omega)
  have hh := h.h
  rw [e2] at hh
  obtain ⟨_, _, hfz⟩ := Bools.cell hh
  rw [el] at e2 h1
  obtain ⟨gd, cd, e1, g1, g2, g3, g4, g5⟩ := Own.row h.d (by rw [List.length_map]; exact hp)
  have el2 : (c.map byteOf).length = c.length := List.length_map _
  rw [el2] at e1 g3
  refine ⟨gd, cd, gh, ch, e1, e2, g3, g4, h1, h2, g2, g1, h4, h5, ?_, fun j hj => ?_, fun j hj => ?_⟩
  · intro e
    obtain ⟨cs1, q1, _⟩ := ownsRow_blk h.d (b := gd) (by rw [e1]; rfl)
    obtain ⟨cs2, q2, _⟩ := ownsRow_blk h.h (b := gh) (by rw [e2]; rfl)
    rw [e, q2] at q1
    cases q1
  · have hj' : j < (c.map Option.isSome).length := by rw [List.length_map]; exact hj
    exact ⟨by rw [← look_isSome hj']; exact h6 j (by rw [List.length_map]; exact hj), (hfz j hj').2⟩
  · have g6 := g5 j (by omega)
    exact ⟨⟨_, g6.1⟩, g6.2⟩
/-- One byte painted. -/
theorem Pnt.paint (h : Pnt w w5 most life vL k vo vd g x c wr) {gd cd gh ch : Nat} (e1 : x.vd = .slice (some ⟨gd, 0, none⟩) c.length cd) (e2 : x.vh = .slice (some ⟨gh, 0, none⟩) c.length ch) (h1 : w5.heap.size ≤ gd) (h2 : w5.heap.size ≤ gh) (hne : gd ≠ gh) (hg : g < w5.heap.size) (hw : w.heap.size + 4 ≤ w5.heap.size) (j : Nat) (b : UInt8) :
    Pnt w w5 most life vL k vo vd g x (c.set j (some b)) ((wr.setCell ⟨gh, j, none⟩ (.bool true)).setCell ⟨gd, j, none⟩ (.int .u8 (b.toNat : Int))) := by
  have hb : Below w5.heap.size wr ((wr.setCell ⟨gh, j, none⟩ (.bool true)).setCell ⟨gd, j, none⟩ (.int .u8 (b.toNat : Int))) := ((Below.refl _ wr).setCell h2 _).setCell h1 _
  refine ⟨h.ra.below hb hw, (hb.block g hg).trans h.pb, ?_, ?_⟩
  · have hd := h.d
    rw [e1] at hd ⊢
    have hd1 : Own (wr.setCell ⟨gh, j, none⟩ (.bool true)) w5.heap.size (.slice (some ⟨gd, 0, none⟩) c.length cd) (c.map byteOf) := ownsRow_other hd fun b' cs hb' hh => Below.heap_setCell _ _ _ _ (by cases hb'; exact hne)
    have := Own.set hd1 j b _ rfl
    rw [List.map_set]
    exact this
  · have hh := h.h
    rw [e2] at hh ⊢
    have h3 := (Bools.set hh j true).1
    rw [List.map_set]
    exact ownsRow_other h3 fun b' cs hb' hh => Below.heap_setCell _ _ _ _ (by cases hb'; exact fun e => hne e.symm)
/-- The packet's own block written. -/
theorem Pnt.but (h : Pnt w w5 most life vL k vo vd g x c wr) {w' : World} {x' : Rf} (hb : But g wr w') (hx : RfBlk w' g x') (e1 : x'.vd = x.vd) (e2 : x'.vh = x.vh) (gr : Grow w w') (hw : w.heap.size + 4 ≤ g) (hg : g < w5.heap.size) : Pnt w w5 most life vL k vo vd g x' c w' :=
  ⟨h.ra.but hb hw gr, hx, by rw [e1]; exact ownsRow_but h.d hb hg, by rw [e2]; exact ownsRow_but h.h hb hg⟩
end
theorem Pnt.grow {w w5 wr w' : World} {most life : Int} {vL : Value} {k : Pkt} {vo vd : Value} {g : Nat} {x : Rf} {c : Cont} (h : Pnt w w5 most life vL k vo vd g x c wr) (gr : Grow wr w') : Pnt w w5 most life vL k vo vd g x c w' := ⟨h.ra.grow gr, h.pb.grow gr, h.d.grow gr, Bools.grow h.h gr⟩
theorem pnt_ok {w w5 wr : World} {base : Nat} {most life : Int} {vL : Value} {k : Pkt} {vo vd : Value} {g : Nat} {x x5 : Rf} {t' : Wt} (h : Pnt w w5 most life vL k vo vd g x t'.c wr) (hb : base ≤ w.heap.size) (h5 : RfBlk w5 g x5) (hm : g < w5.heap.size) (e1 : x.nm = t'.nm) (e2 : x.last = lastI t') (e3 : x.begun = t'.first.isSome) (e4 : x.f = t'.first.getD zeroPk)
    (e5 : Firm base w x.vo x.f.opts) (e6 : Firm base w x.vx x.f.data) (e7 : x.till = t'.till) (hw : w.heap.size ≤ w5.heap.size) : Rq.Ok base wr ⟨x, t'⟩ :=
  ⟨e1, Own.base h.d (by omega), ownsRow_base h.h (by omega), e2, e3, e4, e5.grow h.ra.gr hb, e6.grow h.ra.gr hb, e7⟩
theorem took_c {t : Wt} {k : Pkt} {p : Nat} (h : 8 * k.off = (p : Int)) (hd : k.data ≠ []) : (tookW t k).c = paint (pad t.c (p + k.data.length)) p k.data := by
  rw [paint_pad _ _ _ hd]
  show paint t.c (8 * k.off).toNat k.data = _
  rw [h]
  rfl
end Go.Proofs.Ytfjmcfkpbacicaa
/- The reference's Add, from what a piece says of its packet on. -/
namespace Go.Proofs.Ytfjmcfkpbacicaa
set_option linter.unusedVariables false
set_option linter.unusedSimpArgs false
open Go.ChangeShapes Go.WideShapes Go.ChangeAt Go.RowKit

set_option maxRecDepth 100000 in
set_option maxHeartbeats 4000000 in
theorem rTail26 (Q : Exit → Go.Act → World → Prop) (w w5 W : World) (base : Nat) (most life : Int) (A0 : Option Addr) (n0 cp0 : Nat) (k : Pkt) (A : Option Addr) (c : Nat) (B : Option Addr) (d : Nat) (g : Nat) (x2 x5 : Rf) (t : Wt) (A1 : List Wt) (Pn En : Nat) (I : Int) (R : AddR)
    (hP : Pnt w w5 most life (.slice A0 n0 cp0) k (.slice A k.opts.length c) (.slice B k.data.length d) g x2 (tookW t k).c W) (hb : base ≤ w.heap.size) (h5 : RfBlk w5 g x5) (hm5 : g < w5.heap.size) (hg3 : w.heap.size + 4 ≤ g)
    (hn : x2.nm = t.nm ∧ x2.till = t.till ∧ x2.f = t.first.getD zeroPk ∧ x2.last = lastI t ∧ x2.begun = t.first.isSome) (hfx : Firm base w x2.vo x2.f.opts ∧ Firm base w x2.vx x2.f.data) (hp : Piece base w k (.slice A k.opts.length c) (.slice B k.data.length d))
    (hwo : WOk t) (hc : chk k = 0) (h0 : 0 ≤ k.off) (hst : staleB t.fin t.c.length k = false) (hee : endOf k = (En : Int) ∧ 8 * k.off = (Pn : Int) ∧ (Pn : Int) + (k.data.length : Int) = (En : Int)) (hl : En = Pn + k.data.length ∧ k.data ≠ []) (hT : RTab w base (.agg #[.int .i64 most, .int .i64 life, .slice A0 n0 cp0]) most life A1)
    (hsel : (I = -1 ∧ A1.length < 64 ∧ finL (A1 ++ [tookW t k]) A1.length (tookW t k) = R) ∨ (∃ i : Nat, I = (i : Int) ∧ i < A1.length ∧ A1.length ≤ 64 ∧ finL (A1.set i (tookW t k)) i (tookW t k) = R))
    (hQ : ∀ a w', RaEnd w base most life R a w' → Q Exit.ret a w') (u0 u1 u2 u4 u8 u9 u10 u14 u15 u16 u17 u18 u19 u20 u21 u22 u23 u24 u25 u26 u27 u28 u29 u30 u31 u32 u33 u34 u35 u36 u37 u38 u39 u40 u41 u42 u43 u44 u45 u46 u47 u48 u49 u50 u51 u52 u53 u54 u55 u56 u57 u58 u59 u60 u61 u62 u63 u64 u65 u66 u67 u68 u69 u70 u71 u72 u73 u74 u75 u76 u77 u78 u79 u80 u81 u82 u83 u84 u85 u86 u87 u88 u89 u90 u91 u92 u93 u94 u95 u96 u97 u98 u99 u100 u101 u102 u103 u104 u105 u106 u107 u108 u109 u110 u111 u112 u113 u114 u115 u116 u117 u118 u119 u120 u121 u122 u123 u124 u125 u126 u127 u128 u129 u130 u131 u132 u133 u134 u135 u136 u137 u138 u139 u140 u141 u142 u143 u144 u145 u146 u147 u148 u149 u150 u151 u152 u153 u154 u155 u156 u157 u158 u159 u160 u161 u162 u163 u164 u165 u166 u167 u168 u169 u170 u171 u172 u173 u174 u175 u176 u177 u178 u179 u180 u181 u182 u183 u184 u185 u186 u187 u188 u189 u190 u191 u192 u193 u194 u195 u196 u197 u198 u199 u200 u201 u202 u203 u204 u205 u206 u207 u208 u209 u210 u211 u212 u213 u214 u215 u216 u217 u218 u219 u220 u221 u222 u223 u224 u225 u226 u227 u228 u229 u230 u231 u232 u233 u234 u235 u236 u237 u238 u239 u240 u241 u242 u243 u244 u245 u246 u247 u248 u249 u250 u251 u252 u253 u254 u255 : Value) :
    Code.wp Try.prog (dropS 14 ((Try.f15.body).getD .skip)) Q ⟨#[u0, u1, u2, .pointer (some ⟨w.heap.size, 0, none⟩), u4, .pointer (some ⟨w.heap.size + 1, 0, none⟩), .pointer (some ⟨w.heap.size + 2, 0, none⟩), .pointer (some ⟨w.heap.size + 3, 0, none⟩), u8, u9, u10, .int .i64 (En : Int), .int .i64 I, .pointer (some ⟨g, 0, none⟩), u14, u15, u16, u17, u18, u19, u20, u21, u22, u23, u24, u25, u26, u27, u28, u29, u30, u31, u32, u33, u34, u35, u36, u37, u38, u39, u40, u41, u42, u43, u44, u45, u46, u47, u48, u49, u50, u51, u52, u53, u54, u55, u56, u57, u58, u59, u60, u61, u62, u63, u64, u65, u66, u67, u68, u69, u70, u71, u72, u73, u74, u75, u76, u77, u78, u79, u80, u81, u82, u83, u84, u85, u86, u87, u88, u89, u90, u91, u92, u93, u94, u95, u96, u97, u98, u99, u100, u101, u102, u103, u104, u105, u106, u107, u108, u109, u110, u111, u112, u113, u114, u115, u116, u117, u118, u119, u120, u121, u122, u123, u124, u125, u126, u127, u128, u129, u130, u131, u132, u133, u134, u135, u136, u137, u138, u139, u140, u141, u142, u143, u144, u145, u146, u147, u148, u149, u150, u151, u152, u153, u154, u155, u156, u157, u158, u159, u160, u161, u162, u163, u164, u165, u166, u167, u168, u169, u170, u171, u172, u173, u174, u175, u176, u177, u178, u179, u180, u181, u182, u183, u184, u185, u186, u187, u188, u189, u190, u191, u192, u193, u194, u195, u196, u197, u198, u199, u200, u201, u202, u203, u204, u205, u206, u207, u208, u209, u210, u211, u212, u213, u214, u215, u216, u217, u218, u219, u220, u221, u222, u223, u224, u225, u226, u227, u228, u229, u230, u231, u232, u233, u234, u235, u236, u237, u238, u239, u240, u241, u242, u243, u244, u245, u246, u247, u248, u249, u250, u251, u252, u253, u254, u255], []⟩ W := by
  conv => arg 2; whnf
  have HQQ := Lib.hid hQ
  have HQ := Lib.hid hP
  have HB5 := Lib.hid h5
  have HM5 := Lib.hid hm5
  have HG3 := Lib.hid hg3
  have HN := Lib.hid hn
  have HFX := Lib.hid hfx
  have HT := Lib.hid (And.intro hT hp)
  have HWO := Lib.hid hwo
  have HCK := Lib.hid hc
  have HEE := Lib.hid hee
  have HL := Lib.hid hl
  have HST := Lib.hid hst
  have HH0 := Lib.hid h0
  have HSEL := Lib.hid hsel
  clear hQ hP h5 hm5 hg3 hn hfx hT hp hwo hc hee hl hst h0 hsel
  obtain ⟨b0, b1, b2, b3, b4, b5, b6, b7, b8, b9, b10⟩ := HQ.out.ra.pk.boxd
  go_upto_if 175 with fail
  go_cut [12] from 173 to 177 (fun s12 wx => s12 = .int .i64 I ∧ Hid (Pnt w w5 most life (.slice A0 n0 cp0) k (.slice A k.opts.length c) (.slice B k.data.length d) g { x2 with last := lastI (tookW t k) } (tookW t k).c wx))
  case first =>
    cases hmo : k.more with
    | true =>
      rw [hmo] at b3
      have HE : Hid ({ x2 with last := lastI (tookW t k) } = x2) := by
        show _ = _
        have h1 : x2.last = lastI t := HN.out.2.2.2.1
        have h2 : lastI (tookW t k) = lastI t := by unfold lastI tookW; simp only [hmo, if_true]
        rw [h2, ← h1]
      clear hmo
      go_wp2_with fail
      go_meet
      exact ⟨rfl, by rw [HE.out]; exact HQ.out⟩
    | false =>
      rw [hmo] at b3
      have HE : Hid (lastI (tookW t k) = (En : Int)) := by
        show _ = _
        have h1 : (tookW t k).fin = En := by
          show (if k.more = true then t.fin else (endOf k).toNat) = En
          rw [if_neg (by rw [hmo]; decide), HEE.out.1]
          rfl
        have h2 : 0 < k.data.length := List.length_pos_iff.2 HL.out.2
        have h3 := HL.out.1
        unfold lastI
        rw [h1, if_neg (by omega)]
      clear hmo
      go_wp2_with (show wpList _ _ _ (⟨none, .store 3 (.tmp 177) (.tmp 176), _, _, _, _⟩ :: _) _ _; refine wpList_store_rfld w W rfl _ _ _ rfl rfl g 6 (.int .i64 (En : Int)) rfl rfl [.int .i64 (En : Int)] rfl x2 { x2 with last := (En : Int) } HQ.out.pb (by kernel_rfl) (fun y hy => by rw [List.mem_singleton.1 hy]; rfl) (by simp) rfl HQ.out.ra.gr (by have := HG3.out; omega) ?_; intro wB hB hbB gB; have HB := Lib.hid (HQ.out.but hbB hB rfl rfl gB HG3.out HM5.out); clear hB hbB gB)
      go_meet
      exact ⟨rfl, by rw [HE.out]; exact HB.out⟩
  case rest =>
    obtain ⟨rfl, hH⟩ := hcut
    have H8 := Lib.hid (Hid.out hH)
    obtain ⟨w8, rfl⟩ : ∃ z, z = wc := ⟨_, rfl⟩
    clear hH b0 b1 b2 b3 b4 b5 b6 b7 b8 b9 b10
    obtain ⟨x8, hx8⟩ : ∃ x8 : Rf, x8 = { x2 with last := lastI (tookW t k) } := ⟨_, rfl⟩
    rw [← hx8] at H8
    have HX8 := Lib.hid hx8
    clear hx8
    obtain ⟨b0, b1, b2, b3, b4, b5, b6, b7, b8, b9, b10⟩ := H8.out.ra.pk.boxd
    have hbeg : x8.begun = t.first.isSome := by rw [HX8.out]; exact HN.out.2.2.2.2
    have y7 : w8.cell? ⟨g, 7, none⟩ = some (.bool x8.begun) := H8.out.pb.cell 7
    rw [hbeg] at y7
    have HQ8 : Hid (x8.nm = t.nm ∧ x8.till = t.till ∧ x8.f = t.first.getD zeroPk ∧ x8.vo = x2.vo ∧ x8.vx = x2.vx ∧ x2.f = t.first.getD zeroPk) := by
      rw [HX8.out]
      exact ⟨HN.out.1, HN.out.2.1, HN.out.2.2.1, rfl, rfl, HN.out.2.2.1⟩
    have HBG := Lib.hid hbeg
    clear hbeg
    go_upto_region 28 with fail
    go_cut [185] from 178 to 185 (fun s185 wx => s185 = .bool (decide (k.off = 0 ∧ t.first = none)) ∧ w8 = wx)
    case first =>
      by_cases o0 : k.off = 0
      · have q0 : (k.off == 0) = true := by rw [beq_iff_eq]; exact o0
        have q1 : decide (k.off = 0) = true := decide_eq_true o0
        cases hf : t.first with
        | none =>
          rw [hf] at y7
          have HS : Hid (decide (k.off = 0 ∧ t.first = none) = true) := decide_eq_true ⟨o0, hf⟩
          clear o0 hf
          go_wp2_with fail
          go_meet
          exact ⟨by rw [HS.out], rfl⟩
        | some f =>
          rw [hf] at y7
          have HS : Hid (decide (k.off = 0 ∧ t.first = none) = false) := decide_eq_false (fun h => by rw [hf] at h; cases h.2)
          clear o0 hf
          go_wp2_with fail
          go_meet
          exact ⟨by rw [HS.out], rfl⟩
      · have q0 : (k.off == 0) = false := by rw [beq_eq_false_iff_ne]; exact o0
        have q1 : decide (k.off = 0) = false := decide_eq_false o0
        have HS : Hid (decide (k.off = 0 ∧ t.first = none) = false) := decide_eq_false (fun h => o0 h.1)
        clear o0
        go_wp2_with fail
        go_meet
        exact ⟨by rw [HS.out], rfl⟩
    case rest =>
    obtain ⟨e185, rfl⟩ := hcut
    go_upto_if 185 with fail
    go_cut [12] from 185 to 188 (fun s12 wx => s12 = .int .i64 I ∧ ∃ x4 : Rf, Hid (Pnt w w5 most life (.slice A0 n0 cp0) k (.slice A k.opts.length c) (.slice B k.data.length d) g x4 (tookW t k).c wx ∧ Rq.Ok base wx ⟨x4, tookW t k⟩))
    case first =>
      by_cases hz : k.off = 0 ∧ t.first = none
      · have hfi : (tookW t k).first = some k := by unfold tookW; simp only; rw [if_pos hz]
        have HFI := Lib.hid hfi
        rw [decide_eq_true hz] at e185
        subst e185
        clear hz hfi y7
        go_upto_region 29 with fail
        refine wp_region_weave (A := ?frame29) [2, 4] (fun q => Blk q (w.heap.size + 1) k (.slice A k.opts.length c) (.slice B k.data.length d) ∧ Grow w q) (inVals (isW (ipV k (.slice A k.opts.length c) (.slice B k.data.length d)) :: isW (.pointer (some ⟨g, 7, none⟩)) :: isAll :: isW (.pointer (some ⟨g, 8, none⟩)) :: isAll :: [])) (fun j vs q => match j, vs with | 0, [] => Pnt w w5 most life (.slice A0 n0 cp0) k (.slice A k.opts.length c) (.slice B k.data.length d) g x8 (tookW t k).c q | 1, [_] => Pnt w w5 most life (.slice A0 n0 cp0) k (.slice A k.opts.length c) (.slice B k.data.length d) g { x8 with begun := true } (tookW t k).c q | 2, [_, _] => Pnt w w5 most life (.slice A0 n0 cp0) k (.slice A k.opts.length c) (.slice B k.data.length d) g { x8 with begun := true, f := k, vo := .slice A k.opts.length c, vx := .slice B k.data.length d } (tookW t k).c q | _, _ => False) (by kernel_rfl) (by kernel_rfl) (by kernel_rfl) (by kernel_rfl) (fun x => ?frameEq29) ⟨(H8.out.grow (Grow.drew _)).ra.pk, (H8.out.grow (Grow.drew _)).ra.gr⟩ (H8.out.grow (Grow.drew _)) ?_ ?_ ?_
        case frameEq29 => go_simp; rfl
        · refine ⟨fun _ x w1 hI hd post hp => ?_, fun _ x w1 hI hd post hp => ?_, fun hn => absurd hn (by decide), fun _ x w1 hI hd post hp => ?_, fun hn => absurd hn (by decide), trivial⟩
          · -- 0: slot 186: Op.load 38 t5
            clear hd
            obtain ⟨d0, d1', d2', d3, d4, d5, d6, d7, d8, d9, d10⟩ := hI.1.boxd
            go_simp
            exact hp _ rfl
          · -- 1: slot 187: Op.fieldAddr 78 t13 7
            clear hd
            go_simp
            exact hp _ rfl
          · -- 3: slot 188: Op.fieldAddr 78 t13 8
            clear hd
            go_simp
            exact hp _ rfl
        · refine ⟨fun x w1 hI hd hs post hp => ?_, fun x w1 hI hd hs post hp => ?_, trivial⟩
          · -- 2: slot none:0: Op.store 4 t187 (const (Value.bool true))
            have h187 : x 187 = .pointer (some ⟨g, 7, none⟩) := hd 1 (by decide) (by decide) _ rfl
            clear hd
            have s0 : Pnt w w5 most life (.slice A0 n0 cp0) k (.slice A k.opts.length c) (.slice B k.data.length d) g x8 (tookW t k).c w1 := hs
            exact upon_cs w w1 rfl 4 (.tmp 187) (.const (.bool true)) rfl g 7 (.bool true) h187 rfl [.bool true] rfl 78 (rfA x8) (rfA { x8 with begun := true }) s0.pb (by kernel_rfl) (fun y hy => by rw [List.mem_singleton.1 hy]; rfl) (by simp) rfl hI.2 (by have := HG3.out; omega) (fun w3' h3' hb3' g3' => hp _ _ ⟨(hb3'.2 (w.heap.size + 1) (by have := HG3.out; omega)).trans hI.1, g3'⟩ (s0.but hb3' h3' rfl rfl g3' HG3.out HM5.out))
          · -- 4: slot none:1: Op.store 38 t188 t186
            have h188 : x 188 = .pointer (some ⟨g, 8, none⟩) := hd 3 (by decide) (by decide) _ rfl
            have h186 : x 186 = ipV k (.slice A k.opts.length c) (.slice B k.data.length d) := hd 0 (by decide) (by decide) _ rfl
            clear hd
            have s1 : Pnt w w5 most life (.slice A0 n0 cp0) k (.slice A k.opts.length c) (.slice B k.data.length d) g { x8 with begun := true } (tookW t k).c w1 := hs
            exact upon_cs w w1 rfl 38 (.tmp 188) (.tmp 186) rfl g 8 (ipV k (.slice A k.opts.length c) (.slice B k.data.length d)) h188 h186 (pc ⟨k, .slice A k.opts.length c, .slice B k.data.length d⟩) rfl 78 (rfA { x8 with begun := true }) (rfA { x8 with begun := true, f := k, vo := .slice A k.opts.length c, vx := .slice B k.data.length d }) s1.pb (by kernel_rfl) (pc_one rfl rfl) (by simp [pc]) rfl hI.2 (by have := HG3.out; omega) (fun w3' h3' hb3' g3' => hp _ _ ⟨(hb3'.2 (w.heap.size + 1) (by have := HG3.out; omega)).trans hI.1, g3'⟩ (s1.but hb3' h3' rfl rfl g3' HG3.out HM5.out))
        · intro x w1 hI hd hs
          have HS10 : Hid (Pnt w w5 most life (.slice A0 n0 cp0) k (.slice A k.opts.length c) (.slice B k.data.length d) g { x8 with begun := true, f := k, vo := .slice A k.opts.length c, vx := .slice B k.data.length d } (tookW t k).c w1) := hs
          clear hd hs hI
          go_wp2_with fail
          go_meet
          exact ⟨rfl, _, HS10.out, pnt_ok HS10.out hb HB5.out HM5.out HQ8.out.1 (by rw [HX8.out]) (by rw [HFI.out]; rfl) (by rw [HFI.out]; rfl) HT.out.2.o HT.out.2.d HQ8.out.2.1 (by have := HG3.out; have := HM5.out; omega)⟩
      · have hfi : (tookW t k).first = t.first := by unfold tookW; simp only; rw [if_neg hz]
        have HFI := Lib.hid hfi
        have HOK : Hid (Rq.Ok base w8 ⟨x8, tookW t k⟩) := pnt_ok H8.out hb HB5.out HM5.out HQ8.out.1 (by rw [HX8.out]) (by rw [HFI.out]; exact HBG.out) (by rw [HFI.out]; exact HQ8.out.2.2.1) (by rw [HQ8.out.2.2.2.1, HQ8.out.2.2.1, ← HQ8.out.2.2.2.2.2]; exact HFX.out.1) (by rw [HQ8.out.2.2.2.2.1, HQ8.out.2.2.1, ← HQ8.out.2.2.2.2.2]; exact HFX.out.2) HQ8.out.2.1 (by have := HG3.out; have := HM5.out; omega)
        rw [decide_eq_false hz] at e185
        subst e185
        clear hz hfi
        go_wp2_with fail
        go_meet
        exact ⟨rfl, x8, H8.out, HOK.out⟩
    case rest =>
      obtain ⟨rfl, x4, hH⟩ := hcut
      have H9 := Lib.hid (Hid.out hH)
      obtain ⟨w9, rfl⟩ : ∃ z, z = wc := ⟨_, rfl⟩
      clear hH b0 b1 b2 b3 b4 b5 b6 b7 b8 b9 b10 y7
      obtain ⟨t', ht'⟩ : ∃ t', t' = tookW t k := ⟨_, rfl⟩
      rw [← ht'] at H9
      have hbeg : x4.begun = t'.first.isSome := H9.out.2.begun
      have hlas : x4.last = lastI t' := H9.out.2.last
      have y7 : w9.cell? ⟨g, 7, none⟩ = some (.bool x4.begun) := H9.out.1.pb.cell 7
      have y6 : w9.cell? ⟨g, 6, none⟩ = some (.int .i64 x4.last) := H9.out.1.pb.cell 6
      rw [hbeg] at y7
      rw [hlas] at y6
      have HT' := Lib.hid ht'
      have hWO : WOk t' := by rw [ht']; exact (tookW_ok HWO.out HST.out HH0.out HCK.out HT.out.2.ok HT.out.2.small).1
      have HWO' := Lib.hid hWO
      clear hbeg hlas ht' hWO
      go_upto_region 30 with fail
      go_cut [12, 15] from 189 to 195 (fun s12 s15 wx => s12 = .int .i64 I ∧ s15 = .bool (t'.first.isSome && decide (t'.fin ≠ 0)) ∧ w9 = wx)
      case first =>
        by_cases hf : t'.fin = 0
        · have hl : lastI t' = -1 := by unfold lastI; rw [if_pos hf]
          have HS : Hid (decide (t'.fin ≠ 0) = false) := decide_eq_false (fun h => h hf)
          rw [hl] at y6
          clear hl hf
          cases hs : t'.first.isSome with
          | true =>
            rw [hs] at y7
            have HB := Lib.hid hs
            clear hs
            go_wp2_with fail
            go_meet
            exact ⟨rfl, by rw [HB.out, HS.out]; rfl, rfl⟩
          | false =>
            rw [hs] at y7
            have HB := Lib.hid hs
            clear hs
            go_wp2_with fail
            go_meet
            exact ⟨rfl, by rw [HB.out]; rfl, rfl⟩
        · have hl : lastI t' = (t'.fin : Int) := by unfold lastI; rw [if_neg hf]
          have HS : Hid (decide (t'.fin ≠ 0) = true) := decide_eq_true hf
          rw [hl] at y6
          have g0 : decide ((0 : Int) ≤ (t'.fin : Int)) = true := decide_eq_true (by omega)
          clear hl hf
          cases hs : t'.first.isSome with
          | true =>
            rw [hs] at y7
            have HB := Lib.hid hs
            clear hs
            go_wp2_with fail
            go_meet
            exact ⟨rfl, by rw [HB.out, HS.out]; rfl, rfl⟩
          | false =>
            rw [hs] at y7
            have HB := Lib.hid hs
            clear hs
            go_wp2_with fail
            go_meet
            exact ⟨rfl, by rw [HB.out]; rfl, rfl⟩
      case rest =>
        obtain ⟨rfl, e15, rfl⟩ := hcut
        have E15 := Lib.hid e15
        clear e15 y7
        go_wp2_with fail
        go_loopg [15, 16] t'.fin (fun gk s15 s16 wr => ∃ (i : Nat) (b : Bool), i ≤ t'.fin ∧ gk = t'.fin - i ∧ s15 = .bool b ∧ s16 = .int .i64 (i : Int) ∧ (b = true ↔ t'.first.isSome = true ∧ t'.fin ≠ 0 ∧ ∀ q, q < i → (look t'.c q).isSome = true) ∧ wr = w9)
        case atStart => exact ⟨0, _, Nat.zero_le _, rfl, E15.out, rfl, by simp, rfl⟩
        case round =>
          obtain ⟨i, bb, hi, rfl, rfl, rfl, hbb, rfl⟩ := hrel
          have HBB := Lib.hid hbb
          clear hbb
          go_upto_region 32 with fail
          go_cut [202] from 196 to 209 (fun s202 wx => s202 = .bool (decide (i < t'.fin) && bb) ∧ wr = wx)
          case first =>
            by_cases hf : t'.fin = 0
            · have hl : lastI t' = -1 := by unfold lastI; rw [if_pos hf]
              rw [hl] at y6
              have hn : ¬ i < t'.fin := by omega
              have HS : Hid (decide (i < t'.fin) = false) := decide_eq_false hn
              have g0 : decide ((i : Int) < -1) = false := decide_eq_false (by omega)
              clear hl hf hn
              go_wp2_with fail
              go_meet
              exact ⟨by rw [HS.out]; rfl, rfl⟩
            · have hl : lastI t' = (t'.fin : Int) := by unfold lastI; rw [if_neg hf]
              rw [hl] at y6
              clear hl hf
              by_cases hn : i < t'.fin
              · have g0 : decide ((i : Int) < (t'.fin : Int)) = true := decide_eq_true (by omega)
                have HS : Hid (decide (i < t'.fin) = true) := decide_eq_true hn
                go_wp2_with fail
                go_meet
                exact ⟨by rw [HS.out]; cases bb <;> rfl, rfl⟩
              · have g0 : decide ((i : Int) < (t'.fin : Int)) = false := decide_eq_false (by omega)
                have HS : Hid (decide (i < t'.fin) = false) := decide_eq_false hn
                go_wp2_with fail
                go_meet
                exact ⟨by rw [HS.out]; rfl, rfl⟩
          case rest =>
            obtain ⟨e202, rfl⟩ := hcut
            cases hb2 : (decide (i < t'.fin) && bb) with
            | true =>
              rw [hb2] at e202
              subst e202
              rw [Bool.and_eq_true, decide_eq_true_iff] at hb2
              obtain ⟨hif, rfl⟩ := hb2
              have hl := HWO'.out.fin (by omega)
              obtain ⟨gd, cd, gh, ch, ev, eh, r1, r2, r3, r4, r5, r6, r7, r8, r9, r10, r11⟩ := H9.out.1.rows (by omega)
              obtain ⟨rb, rbf⟩ := r10 i (by omega)
              have y5 : wr.cell? ⟨g, 5, none⟩ = some (.slice (some ⟨gh, 0, none⟩) t'.c.length ch) := by rw [← eh]; exact H9.out.1.pb.cell 5
              rw [hl] at y5 r3
              have hic : (i : Int) < (t'.fin : Int) := by omega
              unfold maxLen at r4
              have HIF := Lib.hid hif
              clear hl ev eh r1 r2 r5 r6 r7 r8 r9 r10 r11 hif
              go_wp2_with fail
              go_roundg (t'.fin - (i + 1))
              case measure => have := HIF.out; omega
              case rel =>
                refine ⟨i + 1, _, HIF.out, rfl, rfl, by go_num, ?_, rfl⟩
                constructor
                · intro h
                  obtain ⟨a1, a2, a3⟩ := HBB.out.1 trivial
                  refine ⟨a1, a2, fun q hq => ?_⟩
                  by_cases e : q = i
                  · subst e; exact h
                  · exact a3 q (by omega)
                · intro h
                  exact h.2.2 i (by omega)
            | false =>
              rw [hb2] at e202
              subst e202
              have HFW : Hid (bb = fullW t') := by
                show _ = _
                rw [Bool.eq_iff_iff, full_flags HWO'.out]
                constructor
                · intro h
                  subst h
                  obtain ⟨a1, a2, a3⟩ := HBB.out.1 rfl
                  refine ⟨a1, a2, fun q hq => a3 q ?_⟩
                  simp at hb2
                  omega
                · rintro ⟨a1, a2, a3⟩
                  exact HBB.out.2 ⟨a1, a2, fun q hq => a3 q (by omega)⟩
              clear hb2
              refine ‹∀ (a : Go.Act) (w' : World), Code.wp Try.prog (Code.cond (Operand.tmp 202) _ _) _ a w' → _› _ _ ?_
              refine wp_cond_false rfl (wp_exit ?_)
              conv => whnf
              refine ‹∀ (a : Go.Act) (w' : World), Code.wp Try.prog _ Q a w' → _› _ _ ?_
              refine rTail35 Q w wr base most life g x4 t' A0 n0 cp0 A1 ?_ hb HWO'.out I bb HFW.out R ?_ HQQ.out _ _ _ _ _ _ _ _ _ _ _ _ _ _ _ _ _ _ _ _ _ _ _ _ _ _ _ _ _ _ _ _ _ _ _ _ _ _ _ _ _ _ _ _ _ _ _ _ _ _ _ _ _ _ _ _ _ _ _ _ _ _ _ _ _ _ _ _ _ _ _ _ _ _ _ _ _ _ _ _ _ _ _ _ _ _ _ _ _ _ _ _ _ _ _ _ _ _ _ _ _ _ _ _ _ _ _ _ _ _ _ _ _ _ _ _ _ _ _ _ _ _ _ _ _ _ _ _ _ _ _ _ _ _ _ _ _ _ _ _ _ _ _ _ _ _ _ _ _ _ _ _ _ _ _ _ _ _ _ _ _ _ _ _ _ _ _ _ _ _ _ _ _ _ _ _ _ _ _ _ _ _ _ _ _ _ _ _ _ _ _ _ _ _ _ _ _ _ _ _ _ _ _ _ _ _ _ _ _ _ _ _ _ _ _ _ _ _ _ _ _ _ _ _ _ _ _ _ _ _ _ _ _ _ _ _ _ _ _ _ _ _ _ _ _ _ _ _ _
              · exact ⟨H9.out.1.ra.tb, H9.out.1.ra.rt, H9.out.1.ra.ri, H9.out.1.ra.gr, H9.out.1.pb, H9.out.2, RTab.grow HT.out.1 H9.out.1.ra.gr hb, HG3.out⟩
              · rw [HT'.out]; exact HSEL.out
end Go.Proofs.Ytfjmcfkpbacicaa
