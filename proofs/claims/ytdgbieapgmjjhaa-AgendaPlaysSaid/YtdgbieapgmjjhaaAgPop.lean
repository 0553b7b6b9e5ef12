/- Contract: Pop of an agenda. -/
import Derived.Test.YtdgbieapgmjjhaaAgTop
namespace Go.Proofs.Ytdgbieapgmjjhaa
set_option linter.unusedVariables false
set_option linter.unusedSimpArgs false
open Go.ChangeShapes Go.WideShapes Go.ChangeAt Go.RowKit

theorem infoIt : (Try.prog.info? 31).map (fun i => (i.zero, i.size, i.bytes)) = some (some (.agg #[.int .i64 0, .int .i64 0, .int .i64 0]), 3, 24) := by kernel_rfl
def it (e : En) : List Value := [.int .i64 e.id, .int .i64 e.at_, .int .i64 e.rk]
theorem flat_it_len : ∀ l : List En, (l.flatMap it).length = l.length * 3
  | [] => rfl
  | t :: l => by
    rw [List.flatMap_cons, List.length_append, flat_it_len l, List.length_cons]
    simp [it]
    omega
/-- A row of items of the call's own. -/
def Its (w : World) (base : Nat) (v : Value) (l : List En) : Prop := w.ownsRow base 31 3 v l.length (l.flatMap it)
def Zi3 (b : Nat) (T : TypeId) : Prop := T = 31
theorem Its.form {w : World} {base : Nat} {v : Value} {l : List En} (h : Its w base v l) : ∃ A c, v = .slice A l.length c := by
  obtain ⟨A, c, e, _⟩ := (RdK.of_own h).form
  exact ⟨A, c, e⟩
theorem Its.grow {w w' : World} {base : Nat} {v : Value} {l : List En} (h : Its w base v l) (g : Grow w w') : Its w' base v l := ownsRow_other h fun b cs _ hh => g.block b (Array.getElem?_eq_some_iff.1 hh).1
theorem Qu.onlyG {w w' : World} {base b0 ab mb : Nat} {v : Value} {E : List En} {mo pu : Int} {Z : Nat → TypeId → Prop} (h : Qu w base ab mb v E mo pu) (o : Only b0 Z w w') (z1 : ∀ b, ¬ Z b 61) (z2 : ∀ b, ¬ Z b mapT) (z3 : ∀ b, ¬ Z b 66) : Qu w' base ab mb v E mo pu := by
  obtain ⟨f, ⟨L, ⟨es, ck, hm, h1, h2⟩, h3⟩, h4⟩ := h.map
  exact ⟨o.cells h.blk (z1 _), o.row h.row fun g _ => z3 g, ⟨f, ⟨L, ⟨es, ck, o.keep mb _ mapT hm rfl (z2 _), h1, h2⟩, h3⟩, h4⟩, h.nod, h.low⟩
theorem run_itapp (w : World) (base : Nat) (v : Value) (l : List En) (t : En) (h : Its w base v l) (hb : base ≤ w.heap.size) (hl : l.length ≤ 1000000) {ops : Array Oper} {rest : List Oper} {o : Oper} {a : Act} {Q : Exit → Act → World → Prop} (hgd : o.guard = none) (s x : Operand)
    (ho : o.op = .call { callee := .builtin .append, args := #[s, x], argTypes := #[29, 29] }) (hs : a.eval s = v) (hx : a.eval x = .slice (some ⟨w.heap.size, 0, none⟩) 1 1)
    (hK : ∀ v5 w5, Its w5 base v5 (l ++ [t]) → Only base Zi3 w w5 → wpList Try.prog ops Q rest (a.put o.dst v5) w5) : wpList Try.prog ops Q (o :: rest) a (w.alloc (.cells #[.int .i64 t.id, .int .i64 t.at_, .int .i64 t.rk] 31)) := by
  have g1 : Grow w (w.alloc (.cells #[.int .i64 t.id, .int .i64 t.at_, .int .i64 t.rk] 31)) := Grow.alloc _ _
  have hlit : RdK (w.alloc (.cells #[.int .i64 t.id, .int .i64 t.at_, .int .i64 t.rk] 31)) 3 (.slice (some ⟨w.heap.size, 0, none⟩) 1 1) 1 (it t) := RdK.of_own (World.ownsRow_lit (base := w.heap.size) (e := 31) (size := 3) w #[.int .i64 t.id, .int .i64 t.at_, .int .i64 t.rk] 1 (Nat.le_refl _) (by decide) rfl)
  refine wpList_appK _ hgd s x 29 ho 31 _ 3 24 Try.underlying29 infoIt rfl (by decide) base v _ l.length 1 _ _ hs hx (h.grow g1) hlit (fun y hy => by simp [it] at hy; rcases hy with rfl | rfl | rfl <;> rfl) (by omega) (by unfold maxLen; omega) (Nat.le_trans hb g1.size) ?_
  intro v5 w5 ho5 hg5 _
  refine hK v5 w5 (by unfold Its; rw [List.length_append, List.flatMap_append]; simpa using ho5) ((Only.grow g1 hb Zi3).trans (Only.grown hg5 (fun b e => ?_) (Nat.le_trans hb g1.size)))
  obtain ⟨cs, h1, h2⟩ := ownsRow_blk (h.grow g1) e
  exact ⟨h2, fun o T ho' hT => by rw [h1] at ho'; cases ho'; cases hT; rfl⟩
/-- What Pop may touch: items' rows of its own alone. -/
def Zp (z b : Nat) (T : TypeId) : Prop := Zq b T ∨ (T = 31 ∧ z ≤ b)
theorem Only.zi {b0 z : Nat} {a c : World} (h : Only z Zi3 a c) (hz : b0 ≤ z) : Only b0 (Zp z) a c := by
  refine ⟨h.low.mono hz, fun b o T hb ht hn => ?_⟩
  by_cases q : T = 31
  · have hlt : b < z := by
      rcases Nat.lt_or_ge b z with q2 | q2
      · exact q2
      · exact absurd (.inr ⟨q, q2⟩) hn
    exact (h.low.block b hlt).trans hb
  · exact h.keep b o T hb ht q
theorem Only.zq {b0 : Nat} {a c : World} (h : Only b0 (Zp a.heap.size) a c) : Only b0 Zq a c := h.mono fun i o T hi _ e => by
  rcases e with e | ⟨_, e⟩
  · exact e
  · have := (Array.getElem?_eq_some_iff.1 hi).1
    omega
/-- Where Pop stands: D told, F left. -/
structure PopAt (w0 w : World) (base ab mb : Nat) (E D : List En) (mo pu now : Int) (s : Value) : Prop where
  q : ∃ v F, Qu w base ab mb v F mo pu ∧ Hp F F.length ∧ (D ++ F).Perm E ∧ ∀ d ∈ D, ∀ e ∈ F, ¬ ltE e d
  le : ∀ d ∈ D, d.at_ ≤ now
  srt : D.Pairwise fun a b => ¬ ltE b a
  row : Its w w0.heap.size s D
  only : Only base (Zp w0.heap.size) w0 w
theorem pt_mem {F : List En} {e : En} (h : e ∈ F) : ∃ k, k < F.length ∧ pt F k = e := by
  obtain ⟨k, hk⟩ := List.getElem?_of_mem h
  have hl := (List.getElem?_eq_some_iff.1 hk).1
  rw [pt_get hl] at hk
  exact ⟨k, hl, Option.some.inj hk⟩
set_option maxRecDepth 100000 in
set_option maxHeartbeats 4000000 in
theorem aPop_any (w : World) (base ab mb : Nat) (v : Value) (E : List En) (mo pu now : Int) (h : Qu w base ab mb v E mo pu) (hp : Hp E E.length) (hn : E.length ≤ 80000) :
    Calls Try.prog 15 #[.pointer (some ⟨ab, 0, none⟩), .int .i64 now] w fun e w' => ∃ s D v' F, e = .returned s ∧ Qu w' base ab mb v' F mo pu ∧ Hp F F.length ∧ (D ++ F).Perm E ∧ (∀ d ∈ D, d.at_ ≤ now) ∧ (∀ e ∈ F, now < e.at_) ∧ (D.Pairwise fun a b => ¬ ltE b a) ∧ Its w' w.heap.size s D ∧ Only base Zq w w' := by
  have hm1 := m_pop ab
  have H0 : Hid (PopAt w w base ab mb E [] mo pu now (.slice none 0 0)) := ⟨⟨v, E, h, hp, List.Perm.refl _, fun d hd => by cases hd⟩, fun d hd => (by cases hd), List.Pairwise.nil, ⟨rfl, .inl ⟨rfl, rfl⟩⟩, Only.refl _ _ _⟩
  have HN := Lib.hid hn
  have HB0 := Lib.hid h.bas
  clear h hp hn
  go_enter Try.func15, Try.ntmps15
  go_wp2_with fail
  go_loopg [5] E.length (fun gk s5 wr => ∃ (A : Option Addr) (n c : Nat) (D : List En), gk = E.length - D.length ∧ s5 = .slice A n c ∧ Hid (n = D.length ∧ D.length ≤ E.length ∧ PopAt w wr base ab mb E D mo pu now (.slice A n c)))
  case atStart => exact ⟨none, 0, 0, [], rfl, rfl, rfl, Nat.zero_le _, H0.out⟩
  case round =>
    obtain ⟨A, n, c, D, rfl, rfl, HR⟩ := hrel
    rename World => wa
    clear H0
    obtain ⟨v, F, hQ, hH, hP, hDF⟩ := HR.out.2.2.q
    have HQ : Hid (Qu wa base ab mb v F mo pu ∧ Hp F F.length ∧ (D ++ F).Perm E ∧ ∀ d ∈ D, ∀ e ∈ F, ¬ ltE e d) := ⟨hQ, hH, hP, hDF⟩
    have hlen := hP.length_eq
    rw [List.length_append] at hlen
    have HL := Lib.hid hlen
    clear hH hP hDF hlen
    rcases Nat.eq_zero_or_pos F.length with hz | hz
    · have hF : F = [] := List.eq_nil_of_length_eq_zero hz
      subst hF
      have c0 := aTop_empty wa base ab mb v mo pu hQ
      clear hQ hz
      go_wp2_with fail
      refine c0.mono ?_
      rintro e w2 ⟨rfl, g2⟩
      obtain ⟨W, hW⟩ : ∃ W, W = w2.alloc (.cells #[.int .i64 0, .int .i64 0, .int .i64 0] 31) := ⟨_, rfl⟩
      have gW : Grow wa W := by rw [hW]; exact Grow.trans g2 (Grow.alloc _ _)
      have HF : Hid (Qu W base ab mb v [] mo pu ∧ Its W w.heap.size (.slice A n c) D ∧ Only base (Zp w.heap.size) w W) := ⟨HQ.out.1.grow gW, HR.out.2.2.row.grow gW, HR.out.2.2.only.trans (Only.grow gW HQ.out.1.bas _)⟩
      have HW := Lib.hid hW
      clear c0 g2 gW hW
      go_wp2_with fail
      rw [← HW.out]
      go_ret
      refine ⟨_, D, v, [], rfl, HF.out.1, HQ.out.2.1, HQ.out.2.2.1, HR.out.2.2.le, (fun e he => by cases he), HR.out.2.2.srt, HF.out.2.1, HF.out.2.2.zq⟩
    · have c0 := aTop_some wa base ab mb v F mo pu hQ hz
      obtain ⟨x, hx⟩ : ∃ x, x = pt F 0 := ⟨_, rfl⟩
      rw [← hx] at c0
      unfold itV at c0
      have HX : Hid (x = pt F 0 ∧ 0 < F.length) := ⟨hx, hz⟩
      clear hQ hz hx
      by_cases hl : now < x.at_
      · have HLt := Lib.hid hl
        go_wp2_with fail
        refine c0.mono ?_
        rintro e w2 ⟨rfl, g2⟩
        obtain ⟨W, hW⟩ : ∃ W, W = w2.alloc (.cells #[.int .i64 x.id, .int .i64 x.at_, .int .i64 x.rk] 31) := ⟨_, rfl⟩
        have gW : Grow wa W := by rw [hW]; exact Grow.trans g2 (Grow.alloc _ _)
        have HF : Hid (Qu W base ab mb v F mo pu ∧ Its W w.heap.size (.slice A n c) D ∧ Only base (Zp w.heap.size) w W) := ⟨HQ.out.1.grow gW, HR.out.2.2.row.grow gW, HR.out.2.2.only.trans (Only.grow gW HQ.out.1.bas _)⟩
        have HW := Lib.hid hW
        clear c0 g2 gW hW
        go_wp2_with fail
        rw [← HW.out]
        go_ret
        refine ⟨_, D, v, F, rfl, HF.out.1, HQ.out.2.1, HQ.out.2.2.1, HR.out.2.2.le, (fun e he => ?_), HR.out.2.2.srt, HF.out.2.1, HF.out.2.2.zq⟩
        obtain ⟨k, hk, rfl⟩ := pt_mem he
        have h1 := HQ.out.2.1.least k hk
        rw [← HX.out.1] at h1
        have h2 := HLt.out
        unfold ltE at h1
        omega
      · have HLe := Lib.hid hl
        go_wp2_with fail
        refine c0.mono ?_
        rintro e w2 ⟨rfl, g2⟩
        obtain ⟨W, hW⟩ : ∃ W, W = w2.alloc (.cells #[.int .i64 x.id, .int .i64 x.at_, .int .i64 x.rk] 31) := ⟨_, rfl⟩
        have gW : Grow wa W := by rw [hW]; exact Grow.trans g2 (Grow.alloc _ _)
        have HF : Hid (Qu W base ab mb v F mo pu ∧ Its W w.heap.size (.slice A n c) D ∧ Only base (Zp w.heap.size) w W ∧ w.heap.size ≤ W.heap.size ∧ D.length ≤ 1000000) := ⟨HQ.out.1.grow gW, HR.out.2.2.row.grow gW, HR.out.2.2.only.trans (Only.grow gW HQ.out.1.bas _), Nat.le_trans HR.out.2.2.only.size gW.size, by have := HR.out.2.1; have := HN.out; omega⟩
        obtain ⟨_, b0, b1, b2⟩ := box_item w2 x.id x.at_ x.rk hW
        clear c0 g2 gW
        go_upto_region 5 with fail
        rw [← hW]
        have HW := Lib.hid hW
        clear hW
        go_wp2_with (at_builtin; refine run_itapp W w.heap.size (.slice A n c) D x HF.out.2.1 HF.out.2.2.2.1 HF.out.2.2.2.2 rfl (.tmp 22) (.tmp 24) rfl rfl rfl ?_; intro v5 w5 hr5 o5; obtain ⟨A5, c5, hv5⟩ := hr5.form; obtain ⟨n5, hn5⟩ : ∃ n5, n5 = (D ++ [x]).length := ⟨_, rfl⟩; rw [← hn5] at hv5; subst hv5; have hq5 := HF.out.1.onlyG o5 (fun b e => absurd (show 61 = 31 from e) (by decide)) (fun b e => absurd (show mapT = 31 from e) (by decide)) (fun b e => absurd (show 66 = 31 from e) (by decide)); obtain ⟨m, hm⟩ : ∃ m, F.length = m + 1 := ⟨F.length - 1, by have := HX.out.2; omega⟩; have c1 := hpop_any w5 base ab mb v F mo pu hq5 m hm (by have := HL.out; have := HN.out; omega) (by rw [← hm]; exact HQ.out.2.1); unfold qI at c1; have H5 : Hid (Its w5 w.heap.size (.slice A5 n5 c5) (D ++ [x]) ∧ Only base (Zp w.heap.size) w w5 ∧ n5 = (D ++ [x]).length) := ⟨hr5, HF.out.2.2.1.trans (o5.zi HB0.out), hn5⟩; clear hr5 o5 hq5 hm hn5)
        refine c1.mono ?_
        rintro e w6 ⟨rfl, v', F', h6, p6, q6, o6⟩
        have H6 : Hid (n5 = (D ++ [x]).length ∧ (D ++ [x]).length ≤ E.length ∧ PopAt w w6 base ab mb E (D ++ [x]) mo pu now (.slice A5 n5 c5)) := by
          have hmemF : ∀ e ∈ F', e ∈ F := fun e he => p6.mem_iff.1 (List.mem_cons_of_mem _ he)
          have hxF : pt F 0 ∈ F := p6.mem_iff.1 List.mem_cons_self
          refine ⟨H5.out.2.2, ?_, ⟨⟨v', F', h6, q6, ?_, ?_⟩, ?_, ?_, ?_, ?_⟩⟩
          · rw [List.length_append, List.length_singleton]
            have := HL.out
            have := HX.out.2
            omega
          · rw [List.append_assoc, HX.out.1]
            exact (List.Perm.append_left D p6).trans HQ.out.2.2.1
          · intro d hd e he
            rcases List.mem_append.1 hd with a | a
            · exact HQ.out.2.2.2 d a e (hmemF e he)
            · rw [List.mem_singleton.1 a, HX.out.1]
              obtain ⟨k, hk, rfl⟩ := pt_mem (hmemF e he)
              exact HQ.out.2.1.least k hk
          · intro d hd
            rcases List.mem_append.1 hd with a | a
            · exact HR.out.2.2.le d a
            · rw [List.mem_singleton.1 a]
              have := HLe.out
              omega
          · refine List.pairwise_append.2 ⟨HR.out.2.2.srt, List.pairwise_singleton _ _, fun a ha b hb => ?_⟩
            rw [List.mem_singleton.1 hb, HX.out.1]
            exact HQ.out.2.2.2 a ha _ hxF
          · exact o6.row H5.out.1 fun g _ e => by rcases e with e | e | e <;> exact absurd e (by decide)
          · exact H5.out.2.1.trans (o6.mono fun _ _ _ _ _ e => .inl e)
        clear c1 h6 p6 q6 o6
        go_wp2_with fail
        go_roundg (E.length - (D ++ [x]).length)
        case measure =>
          have h1 := H6.out.2.1
          rw [List.length_append, List.length_singleton] at h1 ⊢
          omega
        case rel => exact ⟨A5, n5, c5, D ++ [x], rfl, rfl, H6.out⟩
end Go.Proofs.Ytdgbieapgmjjhaa
