/- Contract: All of an agenda. -/
import Derived.Test.YtdgbieapgmjjhaaAgSort
import Derived.Test.YtdgbieapgmjjhaaAgMov
import Derived.Test.YtdgbieapgmjjhaaAgApp
namespace Go.Proofs.Ytdgbieapgmjjhaa
set_option linter.unusedVariables false
set_option linter.unusedSimpArgs false
open Go.ChangeShapes Go.WideShapes Go.ChangeAt Go.RowKit

theorem infoEn4 : (Try.prog.info? 66).map (fun i => (i.zero, i.size, i.bytes)) = some (some (.agg #[.int .i64 0, .int .i64 0, .int .i64 0, .int .i64 0]), 4, 32) := by kernel_rfl
theorem en_one (l : List En) : ∀ y ∈ l.flatMap en, y.oneCell' = true := by
  intro y hy
  obtain ⟨t, _, h⟩ := List.mem_flatMap.1 hy
  simp [en] at h
  rcases h with rfl | rfl | rfl | rfl <;> rfl
theorem nil_eq (w : World) : (Go.binOp .eql 57 (.slice none 0 0) (.slice none 0 0)).run Try.prog w = .ok (.bool true) w := by kernel_rfl
theorem nil_ne (w : World) (a : Addr) (n c : Nat) : (Go.binOp .eql 57 (.slice (some a) n c) (.slice none 0 0)).run Try.prog w = .ok (.bool false) w := by kernel_rfl
set_option maxRecDepth 100000 in
set_option maxHeartbeats 1000000 in
theorem clone_any (w : World) (base n : Nat) (v : Value) (E : List En) (h : w.ownsRow base 66 4 v n (E.flatMap en)) (hn : n = E.length) (hl : n ≤ 100000) :
    Calls Try.prog 27 #[v] w fun e w' => ∃ v', e = .returned v' ∧ w'.ownsRow w.heap.size 66 4 v' n (E.flatMap en) ∧ Grow w w' := by
  rcases id h.2 with ⟨hv, h0⟩ | ⟨g, c, cur, hv, _⟩
  · subst hv
    subst h0
    have e0 : E = [] := List.eq_nil_of_length_eq_zero hn.symm
    subst e0
    clear h hn hl
    have hq := nil_eq
    go_enter Try.func27, Try.ntmps27
    go_wp2_with fail
    go_ret
    exact ⟨_, rfl, ⟨rfl, .inl ⟨rfl, rfl⟩⟩, Grow.refl _⟩
  · have hr := Lib.hid (RdK.of_own h)
    subst hv
    clear h hn
    have hq := nil_ne
    go_enter Try.func27, Try.ntmps27
    go_wp2_with (at_builtin; refine wpList_appK _ rfl (.tmp 5) (.tmp 6) 57 rfl 66 _ 4 32 Try.underlying57 infoEn4 rfl (by decide) w.heap.size _ _ 0 n [] _ rfl rfl (World.ownsRow_lit w #[] 0 (Nat.le_refl _) (Nat.zero_le _) rfl) (hr.out.grow (Grow.alloc _ _)) (en_one E) (by omega) (by unfold maxLen; omega) (by simp) ?_; intro v1 w1 ho1 hg1 hat1; rw [List.nil_append, Nat.zero_add] at ho1; have hgw : Grow w w1 := (Grow.alloc _ _).grown hg1 (by simp) (fun k hk => by cases hk; exact Nat.le_refl _); have H1 := Lib.hid (And.intro ho1 hgw); clear ho1 hg1 hat1 hgw)
    go_ret
    exact ⟨_, rfl, H1.out⟩
/-- Where All stands. -/
structure AaAt (w wr : World) (S : List En) (k : Nat) (g cp : Nat) (A : Option Addr) (n c : Nat) : Prop where
  le : k ≤ S.length
  ent : wr.ownsRow w.heap.size 66 4 (.slice (some ⟨g, 0, none⟩) S.length cp) S.length (S.flatMap en)
  row : Its wr w.heap.size (.slice A n c) (S.take k)
  g : Grow w wr
set_option maxRecDepth 100000 in
set_option maxHeartbeats 8000000 in
theorem agAll_any {w : World} {base ab mb : Nat} {L : List En} {mo pu : Int} (h : Agd w base ab mb L mo pu) (hn : L.length ≤ 80000) :
    Calls Try.prog 20 #[.pointer (some ⟨ab, 0, none⟩)] w fun e w' => ∃ v', e = .returned v' ∧ Its w' w.heap.size v' (sortE L) ∧ Grow w w' := by
  obtain ⟨v, E, h1, h2, h3⟩ := h.q
  have hl := h3.length_eq
  have a2 := h1.cell.1
  have c0 := clone_any w base E.length v E h1.row rfl (by omega)
  have HL : Hid (E.Perm L ∧ Nos L ∧ E.length ≤ 80000) := ⟨h3, h.nos, by omega⟩
  obtain ⟨A, c, hv, _⟩ := h1.form
  subst hv
  clear h h1 h2 h3 hn hl
  go_enter Try.func20, Try.ntmps20
  go_wp2_with fail
  refine c0.mono ?_
  rintro e w1 ⟨v1, rfl, r1, g1⟩
  clear c0 a2
  rcases Nat.eq_zero_or_pos E.length with hz | hz
  · obtain ⟨A1, cp1, hv1, _⟩ := RdK.form (RdK.of_own r1)
    rw [hz] at hv1
    subst hv1
    have c1 := sort0_any w1 A1 cp1
    have HE : Hid (sortE L = []) := by
      have e0 : E = [] := List.eq_nil_of_length_eq_zero hz
      have := HL.out.1
      rw [e0] at this
      rw [this.nil_eq.symm]
      rfl
    have G1 := Lib.hid g1
    clear r1 g1 hz
    go_wp2_with fail
    refine c1.mono ?_
    rintro e w' ⟨rfl, hw⟩
    subst w'
    go_wp2_with fail
    go_loopg [4, 19] 0 (fun gk s4 s19 wr => gk = 0 ∧ s4 = .slice none 0 0 ∧ s19 = .int .i64 0 ∧ wr = w1)
    case atStart => exact ⟨rfl, rfl, rfl, rfl⟩
    case round =>
      obtain ⟨rfl, rfl, rfl, rfl⟩ := hrel
      go_wp2_with fail
      go_ret
      refine ⟨_, rfl, ?_, G1.out⟩
      rw [HE.out]
      exact Its.none _ _
  · have hf : ∃ g cp, v1 = .slice (some ⟨g, 0, none⟩) E.length cp := by
      rcases r1.2 with ⟨_, q⟩ | ⟨g, cp, cur, e1, _⟩
      · omega
      · exact ⟨g, cp, e1⟩
    obtain ⟨g, cp, hv1⟩ := hf
    subst hv1
    have c1 := sortE_any w1 w.heap.size g cp E r1 (by have := HL.out.2.2; omega)
    have HB : Hid (w.heap.size ≤ g) := by
      obtain ⟨cs, q1, q2⟩ := ownsRow_blk r1 rfl
      exact q2
    have G1 := Lib.hid g1
    clear r1 g1
    go_wp2_with fail
    refine c1.mono ?_
    rintro e w2 ⟨rfl, ws, p2, s2, r2, g2⟩
    have e2 : ws = sortE L := srtE_eq HL.out.2.1 (p2.trans HL.out.1) s2
    subst e2
    obtain ⟨S, hS⟩ : ∃ S, S = sortE L := ⟨_, rfl⟩
    rw [← hS] at p2 s2 r2
    have HS := Lib.hid hS
    have hSl : S.length = E.length := p2.length_eq
    rw [← hSl] at r2 hz ⊢
    have H2 : Hid (AaAt w w2 S 0 g cp Option.none 0 0) := ⟨Nat.zero_le _, r2, Its.none _ _, G1.out.grown g2 G1.out.size (fun k hk => by cases hk; exact HB.out)⟩
    obtain ⟨N, hN⟩ : ∃ N, N = S.length := ⟨_, rfl⟩
    have HN : Hid (N = S.length ∧ N ≤ 80000) := ⟨hN, by have := HL.out.2.2; omega⟩
    rw [← hN]
    have Nb : N ≤ 80000 := HN.out.2
    clear c1 p2 s2 r2 g2 hS hSl hN hz
    go_wp2_with fail
    go_loopg [4, 19] N (fun gk s4 s19 wr => ∃ (k : Nat) (A : Option Addr) (n c : Nat), gk = N - k ∧ s4 = .slice A n c ∧ s19 = .int .i64 (k : Int) ∧ Hid (AaAt w wr S k g cp A n c))
    case atStart => exact ⟨0, Option.none, 0, 0, rfl, rfl, rfl, H2.out⟩
    case round =>
      obtain ⟨k, A, n, c, rfl, rfl, rfl, HR⟩ := hrel
      rename World => wo
      clear H2
      rcases Nat.lt_or_ge k N with hlt | hge
      · obtain ⟨x0, x1, x2, x3⟩ := row_cells HR.out.ent (k := k) (by have := HN.out.1; omega) rfl
        obtain ⟨x, hx⟩ : ∃ x, x = pt S k := ⟨_, rfl⟩
        rw [← hx] at x0 x1 x2 x3
        have HI : Hid (k < N ∧ k < S.length ∧ x = pt S k) := ⟨hlt, by have := HN.out.1; omega, hx⟩
        have k0 : (k : Int) < (N : Int) := by omega
        obtain ⟨W, hW⟩ : ∃ W, W = wo.alloc (.cells #[.int .i64 x.id, .int .i64 x.at_, .int .i64 x.rk, .int .i64 x.no] 66) := ⟨_, rfl⟩
        have gW : Grow wo W := by rw [hW]; exact Grow.alloc _ _
        have hb : W.heap[wo.heap.size]? = some (.cells #[.int .i64 x.id, .int .i64 x.at_, .int .i64 x.rk, .int .i64 x.no] 66 (0, 0)) := by rw [hW]; exact heap_alloc_new wo _
        have z0 : W.cell? ⟨wo.heap.size, 0, none⟩ = some (.int .i64 x.id) := (cell_of_row W _ 0 _ _ _ hb).trans rfl
        have z1 : W.cell? ⟨wo.heap.size, 1, none⟩ = some (.int .i64 x.at_) := (cell_of_row W _ 1 _ _ _ hb).trans rfl
        have z2 : W.cell? ⟨wo.heap.size, 2, none⟩ = some (.int .i64 x.rk) := (cell_of_row W _ 2 _ _ _ hb).trans rfl
        have HW : Hid (Grow wo W ∧ Its W w.heap.size (.slice A n c) (S.take k) ∧ w.heap.size ≤ W.heap.size ∧ (S.take k).length ≤ 1000000) := ⟨gW, HR.out.row.grow gW, Nat.le_trans HR.out.g.size gW.size, by rw [List.length_take]; have := HN.out; omega⟩
        clear hx hlt gW hb
        go_upto_region 9 with fail
        rw [← hW]
        have HWW := Lib.hid hW
        clear hW x0 x1 x2 x3
        go_wp2_with (at_builtin; refine run_itapp2 W w.heap.size (.slice A n c) (S.take k) x HW.out.2.1 HW.out.2.2.1 HW.out.2.2.2 rfl (.tmp 23) (.tmp 26) rfl rfl rfl ?_; intro v5 w5 hr5 o5 p5 n5; obtain ⟨A5, c5, hv5⟩ := hr5.form; obtain ⟨m5, hm5⟩ : ∃ m5, m5 = (S.take k ++ [x]).length := ⟨_, rfl⟩; rw [← hm5] at hv5; subst hv5; have H5 : Hid (AaAt w w5 S (k + 1) g cp A5 m5 c5) := ⟨HI.out.2.1, o5.row (ownsRow_other HR.out.ent fun b cs _ hh => HW.out.1.block b (Array.getElem?_eq_some_iff.1 hh).1) (fun _ _ => zi_en _), by rw [List.take_succ_eq_append_getElem HI.out.2.1, ← pt_key HI.out.2.1, ← HI.out.2.2]; exact hr5, Below.trans (Grow.trans HR.out.g HW.out.1) o5.low⟩; clear hr5 o5 p5 n5 hm5)
        go_roundg (N - (k + 1))
        case measure => have := HI.out.1; omega
        case rel => exact ⟨k + 1, A5, m5, c5, rfl, rfl, by go_num, H5.out⟩
      · obtain rfl : k = N := by have := HR.out.le; have := HN.out.1; omega
        have HE : Hid (Its wo w.heap.size (.slice A n c) S) := by
          have := HR.out.row
          rwa [HN.out.1, List.take_length] at this
        go_wp2_with fail
        go_ret
        exact ⟨_, rfl, by rw [← HS.out]; exact HE.out, HR.out.g⟩
end Go.Proofs.Ytdgbieapgmjjhaa
