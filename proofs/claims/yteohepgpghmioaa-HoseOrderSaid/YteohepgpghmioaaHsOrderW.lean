/- HoseOrder: its walk. -/
import Derived.Test.YteohepgpghmioaaHsOrd
namespace Go.Proofs.Yteohepgpghmioaa
set_option linter.unusedVariables false
set_option linter.unusedSimpArgs false
attribute [local irreducible] wpQuiet
open Go.ChangeShapes Go.WideShapes Go.ChangeAt Go.RowKit

set_option maxRecDepth 100000 in
set_option maxHeartbeats 4000000 in
theorem horder_long (w : World) (K : Int) {v u : Value} {l y : List UInt8} (hl : Byt w v l) (hy : Byt w u y) (h : 3000 < l.length ∨ 200 < y.length) : Calls Try.prog 4 #[.int .u16 K, v, u] w fun e w' => e = .returned (.bool true) ∧ Below w.heap.size w w' := by
  obtain ⟨A, c, rfl, _⟩ := hl.form
  obtain ⟨A', c', rfl, _⟩ := hy.form
  have c0 := hlive_any w
  clear hl hy
  generalize l.length = N at *
  generalize y.length = M at *
  by_cases q : 3000 < N
  · have d1 : (3000 : Int) < (N : Int) := by omega
    clear h
    go_enter Try.func4, Try.ntmps4
    go_wp2_with fail
    refine c0.mono ?_
    rintro e w' ⟨rfl, hg⟩
    have HG := Lib.hid hg
    clear c0 hg
    go_wp2_with fail
    go_ret
    exact ⟨rfl, HG.out⟩
  · have d1 : ¬ (3000 : Int) < (N : Int) := by omega
    have d2 : (200 : Int) < (M : Int) := by omega
    clear h
    go_enter Try.func4, Try.ntmps4
    go_wp2_with fail
    refine c0.mono ?_
    rintro e w' ⟨rfl, hg⟩
    have HG := Lib.hid hg
    clear c0 hg
    go_wp2_with fail
    go_ret
    exact ⟨rfl, HG.out⟩
set_option maxRecDepth 100000 in
set_option maxHeartbeats 1000000 in
theorem horder_main (w : World) (K : Nat) (hK : K ≤ 65535) {v u : Value} {l y : List UInt8} (hl : Byt w v l) (hy : Byt w u y) (h1 : l.length ≤ 3000) (h2 : y.length ≤ 200) : Calls Try.prog 4 #[.int .u16 (K : Int), v, u] w fun e w' => e = .returned (.bool true) ∧ Below w.heap.size w w' := by
  obtain ⟨A, c, rfl, k1, k2⟩ := hl.form
  obtain ⟨A', c', rfl, k3, k4⟩ := hy.form
  have HC := Lib.hid (fun x w => code_any x w)
  have HLv := Lib.hid (fun w => hlive_any w)
  obtain ⟨m, hm⟩ : ∃ m, m = 1 + K := ⟨_, rfl⟩
  have c0 := hNew_any w m (by omega) (by omega)
  have e1 : IntKind.i64.wrap (K : Int) = (K : Int) := by rw [IntKind.wrap_i64]; omega
  have e2 : IntKind.i64.wrap (1 + (K : Int)) = (m : Int) := by rw [IntKind.wrap_i64]; omega
  obtain ⟨N, hN⟩ : ∃ N, N = l.length := ⟨_, rfl⟩
  obtain ⟨M, hM⟩ : ∃ M, M = y.length := ⟨_, rfl⟩
  rw [← hN] at hl k1 h1 ⊢
  rw [← hM] at hy k3 h2 ⊢
  have d1 : ¬ (3000 : Int) < (N : Int) := by omega
  have d2 : ¬ (200 : Int) < (M : Int) := by omega
  have HB := Lib.hid (And.intro hl (And.intro hy (And.intro hN (And.intro hM (And.intro (show N ≤ 3000 by omega) (And.intro (show M ≤ 200 by omega) (show m ≤ 65536 by omega)))))))
  unfold maxLen at k2 k4
  clear hl hy hN hM h1 h2 hm hK
  go_enter Try.func4, Try.ntmps4
  go_wp2_with fail
  refine c0.mono ?_
  rintro e w1 ⟨rfl, h1, g1⟩
  obtain ⟨ab, hab⟩ : ∃ ab, ab = w.heap.size + 1 := ⟨_, rfl⟩
  obtain ⟨g, hg⟩ : ∃ g, g = w.heap.size := ⟨_, rfl⟩
  have H1 : Hid (Ord w w1 ab g m l [] [] 0 [] (.slice none 0 0)) := ⟨⟨0, by rw [hab, hg]; exact h1⟩, rfl, own_none _ _, ⟨fun e => (by cases e), fun e => (by cases e)⟩, Nat.zero_le _, g1⟩
  rw [← hab]
  clear c0 h1 g1 hab hg
  go_wp2_with fail
  refine (HC.out _ _).mono ?_
  rintro e w' ⟨rfl, hw⟩
  subst w'
  go_wp2_with fail
  clear d1 d2 e1 e2
  go_loopg [9, 10, 11] M (fun gk s9 s10 s11 wr => ∃ (i : Nat) (G : Option Addr) (ng cg : Nat) (B : Option Addr) (mr d : Nat), gk = M - i ∧ s9 = .slice G ng cg ∧ s10 = .slice B mr d ∧ s11 = .int .i64 (i : Int) ∧ Hid (i ≤ M ∧ ∃ got j r, ng = got.length ∧ Ord w wr ab g m l got [] j r (.slice G ng cg) ∧ Byt w (.slice B mr d) (l.drop j)))
  case atStart => exact ⟨0, none, 0, 0, A, N, c, rfl, rfl, rfl, rfl, Nat.zero_le _, [], 0, [], rfl, H1.out, HB.out.1⟩
  case round =>
    obtain ⟨i, G, ng, cg, B, mr, d, rfl, rfl, rfl, rfl, HR⟩ := hrel
    rename World => wo
    clear H1
    obtain ⟨hiM, got, j, r, hng, hO, hRest⟩ := HR.out
    have hmr : mr = N - j := by have := hRest.len.1; rw [List.length_drop] at this; have := HB.out.2.2.1; omega
    have hmd := hRest.len.2.1
    have hmx := hRest.len.2.2
    have hj := hO.le
    have HO := Lib.hid (And.intro hO (And.intro hRest (And.intro hng hmr)))
    unfold maxLen at hmx
    clear hO hRest hng HR hmr hj
    rcases Nat.lt_or_ge i M with hlt | hge
    · obtain ⟨b, off, hA, hb, hc⟩ := HB.out.2.1.at_ (by omega)
      have hMy := HB.out.2.2.2.1
      have x0 := hc i (by omega)
      obtain ⟨p, hp⟩ : ∃ p, p = M - 1 - i := ⟨_, rfl⟩
      have x1 := hc p (by omega)
      obtain ⟨yi, hyi⟩ : ∃ yi, yi = (y[i]'(by omega)).toNat := ⟨_, rfl⟩
      obtain ⟨yp, hyp⟩ : ∃ yp, yp = (y[p]'(by omega)).toNat := ⟨_, rfl⟩
      rw [← hyi] at x0
      rw [← hyp] at x1
      have hyi2 : yi ≤ 255 := by rw [hyi]; have := (y[i]'(by omega)).toNat_lt; omega
      have hyp2 : yp ≤ 255 := by rw [hyp]; have := (y[p]'(by omega)).toNat_lt; omega
      have hX : Hid (∀ w', Grow w w' → w'.cell? ⟨b, off + i, none⟩ = some (.int .u8 (yi : Int)) ∧ w'.cell? ⟨b, off + p, none⟩ = some (.int .u8 (yp : Int))) := fun w' q => ⟨(q.cell (p := ⟨b, off + i, none⟩) hb).trans x0, (q.cell (p := ⟨b, off + p, none⟩) hb).trans x1⟩
      obtain ⟨M1, hM1⟩ : ∃ M1, M1 = M - 1 := ⟨_, rfl⟩
      obtain ⟨i1, hi1⟩ : ∃ i1, i1 = i + 1 := ⟨_, rfl⟩
      have hM200 := HB.out.2.2.2.2.2.1
      have n1 : IntKind.i64.wrap (yi : Int) = (yi : Int) := by rw [IntKind.wrap_i64]; omega
      have n2 : IntKind.i64.wrap (yp : Int) = (yp : Int) := by rw [IntKind.wrap_i64]; omega
      have n3 : IntKind.i64.wrap ((M : Int) - 1) = (M1 : Int) := by rw [IntKind.wrap_i64]; omega
      have n4 : IntKind.i64.wrap ((M1 : Int) - (i : Int)) = (p : Int) := by rw [IntKind.wrap_i64]; omega
      have n5 : IntKind.i64.wrap ((i : Int) + 1) = (i1 : Int) := by rw [IntKind.wrap_i64]; omega
      have t0 : (i : Int) < (M : Int) := by omega
      have t1 : (p : Int) < (M : Int) := by omega
      have HI := Lib.hid (And.intro hi1 hlt)
      have y0 := (hX.out wo HO.out.1.g).1
      have HN5 := Lib.hid (And.intro n3 (And.intro n4 n5))
      subst hA
      clear hc hMy x0 x1 hp hyi hyp hM1 hi1 hlt hiM n3 n4 n5
      by_cases q : mr < yi
      · have q1 : (mr : Int) < (yi : Int) := by omega
        obtain ⟨k, hkn, c1⟩ := ord_write HO.out.1 HO.out.2.1 mr (by omega) (by have := HB.out.2.2.1; have := HB.out.2.2.2.2.1; omega)
        have hkd : k ≤ d := by omega
        have f1 : (mr : Int) ≤ (d : Int) := by omega
        have f2 : (k : Int) ≤ (mr : Int) := by omega
        have f3 : k ≤ mr := by omega
        have HK := Lib.hid (And.intro hkn (show mr ≤ mr by omega))
        clear hkn
        go_wp2_with fail
        refine c1.mono ?_
        rintro e w2 ⟨rfl, r2, h2⟩
        have H2 := Lib.hid h2
        have c2 := ord_read h2 (yp : Int)
        have y1 := (hX.out w2 h2.g).2
        obtain ⟨n3, n4, n5⟩ := HN5.out
        clear c1 h2 y0
        by_cases hdk : d = k
        · have hcut : Byt w (.slice B (mr - k) (d - k)) ((l.drop j).drop k) := HO.out.2.1.back0 f3 hdk
          rw [List.drop_drop, hdk, Nat.sub_self] at hcut
          have HCut := Lib.hid hcut
          clear hcut
          go_wp2_with fail
          refine c2.mono ?_
          rintro e w3 ⟨v3, rfl, o3, h3⟩
          have hlen3 := h3.len
          have hN3 : got.length + (r2.take (fst (yp : Int) r2.length)).length ≤ 100000000 := by have := HB.out.2.2.1; have := HB.out.2.2.2.2.1; omega
          have H3 := Lib.hid (And.intro o3 (And.intro h3 hN3))
          clear c2 o3 h3 y1 hlen3 hN3
          go_wp2_with (first | (show wpList _ _ _ (⟨some 76, _, _, _, _, _⟩ :: _) _ _; refine wpList_appO w3 rfl (.tmp 64) (.tmp 75) rfl w.heap.size (.slice G ng cg) v3 got _ rfl rfl H3.out.2.1.row H3.out.1.byt H3.out.2.2 H3.out.2.1.g.size ?_; intro v4 w4 o4 gb4 hv4; obtain ⟨G4, n4, c4, hf4, hn4⟩ := o4.byt.form2; subst hf4; have H4 := Lib.hid (H3.out.2.1.app o4 gb4 hv4); clear o4 gb4 hv4))
          go_roundg (M - i1)
          case measure => have := HI.out; omega
          case rel => exact ⟨i1, G4, n4, c4, _, _, _, rfl, rfl, rfl, rfl, by have := HI.out; omega, _, _, _, hn4.out, H4.out, HCut.out⟩
        · have hcut : Byt w (.slice (B.map (·.add k)) (mr - k) (d - k)) ((l.drop j).drop k) := HO.out.2.1.back f3 hdk
          rw [List.drop_drop] at hcut
          have HCut := Lib.hid hcut
          clear hcut
          go_wp2_with fail
          refine c2.mono ?_
          rintro e w3 ⟨v3, rfl, o3, h3⟩
          have hlen3 := h3.len
          have hN3 : got.length + (r2.take (fst (yp : Int) r2.length)).length ≤ 100000000 := by have := HB.out.2.2.1; have := HB.out.2.2.2.2.1; omega
          have H3 := Lib.hid (And.intro o3 (And.intro h3 hN3))
          clear c2 o3 h3 y1 hlen3 hN3
          go_wp2_with (first | (show wpList _ _ _ (⟨some 76, _, _, _, _, _⟩ :: _) _ _; refine wpList_appO w3 rfl (.tmp 64) (.tmp 75) rfl w.heap.size (.slice G ng cg) v3 got _ rfl rfl H3.out.2.1.row H3.out.1.byt H3.out.2.2 H3.out.2.1.g.size ?_; intro v4 w4 o4 gb4 hv4; obtain ⟨G4, n4, c4, hf4, hn4⟩ := o4.byt.form2; subst hf4; have H4 := Lib.hid (H3.out.2.1.app o4 gb4 hv4); clear o4 gb4 hv4))
          go_roundg (M - i1)
          case measure => have := HI.out; omega
          case rel => exact ⟨i1, G4, n4, c4, _, _, _, rfl, rfl, rfl, rfl, by have := HI.out; omega, _, _, _, hn4.out, H4.out, HCut.out⟩
      · have q1 : ¬ ((mr : Int) < (yi : Int)) := by omega
        obtain ⟨k, hkn, c1⟩ := ord_write HO.out.1 HO.out.2.1 yi (by omega) (by have := HB.out.2.2.1; have := HB.out.2.2.2.2.1; omega)
        have hkd : k ≤ d := by omega
        have f1 : (yi : Int) ≤ (d : Int) := by omega
        have f2 : (k : Int) ≤ (mr : Int) := by omega
        have f3 : k ≤ mr := by omega
        have HK := Lib.hid (And.intro hkn (show yi ≤ mr by omega))
        clear hkn
        go_wp2_with fail
        refine c1.mono ?_
        rintro e w2 ⟨rfl, r2, h2⟩
        have H2 := Lib.hid h2
        have c2 := ord_read h2 (yp : Int)
        have y1 := (hX.out w2 h2.g).2
        obtain ⟨n3, n4, n5⟩ := HN5.out
        clear c1 h2 y0
        by_cases hdk : d = k
        · have hcut : Byt w (.slice B (mr - k) (d - k)) ((l.drop j).drop k) := HO.out.2.1.back0 f3 hdk
          rw [List.drop_drop, hdk, Nat.sub_self] at hcut
          have HCut := Lib.hid hcut
          clear hcut
          go_wp2_with fail
          refine c2.mono ?_
          rintro e w3 ⟨v3, rfl, o3, h3⟩
          have hlen3 := h3.len
          have hN3 : got.length + (r2.take (fst (yp : Int) r2.length)).length ≤ 100000000 := by have := HB.out.2.2.1; have := HB.out.2.2.2.2.1; omega
          have H3 := Lib.hid (And.intro o3 (And.intro h3 hN3))
          clear c2 o3 h3 y1 hlen3 hN3
          go_wp2_with (first | (show wpList _ _ _ (⟨some 76, _, _, _, _, _⟩ :: _) _ _; refine wpList_appO w3 rfl (.tmp 64) (.tmp 75) rfl w.heap.size (.slice G ng cg) v3 got _ rfl rfl H3.out.2.1.row H3.out.1.byt H3.out.2.2 H3.out.2.1.g.size ?_; intro v4 w4 o4 gb4 hv4; obtain ⟨G4, n4, c4, hf4, hn4⟩ := o4.byt.form2; subst hf4; have H4 := Lib.hid (H3.out.2.1.app o4 gb4 hv4); clear o4 gb4 hv4))
          go_roundg (M - i1)
          case measure => have := HI.out; omega
          case rel => exact ⟨i1, G4, n4, c4, _, _, _, rfl, rfl, rfl, rfl, by have := HI.out; omega, _, _, _, hn4.out, H4.out, HCut.out⟩
        · have hcut : Byt w (.slice (B.map (·.add k)) (mr - k) (d - k)) ((l.drop j).drop k) := HO.out.2.1.back f3 hdk
          rw [List.drop_drop] at hcut
          have HCut := Lib.hid hcut
          clear hcut
          go_wp2_with fail
          refine c2.mono ?_
          rintro e w3 ⟨v3, rfl, o3, h3⟩
          have hlen3 := h3.len
          have hN3 : got.length + (r2.take (fst (yp : Int) r2.length)).length ≤ 100000000 := by have := HB.out.2.2.1; have := HB.out.2.2.2.2.1; omega
          have H3 := Lib.hid (And.intro o3 (And.intro h3 hN3))
          clear c2 o3 h3 y1 hlen3 hN3
          go_wp2_with (first | (show wpList _ _ _ (⟨some 76, _, _, _, _, _⟩ :: _) _ _; refine wpList_appO w3 rfl (.tmp 64) (.tmp 75) rfl w.heap.size (.slice G ng cg) v3 got _ rfl rfl H3.out.2.1.row H3.out.1.byt H3.out.2.2 H3.out.2.1.g.size ?_; intro v4 w4 o4 gb4 hv4; obtain ⟨G4, n4, c4, hf4, hn4⟩ := o4.byt.form2; subst hf4; have H4 := Lib.hid (H3.out.2.1.app o4 gb4 hv4); clear o4 gb4 hv4))
          go_roundg (M - i1)
          case measure => have := HI.out; omega
          case rel => exact ⟨i1, G4, n4, c4, _, _, _, rfl, rfl, rfl, rfl, by have := HI.out; omega, _, _, _, hn4.out, H4.out, HCut.out⟩
    · obtain rfl : i = M := by omega
      have q1 : ¬ ((i : Int) < (i : Int)) := by omega
      have hjN : mr ≤ N ∧ j = N - mr ∧ N ≤ 3000 ∧ j ≤ N := by have := HO.out.2.2.2; have := HO.out.1.le; have := HB.out.2.2.1; have := HB.out.2.2.2.2.1; omega
      have n1 : IntKind.i64.wrap ((N : Int) - (mr : Int)) = (j : Int) := by rw [IntKind.wrap_i64]; omega
      have f1 : (j : Int) ≤ (c : Int) := by omega
      have HJ := Lib.hid hjN
      have hrl : r.length ≤ 3000 := by have := HO.out.1.len; have := HB.out.2.2.1; omega
      have c2 := ord_read HO.out.1 1073741824
      have ef : fst 1073741824 r.length = r.length := by unfold fst; omega
      rw [ef, List.take_of_length_le (Nat.le_refl _), List.drop_of_length_le (Nat.le_refl _)] at c2
      clear hjN hrl ef
      go_wp2_with fail
      refine c2.mono ?_
      rintro e w3 ⟨v3, rfl, o3, h3⟩
      have hlen3 := h3.len
      have hN3 : got.length + r.length ≤ 100000000 := by have := HB.out.2.2.1; have := HB.out.2.2.2.2.1; omega
      have H3 := Lib.hid (And.intro o3 (And.intro h3 hN3))
      clear c2 o3 h3 hlen3 hN3
      go_wp2_with (first | (show wpList _ _ _ (⟨some 85, _, _, _, _, _⟩ :: _) _ _; refine wpList_appO w3 rfl (.tmp 82) (.tmp 84) rfl w.heap.size (.slice G ng cg) v3 got _ rfl rfl H3.out.2.1.row H3.out.1.byt H3.out.2.2 H3.out.2.1.g.size ?_; intro v4 w4 o4 gb4 hv4; obtain ⟨G4, n4, c4, hf4, hn4⟩ := o4.byt.form2; subst hf4; have H4 := Lib.hid (H3.out.2.1.app o4 gb4 hv4); clear o4 gb4 hv4))
      obtain ⟨X, hX⟩ : ∃ X, X = l.take j := ⟨_, rfl⟩
      have b1 : Byt w4 (.slice G4 n4 c4) X := by
        have := H4.out.row.byt
        have e := H4.out.cat
        rw [List.nil_append, List.append_nil] at e
        rwa [e, ← hX] at this
      have b2 : Byt w4 (.slice A j c) X := by
        rw [hX]
        exact (HB.out.1.front HJ.out.2.2.2).grow H4.out.g
      have s1 := fun p : Gw w4 => str1 (b1.grow p.h)
      have s2 := fun p : Gw w4 => str1 (b2.grow p.h)
      obtain ⟨o9, hs9⟩ := H4.out.hs
      have cLen : ∀ p : Gw w4, _ := fun p => Calls.gw (p := p) (hLen_any (hs9.grow p.h))
      have cLive : ∀ p : Gw w4, _ := fun p => Calls.gw (p := p) (hlive_any p.v)
      have hl0 : ((([] : List UInt8).length : Nat) : Int) = 0 := rfl
      rw [hl0] at cLen
      unfold strV at s1 s2
      clear hX b1 b2 hs9 hl0
      refine wp_region_gw (by kernel_rfl) (by kernel_rfl) ?_
      repeat (go_big_quiet_step ((first
        | (go_at_call 17; exact cLen _)
        | (go_at_call 7; exact cLive _))))
      refine wpQuiet_nil ?_
      intro _ hw'
      obtain ⟨⟨wq, hgq⟩, hw2⟩ := hw'
      subst hw2
      go_wp2_with fail
      go_ret
      exact ⟨rfl, Grow.trans H4.out.g hgq⟩
theorem hoseOrder_walk (w : World) (room : Int) (hr : 0 ≤ room ∧ room ≤ 65535) {v : Value} {l : List UInt8} (hl : Byt w v l) (hl1 : l.length ≤ 140737488351232) {u : Value} {y : List UInt8} (hy : Byt w u y) (hy1 : y.length ≤ 140737488351232) : Calls Try.prog 4 #[.int .u16 room, v, u] w fun e w' => e = .returned (.bool true) ∧ Below w.heap.size w w' := by
  obtain ⟨K, rfl⟩ : ∃ K : Nat, room = (K : Int) := ⟨room.toNat, by omega⟩
  by_cases q : 3000 < l.length ∨ 200 < y.length
  · exact horder_long w K hl hy q
  · exact horder_main w K (by omega) hl hy (by omega) (by omega)
end Go.Proofs.Yteohepgpghmioaa
