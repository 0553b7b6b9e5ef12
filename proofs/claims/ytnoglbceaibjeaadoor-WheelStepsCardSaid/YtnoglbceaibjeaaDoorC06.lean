/- Contract: slices' insertionSort on a row of timers. -/
import Derived.Test.YtnoglbceaibjeaaDoorC05
namespace Go.Proofs.YtnoglbceaibjeaaDoor
set_option linter.unusedVariables false
set_option linter.unusedSimpArgs false
open Go.ChangeShapes Go.WideShapes Go.ChangeAt Go.RowKit Go.Shelf
attribute [local irreducible] wpQuiet

abbrev tkI (t : Tm) : Int := (t.tk : Int)
def cmpV : Value := .func (.func 29) #[] #[]
theorem enterBt : ∀ args w, (callFunc 29 args).run Tryd.prog w = .ok (.enter 29 args) w := enters_of Tryd.func29 (by kernel_rfl) rfl
/-- The comparison of two timers, as the sorts ask it. -/
theorem bt_lt (w : World) (a b : Tm) (ha : w.cell? ⟨a.blk, 1, none⟩ = some (.int .i64 (a.tk : Int)) ∧ a.blk < w.heap.size) (hb : w.cell? ⟨b.blk, 1, none⟩ = some (.int .i64 (b.tk : Int)) ∧ b.blk < w.heap.size) (h : a.tk < b.tk) :
    Calls Tryd.prog 29 #[.pointer (some ⟨a.blk, 0, none⟩), .pointer (some ⟨b.blk, 0, none⟩)] w fun e w' => e = .returned (.int .i64 (-1)) ∧ Grow w w' := by
  have := byTick_any w a b ha.1 hb.1 ha.2 hb.2
  unfold Lib.compareInt at this
  rwa [if_pos (by omega)] at this
theorem bt_ge (w : World) (a b : Tm) (ha : w.cell? ⟨a.blk, 1, none⟩ = some (.int .i64 (a.tk : Int)) ∧ a.blk < w.heap.size) (hb : w.cell? ⟨b.blk, 1, none⟩ = some (.int .i64 (b.tk : Int)) ∧ b.blk < w.heap.size) (r : Int) (hr : r = if a.tk = b.tk then 0 else 1) (h : b.tk ≤ a.tk) :
    Calls Tryd.prog 29 #[.pointer (some ⟨a.blk, 0, none⟩), .pointer (some ⟨b.blk, 0, none⟩)] w fun e w' => e = .returned (.int .i64 r) ∧ Grow w w' := by
  have := byTick_any w a b ha.1 hb.1 ha.2 hb.2
  unfold Lib.compareInt at this
  rw [if_neg (by omega)] at this
  have e : r = if (a.tk : Int) > (b.tk : Int) then 1 else 0 := by
    rw [hr]
    by_cases q : a.tk = b.tk
    · rw [if_pos q, if_neg (by omega)]
    · rw [if_neg q, if_pos (by omega)]
  rw [e]
  exact this
theorem Arow.ticks {w : World} {base g c n : Nat} {l : List Tm} (h : Arow w base g c n l) {t : Tm} (ht : t ∈ l) (p : Gw w) : p.v.cell? ⟨t.blk, 1, none⟩ = some (.int .i64 (t.tk : Int)) ∧ t.blk < p.v.heap.size :=
  ⟨Gw.cell (h.tick ht).2 (h.tick ht).1 p, Nat.lt_of_lt_of_le (h.tick ht).2 p.h.size⟩
theorem Arow.blkLt {w : World} {base g c n : Nat} {l : List Tm} (h : Arow w base g c n l) : g < w.heap.size := by
  rcases h.row.2 with ⟨e, _⟩ | ⟨g', cap, cur, e, e2, hh, _⟩
  · cases e
  · cases e
    exact (Array.getElem?_eq_some_iff.1 hh).1

set_option maxHeartbeats 400000 in
theorem insert_nil (w : World) (v F : Value) (A : Nat) (hA : A ≤ 1000000) : Calls Tryd.prog 42 #[v, .int .i64 (A : Int), .int .i64 (A : Int), F] w fun e w' => e = .returned (.tuple #[]) ∧ w' = w := by
  have e1 : (A : Int) + 1 = ((A + 1 : Nat) : Int) := by omega
  have e2 : IntKind.i64.wrap ((A : Int) + 1) = ((A + 1 : Nat) : Int) := by rw [IntKind.wrap_i64]; omega
  obtain ⟨K, hK⟩ : ∃ K, K = A + 1 := ⟨_, rfl⟩
  have e3 : A ≤ K := by omega
  have e4 : ¬ ((K : Int) < (A : Int)) := by omega
  have e5 : IntKind.i64.wrap (K : Int) = (K : Int) := by rw [IntKind.wrap_i64]; omega
  rw [← hK] at e1 e2
  clear hA hK
  go_enter Tryd.func42, Tryd.ntmps42
  go_wp2_with fail
  clear e1 e2 e5
  go_loopg [8] 0 (fun gk s8 wr => s8 = .int .i64 (K : Int) ∧ wr = w ∧ gk = 0)
  case atStart => exact ⟨rfl, rfl, rfl⟩
  case round =>
    obtain ⟨rfl, rfl, rfl⟩ := hrel
    go_wp2_with fail
    refine bodyPost_end (results_none rfl _ _ _) rfl ?_
    exact ⟨rfl, rfl⟩

def InsAt (w0 w : World) (base g c n : Nat) (p sd u v : List Tm) (x : Tm) (r : List Tm) : Prop :=
  Arow w base g c n (p ++ (u ++ (x :: (v ++ r)))) ∧ u ++ v = sd ∧ (∀ b ∈ v, x.tk < b.tk) ∧ Only base Zr w0 w
/-- One element more in its place: what an end of the inner loop leaves. -/
theorem InsAt.done {w0 w : World} {base g c n : Nat} {p sd u v : List Tm} {x : Tm} {r s : List Tm} {k : Nat} (h : InsAt w0 w base g c n p sd u v x r) (hs : Srt tkI sd) (hst : Stb tkI sd (s.take k)) (hx : s[k]? = some x) (hu : u = [] ∨ ∃ u' y, u = u' ++ [y] ∧ y.tk ≤ x.tk) :
    Arow w base g c n (p ++ ((u ++ x :: v) ++ r)) ∧ Srt tkI (u ++ x :: v) ∧ Stb tkI (u ++ x :: v) (s.take (k + 1)) := by
  obtain ⟨h1, h2, h3, h4⟩ := h
  have hsd : Srt tkI (u ++ v) := by rw [h2]; exact hs
  have hle : ∀ a ∈ u, tkI a ≤ tkI x := by
    intro a ha
    rcases hu with rfl | ⟨u', y, rfl, hy⟩
    · cases ha
    · have q1 := srt_last (srt_app.1 hsd).1 a ha
      show (a.tk : Int) ≤ (x.tk : Int)
      have q2 : (a.tk : Int) ≤ (y.tk : Int) := q1
      omega
  obtain ⟨i1, i2⟩ := ins_back (x := x) hsd hle (fun b hb => by have := h3 b hb; show (x.tk : Int) < (b.tk : Int); omega)
  refine ⟨by simpa using h1, i1, i2.trans ?_⟩
  rw [h2, List.take_add_one, hx]
  exact hst.app (Stb.refl _)
/-- The inner loop's step. -/
theorem InsAt.step {w0 w w' : World} {base g c n : Nat} {p sd u v : List Tm} {x y : Tm} {r : List Tm} (h : InsAt w0 w base g c n p sd (u ++ [y]) v x r) (hxy : x.tk < y.tk) (hA : Arow w' base g c n (p ++ (u ++ (x :: y :: (v ++ r))))) (o : Only base Zr w w') : InsAt w0 w' base g c n p sd u (y :: v) x r := by
  obtain ⟨h1, h2, h3, h4⟩ := h
  refine ⟨hA, by rw [← h2]; simp, ?_, h4.trans o⟩
  intro b hb
  rcases List.mem_cons.1 hb with rfl | hb
  · exact hxy
  · exact h3 b hb

set_option maxRecDepth 10000 in
set_option maxHeartbeats 4000000 in
theorem insert_some (w : World) (base g c n : Nat) (p s q : List Tm) (h : Arow w base g c n (p ++ (s ++ q))) (hs0 : s ≠ []) (hn : n ≤ 1000000) (A B : Nat) (hA : A = p.length) (hB : B = p.length + s.length) :
    Calls Tryd.prog 42 #[.slice (some ⟨g, 0, none⟩) n c, .int .i64 (A : Int), .int .i64 (B : Int), .func (.func 29) #[] #[]] w fun e w' => e = .returned (.tuple #[]) ∧ ∃ s', Arow w' base g c n (p ++ (s' ++ q)) ∧ Srt tkI s' ∧ Stb tkI s' s ∧ Only base Zr w w' := by
  have eg := enterBt
  have hlen := h.len
  simp only [List.length_append] at hlen
  have hs1 := List.length_pos_iff.2 hs0
  have HL : Hid (B = A + s.length ∧ B ≤ n ∧ n ≤ 1000000 ∧ A = p.length) := ⟨by omega, by omega, hn, hA⟩
  obtain ⟨x0, hx0⟩ : ∃ x0, s[0]? = some x0 := ⟨_, List.getElem?_eq_getElem hs1⟩
  have hs2 : s = [x0] ++ s.drop 1 := by
    cases s with
    | nil => exact absurd rfl hs0
    | cons a s => simp at hx0; subst hx0; rfl
  have H0 : Hid (Arow w base g c n (p ++ ([x0] ++ (s.drop 1 ++ q))) ∧ Srt tkI [x0] ∧ Stb tkI [x0] (s.take 1)) := by
    refine ⟨?_, srt_one _, ?_⟩
    · rw [hs2] at h
      simpa using h
    · rw [List.take_add_one, hx0]
      exact Stb.refl _
  obtain ⟨A1, hA1⟩ : ∃ A1, A1 = A + 1 := ⟨_, rfl⟩
  have e1 : (A : Int) + 1 = (A1 : Int) := by omega
  have e2 : IntKind.i64.wrap ((A : Int) + 1) = (A1 : Int) := by rw [IntKind.wrap_i64]; omega
  have e3 : IntKind.i64.wrap (A1 : Int) = (A1 : Int) := by rw [IntKind.wrap_i64]; omega
  have HA := Lib.hid hA1
  have HL1 := Lib.hid (show 1 ≤ s.length from hs1)
  clear h hs0 hn hA hB hlen hs1 hx0 hs2 hA1
  go_enter Tryd.func42, Tryd.ntmps42
  go_wp2_with fail
  clear e1 e2 e3
  go_loopg [8] (s.length - 1) (fun gk s8 wr => ∃ (k I : Nat) (sd : List Tm), gk = s.length - k ∧ s8 = .int .i64 (I : Int) ∧ Hid (1 ≤ k ∧ k ≤ s.length ∧ I = A + k ∧ Arow wr base g c n (p ++ (sd ++ (s.drop k ++ q))) ∧ Srt tkI sd ∧ Stb tkI sd (s.take k) ∧ Only base Zr w wr))
  case atStart => exact ⟨1, A1, [x0], rfl, rfl, Nat.le_refl _, HL1.out, HA.out, H0.out.1, H0.out.2.1, H0.out.2.2, Only.refl _ _ _⟩
  case round =>
    obtain ⟨k, I, sd, rfl, rfl, HR⟩ := hrel
    rename World => wo
    rcases Nat.lt_or_ge k s.length with hlt | hge
    · obtain ⟨x, hx⟩ : ∃ x, s[k]? = some x := ⟨_, List.getElem?_eq_getElem hlt⟩
      have i0 : (I : Int) < (B : Int) := by have := HR.out.2.2.1; have := HL.out; omega
      have hsd : sd.length = k := by
        have := HR.out.2.2.2.2.2.1.len
        rw [List.length_take] at this
        omega
      have hdr : s.drop k = x :: s.drop (k + 1) := by
        rw [List.drop_eq_getElem_cons hlt]
        have := List.getElem?_eq_getElem hlt
        rw [hx] at this
        cases this
        rfl
      have HI0 : Hid (InsAt wo wo base g c n p sd sd [] x (s.drop (k + 1) ++ q)) := by
        have := HR.out.2.2.2.1
        rw [hdr] at this
        exact ⟨this, by simp, (fun b hb => by cases hb), Only.refl _ _ _⟩
      have HX := Lib.hid hx
      have HK := Lib.hid hlt
      have HSD := Lib.hid hsd
      have HD : Hid (I = A + sd.length ∧ I + 1 ≤ 1000001) := ⟨by have := HR.out.2.2.1; omega, by have := HR.out.2.2.1; have := HL.out; omega⟩
      have HI1 : Hid (1 ≤ k ∧ I = A + k) := ⟨HR.out.1, HR.out.2.2.1⟩
      obtain ⟨I1, hI1⟩ : ∃ I1, I1 = I + 1 := ⟨_, rfl⟩
      have f1 : (I : Int) + 1 = (I1 : Int) := by omega
      have f2 : IntKind.i64.wrap ((I : Int) + 1) = (I1 : Int) := by rw [IntKind.wrap_i64]; have := HD.out.2; omega
      have f3 : IntKind.i64.wrap (I1 : Int) = (I1 : Int) := by rw [IntKind.wrap_i64]; have := HD.out.2; omega
      have HF := Lib.hid (And.intro f1 (And.intro f2 f3))
      have HJ := Lib.hid hI1
      clear hx hlt hsd hdr f1 f2 f3 hI1
      go_wp2_with fail
      clear i0
      go_loopg [9] sd.length (fun gk s9 wr => ∃ (J : Nat) (u v : List Tm), gk = u.length ∧ s9 = .int .i64 (J : Int) ∧ Hid (J = A + u.length ∧ J ≤ I ∧ InsAt wo wr base g c n p sd u v x (s.drop (k + 1) ++ q)))
      case atStart => exact ⟨I, sd, [], rfl, rfl, HD.out.1, Nat.le_refl _, HI0.out⟩
      case round =>
        obtain ⟨J, u, v, rfl, rfl, HU⟩ := hrel
        rcases List.eq_nil_or_concat u with hu | ⟨u', y, hu⟩
        · have hJ : J = A := by have := HU.out.1; rw [hu] at this; simpa using this
          subst hJ
          have t1 : decide ((J : Int) < (J : Int)) = false := decide_eq_false (by omega)
          have HE := Lib.hid hu
          clear hu
          go_wp2_with fail
          refine wp_region_gw (by kernel_rfl) (by kernel_rfl) ?_
          repeat (quiet_step (fail))
          refine wpQuiet_nil ?_
          intro _ hw'
          obtain ⟨⟨wq, hgq⟩, hw2⟩ := hw'
          subst hw2
          obtain ⟨f1, f2, f3⟩ := HF.out
          go_wp2_with fail
          go_roundg (s.length - (k + 1))
          case measure => have := HK.out; omega
          case rel =>
            obtain ⟨d1, d2, d3⟩ := HU.out.2.2.done HR.out.2.2.2.2.1 HR.out.2.2.2.2.2.1 HX.out (.inl HE.out)
            exact ⟨k + 1, I1, u ++ x :: v, rfl, rfl, by omega, HK.out, by rw [HJ.out, HI1.out.2]; omega, d1.grow hgq, d2, d3, HR.out.2.2.2.2.2.2.trans (HU.out.2.2.2.2.2.trans (Only.grow hgq d1.bas Zr))⟩
        · rw [List.concat_eq_append] at hu
          have hJ : J = A + u'.length + 1 := by have := HU.out.1; rw [hu] at this; simp at this; omega
          obtain ⟨K, hK⟩ : ∃ K, K = A + u'.length := ⟨_, rfl⟩
          have hAr := HU.out.2.2.1
          rw [hu] at hAr
          have hAr2 : Arow wr base g c n ((p ++ u') ++ y :: ([] ++ x :: (v ++ (s.drop (k + 1) ++ q)))) := by simpa using hAr
          have hAp : A = p.length := HL.out.2.2.2
          obtain ⟨j1, j2, k1, k2, _⟩ := hAr2.swap_at rfl (I := K) (J := J) (by rw [List.length_append]; omega) (by simp; omega)
          have hgl := hAr.blkLt
          have hbn := HL.out.2.2.1
          have e2 := fun z : Gw wr => Gw.cell hgl k1 z
          have e3 := fun z : Gw wr => Gw.cell hgl k2 z
          have tx := hAr2.ticks (t := x) (by simp)
          have ty := hAr2.ticks (t := y) (by simp)
          have i1 : (A : Int) < (J : Int) := by omega
          have i2 : decide ((A : Int) < (J : Int)) = true := decide_eq_true i1
          have i3 : (J : Int) < (n : Int) := by omega
          have i4 : (K : Int) < (n : Int) := by omega
          have m1 : (J : Int) - 1 = (K : Int) := by omega
          have m3 : IntKind.i64.wrap (K : Int) = (K : Int) := IntWalk.i64_in _ (by omega)
          have m2 : IntKind.i64.wrap ((J : Int) - 1) = (K : Int) := by rw [m1]; exact m3
          have HS : Hid (∀ wq, Grow wr wq → Arow wq base g c n ((p ++ u') ++ y :: ([] ++ x :: (v ++ (s.drop (k + 1) ++ q))))) := fun wq gq => hAr2.grow gq
          have HE := Lib.hid hu
          have HK2 := Lib.hid (And.intro hK hJ)
          have HAp := Lib.hid hAp
          clear hu hK hJ hAr hAr2 j1 j2 k1 k2 hgl hbn hAp
          by_cases hxy : x.tk < y.tk
          · have cS : ∀ z : Gw wr, Calls Tryd.prog 29 #[.pointer (some ⟨x.blk, 0, none⟩), .pointer (some ⟨y.blk, 0, none⟩)] z.v fun e w' => e = .returned (.int .i64 (-1)) ∧ Grow z.v w' := fun z => bt_lt z.v x y (tx z) (ty z) hxy
            have HXY := Lib.hid hxy
            clear tx ty hxy
            go_wp2_with fail
            refine wp_region_gw (by kernel_rfl) (by kernel_rfl) ?_
            repeat (quiet_step ((go_at_call 29; exact Calls.gw (cS _))))
            refine wpQuiet_nil ?_
            intro _ hw'
            obtain ⟨⟨wq, hgq⟩, hw2⟩ := hw'
            subst hw2
            rename World => wq
            clear e2 e3 cS i1 i2
            have HKA : K = p.length + u'.length ∧ J = p.length + u'.length + 1 := by have := HK2.out; have := HAp.out; omega
            obtain ⟨_, _, k1, k2, k3, k4, _⟩ := (HS.out wq hgq).swap_at rfl (I := K) (J := J) (by rw [List.length_append]; omega) (by simp; omega)
            obtain ⟨_, _, _, _, _, _, _, _, _, _, _, k7⟩ := (HS.out wq.drew (hgq.trans (Grow.drew _))).swap_at rfl (I := K) (J := J) (by rw [List.length_append]; omega) (by simp; omega)
            have HZ : Hid (InsAt wo ((wq.drew.setCell ⟨g, J, none⟩ (.pointer (some ⟨y.blk, 0, none⟩))).setCell ⟨g, K, none⟩ (.pointer (some ⟨x.blk, 0, none⟩))) base g c n p sd u' (y :: v) x (s.drop (k + 1) ++ q)) := by
              have h0 := HU.out.2.2
              rw [HE.out] at h0
              exact h0.step HXY.out (by simpa using k7.1) ((Only.grow (hgq.trans (Grow.drew _)) ((HS.out wr (Grow.refl _)).bas) Zr).trans k7.2)
            have iKJ : K < J := by omega
            clear k7 HKA
            go_upto_region 6 with fail
            go_region
            go_wp2_with fail
            go_roundg u'.length
            case measure => rw [HE.out]; simp
            case rel => exact ⟨K, u', y :: v, rfl, rfl, HK2.out.1, by have := HU.out.2.1; have := HK2.out; omega, HZ.out⟩
          · obtain ⟨r, hr⟩ : ∃ r : Int, r = if x.tk = y.tk then 0 else 1 := ⟨_, rfl⟩
            have cS : ∀ z : Gw wr, Calls Tryd.prog 29 #[.pointer (some ⟨x.blk, 0, none⟩), .pointer (some ⟨y.blk, 0, none⟩)] z.v fun e w' => e = .returned (.int .i64 r) ∧ Grow z.v w' := fun z => bt_ge z.v x y (tx z) (ty z) r hr (by omega)
            have hd : decide (r < 0) = false := decide_eq_false (by rw [hr]; split <;> omega)
            have HXY := Lib.hid hxy
            clear tx ty hxy hr
            go_wp2_with fail
            refine wp_region_gw (by kernel_rfl) (by kernel_rfl) ?_
            repeat (quiet_step ((go_at_call 29; exact Calls.gw (cS _))))
            refine wpQuiet_nil ?_
            intro _ hw'
            obtain ⟨⟨wq, hgq⟩, hw2⟩ := hw'
            subst hw2
            clear e2 e3 cS i1 i2 m1 m2 m3
            obtain ⟨f1, f2, f3⟩ := HF.out
            go_wp2_with fail
            go_roundg (s.length - (k + 1))
            case measure => have := HK.out; omega
            case rel =>
              obtain ⟨d1, d2, d3⟩ := HU.out.2.2.done HR.out.2.2.2.2.1 HR.out.2.2.2.2.2.1 HX.out (.inr ⟨u', y, HE.out, by have := HXY.out; omega⟩)
              exact ⟨k + 1, I1, u ++ x :: v, rfl, rfl, by omega, HK.out, by rw [HJ.out, HI1.out.2]; omega, d1.grow hgq, d2, d3, HR.out.2.2.2.2.2.2.trans (HU.out.2.2.2.2.2.trans (Only.grow hgq d1.bas Zr))⟩
    · have hk : k = s.length := by have := HR.out.2.1; omega
      have i0 : I = B := by have := HR.out.2.2.1; have := HL.out.1; omega
      subst i0
      have HE := Lib.hid hk
      clear hk
      go_wp2_with fail
      refine bodyPost_end (results_none rfl _ _ _) rfl ?_
      refine ⟨rfl, sd, ?_, HR.out.2.2.2.2.1, ?_, HR.out.2.2.2.2.2.2⟩
      · have := HR.out.2.2.2.1
        rw [HE.out, List.drop_length] at this
        exact this
      · have := HR.out.2.2.2.2.2.1
        rw [HE.out, List.take_length] at this
        exact this
end Go.Proofs.YtnoglbceaibjeaaDoor
/- Contract: slices' symMerge on a row of timers, where the first part is one timer. -/
namespace Go.Proofs.YtnoglbceaibjeaaDoor
set_option linter.unusedVariables false
set_option linter.unusedSimpArgs false
open Go.ChangeShapes Go.WideShapes Go.ChangeAt Go.RowKit Go.Shelf
attribute [local irreducible] wpQuiet

def SymOk (N : Nat) : Prop := ∀ (w : World) (base g c n : Nat) (p u v s : List Tm) (A M B : Nat), Arow w base g c n (p ++ (u ++ (v ++ s))) → n ≤ 1000000 → u ≠ [] → v ≠ [] → Srt tkI u → Srt tkI v → A = p.length → M = p.length + u.length → B = p.length + u.length + v.length → u.length + v.length < N →
  Calls Tryd.prog 43 #[.slice (some ⟨g, 0, none⟩) n c, .int .i64 (A : Int), .int .i64 (M : Int), .int .i64 (B : Int), .func (.func 29) #[] #[]] w fun e w' => e = .returned (.tuple #[]) ∧ ∃ m, Arow w' base g c n (p ++ (m ++ s)) ∧ Srt tkI m ∧ Stb tkI m (u ++ v) ∧ Only base Zr w w'
/-- Where an element stands in the row. -/
theorem Arow.at_ {w : World} {base g c n : Nat} {l u v : List Tm} (h : Arow w base g c n l) {i : Nat} {t : Tm} (hl : l = u ++ v) (ht : v[i]? = some t) {I : Nat} (hI : I = u.length + i) : I < n ∧ w.cell? ⟨g, I, none⟩ = some (.pointer (some ⟨t.blk, 0, none⟩)) ∧ t ∈ l := by
  subst hl hI
  have hi := (List.getElem?_eq_some_iff.1 ht).1
  have e : (u ++ v)[u.length + i]? = some t := by
    rw [List.getElem?_append_right (by omega), show u.length + i - u.length = i from by omega]
    exact ht
  have hn := h.len
  rw [List.length_append] at hn
  exact ⟨by omega, h.cell e, List.mem_of_getElem? e⟩
/-- The place of a tick in a sorted list. -/
structure Cut (v : List Tm) (x : Nat) (lo hi : Nat) : Prop where
  le : lo ≤ hi
  top : hi ≤ v.length
  low : ∀ (t : Nat) (a : Tm), v[t]? = some a → t < lo → a.tk < x
  hig : ∀ (t : Nat) (a : Tm), v[t]? = some a → hi ≤ t → x ≤ a.tk
theorem Cut.up {v : List Tm} {x lo hi h : Nat} {a : Tm} (k : Cut v x lo hi) (hs : Srt tkI v) (hh : v[h]? = some a) (hl : h < hi) (ha : a.tk < x) : Cut v x (h + 1) hi := by
  refine ⟨hl, k.top, fun t b hb ht => ?_, k.hig⟩
  rcases Nat.lt_or_ge t h with q | q
  · obtain ⟨ht', e1⟩ := List.getElem?_eq_some_iff.1 hb
    obtain ⟨hh', e2⟩ := List.getElem?_eq_some_iff.1 hh
    have := List.pairwise_iff_getElem.1 hs t h ht' hh' q
    rw [e1, e2] at this
    have : (b.tk : Int) ≤ (a.tk : Int) := this
    omega
  · obtain rfl : t = h := by omega
    rw [hh] at hb
    cases hb
    exact ha
theorem Cut.down {v : List Tm} {x lo hi h : Nat} {a : Tm} (k : Cut v x lo hi) (hs : Srt tkI v) (hh : v[h]? = some a) (hl : lo ≤ h) (ha : x ≤ a.tk) : Cut v x lo h := by
  have hhl := (List.getElem?_eq_some_iff.1 hh).1
  refine ⟨hl, by omega, k.low, fun t b hb ht => ?_⟩
  rcases Nat.lt_or_ge h t with q | q
  · obtain ⟨ht', e1⟩ := List.getElem?_eq_some_iff.1 hb
    obtain ⟨hh', e2⟩ := List.getElem?_eq_some_iff.1 hh
    have := List.pairwise_iff_getElem.1 hs h t hh' ht' q
    rw [e1, e2] at this
    have : (a.tk : Int) ≤ (b.tk : Int) := this
    omega
  · obtain rfl : t = h := by omega
    rw [hh] at hb
    cases hb
    exact ha
theorem Cut.front {v : List Tm} {x : Tm} {lo : Nat} (k : Cut v x.tk lo lo) (hs : Srt tkI v) : Srt tkI (v.take lo ++ x :: v.drop lo) ∧ Stb tkI (v.take lo ++ x :: v.drop lo) ([x] ++ v) := by
  have := ins_front (key := tkI) (u := v.take lo) (v := v.drop lo) (x := x) (by rw [List.take_append_drop]; exact hs) (fun a ha => by
    obtain ⟨i, hi⟩ := List.getElem?_of_mem ha
    rw [List.getElem?_take] at hi
    split at hi
    · have := k.low i a hi (by assumption)
      show (a.tk : Int) < (x.tk : Int)
      omega
    · cases hi) (fun b hb => by
    obtain ⟨i, hi⟩ := List.getElem?_of_mem hb
    rw [List.getElem?_drop] at hi
    have := k.hig _ b hi (by omega)
    show (x.tk : Int) ≤ (b.tk : Int)
    omega)
  rw [List.take_append_drop] at this
  exact this
theorem walk_step {p v s : List Tm} {x b : Tm} {e : Nat} (hb : v[e]? = some b) : p ++ (v.take e ++ (x :: (v.drop e ++ s))) = (p ++ v.take e) ++ x :: ([] ++ b :: (v.drop (e + 1) ++ s)) ∧ p ++ (v.take (e + 1) ++ (x :: (v.drop (e + 1) ++ s))) = (p ++ v.take e) ++ b :: ([] ++ x :: (v.drop (e + 1) ++ s)) := by
  obtain ⟨he, e1⟩ := List.getElem?_eq_some_iff.1 hb
  constructor
  · rw [List.drop_eq_getElem_cons he, e1]
    simp
  · rw [List.take_add_one, hb]
    simp

set_option maxRecDepth 100000 in
set_option maxHeartbeats 4000000 in
theorem symA (w : World) (base g c n : Nat) (p v s : List Tm) (x : Tm) (A M B : Nat) (h : Arow w base g c n (p ++ ([x] ++ (v ++ s)))) (hn : n ≤ 1000000) (hv : v ≠ []) (hs : Srt tkI v) (hA : A = p.length) (hM : M = p.length + 1) (hB : B = p.length + 1 + v.length) :
    Calls Tryd.prog 43 #[.slice (some ⟨g, 0, none⟩) n c, .int .i64 (A : Int), .int .i64 (M : Int), .int .i64 (B : Int), .func (.func 29) #[] #[]] w fun e w' => e = .returned (.tuple #[]) ∧ ∃ m, Arow w' base g c n (p ++ (m ++ s)) ∧ Srt tkI m ∧ Stb tkI m ([x] ++ v) ∧ Only base Zr w w' := by
  have eg := enterBt
  have hlen := h.len
  simp only [List.length_append, List.length_singleton] at hlen
  have HL : Hid (M = A + 1 ∧ B = M + v.length ∧ B ≤ n ∧ n ≤ 1000000 ∧ A = p.length) := ⟨by omega, by omega, by omega, hn, hA⟩
  have H0 := Lib.hid h
  have HS := Lib.hid hs
  have e1 : (M : Int) - (A : Int) = 1 := by omega
  have e2 : IntKind.i64.wrap ((M : Int) - (A : Int)) = 1 := by rw [e1]; decide
  clear h hn hv hs hA hM hB hlen
  go_enter Tryd.func43, Tryd.ntmps43
  go_wp2_with fail
  clear e1 e2
  go_loopg [10, 11] v.length (fun gk s10 s11 wr => ∃ lo hi I J : Nat, gk = hi - lo ∧ s10 = .int .i64 (I : Int) ∧ s11 = .int .i64 (J : Int) ∧ Hid (I = M + lo ∧ J = M + hi ∧ Cut v x.tk lo hi ∧ Grow w wr))
  case atStart => exact ⟨0, v.length, M, B, rfl, rfl, rfl, rfl, HL.out.2.1, ⟨Nat.zero_le _, Nat.le_refl _, fun t a _ h => absurd h (Nat.not_lt_zero _), fun t a h1 h2 => by have := (List.getElem?_eq_some_iff.1 h1).1; omega⟩, Grow.refl _⟩
  case round =>
    obtain ⟨lo, hi, I, J, rfl, rfl, rfl, HR⟩ := hrel
    rcases Nat.lt_or_ge lo hi with hlt | hge
    · have hI := HR.out.1
      have hJ := HR.out.2.1
      have hMd := HL.out
      have htop := HR.out.2.2.1.top
      obtain ⟨h, hh⟩ : ∃ h, h = (lo + hi) / 2 := ⟨_, rfl⟩
      obtain ⟨a, ha⟩ : ∃ a, v[h]? = some a := ⟨_, List.getElem?_eq_getElem (by omega)⟩
      obtain ⟨K, hK⟩ : ∃ K, K = (I + J) / 2 := ⟨_, rfl⟩
      obtain ⟨S, hS⟩ : ∃ S, S = I + J := ⟨_, rfl⟩
      have hA0 := H0.out.grow HR.out.2.2.2
      obtain ⟨q1, q2, q3⟩ := hA0.at_ (u := p ++ [x]) (v := v ++ s) (by simp) (i := h) (by rw [List.getElem?_append_left (by omega)]; exact ha) (I := K) (by simp; omega)
      obtain ⟨r1, r2, r3⟩ := hA0.at_ (u := p) (v := [x] ++ (v ++ s)) rfl (i := 0) (t := x) rfl (I := A) (by omega)
      have hgl := hA0.blkLt
      have e2 := fun z : Gw wr => Gw.cell hgl q2 z
      have e3 := fun z : Gw wr => Gw.cell hgl r2 z
      have tx := hA0.ticks r3
      have ta := hA0.ticks q3
      have i0 : (I : Int) < (J : Int) := by omega
      have i3 : (K : Int) < (n : Int) := by omega
      have i4 : (A : Int) < (n : Int) := by omega
      have m0 : (I : Int) + (J : Int) = (S : Int) := by omega
      have m1 : (S : Int) / 2 = (K : Int) := by omega
      have m3 : IntKind.i64.wrap (S : Int) = (S : Int) := IntWalk.i64_in _ (by omega)
      have m2 : IntKind.i64.wrap ((I : Int) + (J : Int)) = (S : Int) := by rw [m0]; exact m3
      have m4 : IntKind.u64.wrap (S : Int) = (S : Int) := by rw [IntKind.wrap_u64]; omega
      have m5 : IntKind.i64.wrap (K : Int) = (K : Int) := IntWalk.i64_in _ (by omega)
      obtain ⟨K1, hK1⟩ : ∃ K1, K1 = K + 1 := ⟨_, rfl⟩
      have m6 : (K : Int) + 1 = (K1 : Int) := by omega
      have m8 : IntKind.i64.wrap (K1 : Int) = (K1 : Int) := IntWalk.i64_in _ (by omega)
      have m7 : IntKind.i64.wrap ((K : Int) + 1) = (K1 : Int) := by rw [m6]; exact m8
      have HK1 := Lib.hid hK1
      have HK : Hid (K = M + h ∧ lo ≤ h ∧ h < hi ∧ lo < hi) := ⟨by omega, by omega, by omega, hlt⟩
      have HA := Lib.hid ha
      have HG := Lib.hid HR.out.2.2.2
      clear hI hJ hMd htop hh ha hK hS hA0 hK1 q1 q2 q3 r1 r2 r3 hgl hlt
      by_cases hax : a.tk < x.tk
      · have cS : ∀ z : Gw wr, Calls Tryd.prog 29 #[.pointer (some ⟨a.blk, 0, none⟩), .pointer (some ⟨x.blk, 0, none⟩)] z.v fun e w' => e = .returned (.int .i64 (-1)) ∧ Grow z.v w' := fun z => bt_lt z.v a x (ta z) (tx z) hax
        have HX := Lib.hid hax
        clear tx ta hax
        go_wp2_with fail
        refine wp_region_gw (by kernel_rfl) (by kernel_rfl) ?_
        repeat (quiet_step ((go_at_call 29; exact Calls.gw (cS _))))
        refine wpQuiet_nil ?_
        intro _ hw'
        obtain ⟨⟨wq, hgq⟩, hw2⟩ := hw'
        subst hw2
        clear e2 e3 cS
        go_wp2_with fail
        go_roundg (hi - (h + 1))
        case measure => have := HK.out; omega
        case rel => exact ⟨h + 1, hi, K1, J, rfl, rfl, rfl, by have := HK.out; have := HK1.out; omega, HR.out.2.1, HR.out.2.2.1.up HS.out HA.out HK.out.2.2.1 HX.out, HG.out.trans hgq⟩
      · obtain ⟨r, hr⟩ : ∃ r : Int, r = if a.tk = x.tk then 0 else 1 := ⟨_, rfl⟩
        have cS : ∀ z : Gw wr, Calls Tryd.prog 29 #[.pointer (some ⟨a.blk, 0, none⟩), .pointer (some ⟨x.blk, 0, none⟩)] z.v fun e w' => e = .returned (.int .i64 r) ∧ Grow z.v w' := fun z => bt_ge z.v a x (ta z) (tx z) r hr (by omega)
        have hd : decide (r < 0) = false := decide_eq_false (by rw [hr]; split <;> omega)
        have HX := Lib.hid hax
        clear tx ta hax hr
        go_wp2_with fail
        refine wp_region_gw (by kernel_rfl) (by kernel_rfl) ?_
        repeat (quiet_step ((go_at_call 29; exact Calls.gw (cS _))))
        refine wpQuiet_nil ?_
        intro _ hw'
        obtain ⟨⟨wq, hgq⟩, hw2⟩ := hw'
        subst hw2
        clear e2 e3 cS
        go_wp2_with fail
        go_roundg (h - lo)
        case measure => have := HK.out; omega
        case rel => exact ⟨lo, h, I, K, rfl, rfl, rfl, HR.out.1, HK.out.1, HR.out.2.2.1.down HS.out HA.out HK.out.2.1 (by have := HX.out; omega), HG.out.trans hgq⟩
    · rename World => wo
      have hI := HR.out.1
      have hJ := HR.out.2.1
      have hle := HR.out.2.2.1.le
      obtain rfl : lo = hi := by omega
      obtain rfl : I = J := by omega
      have hMd := HL.out
      have htop := HR.out.2.2.1.top
      obtain ⟨I1, hI1⟩ : ∃ I1, I1 = A + lo := ⟨_, rfl⟩
      have m1 : (I : Int) - 1 = (I1 : Int) := by omega
      have m3 : IntKind.i64.wrap (I1 : Int) = (I1 : Int) := IntWalk.i64_in _ (by omega)
      have m2 : IntKind.i64.wrap ((I : Int) - 1) = (I1 : Int) := by rw [m1]; exact m3
      have HI := Lib.hid hI1
      clear hI hJ hle hMd htop hI1 hge
      go_wp2_with fail
      go_loopg [13] lo (fun gk s13 wr => ∃ e E : Nat, gk = lo - e ∧ s13 = .int .i64 (E : Int) ∧ Hid (e ≤ lo ∧ E = A + e ∧ Arow wr base g c n (p ++ (v.take e ++ (x :: (v.drop e ++ s)))) ∧ Only base Zr w wr))
      case atStart => exact ⟨0, A, rfl, rfl, Nat.zero_le _, rfl, by simpa using H0.out.grow HR.out.2.2.2, Only.grow HR.out.2.2.2 H0.out.bas Zr⟩
      case round =>
        obtain ⟨e, E, rfl, rfl, HU⟩ := hrel
        rcases Nat.lt_or_ge e lo with hlt | hge
        · have hE := HU.out.2.1
          have hI1 := HI.out
          have hMd := HL.out
          have htop := HR.out.2.2.1.top
          obtain ⟨b, hb⟩ : ∃ b, v[e]? = some b := ⟨_, List.getElem?_eq_getElem (by omega)⟩
          obtain ⟨w1, w2⟩ := walk_step (p := p) (s := s) (x := x) hb
          obtain ⟨F, hF⟩ : ∃ F, F = E + 1 := ⟨_, rfl⟩
          obtain ⟨j1, j2, k1, k2, k3, k4, _⟩ := HU.out.2.2.1.swap_at w1 (I := E) (J := F) (by simp; omega) (by simp; omega)
          obtain ⟨_, _, _, _, _, _, _, _, k7, _, _, _⟩ := (HU.out.2.2.1.grow (Grow.drew _)).swap_at w1 (I := E) (J := F) (by simp; omega) (by simp; omega)
          have HX : Hid (Arow _ base g c n _ ∧ Only base Zr w _) := ⟨k7.1, (HU.out.2.2.2.trans (Only.grow (Grow.drew _) HU.out.2.2.1.bas Zr)).trans k7.2⟩
          have i0 : (E : Int) < (I1 : Int) := by omega
          have i1 : (E : Int) < (n : Int) := by omega
          have i2 : (F : Int) < (n : Int) := by omega
          have iEF : E < F := by omega
          have n1 : (E : Int) + 1 = (F : Int) := by omega
          have n3 : IntKind.i64.wrap (F : Int) = (F : Int) := IntWalk.i64_in _ (by omega)
          have n2 : IntKind.i64.wrap ((E : Int) + 1) = (F : Int) := by rw [n1]; exact n3
          have HF := Lib.hid hF
          have HW := Lib.hid w2
          have HT := Lib.hid hlt
          clear hE hI1 hMd htop hb w1 w2 hF j1 j2 k7 hlt
          go_upto_region 11 with fail
          go_region
          go_wp2_with fail
          go_roundg (lo - (e + 1))
          case measure => have := HT.out; omega
          case rel => exact ⟨e + 1, F, rfl, rfl, HT.out, by rw [HF.out, HU.out.2.1]; omega, by rw [HW.out]; exact HX.out.1, HX.out.2⟩
        · have he : e = lo := by have := HU.out.1; omega
          have i0 : E = I1 := by rw [HU.out.2.1, HI.out, he]
          subst i0
          have HE := Lib.hid he
          clear he m1 m2 m3
          have m1 : (I : Int) - 1 = (E : Int) := by have := HI.out; have := HR.out.1; have := HL.out.1; omega
          have m3 : IntKind.i64.wrap (E : Int) = (E : Int) := IntWalk.i64_in _ (by have := HI.out; have := HR.out.1; have := HL.out; have := HR.out.2.2.1.top; omega)
          have m2 : IntKind.i64.wrap ((I : Int) - 1) = (E : Int) := by rw [m1]; exact m3
          go_wp2_with fail
          refine bodyPost_ret (results_none rfl _ _ _) rfl ?_
          obtain ⟨f1, f2⟩ := HR.out.2.2.1.front HS.out
          refine ⟨rfl, v.take lo ++ x :: v.drop lo, ?_, f1, f2, HU.out.2.2.2⟩
          have := HU.out.2.2.1
          rw [HE.out] at this
          simpa using this
end Go.Proofs.YtnoglbceaibjeaaDoor
/- Contract: slices' symMerge on a row of timers, where the second part is one timer. -/
namespace Go.Proofs.YtnoglbceaibjeaaDoor
set_option linter.unusedVariables false
set_option linter.unusedSimpArgs false
open Go.ChangeShapes Go.WideShapes Go.ChangeAt Go.RowKit Go.Shelf
attribute [local irreducible] wpQuiet

/-- The place behind all that are not greater. -/
structure CutB (v : List Tm) (x : Nat) (lo hi : Nat) : Prop where
  le : lo ≤ hi
  top : hi ≤ v.length
  low : ∀ (t : Nat) (a : Tm), v[t]? = some a → t < lo → a.tk ≤ x
  hig : ∀ (t : Nat) (a : Tm), v[t]? = some a → hi ≤ t → x < a.tk
theorem CutB.up {v : List Tm} {x lo hi h : Nat} {a : Tm} (k : CutB v x lo hi) (hs : Srt tkI v) (hh : v[h]? = some a) (hl : h < hi) (ha : a.tk ≤ x) : CutB v x (h + 1) hi := by
  refine ⟨hl, k.top, fun t b hb ht => ?_, k.hig⟩
  rcases Nat.lt_or_ge t h with q | q
  · obtain ⟨ht', e1⟩ := List.getElem?_eq_some_iff.1 hb
    obtain ⟨hh', e2⟩ := List.getElem?_eq_some_iff.1 hh
    have := List.pairwise_iff_getElem.1 hs t h ht' hh' q
    rw [e1, e2] at this
    have : (b.tk : Int) ≤ (a.tk : Int) := this
    omega
  · obtain rfl : t = h := by omega
    rw [hh] at hb
    cases hb
    exact ha
theorem CutB.down {v : List Tm} {x lo hi h : Nat} {a : Tm} (k : CutB v x lo hi) (hs : Srt tkI v) (hh : v[h]? = some a) (hl : lo ≤ h) (ha : x < a.tk) : CutB v x lo h := by
  have hhl := (List.getElem?_eq_some_iff.1 hh).1
  refine ⟨hl, by omega, k.low, fun t b hb ht => ?_⟩
  rcases Nat.lt_or_ge h t with q | q
  · obtain ⟨ht', e1⟩ := List.getElem?_eq_some_iff.1 hb
    obtain ⟨hh', e2⟩ := List.getElem?_eq_some_iff.1 hh
    have := List.pairwise_iff_getElem.1 hs h t hh' ht' q
    rw [e1, e2] at this
    have : (a.tk : Int) ≤ (b.tk : Int) := this
    omega
  · obtain rfl : t = h := by omega
    rw [hh] at hb
    cases hb
    exact ha
theorem CutB.back {v : List Tm} {x : Tm} {lo : Nat} (k : CutB v x.tk lo lo) (hs : Srt tkI v) : Srt tkI (v.take lo ++ x :: v.drop lo) ∧ Stb tkI (v.take lo ++ x :: v.drop lo) (v ++ [x]) := by
  have := ins_back (key := tkI) (u := v.take lo) (v := v.drop lo) (x := x) (by rw [List.take_append_drop]; exact hs) (fun a ha => by
    obtain ⟨i, hi⟩ := List.getElem?_of_mem ha
    rw [List.getElem?_take] at hi
    split at hi
    · have := k.low i a hi (by assumption)
      show (a.tk : Int) ≤ (x.tk : Int)
      omega
    · cases hi) (fun b hb => by
    obtain ⟨i, hi⟩ := List.getElem?_of_mem hb
    rw [List.getElem?_drop] at hi
    have := k.hig _ b hi (by omega)
    show (x.tk : Int) < (b.tk : Int)
    omega)
  rw [List.take_append_drop] at this
  exact this
theorem walk_back {p v s : List Tm} {x b : Tm} {e : Nat} (hb : v[e]? = some b) : p ++ (v.take (e + 1) ++ (x :: (v.drop (e + 1) ++ s))) = (p ++ v.take e) ++ b :: ([] ++ x :: (v.drop (e + 1) ++ s)) ∧ p ++ (v.take e ++ (x :: (v.drop e ++ s))) = (p ++ v.take e) ++ x :: ([] ++ b :: (v.drop (e + 1) ++ s)) := by
  obtain ⟨h1, h2⟩ := walk_step (p := p) (s := s) (x := x) hb
  exact ⟨h2, h1⟩

set_option maxRecDepth 100000 in
set_option maxHeartbeats 4000000 in
theorem symB (w : World) (base g c n : Nat) (p v s : List Tm) (x : Tm) (A M B : Nat) (h : Arow w base g c n (p ++ (v ++ ([x] ++ s)))) (hn : n ≤ 1000000) (hv : v.length ≠ 1) (hs : Srt tkI v) (hA : A = p.length) (hM : M = p.length + v.length) (hB : B = p.length + v.length + 1) :
    Calls Tryd.prog 43 #[.slice (some ⟨g, 0, none⟩) n c, .int .i64 (A : Int), .int .i64 (M : Int), .int .i64 (B : Int), .func (.func 29) #[] #[]] w fun e w' => e = .returned (.tuple #[]) ∧ ∃ m, Arow w' base g c n (p ++ (m ++ s)) ∧ Srt tkI m ∧ Stb tkI m (v ++ [x]) ∧ Only base Zr w w' := by
  have eg := enterBt
  have hlen := h.len
  simp only [List.length_append, List.length_singleton] at hlen
  have HL : Hid (M = A + v.length ∧ B = M + 1 ∧ B ≤ n ∧ n ≤ 1000000 ∧ A = p.length) := ⟨by omega, by omega, by omega, hn, hA⟩
  have H0 := Lib.hid h
  have HS := Lib.hid hs
  obtain ⟨D, hD⟩ : ∃ D, D = M - A := ⟨_, rfl⟩
  have e1 : (M : Int) - (A : Int) = (D : Int) := by omega
  have e3 : IntKind.i64.wrap (D : Int) = (D : Int) := IntWalk.i64_in _ (by omega)
  have e2 : IntKind.i64.wrap ((M : Int) - (A : Int)) = (D : Int) := by rw [e1]; exact e3
  have e4 : ¬ ((D : Int) = 1) := by omega
  have e7 : ((D : Int) == 1) = false := by rw [beq_eq_false_iff_ne]; exact e4
  have e5 : (B : Int) - (M : Int) = 1 := by omega
  have e6 : IntKind.i64.wrap ((B : Int) - (M : Int)) = 1 := by rw [e5]; decide
  clear h hn hv hs hA hM hB hlen hD
  go_enter Tryd.func43, Tryd.ntmps43
  go_wp2_with fail
  clear e1 e2 e3 e4 e5 e6 e7
  go_loopg [14, 15] v.length (fun gk s14 s15 wr => ∃ lo hi I J : Nat, gk = hi - lo ∧ s14 = .int .i64 (I : Int) ∧ s15 = .int .i64 (J : Int) ∧ Hid (I = A + lo ∧ J = A + hi ∧ CutB v x.tk lo hi ∧ Grow w wr))
  case atStart => exact ⟨0, v.length, A, M, rfl, rfl, rfl, rfl, HL.out.1, ⟨Nat.zero_le _, Nat.le_refl _, fun t a _ h => absurd h (Nat.not_lt_zero _), fun t a h1 h2 => by have := (List.getElem?_eq_some_iff.1 h1).1; omega⟩, Grow.refl _⟩
  case round =>
    obtain ⟨lo, hi, I, J, rfl, rfl, rfl, HR⟩ := hrel
    rcases Nat.lt_or_ge lo hi with hlt | hge
    · have hI := HR.out.1
      have hJ := HR.out.2.1
      have hMd := HL.out
      have htop := HR.out.2.2.1.top
      obtain ⟨h, hh⟩ : ∃ h, h = (lo + hi) / 2 := ⟨_, rfl⟩
      obtain ⟨a, ha⟩ : ∃ a, v[h]? = some a := ⟨_, List.getElem?_eq_getElem (by omega)⟩
      obtain ⟨K, hK⟩ : ∃ K, K = (I + J) / 2 := ⟨_, rfl⟩
      obtain ⟨S, hS⟩ : ∃ S, S = I + J := ⟨_, rfl⟩
      have hA0 := H0.out.grow HR.out.2.2.2
      obtain ⟨q1, q2, q3⟩ := hA0.at_ (u := p) (v := v ++ ([x] ++ s)) rfl (i := h) (by rw [List.getElem?_append_left (by omega)]; exact ha) (I := K) (by omega)
      obtain ⟨r1, r2, r3⟩ := hA0.at_ (u := p ++ v) (v := [x] ++ s) (by simp) (i := 0) (t := x) rfl (I := M) (by simp; omega)
      have hgl := hA0.blkLt
      have e2 := fun z : Gw wr => Gw.cell hgl q2 z
      have e3 := fun z : Gw wr => Gw.cell hgl r2 z
      have tx := hA0.ticks r3
      have ta := hA0.ticks q3
      have i0 : (I : Int) < (J : Int) := by omega
      have i3 : (K : Int) < (n : Int) := by omega
      have i4 : (M : Int) < (n : Int) := by omega
      have m0 : (I : Int) + (J : Int) = (S : Int) := by omega
      have m1 : (S : Int) / 2 = (K : Int) := by omega
      have m3 : IntKind.i64.wrap (S : Int) = (S : Int) := IntWalk.i64_in _ (by omega)
      have m2 : IntKind.i64.wrap ((I : Int) + (J : Int)) = (S : Int) := by rw [m0]; exact m3
      have m4 : IntKind.u64.wrap (S : Int) = (S : Int) := by rw [IntKind.wrap_u64]; omega
      have m5 : IntKind.i64.wrap (K : Int) = (K : Int) := IntWalk.i64_in _ (by omega)
      obtain ⟨K1, hK1⟩ : ∃ K1, K1 = K + 1 := ⟨_, rfl⟩
      have m6 : (K : Int) + 1 = (K1 : Int) := by omega
      have m8 : IntKind.i64.wrap (K1 : Int) = (K1 : Int) := IntWalk.i64_in _ (by omega)
      have m7 : IntKind.i64.wrap ((K : Int) + 1) = (K1 : Int) := by rw [m6]; exact m8
      have HK1 := Lib.hid hK1
      have HK : Hid (K = A + h ∧ lo ≤ h ∧ h < hi ∧ lo < hi) := ⟨by omega, by omega, by omega, hlt⟩
      have HA := Lib.hid ha
      have HG := Lib.hid HR.out.2.2.2
      clear hI hJ hMd htop hh ha hK hS hA0 hK1 q1 q2 q3 r1 r2 r3 hgl hlt
      by_cases hax : x.tk < a.tk
      · have cS : ∀ z : Gw wr, Calls Tryd.prog 29 #[.pointer (some ⟨x.blk, 0, none⟩), .pointer (some ⟨a.blk, 0, none⟩)] z.v fun e w' => e = .returned (.int .i64 (-1)) ∧ Grow z.v w' := fun z => bt_lt z.v x a (tx z) (ta z) hax
        have HX := Lib.hid hax
        clear tx ta hax
        go_wp2_with fail
        refine wp_region_gw (by kernel_rfl) (by kernel_rfl) ?_
        repeat (quiet_step ((go_at_call 29; exact Calls.gw (cS _))))
        refine wpQuiet_nil ?_
        intro _ hw'
        obtain ⟨⟨wq, hgq⟩, hw2⟩ := hw'
        subst hw2
        clear e2 e3 cS
        go_wp2_with fail
        go_roundg (h - lo)
        case measure => have := HK.out; omega
        case rel => exact ⟨lo, h, I, K, rfl, rfl, rfl, HR.out.1, HK.out.1, HR.out.2.2.1.down HS.out HA.out HK.out.2.1 HX.out, HG.out.trans hgq⟩
      · obtain ⟨r, hr⟩ : ∃ r : Int, r = if x.tk = a.tk then 0 else 1 := ⟨_, rfl⟩
        have cS : ∀ z : Gw wr, Calls Tryd.prog 29 #[.pointer (some ⟨x.blk, 0, none⟩), .pointer (some ⟨a.blk, 0, none⟩)] z.v fun e w' => e = .returned (.int .i64 r) ∧ Grow z.v w' := fun z => bt_ge z.v x a (tx z) (ta z) r hr (by omega)
        have hd : decide (r < 0) = false := decide_eq_false (by rw [hr]; split <;> omega)
        have HX := Lib.hid hax
        clear tx ta hax hr
        go_wp2_with fail
        refine wp_region_gw (by kernel_rfl) (by kernel_rfl) ?_
        repeat (quiet_step ((go_at_call 29; exact Calls.gw (cS _))))
        refine wpQuiet_nil ?_
        intro _ hw'
        obtain ⟨⟨wq, hgq⟩, hw2⟩ := hw'
        subst hw2
        clear e2 e3 cS
        go_wp2_with fail
        go_roundg (hi - (h + 1))
        case measure => have := HK.out; omega
        case rel => exact ⟨h + 1, hi, K1, J, rfl, rfl, rfl, by have := HK.out; have := HK1.out; omega, HR.out.2.1, HR.out.2.2.1.up HS.out HA.out HK.out.2.2.1 (by have := HX.out; omega), HG.out.trans hgq⟩
    · rename World => wo
      have hI := HR.out.1
      have hJ := HR.out.2.1
      have hle := HR.out.2.2.1.le
      obtain rfl : lo = hi := by omega
      obtain rfl : I = J := by omega
      clear hI hJ hle hge
      go_wp2_with fail
      go_loopg [17] (v.length - lo) (fun gk s17 wr => ∃ e E : Nat, gk = e - lo ∧ s17 = .int .i64 (E : Int) ∧ Hid (lo ≤ e ∧ e ≤ v.length ∧ E = A + e ∧ Arow wr base g c n (p ++ (v.take e ++ (x :: (v.drop e ++ s)))) ∧ Only base Zr w wr))
      case atStart => exact ⟨v.length, M, rfl, rfl, HR.out.2.2.1.top, Nat.le_refl _, HL.out.1, by simpa using H0.out.grow HR.out.2.2.2, Only.grow HR.out.2.2.2 H0.out.bas Zr⟩
      case round =>
        obtain ⟨e, E, rfl, rfl, HU⟩ := hrel
        rcases Nat.lt_or_ge lo e with hlt | hge
        · obtain ⟨f, rfl⟩ : ∃ f, e = f + 1 := ⟨e - 1, by omega⟩
          have hE := HU.out.2.2.1
          have hI1 := HR.out.1
          have hMd := HL.out
          have htop := HU.out.2.1
          obtain ⟨b, hb⟩ : ∃ b, v[f]? = some b := ⟨_, List.getElem?_eq_getElem (by omega)⟩
          obtain ⟨w1, w2⟩ := walk_back (p := p) (s := s) (x := x) hb
          obtain ⟨F, hF⟩ : ∃ F, F = A + f := ⟨_, rfl⟩
          obtain ⟨j1, j2, k1, k2, k3, k4, _⟩ := HU.out.2.2.2.1.swap_at w1 (I := F) (J := E) (by simp; omega) (by simp; omega)
          obtain ⟨_, _, _, _, _, _, _, _, _, _, _, k7⟩ := (HU.out.2.2.2.1.grow (Grow.drew _)).swap_at w1 (I := F) (J := E) (by simp; omega) (by simp; omega)
          have HX : Hid (Arow _ base g c n _ ∧ Only base Zr w _) := ⟨k7.1, (HU.out.2.2.2.2.trans (Only.grow (Grow.drew _) HU.out.2.2.2.1.bas Zr)).trans k7.2⟩
          have i0 : (I : Int) < (E : Int) := by omega
          have i1 : (E : Int) < (n : Int) := by omega
          have i2 : (F : Int) < (n : Int) := by omega
          have iEF : F < E := by omega
          have n1 : (E : Int) - 1 = (F : Int) := by omega
          have n3 : IntKind.i64.wrap (F : Int) = (F : Int) := IntWalk.i64_in _ (by omega)
          have n2 : IntKind.i64.wrap ((E : Int) - 1) = (F : Int) := by rw [n1]; exact n3
          have HF := Lib.hid hF
          have HW := Lib.hid w2
          have HT : Hid (lo ≤ f ∧ f ≤ v.length ∧ lo < f + 1) := ⟨by omega, by omega, hlt⟩
          clear hE hI1 hMd htop hb w1 w2 hF j1 j2 k7 hlt
          go_upto_region 23 with fail
          go_region
          go_wp2_with fail
          go_roundg (f - lo)
          case measure => have := HT.out; omega
          case rel => exact ⟨f, F, rfl, rfl, HT.out.1, HT.out.2.1, HF.out, by rw [HW.out]; exact HX.out.1, HX.out.2⟩
        · have he : e = lo := by have := HU.out.1; omega
          have i0 : E = I := by rw [HU.out.2.2.1, HR.out.1, he]
          subst i0
          have HE := Lib.hid he
          clear he
          go_wp2_with fail
          refine bodyPost_ret (results_none rfl _ _ _) rfl ?_
          obtain ⟨f1, f2⟩ := HR.out.2.2.1.back HS.out
          refine ⟨rfl, v.take lo ++ x :: v.drop lo, ?_, f1, f2, HU.out.2.2.2.2⟩
          have := HU.out.2.2.2.1
          rw [HE.out] at this
          simpa using this
end Go.Proofs.YtnoglbceaibjeaaDoor
/- Contract: slices' symMerge on a row of timers, its cut, in numbers. -/
namespace Go.Proofs.YtnoglbceaibjeaaDoor
set_option linter.unusedVariables false
set_option linter.unusedSimpArgs false
open Go.ChangeShapes Go.WideShapes Go.ChangeAt Go.RowKit Go.Shelf
attribute [local irreducible] wpQuiet

/-- Where symMerge looks for its cut. -/
structure SymN (u v : List Tm) (A M B D NN P st0 r0 : Nat) : Prop where
  hM : M = A + u.length
  hB : B = M + v.length
  hu : 2 ≤ u.length
  hv : 2 ≤ v.length
  hD : D = (A + B) / 2
  hN : NN = D + M
  hP : P = NN - 1
  hc : D < M ∧ st0 = NN - B ∧ r0 = D ∨ M ≤ D ∧ st0 = A ∧ r0 = M
section
variable {u v : List Tm} {A M B D NN P st0 r0 c : Nat}
theorem SymN.rng (h : SymN u v A M B D NN P st0 r0) (h1 : st0 ≤ c) (h2 : c < r0) : A ≤ c ∧ c < M ∧ c ≤ P ∧ M ≤ P - c ∧ P - c < B := by
  obtain ⟨a1, a2, a3, a4, a5, a6, a7, a8⟩ := h
  rcases a8 with ⟨b1, b2, b3⟩ | ⟨b1, b2, b3⟩ <;> omega
theorem SymN.le (h : SymN u v A M B D NN P st0 r0) : st0 ≤ r0 ∧ A ≤ st0 ∧ r0 ≤ D ∧ r0 ≤ M ∧ (D < M → B ≤ NN) ∧ NN ≤ st0 + B ∧ A < D ∧ D < B := by
  obtain ⟨a1, a2, a3, a4, a5, a6, a7, a8⟩ := h
  rcases a8 with ⟨b1, b2, b3⟩ | ⟨b1, b2, b3⟩ <;> omega
structure SymS (u v : List Tm) (A M P st0 r0 st r : Nat) : Prop where
  le : st0 ≤ st ∧ st ≤ r ∧ r ≤ r0
  lo : st = st0 ∨ (st0 < st ∧ ∃ a b, u[st - 1 - A]? = some a ∧ v[P - (st - 1) - M]? = some b ∧ a.tk ≤ b.tk)
  hi : r = r0 ∨ (r < r0 ∧ ∃ a b, u[r - A]? = some a ∧ v[P - r - M]? = some b ∧ b.tk < a.tk)
theorem SymN.done (h : SymN u v A M B D NN P st0 r0) {S : Nat} (k : SymS u v A M P st0 r0 S S) (hsu : Srt tkI u) (hsv : Srt tkI v) :
    (∀ a ∈ u.take (S - A), ∀ b ∈ v.drop (NN - S - M), tkI a ≤ tkI b) ∧ (∀ b ∈ v.take (NN - S - M), ∀ a ∈ u.drop (S - A), tkI b < tkI a) := by
  obtain ⟨k1, k2, k3⟩ := k.le
  have hl := h.le
  have hM := h.hM
  have hB := h.hB
  have hN := h.hN
  have hP := h.hP
  refine sym_cut (by rw [List.take_append_drop]; exact hsu) (by rw [List.take_append_drop]; exact hsv) ?_ ?_
  · rcases k.lo with e | ⟨e, a, b, ha, hb, hab⟩
    · rcases h.hc with ⟨b1, b2, b3⟩ | ⟨b1, b2, b3⟩
      · refine .inr (.inl (List.drop_eq_nil_of_le ?_))
        omega
      · refine .inl ?_
        rw [show S - A = 0 from by omega]
        rfl
    · have := h.rng (c := S - 1) (by omega) (by omega)
      refine .inr (.inr ⟨u.take (S - 1 - A), a, b, v.drop (NN - S - M + 1), ?_, ?_, ?_⟩)
      · rw [show S - A = S - 1 - A + 1 from by omega, List.take_add_one, ha]
        rfl
      · obtain ⟨hl, he⟩ := List.getElem?_eq_some_iff.1 hb
        have e2 : P - (S - 1) - M = NN - S - M := by omega
        rw [List.drop_eq_getElem_cons (show NN - S - M < v.length by omega)]
        congr 1
        rw [← he]
        congr 1
        exact e2.symm
      · show (a.tk : Int) ≤ (b.tk : Int)
        omega
  · rcases k.hi with e | ⟨e, a, b, ha, hb, hab⟩
    · rcases h.hc with ⟨b1, b2, b3⟩ | ⟨b1, b2, b3⟩
      · refine .inr (.inl ?_)
        rw [show NN - S - M = 0 from by omega]
        rfl
      · refine .inl (List.drop_eq_nil_of_le ?_)
        omega
    · have := h.rng (c := S) (by omega) (by omega)
      refine .inr (.inr ⟨a, u.drop (S - A + 1), v.take (P - S - M), b, ?_, ?_, ?_⟩)
      · obtain ⟨hl, he⟩ := List.getElem?_eq_some_iff.1 ha
        rw [List.drop_eq_getElem_cons hl, he]
      · rw [show NN - S - M = P - S - M + 1 from by omega, List.take_add_one, hb]
        rfl
      · show (b.tk : Int) < (a.tk : Int)
        omega
theorem SymS.up {st r h : Nat} {a b : Tm} (k : SymS u v A M P st0 r0 st r) (h1 : st ≤ h) (h2 : h < r) (ha : u[h - A]? = some a) (hb : v[P - h - M]? = some b) (hab : a.tk ≤ b.tk) : SymS u v A M P st0 r0 (h + 1) r :=
  ⟨⟨by have := k.le; omega, h2, k.le.2.2⟩, .inr ⟨by have := k.le; omega, a, b, by rw [Nat.add_sub_cancel]; exact ha, by rw [Nat.add_sub_cancel]; exact hb, hab⟩, k.hi⟩
theorem SymS.down {st r h : Nat} {a b : Tm} (k : SymS u v A M P st0 r0 st r) (h1 : st ≤ h) (h2 : h < r) (ha : u[h - A]? = some a) (hb : v[P - h - M]? = some b) (hab : b.tk < a.tk) : SymS u v A M P st0 r0 st h :=
  ⟨⟨k.le.1, h1, by have := k.le; omega⟩, k.lo, .inr ⟨by have := k.le; omega, a, b, ha, hb, hab⟩⟩
end

def dropS : Nat → Code → Code
  | 0, c => c
  | n + 1, .seq _ b => dropS n b
  | _, c => c
/-- What symMerge leaves. -/
def SymEnd (w : World) (base g c n : Nat) (p s L : List Tm) (a : Go.Act) (w' : World) : Prop := a.defers = [] ∧ ∃ m, Arow w' base g c n (p ++ (m ++ s)) ∧ Srt tkI m ∧ Stb tkI m L ∧ Only base Zr w w'
structure SymP (n : Nat) (p u v u1 u2 v1 v2 : List Tm) (A M B D st E NN : Nat) (N : Nat) : Prop where
  e : u1.length = st - A ∧ u2.length = M - st ∧ v1.length = E - M ∧ v2.length = B - E ∧ A ≤ st ∧ st ≤ M ∧ M ≤ E ∧ E ≤ B ∧ st ≤ D ∧ D ≤ E ∧ D + M = st + E ∧ A < D ∧ D < B
  eu : u = u1 ++ u2 ∧ v = v1 ++ v2
  s : Srt tkI u ∧ Srt tkI v
  d : (∀ a ∈ u1, ∀ b ∈ v2, tkI a ≤ tkI b) ∧ (∀ b ∈ v1, ∀ a ∈ u2, tkI b < tkI a)
  l : B ≤ n ∧ n ≤ 1000000 ∧ A = p.length
  mb : M = A + u.length ∧ B = M + v.length
  sz : u.length + v.length ≤ N
  nn : NN = E + st
end Go.Proofs.YtnoglbceaibjeaaDoor
/- Contract: slices' symMerge on a row of timers: behind its rotation. -/
namespace Go.Proofs.YtnoglbceaibjeaaDoor
set_option linter.unusedVariables false
set_option linter.unusedSimpArgs false
open Go.ChangeShapes Go.WideShapes Go.ChangeAt Go.RowKit Go.Shelf
attribute [local irreducible] wpQuiet

set_option maxRecDepth 100000 in
set_option maxHeartbeats 8000000 in
theorem symT10 (Q : Exit → Go.Act → World → Prop) (N : Nat) (ih : SymOk N) (w w1 : World) (base g c n : Nat) (p u v u1 u2 v1 v2 s : List Tm) (A M B D st E NN : Nat) (hP : SymP n p u v u1 u2 v1 v2 A M B D st E NN N)
    (hW : Arow w1 base g c n (p ++ (u1 ++ (v1 ++ (u2 ++ (v2 ++ s))))) ∧ Only base Zr w w1) (hQ : ∀ a w', SymEnd w base g c n p s (u ++ v) a w' → Q Exit.normal a w') (u5 u6 u7 u8 u9 u10 u11 u12 u13 u14 u15 u16 u17 u19 u21 u22 u23 u25 u26 u27 u28 u29 u30 u31 u32 u33 u34 u35 u36 u37 u38 u39 u40 u41 u42 u43 u44 u45 u46 u47 u48 u49 u50 u51 u52 u53 u54 u55 u56 u57 u58 u59 u60 u61 u62 u63 u64 u65 u66 u67 u68 u69 u70 u71 u72 u73 u74 u75 u76 u77 u78 u79 u80 u81 u82 u83 u84 u85 u86 u87 u88 u89 u90 u91 u92 u93 u94 u95 u96 u97 u98 u99 u100 u101 u102 u103 u104 u105 u106 u107 u108 u109 u110 u111 u112 u113 u114 u115 u116 u117 u118 u119 u120 u121 u122 u123 u124 u125 u126 u127 u128 u129 u130 u131 u132 u133 u134 u135 u136 u137 u138 u139 u140 u141 u142 u143 u144 u145 u146 u147 u148 u149 u150 u151 u152 u153 u154 u155 u156 u157 u158 u159 u160 u161 u162 u163 u164 u165 u166 u167 u168 u169 u170 u171 u172 u173 u174 u175 u176 u177 u178 u179 u180 u181 u182 u183 u184 u185 u186 u187 u188 u189 u190 u191 u192 u193 u194 u195 u196 u197 u198 u199 u200 u201 u202 u203 u204 u205 u206 u207 u208 u209 u210 u211 u212 u213 u214 u215 u216 u217 u218 u219 : Value) :
    Code.wp Tryd.prog (dropS 10 ((Tryd.f43.body).getD .skip)) Q ⟨#[.slice (some ⟨g, 0, none⟩) n c, .int .i64 (A : Int), .int .i64 (M : Int), .int .i64 (B : Int), .func (.func 29) #[] #[], u5, u6, u7, u8, u9, u10, u11, u12, u13, u14, u15, u16, u17, .int .i64 (D : Int), u19, .int .i64 (st : Int), u21, u22, u23, .int .i64 (E : Int), u25, u26, u27, u28, u29, u30, u31, u32, u33, u34, u35, u36, u37, u38, u39, u40, u41, u42, u43, u44, u45, u46, u47, u48, u49, u50, u51, u52, u53, u54, u55, u56, u57, u58, u59, u60, u61, u62, u63, u64, u65, u66, u67, u68, u69, u70, u71, u72, u73, u74, u75, u76, u77, u78, u79, u80, u81, u82, u83, u84, u85, u86, u87, u88, u89, u90, u91, u92, u93, u94, u95, u96, u97, u98, u99, u100, u101, u102, u103, u104, u105, u106, u107, u108, u109, u110, u111, u112, u113, u114, u115, u116, u117, u118, u119, u120, u121, u122, u123, u124, u125, u126, u127, u128, u129, u130, u131, u132, u133, u134, u135, u136, u137, u138, u139, u140, u141, u142, u143, u144, u145, u146, u147, u148, u149, u150, u151, u152, u153, u154, u155, u156, u157, u158, u159, u160, u161, u162, u163, u164, u165, u166, u167, u168, u169, u170, u171, u172, u173, u174, u175, u176, u177, u178, u179, u180, u181, u182, u183, u184, u185, u186, u187, u188, u189, u190, u191, u192, u193, u194, u195, u196, u197, u198, u199, u200, u201, u202, u203, u204, u205, u206, u207, u208, u209, u210, u211, u212, u213, u214, u215, u216, u217, u218, u219], []⟩ w1 := by
  conv => arg 2; whnf
  conv => arg 4; arg 1; simp only []
  have eg := enterBt
  have HE := Lib.hid hP.e
  have HEU := Lib.hid hP.eu
  have HS := Lib.hid hP.s
  have HD := Lib.hid hP.d
  have HL := Lib.hid hP.l
  have HMB := Lib.hid hP.mb
  have HZ := Lib.hid hP.sz
  have HNN := Lib.hid hP.nn
  have HP := Lib.hid hP
  have H1 := Lib.hid hW
  have HQ := Lib.hid hQ
  clear hP hW hQ
  obtain ⟨b2, hb2⟩ : ∃ b2, b2 = decide (A < st ∧ st < D) := ⟨_, rfl⟩
  have HB2 := Lib.hid hb2
  clear hb2
  go_upto_region 41 with fail
  go_cut [199] from 192 to 199 (fun s199 wx => s199 = .bool b2 ∧ w1 = wx)
  case first =>
    rcases Nat.lt_or_ge A st with q | q
    · have t1 : (A : Int) < (st : Int) := by omega
      have t2 := decide_eq_true q
      rcases Nat.lt_or_ge st D with z | z
      · have t3 : (st : Int) < (D : Int) := by omega
        have t4 := decide_eq_true z
        have HBB : Hid (true = b2) := by rw [HB2.out]; exact (decide_eq_true ⟨q, z⟩).symm
        go_wp2_with fail
        go_meet
        exact ⟨by rw [← HBB.out], rfl⟩
      · have t3 : ¬ ((st : Int) < (D : Int)) := by omega
        have t4 : decide (st < D) = false := decide_eq_false (by omega)
        have HBB : Hid (false = b2) := by rw [HB2.out]; exact (decide_eq_false (fun e => by omega)).symm
        go_wp2_with fail
        go_meet
        exact ⟨by rw [← HBB.out], rfl⟩
    · have t1 : ¬ ((A : Int) < (st : Int)) := by omega
      have t2 : decide (A < st) = false := decide_eq_false (by omega)
      have HBB : Hid (false = b2) := by rw [HB2.out]; exact (decide_eq_false (fun e => by omega)).symm
      go_wp2_with fail
      go_meet
      exact ⟨by rw [← HBB.out], rfl⟩
  case rest =>
    obtain ⟨rfl, rfl⟩ := hcut
    have hsuv := HS.out
    have hEU := HEU.out
    have HSP : Hid (Srt tkI u1 ∧ Srt tkI u2 ∧ Srt tkI v1 ∧ Srt tkI v2) := by
      rw [hEU.1, hEU.2] at hsuv
      exact ⟨(srt_app.1 hsuv.1).1, (srt_app.1 hsuv.1).2.1, (srt_app.1 hsuv.2).1, (srt_app.1 hsuv.2).2.1⟩
    clear hsuv hEU
    go_upto_if 199 with fail
    go_cut [] from 200 to 205 (fun wx => ∃ m1 : List Tm, Hid (Arow wx base g c n (p ++ (m1 ++ (u2 ++ (v2 ++ s)))) ∧ Srt tkI m1 ∧ Stb tkI m1 (u1 ++ v1) ∧ Only base Zr w wx))
    case first =>
      cases b2 with
      | true =>
        have hb := of_decide_eq_true HB2.out.symm
        have c0 := ih w1 base g c n p u1 v1 (u2 ++ (v2 ++ s)) A st D H1.out.1 HL.out.2.1 (fun e => by have := HE.out; rw [e] at this; simp at this; omega) (fun e => by have := HE.out; rw [e] at this; simp at this; omega) HSP.out.1 HSP.out.2.2.1 HL.out.2.2 (by have := HE.out; have := HL.out; omega) (by have := HE.out; have := HL.out; omega) (by have := HE.out; have := HZ.out; have := HMB.out.1; have := HMB.out.2; omega)
        clear hb
        go_wp2_with fail
        refine c0.mono ?_
        rintro e w2 ⟨rfl, m1, h2, h3, h4, o2⟩
        have H2 := Lib.hid (And.intro h2 (And.intro h3 (And.intro h4 o2)))
        clear h2 h3 h4 o2 c0
        go_wp2_with fail
        go_meet
        exact ⟨m1, H2.out.1, H2.out.2.1, H2.out.2.2.1, H1.out.2.trans H2.out.2.2.2⟩
      | false =>
        have hb := of_decide_eq_false HB2.out.symm
        have HV : Hid (u1 = [] ∨ v1 = []) := by
          have := HE.out
          rcases Nat.lt_or_ge A st with q | q
          · exact .inr (List.eq_nil_of_length_eq_zero (by omega))
          · exact .inl (List.eq_nil_of_length_eq_zero (by omega))
        clear hb
        go_wp2_with fail
        go_meet
        refine ⟨u1 ++ v1, by simpa using H1.out.1, ?_, Stb.refl _, H1.out.2⟩
        rcases HV.out with e | e
        · rw [e]; simpa using HSP.out.2.2.1
        · rw [e]; simpa using HSP.out.1
    case rest =>
      rename World => w3
      obtain ⟨m1, H3⟩ := hcut
      obtain ⟨b3, hb3⟩ : ∃ b3, b3 = decide (D < E ∧ E < B) := ⟨_, rfl⟩
      have HB3 := Lib.hid hb3
      have hml := H3.out.2.2.1.len
      have HM1 : Hid (m1.length = D - A) := by
            show m1.length = D - A
            rw [hml, List.length_append]
            have := HE.out
            omega
      have HFin : Hid (∀ m2, Srt tkI m2 → Stb tkI m2 (u2 ++ v2) → Srt tkI (m1 ++ m2) ∧ Stb tkI (m1 ++ m2) (u ++ v)) := by
        intro m2 hs2 ht2
        have hsuv := HS.out
        have hEU := HEU.out
        rw [hEU.1, hEU.2] at hsuv ⊢
        exact merge_parts hsuv.1 hsuv.2 HD.out.1 HD.out.2 H3.out.2.1 hs2 H3.out.2.2.1 ht2
      clear hb3 hml
      go_upto_region 43 with fail
      go_cut [213] from 206 to 213 (fun s213 wx => s213 = .bool b3 ∧ w3 = wx)
      case first =>
        rcases Nat.lt_or_ge D E with q | q
        · have t1 : (D : Int) < (E : Int) := by omega
          have t2 := decide_eq_true q
          rcases Nat.lt_or_ge E B with z | z
          · have t3 : (E : Int) < (B : Int) := by omega
            have t4 := decide_eq_true z
            have HBB : Hid (true = b3) := by rw [HB3.out]; exact (decide_eq_true ⟨q, z⟩).symm
            go_wp2_with fail
            go_meet
            exact ⟨by rw [← HBB.out], rfl⟩
          · have t3 : ¬ ((E : Int) < (B : Int)) := by omega
            have t4 : decide (E < B) = false := decide_eq_false (by omega)
            have HBB : Hid (false = b3) := by rw [HB3.out]; exact (decide_eq_false (fun e => by omega)).symm
            go_wp2_with fail
            go_meet
            exact ⟨by rw [← HBB.out], rfl⟩
        · have t1 : ¬ ((D : Int) < (E : Int)) := by omega
          have t2 : decide (D < E) = false := decide_eq_false (by omega)
          have HBB : Hid (false = b3) := by rw [HB3.out]; exact (decide_eq_false (fun e => by omega)).symm
          go_wp2_with fail
          go_meet
          exact ⟨by rw [← HBB.out], rfl⟩
      case rest =>
        obtain ⟨rfl, rfl⟩ := hcut
        cases b3 with
        | true =>
          have hb := of_decide_eq_true HB3.out.symm
          have c0 := ih w3 base g c n (p ++ m1) u2 v2 s D E B (by simpa using H3.out.1) HL.out.2.1 (fun e => by have := HE.out; rw [e] at this; simp at this; omega) (fun e => by have := HE.out; rw [e] at this; simp at this; omega) HSP.out.2.1 HSP.out.2.2.2 (by have := HE.out; have := HL.out; have := HM1.out; simp; omega) (by have := HE.out; have := HL.out; have := HM1.out; simp; omega) (by have := HE.out; have := HL.out; have := HM1.out; simp; omega) (by have := HE.out; have := HZ.out; have := HMB.out.1; have := HMB.out.2; omega)
          clear hb
          go_wp2_with fail
          refine c0.mono ?_
          rintro e w4 ⟨rfl, m2, h2, h3, h4, o2⟩
          have H2 := Lib.hid (And.intro h2 (And.intro h3 (And.intro h4 o2)))
          clear h2 h3 h4 o2 c0
          go_wp2_with fail
          refine HQ.out _ _ ⟨rfl, ?_⟩
          obtain ⟨k1, k2⟩ := HFin.out m2 H2.out.2.1 H2.out.2.2.1
          exact ⟨m1 ++ m2, by simpa using H2.out.1, k1, k2, H3.out.2.2.2.trans H2.out.2.2.2⟩
        | false =>
          have hb := of_decide_eq_false HB3.out.symm
          have HV : Hid (u2 = [] ∨ v2 = []) := by
            have := HE.out
            rcases Nat.lt_or_ge D E with q | q
            · exact .inr (List.eq_nil_of_length_eq_zero (by omega))
            · exact .inl (List.eq_nil_of_length_eq_zero (by omega))
          clear hb
          go_wp2_with fail
          refine HQ.out _ _ ⟨rfl, ?_⟩
          obtain ⟨k1, k2⟩ := HFin.out (u2 ++ v2) (by
            rcases HV.out with e | e
            · rw [e]; simpa using HSP.out.2.2.2
            · rw [e]; simpa using HSP.out.2.1) (Stb.refl _)
          exact ⟨m1 ++ (u2 ++ v2), by simpa using H3.out.1, k1, k2, H3.out.2.2.2⟩
end Go.Proofs.YtnoglbceaibjeaaDoor
