/- RtoPlays: its walk. -/
import Derived.Test.YtpbnpkbmefjiaaaRoIf
import Derived.StillTailTactics
namespace Go.Proofs.Ytpbnpkbmefjiaaa
set_option linter.unusedVariables false
set_option linter.unusedSimpArgs false
open Go.ChangeShapes Go.WideShapes Go.ChangeAt Go.RowKit

/-- Where RtoPlays stands: the program's and the reference's (in block gb) hold the same. -/
structure RPr (Rp : RoT) (w wr : World) (pb gb : Nat) (r : Ro) : Prop where
  pr : Rp wr w.heap.size pb r
  rb : RoB wr gb r
  z : w.heap.size ≤ gb
  g : Below w.heap.size w wr
  s : w.heap.size ≤ wr.heap.size
section
variable {Rp : RoT} {w wr w2 : World} {pb gb : Nat} {r r' : Ro}
theorem RPr.prog (h : RPr Rp w wr pb gb r) (p : Rp w2 w.heap.size pb r') (o : Only w.heap.size Zr wr w2) : Rp w2 w.heap.size pb r' ∧ RoB w2 gb r ∧ Below w.heap.size w w2 ∧ w.heap.size ≤ w2.heap.size :=
  ⟨p, o.cells h.rb (by unfold Zr; exact fun q => q rfl), h.g.trans o.low, Nat.le_trans h.s o.size⟩
theorem RPr.grow (I : RIf Rp) (h : RPr Rp w wr pb gb r) (k : Grow wr w2) : RPr Rp w w2 pb gb r := ⟨I.grow h.pr k, h.rb.grow k, h.z, h.g.trans (k.mono h.s), Nat.le_trans h.s k.size⟩
theorem RPr.set (I : RIf Rp) (hp : Rp wr w.heap.size pb r') (hz : w.heap.size ≤ gb) (hg : Below w.heap.size w wr) (hs : w.heap.size ≤ wr.heap.size) (hold : RoB wr gb r) (hb : RoB w2 gb r') (k : But gb wr w2) (g2 : Below w.heap.size w w2) : RPr Rp w w2 pb gb r' :=
  ⟨I.keep hp fun b o T _ ho hT hq => (k.2 b fun e => by
    subst e
    rw [show wr.heap[b]? = _ from hold] at ho
    cases ho
    cases hT
    exact hq rfl).trans ho, hb, hz, g2, by rw [k.1]; exact hs⟩
end
theorem roPlW {m v : Nat} (h1 : m ≤ 8388608) (h2 : v ≤ 8388608) : (m : Int) / 8 = ((m / 8 : Nat) : Int) ∧ (v : Int) / 4 = ((v / 4 : Nat) : Int) ∧ IntKind.i64.wrap ((m / 8 : Nat) : Int) = ((m / 8 : Nat) : Int) ∧ IntKind.i64.wrap ((v / 4 : Nat) : Int) = ((v / 4 : Nat) : Int) :=
  ⟨by omega, by omega, IntWalk.i64_in _ (by omega), IntWalk.i64_in _ (by omega)⟩
set_option maxRecDepth 100000 in
set_option maxHeartbeats 4000000 in
theorem rtoPlays_if {Rp : RoT} (I : RIf Rp) (w : World) (l : Int) (hl : In64 l) (h : Int) (hh : In64 h) (f : Int) (hf : In64 f) {v1 : Value} {L : List Int} (h1 : IntsR w v1 L) {v2 : Value} {Bs : List Bool} (h2 : BlsR w v2 Bs) :
    Calls Try.prog 3 #[.int .i64 l, .int .i64 h, .int .i64 f, v1, v2] w fun e w' => e = .returned (.bool true) ∧ Below w.heap.size w w' := by
  have HLv := Lib.hid (fun w => rlive_any I w)
  have HC := Lib.hid (fun x w => rcode_any x w)
  have HV1 := Lib.hid h1
  have HV2 := Lib.hid h2
  have HI := Lib.hid I
  obtain ⟨A1, cp1, e1, _, _, _, _⟩ := h1
  obtain ⟨A2, cp2, e2, _, _, _⟩ := h2
  obtain ⟨N, hN⟩ : ∃ N, N = L.length := ⟨_, rfl⟩
  obtain ⟨NB, hNB⟩ : ∃ N, N = Bs.length := ⟨_, rfl⟩
  rw [← hN] at e1
  rw [← hNB] at e2
  subst e1 e2
  have HN := Lib.hid (And.intro hN hNB)
  clear hN hNB
  by_cases q : 200 < N
  · have q1 : (200 : Int) < (N : Int) := by omega
    go_enter Try.func3, Try.ntmps3
    go_wp2_with fail
    refine (HLv.out _).mono ?_
    rintro e w' ⟨rfl, g⟩
    have G := Lib.hid g
    clear g
    go_wp2_with fail
    go_ret
    exact ⟨rfl, G.out⟩
  have q1 : ¬ ((200 : Int) < (N : Int)) := by omega
  have HQ : Hid (N ≤ 200) := Lib.hid (by omega)
  clear q
  by_cases hr : RoRight l h f
  · obtain ⟨l, rfl⟩ : ∃ n : Nat, l = (n : Int) := ⟨l.toNat, by unfold RoRight at hr; omega⟩
    obtain ⟨f, rfl⟩ : ∃ n : Nat, f = (n : Int) := ⟨f.toNat, by unfold RoRight at hr; omega⟩
    obtain ⟨h, rfl⟩ : ∃ n : Nat, h = (n : Int) := ⟨h.toNat, by unfold RoRight at hr; omega⟩
    have c0 := I.new w l h f hr
    have cR := fun w => roRight_any w (l : Int) (h : Int) (f : Int)
    simp only [decide_eq_true hr] at cR
    have HR0 : Hid (RoOk (noneRo l h f)) := by
      unfold RoRight at hr
      exact roOk_none (by omega) (by omega) (by omega) (by omega)
    clear hr hl hf hh I
    go_enter Try.func3, Try.ntmps3
    go_wp2_with fail
    refine c0.mono ?_
    rintro e w1 ⟨pb, rfl, p1, g1⟩
    have H1 := Lib.hid (And.intro p1 g1)
    clear c0 p1 g1
    go_wp2_with fail
    refine (cR _).mono ?_
    rintro e w' ⟨rfl, hw⟩
    subst w'
    clear cR
    go_wp2_with fail
    refine (HC.out _ _).mono ?_
    rintro e w' ⟨rfl, hw⟩
    subst w'
    have c1 := HI.out.now H1.out.1
    rw [show (noneRo l h f).now = f from rfl] at c1
    go_wp2_with fail
    refine c1.mono ?_
    rintro e w2 ⟨rfl, g2⟩
    have H2 : Hid (RPr Rp w (w2.alloc (.cells #[.int .i64 (l : Int), .int .i64 (h : Int), .int .i64 0, .int .i64 0, .int .i64 (f : Int), .int .i64 0, .bool false] 33)) pb w2.heap.size (noneRo l h f)) := by
      have gA := Grow.alloc w2 (.cells #[.int .i64 (l : Int), .int .i64 (h : Int), .int .i64 0, .int .i64 0, .int .i64 (f : Int), .int .i64 0, .bool false] 33)
      exact ⟨HI.out.grow H1.out.1 (g2.trans gA), heap_alloc_new w2 _, Nat.le_trans H1.out.2.size g2.size, H1.out.2.trans (g2.trans gA), Nat.le_trans H1.out.2.size (g2.trans gA).size⟩
    clear c1 g2 H1
    go_wp2_with fail
    generalize w2.alloc (.cells #[.int .i64 (l : Int), .int .i64 (h : Int), .int .i64 0, .int .i64 0, .int .i64 (f : Int), .int .i64 0, .bool false] 33) = wb at H2 ⊢
    generalize w2.heap.size = gb at H2 ⊢
    have h64 : Hid (∀ x ∈ L, In64 x) := by obtain ⟨_, _, _, _, _, q, _⟩ := HV1.out; exact q
    go_loopg [14, 15, 16] N (fun gk s14 s15 s16 wr => ∃ (i : Nat) (r : Ro), gk = N - i ∧ s14 = .int .i64 (i : Int) ∧ Hid (i ≤ N ∧ RPr Rp w wr pb gb r ∧ r.backs ≤ i ∧ r.least = l ∧ r.most = h))
    case atStart => exact ⟨0, noneRo l h f, rfl, rfl, Nat.zero_le _, H2.out, Nat.zero_le _, rfl, rfl⟩
    case round =>
      obtain ⟨i, r, rfl, rfl, HR⟩ := hrel
      clear H2
      rename World => wa
      rcases Nat.lt_or_ge i N with hlt | hge
      · have i0 : (i : Int) < (N : Int) := by omega
        have HZ := Lib.hid hlt
        obtain ⟨x, hx⟩ : ∃ x, L[i]? = some x := ⟨_, List.getElem?_eq_getElem (by have := HN.out.1; omega)⟩
        have HX := Lib.hid (h64.out x (List.mem_iff_getElem?.2 ⟨i, hx⟩))
        obtain ⟨b1, off1, hA1, hcx⟩ : ∃ b1 off1, A1 = some ⟨b1, off1, none⟩ ∧ ∀ q, Grow w q → q.cell? ⟨b1, off1 + i, none⟩ = some (.int .i64 x) := by
          obtain ⟨A9, c9, e9, _, _, _, hcell⟩ := HV1.out
          obtain ⟨b, off, hA, hb, hc⟩ := hcell (by have := HN.out.1; omega)
          injection e9 with e9
          exact ⟨b, off, by rw [e9, hA], fun q g => (g.cell (p := ⟨b, off + i, none⟩) hb).trans (hc i x hx)⟩
        subst hA1
        have HXc := Lib.hid hcx
        obtain ⟨bl, hbl⟩ : ∃ bl : Bool, bl = if i < NB then Bs.getD i false else false := ⟨_, rfl⟩
        clear hcx hx hlt
        go_upto_region 12 with fail
        go_cut [75] from 60 to 134 (fun s75 wx => s75 = .bool bl ∧ wa = wx)
        case first =>
          by_cases qb : i < NB
          · rw [if_pos qb] at hbl
            obtain ⟨b2, off2, hA2, hc2⟩ : ∃ b2 off2, A2 = some ⟨b2, off2, none⟩ ∧ wa.cell? ⟨b2, off2 + i, none⟩ = some (.bool bl) := by
              obtain ⟨A9, c9, e9, _, _, hcell⟩ := HV2.out
              obtain ⟨b, off, hA, hb, hc⟩ := hcell (by have := HN.out.2; omega)
              injection e9 with e9
              refine ⟨b, off, by rw [e9, hA], (HR.out.2.1.g.cell (p := ⟨b, off + i, none⟩) hb).trans (hc i bl ?_)⟩
              rw [hbl, List.getD_eq_getElem?_getD, List.getElem?_eq_getElem (by have := HN.out.2; omega)]
              rfl
            subst hA2
            have qi : (i : Int) < (NB : Int) := by omega
            clear hbl
            go_wp2_with fail
            go_meet
            exact ⟨rfl, rfl⟩
          · rw [if_neg qb] at hbl
            have qi : ¬ (i : Int) < (NB : Int) := by omega
            subst hbl
            go_wp2_with fail
            go_meet
            exact ⟨rfl, rfl⟩
        case rest =>
          obtain ⟨rfl, rfl⟩ := hcut
          clear hbl
          cases bl with
          | true =>
            have c3 := HI.out.back HR.out.2.1.pr HR.out.2.1.s (by have := HR.out.2.2.1; have := HQ.out; have := HZ.out; omega)
            have HO := Lib.hid (HI.out.ok HR.out.2.1.pr)
            go_wp2_with fail
            refine c3.mono ?_
            rintro e w3 ⟨rfl, p3, o3⟩
            have H3 := Lib.hid (HR.out.2.1.prog p3 o3)
            clear c3 p3 o3
            go_wp2_with (show wpList _ _ _ (⟨some 78, .load 33 (.tmp 13), _, _, _, _⟩ :: _) _ _; refine wpList_load_ro _ rfl _ rfl gb _ rfl H3.out.2.1 ?_)
            refine (roBack_any _ r HO.out (by have := HR.out.2.2.1; have := HQ.out; have := HZ.out; omega)).mono ?_
            rintro e w4 ⟨rfl, g4⟩
            have H4 : Hid (Rp w4 w.heap.size pb (roBk r) ∧ RoB w4 gb r ∧ Below w.heap.size w w4 ∧ w.heap.size ≤ w4.heap.size) := ⟨HI.out.grow H3.out.1 g4, H3.out.2.1.grow g4, H3.out.2.2.1.trans (g4.mono H3.out.2.2.2), Nat.le_trans H3.out.2.2.2 g4.size⟩
            clear g4 H3
            go_wp2_with (show wpList _ _ _ (⟨none, .store 33 (.tmp 13) (.tmp 79), _, _, _, _⟩ :: _) _ _; refine wpList_store_ro w w4 rfl _ _ rfl rfl gb (roBk r) r rfl rfl H4.out.2.1 H4.out.2.2.1 HR.out.2.1.z ?_; intro w5 b5 k5 g5; have H5 : Hid (RPr Rp w w5 pb gb (roBk r)) := RPr.set HI.out H4.out.1 HR.out.2.1.z H4.out.2.2.1 H4.out.2.2.2 H4.out.2.1 b5 k5 g5; clear b5 k5 g5; change Hid _)
            unfold Hid
            have HB : Hid ((roBk r).backs ≤ i + 1 ∧ (roBk r).least = l ∧ (roBk r).most = h) := ⟨Nat.succ_le_succ HR.out.2.2.1, HR.out.2.2.2⟩
            have H3 := H5
            clear H4 H5 HR HO
            generalize roBk r = r' at *
            have HS := Lib.hid (And.intro (HI.out.ok H3.out.pr) H3.out)
            obtain ⟨hm, hv⟩ : r'.m ≤ 8388608 ∧ r'.v ≤ 8388608 := ⟨HS.out.1.mb, HS.out.1.vb⟩
            obtain ⟨p1, p2, p3, p4⟩ := roPlW hm hv
            obtain ⟨X, hX⟩ : ∃ X, X = r'.m / 8 := ⟨_, rfl⟩
            obtain ⟨Y, hY⟩ : ∃ Y, Y = r'.v / 4 := ⟨_, rfl⟩
            rw [← hX] at p1 p3
            rw [← hY] at p2 p4
            have c9 := HI.out.smooth H3.out.pr
            rw [← hX, ← hY] at c9
            have n1 : ¬ ((r'.now : Int) < (l : Int)) := by have := HS.out.1.n1; have := HB.out.2.1; omega
            have n2 : ¬ ((h : Int) < (r'.now : Int)) := by have := HS.out.1.n2; have := HB.out.2.2; omega
            clear hm hv hX hY H3
            go_wp2_with fail
            refine c9.mono ?_
            rintro e wc ⟨rfl, g9⟩
            have HT := Lib.hid (HS.out.2.grow HI.out g9)
            clear c9 g9 HS
            have cNow : ∀ p : Gw wc, Calls Try.prog 9 #[.pointer (some ⟨pb, 0, none⟩)] p.v fun e w' => e = .returned (.int .i64 (r'.now : Int)) ∧ ∃ q : Gw wc, w' = q.v := fun p => Calls.gw (HI.out.now (HI.out.grow HT.out.pr p.h))
            have cBk : ∀ p : Gw wc, Calls Try.prog 15 #[.pointer (some ⟨pb, 0, none⟩)] p.v fun e w' => e = .returned (.int .i64 (r'.backs : Int)) ∧ ∃ q : Gw wc, w' = q.v := fun p => Calls.gw (HI.out.backs (HI.out.grow HT.out.pr p.h))
            have k2 : ∀ p : Gw wc, p.v.cell? ⟨gb, 2, none⟩ = some (.int .i64 (r'.m : Int)) := fun p => (HT.out.rb.grow p.h).c2
            have k3 : ∀ p : Gw wc, p.v.cell? ⟨gb, 3, none⟩ = some (.int .i64 (r'.v : Int)) := fun p => (HT.out.rb.grow p.h).c3
            have k4 : ∀ p : Gw wc, p.v.cell? ⟨gb, 4, none⟩ = some (.int .i64 (r'.now : Int)) := fun p => (HT.out.rb.grow p.h).c4
            have k5 : ∀ p : Gw wc, p.v.cell? ⟨gb, 5, none⟩ = some (.int .i64 (r'.backs : Int)) := fun p => (HT.out.rb.grow p.h).c5
            obtain ⟨m', hm'⟩ : ∃ x, x = r'.m := ⟨_, rfl⟩
            obtain ⟨v', hv'⟩ : ∃ x, x = r'.v := ⟨_, rfl⟩
            obtain ⟨n', hn'⟩ : ∃ x, x = r'.now := ⟨_, rfl⟩
            obtain ⟨b', hb'⟩ : ∃ x, x = r'.backs := ⟨_, rfl⟩
            rw [← hm'] at k2 p1
            rw [← hv'] at k3 p2
            rw [← hn'] at k4 n1 n2 cNow
            rw [← hb'] at k5 cBk
            clear hm' hv' hn' hb'
            have m1 : ¬ n' < l := by omega
            have m2 : ¬ h < n' := by omega
            have m3 : decide (n' < l) = false := decide_eq_false m1
            have m4 : decide (h < n') = false := decide_eq_false m2
            have m5 : decide ((n' : Int) < (l : Int)) = false := decide_eq_false (by omega)
            have m6 : decide ((h : Int) < (n' : Int)) = false := decide_eq_false (by omega)
            go_upto_region 18 with fail
            refine wp_region_gw (by kernel_rfl) (by kernel_rfl) ?_
            repeat (go_big_quiet_step ((first | (go_at_call 9; exact cNow _) | (go_at_call 15; exact cBk _))))
            refine wpQuiet_nil ?_
            intro _ hw'
            obtain ⟨⟨wq, hgq⟩, hw2'⟩ := hw'
            subst hw2'
            rename World => wq
            have HF := Lib.hid (HT.out.grow HI.out hgq)
            clear hgq k2 k3 k4 k5 cNow cBk
            go_wp2_with fail
            go_roundg (N - (i + 1))
            case measure => have := HZ.out; omega
            case rel => exact ⟨i + 1, r', rfl, by go_num, by have := HZ.out; omega, HF.out, HB.out⟩
          | false =>
            have hxc := HXc.out wa HR.out.2.1.g
            have c3 := HI.out.sample HR.out.2.1.pr HR.out.2.1.s x HX.out
            have HO := Lib.hid (HI.out.ok HR.out.2.1.pr)
            go_wp2_with fail
            refine c3.mono ?_
            rintro e w3 ⟨rfl, p3, o3⟩
            have H3 := Lib.hid (HR.out.2.1.prog p3 o3)
            clear c3 p3 o3 hxc
            go_upto_region 16 with fail
            have H3d : Hid (Rp w3.drew w.heap.size pb (roSp r (clipT x)) ∧ RoB w3.drew gb r ∧ Below w.heap.size w w3.drew ∧ w.heap.size ≤ w3.drew.heap.size) := ⟨HI.out.grow H3.out.1 (Grow.drew _), H3.out.2.1.grow (Grow.drew _), H3.out.2.2.1.trans ((Grow.drew _).mono H3.out.2.2.2), H3.out.2.2.2⟩
            have hxc := HXc.out w3.drew H3d.out.2.2.1
            obtain ⟨wd, hwd⟩ : ∃ wd, wd = w3.drew := ⟨_, rfl⟩
            refine wp_region_still_tail 5 (by kernel_rfl) (by kernel_rfl) ?_
            simp only [List.take_succ_cons, List.take_zero, List.drop_succ_cons, List.drop_zero]
            change wpStill _ _ w3.drew (fun a' => wpList _ _ _ _ a' w3.drew) _ _
            rw [← hwd] at H3d hxc ⊢
            have HWD := Lib.hid hwd
            clear hwd H3
            have k0 := H3d.out.2.1.c0
            have k1 := H3d.out.2.1.c1
            have k2 := H3d.out.2.1.c2
            have k3 := H3d.out.2.1.c3
            have k4 := H3d.out.2.1.c4
            have k5 := H3d.out.2.1.c5
            have k6 := H3d.out.2.1.c6
            repeat still_step
            refine wpStill_nil ?_
            clear k0 k1 k2 k3 k4 k5 k6 hxc
            go_wp2_with fail
            refine (roSample_any _ r HO.out x).mono ?_
            rintro e w4 ⟨rfl, g4⟩
            have H4 : Hid (Rp w4 w.heap.size pb (roSp r (clipT x)) ∧ RoB w4 gb r ∧ Below w.heap.size w w4 ∧ w.heap.size ≤ w4.heap.size) := ⟨HI.out.grow H3d.out.1 g4, H3d.out.2.1.grow g4, H3d.out.2.2.1.trans (g4.mono H3d.out.2.2.2), Nat.le_trans H3d.out.2.2.2 g4.size⟩
            clear g4 H3d
            go_wp2_with (show wpList _ _ _ (⟨none, .store 33 (.tmp 13) (.tmp 91), _, _, _, _⟩ :: _) _ _; refine wpList_store_ro w w4 rfl _ _ rfl rfl gb (roSp r (clipT x)) r rfl rfl H4.out.2.1 H4.out.2.2.1 HR.out.2.1.z ?_; intro w5 b5 k5 g5; have H5 : Hid (RPr Rp w w5 pb gb (roSp r (clipT x))) := RPr.set HI.out H4.out.1 HR.out.2.1.z H4.out.2.2.1 H4.out.2.2.2 H4.out.2.1 b5 k5 g5; clear b5 k5 g5; change Hid _)
            unfold Hid
            have HB : Hid ((roSp r (clipT x)).backs ≤ i + 1 ∧ (roSp r (clipT x)).least = l ∧ (roSp r (clipT x)).most = h) := ⟨Nat.zero_le _, HR.out.2.2.2⟩
            have H3 := H5
            clear H4 H5 HR HO HWD
            generalize roSp r (clipT x) = r' at *
            have HS := Lib.hid (And.intro (HI.out.ok H3.out.pr) H3.out)
            obtain ⟨hm, hv⟩ : r'.m ≤ 8388608 ∧ r'.v ≤ 8388608 := ⟨HS.out.1.mb, HS.out.1.vb⟩
            obtain ⟨p1, p2, p3, p4⟩ := roPlW hm hv
            obtain ⟨X, hX⟩ : ∃ X, X = r'.m / 8 := ⟨_, rfl⟩
            obtain ⟨Y, hY⟩ : ∃ Y, Y = r'.v / 4 := ⟨_, rfl⟩
            rw [← hX] at p1 p3
            rw [← hY] at p2 p4
            have c9 := HI.out.smooth H3.out.pr
            rw [← hX, ← hY] at c9
            have n1 : ¬ ((r'.now : Int) < (l : Int)) := by have := HS.out.1.n1; have := HB.out.2.1; omega
            have n2 : ¬ ((h : Int) < (r'.now : Int)) := by have := HS.out.1.n2; have := HB.out.2.2; omega
            clear hm hv hX hY H3
            go_wp2_with fail
            refine c9.mono ?_
            rintro e wc ⟨rfl, g9⟩
            have HT := Lib.hid (HS.out.2.grow HI.out g9)
            clear c9 g9 HS
            have cNow : ∀ p : Gw wc, Calls Try.prog 9 #[.pointer (some ⟨pb, 0, none⟩)] p.v fun e w' => e = .returned (.int .i64 (r'.now : Int)) ∧ ∃ q : Gw wc, w' = q.v := fun p => Calls.gw (HI.out.now (HI.out.grow HT.out.pr p.h))
            have cBk : ∀ p : Gw wc, Calls Try.prog 15 #[.pointer (some ⟨pb, 0, none⟩)] p.v fun e w' => e = .returned (.int .i64 (r'.backs : Int)) ∧ ∃ q : Gw wc, w' = q.v := fun p => Calls.gw (HI.out.backs (HI.out.grow HT.out.pr p.h))
            have k2 : ∀ p : Gw wc, p.v.cell? ⟨gb, 2, none⟩ = some (.int .i64 (r'.m : Int)) := fun p => (HT.out.rb.grow p.h).c2
            have k3 : ∀ p : Gw wc, p.v.cell? ⟨gb, 3, none⟩ = some (.int .i64 (r'.v : Int)) := fun p => (HT.out.rb.grow p.h).c3
            have k4 : ∀ p : Gw wc, p.v.cell? ⟨gb, 4, none⟩ = some (.int .i64 (r'.now : Int)) := fun p => (HT.out.rb.grow p.h).c4
            have k5 : ∀ p : Gw wc, p.v.cell? ⟨gb, 5, none⟩ = some (.int .i64 (r'.backs : Int)) := fun p => (HT.out.rb.grow p.h).c5
            obtain ⟨m', hm'⟩ : ∃ x, x = r'.m := ⟨_, rfl⟩
            obtain ⟨v', hv'⟩ : ∃ x, x = r'.v := ⟨_, rfl⟩
            obtain ⟨n', hn'⟩ : ∃ x, x = r'.now := ⟨_, rfl⟩
            obtain ⟨b', hb'⟩ : ∃ x, x = r'.backs := ⟨_, rfl⟩
            rw [← hm'] at k2 p1
            rw [← hv'] at k3 p2
            rw [← hn'] at k4 n1 n2 cNow
            rw [← hb'] at k5 cBk
            clear hm' hv' hn' hb'
            have m1 : ¬ n' < l := by omega
            have m2 : ¬ h < n' := by omega
            have m3 : decide (n' < l) = false := decide_eq_false m1
            have m4 : decide (h < n') = false := decide_eq_false m2
            have m5 : decide ((n' : Int) < (l : Int)) = false := decide_eq_false (by omega)
            have m6 : decide ((h : Int) < (n' : Int)) = false := decide_eq_false (by omega)
            go_upto_region 18 with fail
            refine wp_region_gw (by kernel_rfl) (by kernel_rfl) ?_
            repeat (go_big_quiet_step ((first | (go_at_call 9; exact cNow _) | (go_at_call 15; exact cBk _))))
            refine wpQuiet_nil ?_
            intro _ hw'
            obtain ⟨⟨wq, hgq⟩, hw2'⟩ := hw'
            subst hw2'
            rename World => wq
            have HF := Lib.hid (HT.out.grow HI.out hgq)
            clear hgq k2 k3 k4 k5 cNow cBk
            go_wp2_with fail
            go_roundg (N - (i + 1))
            case measure => have := HZ.out; omega
            case rel => exact ⟨i + 1, r', rfl, by go_num, by have := HZ.out; omega, HF.out, HB.out⟩
      · obtain rfl : i = N := by have := HR.out.1; omega
        have i0 : ¬ (i : Int) < (i : Int) := by omega
        go_wp2_with fail
        refine (HLv.out _).mono ?_
        rintro e w' ⟨rfl, g⟩
        have G := Lib.hid (HR.out.2.1.g.trans (g.mono HR.out.2.1.s))
        clear g
        go_wp2_with fail
        go_ret
        exact ⟨rfl, G.out⟩
  · have c0 := I.newNot w l h f hl hh hf hr
    have cR := fun w => roRight_any w l h f
    simp only [decide_eq_false hr] at cR
    clear hr hl hf hh I
    go_enter Try.func3, Try.ntmps3
    go_wp2_with fail
    refine c0.mono ?_
    rintro e w1 ⟨rfl, g1⟩
    have H1 := Lib.hid g1
    clear c0 g1
    go_wp2_with fail
    refine (cR _).mono ?_
    rintro e w' ⟨rfl, hw⟩
    subst w'
    clear cR
    go_wp2_with fail
    refine (HC.out _ _).mono ?_
    rintro e w' ⟨rfl, hw⟩
    subst w'
    go_wp2_with fail
    refine (HLv.out _).mono ?_
    rintro e w' ⟨rfl, g⟩
    have G := Lib.hid (H1.out.trans g)
    clear g
    go_wp2_with fail
    go_ret
    exact ⟨rfl, G.out⟩
end Go.Proofs.Ytpbnpkbmefjiaaa
