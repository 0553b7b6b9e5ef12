/- HosePlays: the calls played. -/
import Derived.Test.YteohepgpghmioaaHsPlaysW
import Derived.Deep.CutBlock
namespace Go.Proofs.Yteohepgpghmioaa
set_option linter.unusedVariables false
set_option linter.unusedSimpArgs false
open Go.ChangeShapes Go.WideShapes Go.ChangeAt Go.RowKit

set_option maxRecDepth 100000 in
set_option maxHeartbeats 1000000 in
theorem hplays_main (w : World) (m : Nat) (hm : 1 ≤ m ∧ m ≤ 1048576) {v : Value} {l : List Ha} (hl : Has w v l) : Calls Try.prog 3 #[.int .i64 (m : Int), v] w fun e w' => e = .returned (.bool true) ∧ Below w.heap.size w w' := by
  have cM := much_any w v l hl
  have HL0 := Lib.hid hl
  obtain ⟨A, c, rfl, _⟩ := hl
  have HLv := Lib.hid (fun w => hlive_any w)
  have c1 := hNew_any w m hm.1 hm.2
  have i1 : ¬ (1048576 < (m : Int)) := by omega
  have i2 : ¬ ((m : Int) < 1) := by omega
  have HC := Lib.hid (fun x w => code_any x w)
  obtain ⟨N, hN⟩ : ∃ N, N = l.length := ⟨_, rfl⟩
  rw [← hN] at HL0 ⊢
  unfold MuchSays at cM
  rw [← hN] at cM
  have HN := Lib.hid hN
  have HM := Lib.hid hm
  clear hN hm
  go_enter Try.func3, Try.ntmps3
  go_wp2_with fail
  refine cM.mono ?_
  rintro e w' ⟨bb, rfl, hbb, hw⟩
  subst w'
  have HBB := Lib.hid hbb
  clear cM hbb
  cases bb with
  | true =>
    clear c1
    have c0 := HLv.out w
    go_wp2_with fail
    refine c0.mono ?_
    rintro e w' ⟨rfl, hg⟩
    have HG := Lib.hid hg
    clear c0 hg
    go_wp2_with fail
    go_ret
    exact ⟨rfl, HG.out⟩
  | false =>
    have hN2 := HBB.out rfl
    clear HBB
    go_wp2_with fail
    refine c1.mono ?_
    rintro e w1 ⟨rfl, h1, g1⟩
    obtain ⟨ab, hab⟩ : ∃ ab, ab = w.heap.size + 1 := ⟨_, rfl⟩
    obtain ⟨g, hg⟩ : ∃ g, g = w.heap.size := ⟨_, rfl⟩
    have H1 : Hid (PlH w w1 ab g m 0 0 0 [] (.slice none 0 0)) := ⟨by rw [hab, hg]; exact h1, Byt.nil _, ⟨fun e => (by cases e), fun e => (by cases e)⟩, Nat.zero_le _, g1⟩
    rw [← hab]
    have HN2 := Lib.hid hN2
    clear c1 h1 g1 hab hg hN2
    go_wp2_with fail
    refine (HC.out _ _).mono ?_
    rintro e w' ⟨rfl, hw⟩
    subst w'
    go_wp2_with fail
    clear i1 i2
    go_loopg [7, 8, 9, 10] N (fun gk s7 s8 s9 s10 wr => ∃ (i : Nat) (A7 : Option Addr) (n7 c7 n o : Nat), gk = N - i ∧ s7 = .slice A7 n7 c7 ∧ s8 = .int .i64 (n : Int) ∧ s9 = .int .i64 (o : Int) ∧ s10 = .int .i64 (i : Int) ∧ Hid (i ≤ N ∧ ∃ r, n7 = r.length ∧ PlH w wr ab g m i n o r (.slice A7 n7 c7)))
    case atStart => exact ⟨0, none, 0, 0, 0, 0, rfl, rfl, rfl, rfl, rfl, Nat.zero_le _, [], rfl, H1.out⟩
    case round =>
      obtain ⟨i, A7, n7, c7, n, o, rfl, rfl, rfl, rfl, rfl, HR⟩ := hrel
      rename World => wo
      clear H1
      rcases Nat.lt_or_ge i N with hlt | hge
      · obtain ⟨x, hx⟩ : ∃ x, l[i]? = some x := ⟨_, List.getElem?_eq_getElem (by have := HN.out; omega)⟩
        obtain ⟨-, r, hnr, hP⟩ := HR.out
        obtain ⟨A', c', e1, _, _, h3, h4⟩ := HL0.out.grow hP.g
        obtain ⟨b0, off, hgA, hbl, hc⟩ := h4 (by have := HN.out; omega)
        have e2 : A = some ⟨b0, off, none⟩ := by
          rw [hgA] at e1
          injection e1
        obtain ⟨k0, k1, k2, k3⟩ := hc i x hx
        have h3w : ∀ x ∈ l, x.Ok w := by
          obtain ⟨_, _, _, _, _, h, _⟩ := HL0.out
          exact h
        have hxb : Byt w x.v x.b := (h3w x (List.mem_of_getElem? hx)).2.2.2
        have t0 : (i : Int) < (N : Int) := by omega
        obtain ⟨j, hj⟩ : ∃ j, j = i + 1 := ⟨_, rfl⟩
        have hNN := HN2.out
        have n3 : IntKind.i64.wrap ((i : Int) + 1) = (j : Int) := by rw [IntKind.wrap_i64]; omega
        have HJ : Hid (j = i + 1 ∧ i < N ∧ N ≤ 200) := ⟨hj, hlt, hNN⟩
        have N3 := Lib.hid n3
        subst e2
        clear e1 h3 h4 hgA hbl hc hx hj hlt h3w hNN n3 HR
        obtain ⟨d, xa, an, b, vb⟩ := x
        simp only at k0 k1 k2 k3 hxb
        obtain ⟨B, kb, db, rfl, hkb⟩ := hxb.form2
        obtain ⟨-, hkd, hdm⟩ := hxb.len
        unfold maxLen at hdm
        obtain ⟨ga, hga⟩ : ∃ ga, ga = wo.heap.size := ⟨_, rfl⟩
        obtain ⟨wA, hwA⟩ : ∃ wA, wA = wo.alloc (.cells #[.int .i64 d, .int .i64 xa, .int .i64 an, .slice B kb db] 32) := ⟨_, rfl⟩
        have gA : Grow wo wA := by rw [hwA]; exact Grow.alloc _ _
        have hAct : ActAt wA ga d xa an (.slice B kb db) := by rw [hwA, hga]; exact heap_alloc_new wo _
        have kd : wA.cell? ⟨b0, off + i * 4, none⟩ = some (.int .i64 d) := (gA.cell (p := ⟨b0, off + i * 4, none⟩) (block_of_cell k0)).trans k0
        have HP : Hid (PlH w wA ab g m i n o r (.slice A7 n7 c7) ∧ ActAt wA ga d xa an (.slice B kb db)) := ⟨hP.grow gA, hAct⟩
        have HXB := Lib.hid (And.intro hxb (And.intro hkb.out hnr))
        have HWA := Lib.hid (And.intro hwA hga)
        obtain ⟨-, hnc, hcm⟩ := hP.row.len
        unfold maxLen at hcm
        have hrm := hP.len
        have hoM : o ≤ n := by have := hP.hs.len; omega
        have hnM : n ≤ 250000000 := by have := hP.bd; have := HJ.out; omega
        have HNO := Lib.hid (And.intro hoM hnM)
        clear gA hAct hwA hga hP hxb hkb hnr hoM hnM
        go_upto_region 14 with fail
        rw [← HWA.out.1, ← HWA.out.2]
        clear k0 k1 k2 k3
        have y0 := HP.out.2.c0
        go_upto_block 2 with fail
        clear kd t0
        go_cut [7, 8, 9, 12, 13] from 59 to 144 (fun s7 s8 s9 _ _ wx => ∃ (A8 : Option Addr) (n8 c8 n' o' : Nat) (r' : List UInt8), s7 = .slice A8 n8 c8 ∧ s8 = .int .i64 (n' : Int) ∧ s9 = .int .i64 (o' : Int) ∧ Hid (n8 = r'.length ∧ PlH w wx ab g m j n' o' r' (.slice A8 n8 c8)))
        case first =>
          have hi : i ≤ 1000 := by have := HJ.out; omega
          have HI := Lib.hid hi
          have y1 := HP.out.2.c1
          have y2 := HP.out.2.c2
          have y3 := HP.out.2.c3
          clear hi
          by_cases q0 : d = 0
          · subst q0
            clear y1 y2
            obtain ⟨z, hz⟩ : ∃ z, z = m - n7 := ⟨_, rfl⟩
            have ez : IntKind.i64.wrap ((m : Int) - (n7 : Int)) = (z : Int) := by rw [IntKind.wrap_i64]; have := HXB.out.2.2; omega
            have cF := first_any (kb : Int) z wA
            rw [fst_nat] at cF
            have cW := pl_write HP.out.1 HI.out HXB.out.1
            rw [← HXB.out.2.1, ← HXB.out.2.2, ← hz] at cW
            obtain ⟨k, hk⟩ : ∃ k, k = min kb z := ⟨_, rfl⟩
            rw [← hk] at cF cW
            have hkk : k ≤ db ∧ k ≤ 1048576 ∧ k ≤ kb := by omega
            have f1 : (k : Int) ≤ (db : Int) := by omega
            have HK := Lib.hid hkk
            have en : IntKind.i64.wrap ((n : Int) + (k : Int)) = ((n + k : Nat) : Int) := by rw [IntKind.wrap_i64]; have := HNO.out; omega
            have EN := Lib.hid en
            clear hz hk hkk en
            go_wp2_with fail
            refine cF.mono ?_
            rintro e w' ⟨rfl, hw⟩
            subst w'
            clear cF ez
            go_wp2_with fail
            refine cW.mono ?_
            rintro e w2 ⟨rfl, h2, k2⟩
            have hA2 := HP.out.2.chg HP.out.1.hs k2
            have z3 := hA2.c3
            have hga := hA2.lt
            have HV : Hid (∀ q, Grow w2 q → Byt q (.slice A7 n7 c7) r ∧ Byt q (.slice B k db) (b.take k) ∧ q.cell? ⟨ga, 3, none⟩ = some (.slice B kb db)) := fun q gq => ⟨(HP.out.1.chg k2).1.grow gq, (HXB.out.1.front HK.out.2.2).grow (Grow.trans (HP.out.1.chg k2).2 gq), (gq.cell (p := ⟨ga, 3, none⟩) hga).trans z3⟩
            have H2 := Lib.hid (And.intro h2 k2)
            have HL2 : Hid (r.length + (b.take k).length ≤ 100000000) := by
              have := HP.out.1.len
              have := HK.out
              refine Lib.hid ?_
              rw [List.length_take]
              omega
            clear cW h2 k2 hA2 y3 y0
            go_upto_region 19 with fail
            go_region_law (first
              | (refine step_appO _ rfl (.tmp 75) (.tmp 76) rfl w2.heap.size (.slice (some ⟨w2.heap.size, 0, none⟩) 0 0) (.slice A7 n7 c7) [] r rfl rfl (own0 w2.drew) (HV.out _ ((Grow.drew _).trans (Grow.alloc _ _))).1 (by have := HL2.out; simp; omega) (by simp) ?_; intro v5 w5 o5 gb5; rw [List.nil_append] at o5; have g5 : Grow w2 w5 := ((Grow.drew w2).trans (Grow.alloc _ _)).grown gb5 (by simp) (fun k hk => by cases hk; simp); have z5 := (HV.out w5 g5).2.2; have H5 := Lib.hid (And.intro o5 g5); clear o5 gb5 g5)
              | (refine step_appO _ rfl (.tmp 77) (.tmp 81) rfl w2.heap.size v5 (.slice B k db) r (b.take k) rfl rfl H5.out.1 (HV.out _ H5.out.2).2.1 HL2.out H5.out.2.size ?_; intro v6 w6 o6 gb6; obtain ⟨A8, n8, c8, hf8, hn8⟩ := o6.byt.form2; subst hf8; have g6 : Grow w2 w6 := H5.out.2.grown gb6 H5.out.2.size (fun k hk => (H5.out.1.lt hk).2); have H6 := Lib.hid (And.intro o6 g6); clear o6 gb6 g6))
            all_goals
              have en := EN.out
              go_wp2_with fail
              go_meet
              exact ⟨A8, n8, c8, n + k, o, r ++ b.take k, rfl, rfl, rfl, hn8.out, by rw [HJ.out.1]; exact HP.out.1.more H2.out.2 HK.out.2.1 H2.out.1 H6.out.2 H6.out.1⟩
          have p0 : (d == 0) = false := by rw [beq_eq_false_iff_ne]; exact q0
          by_cases q1 : d = 1
          · subst q1
            clear y1 y3
            obtain ⟨k, hk⟩ : ∃ k, k = fst an n7 := ⟨_, rfl⟩
            have cF := first_any an n7 wA
            rw [← hk] at cF
            have hk7 : k ≤ n7 := by rw [hk]; exact fst_le _ _
            have HQ := Lib.hid (And.intro (show fst an r.length = k by rw [hk, HXB.out.2.2]) (And.intro hk7 (And.intro (show (k : Int) ≤ (c7 : Int) by omega) (show k ≤ c7 by omega))))
            have eo : IntKind.i64.wrap ((o : Int) + (k : Int)) = ((o + k : Nat) : Int) := by rw [IntKind.wrap_i64]; have := HNO.out; have := HXB.out.2.2; omega
            have EO := Lib.hid eo
            clear hk hk7 eo
            go_wp2_with fail
            refine cF.mono ?_
            rintro e w' ⟨rfl, hw⟩
            subst w'
            clear cF
            go_upto_region 24 with fail
            clear y0 y2
            refine wp_region_weave2 (A := ?frame24) [7, 8] (fun q => Chg ab g wA q) (inVals2 (isW2 (.pointer (some ⟨ga, 0, none⟩)) :: isW2 (.int .i64 1) :: isW2 (.bool true) :: isW2 (.bool true) :: isW2 (.pointer (some ⟨ab, 0, none⟩)) :: isW2 (.pointer (some ⟨ga, 2, none⟩)) :: isW2 (.int .i64 an) :: isAll2 :: isW2 (strV (r.take k)) :: isW2 (.slice A7 n7 c7) :: isW2 (.int .i64 (k : Int)) :: isW2 (.slice A7 k c7) :: isW2 (strV (r.take k)) :: isW2 (.bool false) :: isW2 (.bool false) :: isW2 (.bool false) :: isW2 (.pointer (some ⟨ga, 0, none⟩)) :: isW2 (.int .i64 1) :: isW2 (.bool false) :: isW2 (.bool false) :: isW2 (undef) :: isW2 (undef) :: isW2 (undef) :: isW2 (undef) :: isW2 (undef) :: isW2 (undef) :: isW2 (.bool false) :: isW2 (.bool false) :: [])) (fun j vs q => match j, vs with | 0, [] => Hs q w.heap.size ab g m n o r | 1, [u] => Own q wA.heap.size u (r.take k) ∧ Hs q w.heap.size ab g m n (o + k) (r.drop k) | 2, [_, _] => Hs q w.heap.size ab g m n (o + k) (r.drop k) | _, _ => False) (by kernel_rfl) (by kernel_rfl) (by kernel_rfl) (by kernel_rfl) (fun x => ?frameEq24) (Chg.of_grow (Grow.drew wA)) (HP.out.1.hs.grow (Grow.drew wA)) ?_ ?_ ?_
            case frameEq24 => go_simp; rfl
            · refine ⟨fun _ x w1 hI hd post hp => ?_, fun _ x w1 hI hd post hp => ?_, fun _ x w1 hI hd post hp => ?_, fun _ x w1 hI hd post hp => ?_, fun _ x w1 hI hd post hp => ?_, fun _ x w1 hI hd post hp => ?_, fun _ x w1 hI hd post hp => ?_, fun hn => absurd hn (by decide), fun hn => absurd hn (by decide), fun _ x w1 hI hd post hp => ?_, fun _ x w1 hI hd post hp => ?_, fun _ x w1 hI hd post hp => ?_, fun _ x w1 hI hd post hp => ?_, fun _ x w1 hI hd post hp => ?_, fun _ x w1 hI hd post hp => ?_, fun _ x w1 hI hd post hp => ?_, fun _ x w1 hI hd post hp => ?_, fun _ x w1 hI hd post hp => ?_, fun _ x w1 hI hd post hp => ?_, fun _ x w1 hI hd post hp => ?_, fun _ x w1 hI hd post hp => ?_, fun _ x w1 hI hd post hp => ?_, fun _ x w1 hI hd post hp => ?_, fun _ x w1 hI hd post hp => ?_, fun _ x w1 hI hd post hp => ?_, fun _ x w1 hI hd post hp => ?_, fun _ x w1 hI hd post hp => ?_, fun _ x w1 hI hd post hp => ?_, trivial⟩
              · -- 0: slot 94: Op.fieldAddr 32 t11 0
                clear hd
                go_simp
                exact hp _ rfl
              · -- 1: slot 95: Op.load 3 t94
                have h94 : x 94 = .pointer (some ⟨ga, 0, none⟩) := hd 0 (by decide) _ rfl
                clear hd
                have y0 := (HP.out.2.chg HP.out.1.hs hI).c0
                go_simp
                exact hp _ rfl
              · -- 2: slot 96: Op.binOp BinOp.eql 3 t95 (const (1:i64)) 3
                have h95 : x 95 = .int .i64 1 := hd 1 (by decide) _ rfl
                clear hd
                go_simp
                exact hp _ rfl
              · -- 3: slot 97: Op.move t96
                have h96 : x 96 = .bool true := hd 2 (by decide) _ rfl
                clear hd
                go_simp
                exact hp _ rfl
              · -- 4: slot 98: Op.move t5
                have h97 : x 97 = .bool true := hd 3 (by decide) _ rfl
                clear hd
                go_simp
                exact hp _ rfl
              · -- 5: slot 99: Op.fieldAddr 32 t11 2
                have h97 : x 97 = .bool true := hd 3 (by decide) _ rfl
                clear hd
                go_simp
                exact hp _ rfl
              · -- 6: slot 100: Op.load 3 t99
                have h99 : x 99 = .pointer (some ⟨ga, 2, none⟩) := hd 5 (by decide) _ rfl
                have h97 : x 97 = .bool true := hd 3 (by decide) _ rfl
                clear hd
                have y2 := (HP.out.2.chg HP.out.1.hs hI).c2
                go_simp
                exact hp _ rfl
              · -- 9: slot 103: Op.move t7
                have h97 : x 97 = .bool true := hd 3 (by decide) _ rfl
                clear hd
                go_simp
                exact hp _ rfl
              · -- 10: slot 104: Op.move t13
                have h97 : x 97 = .bool true := hd 3 (by decide) _ rfl
                clear hd
                go_simp
                exact hp _ rfl
              · -- 11: slot 105: Op.slice 30 t103 none (some t104) none
                have h103 : x 103 = .slice A7 n7 c7 := hd 9 (by decide) _ rfl
                have h104 : x 104 = .int .i64 (k : Int) := hd 10 (by decide) _ rfl
                have h97 : x 97 = .bool true := hd 3 (by decide) _ rfl
                clear hd
                have hq := HQ.out.2.2.1
                go_simp
                exact hp _ rfl
              · -- 12: slot 106: Op.convert 30 9 t105
                have h105 : x 105 = .slice A7 k c7 := hd 11 (by decide) _ rfl
                have h97 : x 97 = .bool true := hd 3 (by decide) _ rfl
                clear hd
                have c := str1 ((hI.byt HP.out.1.row HP.out.1.ap.1 HP.out.1.ap.2).front HQ.out.2.1)
                go_simp
                exact hp _ rfl
              · -- 13: slot 107: Op.binOp BinOp.neq 9 t102 t106 9
                have h102 : x 102 = strV (r.take k) := hd 8 (by decide) _ rfl
                have h106 : x 106 = strV (r.take k) := hd 12 (by decide) _ rfl
                have h97 : x 97 = .bool true := hd 3 (by decide) _ rfl
                clear hd
                unfold strV at *
                go_simp
                exact hp _ (by show Value.bool _ = Value.bool false; simp)
              · -- 14: slot 108: Op.pick t97 t107 (const (Value.bool false))
                have h97 : x 97 = .bool true := hd 3 (by decide) _ rfl
                have h107 : x 107 = .bool false := hd 13 (by decide) _ rfl
                clear hd
                go_simp
                exact hp _ rfl
              · -- 15: slot 109: Op.move t108
                have h108 : x 108 = .bool false := hd 14 (by decide) _ rfl
                clear hd
                go_simp
                exact hp _ rfl
              · -- 16: slot 110: Op.fieldAddr 32 t11 0
                have h109 : x 109 = .bool false := hd 15 (by decide) _ rfl
                clear hd
                go_simp
                exact hp _ rfl
              · -- 17: slot 111: Op.load 3 t110
                have h110 : x 110 = .pointer (some ⟨ga, 0, none⟩) := hd 16 (by decide) _ rfl
                have h109 : x 109 = .bool false := hd 15 (by decide) _ rfl
                clear hd
                have y0 := (HP.out.2.chg HP.out.1.hs hI).c0
                go_simp
                exact hp _ rfl
              · -- 18: slot 112: Op.binOp BinOp.eql 3 t111 (const (2:i64)) 3
                have h111 : x 111 = .int .i64 1 := hd 17 (by decide) _ rfl
                have h109 : x 109 = .bool false := hd 15 (by decide) _ rfl
                clear hd
                go_simp
                exact hp _ rfl
              · -- 19: slot 113: Op.move t112
                have h112 : x 112 = .bool false := hd 18 (by decide) _ rfl
                have h109 : x 109 = .bool false := hd 15 (by decide) _ rfl
                clear hd
                go_simp
                exact hp _ rfl
              · -- 20: slot 114: Op.move t5
                have h113 : x 113 = .bool false := hd 19 (by decide) _ rfl
                clear hd
                go_simp
                exact hp _ rfl
              · -- 21: slot 115: Op.fieldAddr 32 t11 2
                have h113 : x 113 = .bool false := hd 19 (by decide) _ rfl
                clear hd
                go_simp
                exact hp _ rfl
              · -- 22: slot 116: Op.load 3 t115
                have h115 : x 115 = undef := hd 21 (by decide) _ rfl
                have h113 : x 113 = .bool false := hd 19 (by decide) _ rfl
                clear hd
                go_simp
                exact hp _ rfl
              · -- 23: slot 117: Op.call { value (Operand.func 13), args := #[t114, t116], argTypes := #[25, 3] }
                have h114 : x 114 = undef := hd 20 (by decide) _ rfl
                have h116 : x 116 = undef := hd 22 (by decide) _ rfl
                have h113 : x 113 = .bool false := hd 19 (by decide) _ rfl
                clear hd
                go_simp
                exact hp _ rfl
              · -- 24: slot 118: Op.move t13
                have h113 : x 113 = .bool false := hd 19 (by decide) _ rfl
                clear hd
                go_simp
                exact hp _ rfl
              · -- 25: slot 119: Op.binOp BinOp.neq 3 t117 t118 3
                have h117 : x 117 = undef := hd 23 (by decide) _ rfl
                have h118 : x 118 = undef := hd 24 (by decide) _ rfl
                have h113 : x 113 = .bool false := hd 19 (by decide) _ rfl
                clear hd
                go_simp
                exact hp _ rfl
              · -- 26: slot 120: Op.pick t113 t119 (const (Value.bool false))
                have h113 : x 113 = .bool false := hd 19 (by decide) _ rfl
                have h119 : x 119 = undef := hd 25 (by decide) _ rfl
                have h109 : x 109 = .bool false := hd 15 (by decide) _ rfl
                clear hd
                go_simp
                exact hp _ rfl
              · -- 27: slot 121: Op.pick t109 (const (Value.bool true)) t120
                have h109 : x 109 = .bool false := hd 15 (by decide) _ rfl
                have h120 : x 120 = .bool false := hd 26 (by decide) _ rfl
                clear hd
                go_simp
                exact hp _ rfl
            · refine ⟨fun x w1 hI hd hs post hp => ?_, fun x w1 hI hd hs post hp => ?_, trivial⟩
              · -- 7: slot 101: Op.call { value (Operand.func 12), args := #[t98, t100], argTypes := #[25, 3] }
                have h98 : x 98 = .pointer (some ⟨ab, 0, none⟩) := hd 4 (by decide) _ rfl
                have h100 : x 100 = .int .i64 an := hd 6 (by decide) _ rfl
                have h97 : x 97 = .bool true := hd 3 (by decide) _ rfl
                clear hd
                have s0 : Hs w1 w.heap.size ab g m n o r := hs
                have c := hRead_any s0 an
                rw [HQ.out.1] at c
                go_simp
                refine c.mono ?_
                rintro e w2 ⟨u, rfl, q1, q2, q3⟩
                exact ⟨_, rfl, hp _ _ (hI.trans q3) (fun i hi => by obtain rfl := Option.some.inj hi; exact trivial) ⟨q1.base_ hI.size, q2⟩⟩
              · -- 8: slot 102: Op.convert 30 9 t101
                have h97 : x 97 = .bool true := hd 3 (by decide) _ rfl
                clear hd
                obtain ⟨s1, s2⟩ : Own w1 wA.heap.size (x 101) (r.take k) ∧ Hs w1 w.heap.size ab g m n (o + k) (r.drop k) := hs
                have c := str1 s1.byt
                go_simp
                exact hp _ _ hI (fun i hi => by obtain rfl := Option.some.inj hi; rfl) s2
            · intro x w1 hI hd hs
              have h121 : x 121 = .bool false := hd 27 _ rfl
              have h24 : Hs w1 w.heap.size ab g m n (o + k) (r.drop k) := hs
              have H24 := Lib.hid (And.intro h24 hI)
              clear hd hs hI h24
              rw [h121]
              clear h121
              have eo := EO.out
              have f2 : (k : Int) ≤ (n7 : Int) := by have := HQ.out.2.1; omega
              have f3 : k ≤ n7 := HQ.out.2.1
              have f4 : k ≤ c7 := HQ.out.2.2.2
              by_cases hck : c7 = k
              · have hv := HP.out.1.row.back0 f3 hck
                rw [hck, Nat.sub_self] at hv
                have HE : Hid (PlH w w1 ab g m (i + 1) n (o + k) (r.drop k) (.slice A7 (n7 - k) 0)) := HP.out.1.cut H24.out.2 H24.out.1 (H24.out.2.byt hv (by rw [own_same A7 _ _ n7 c7]; exact HP.out.1.ap.1) (by rw [own_same A7 _ _ n7 c7]; exact HP.out.1.ap.2)) (own_same A7 _ _ n7 c7)
                clear hv
                go_wp2_with fail
                go_meet
                exact ⟨A7, n7 - k, 0, n, o + k, r.drop k, rfl, rfl, rfl, by rw [List.length_drop, ← HXB.out.2.2], by rw [HJ.out.1]; exact HE.out⟩
              · have hv := HP.out.1.row.back f3 hck
                have HE : Hid (PlH w w1 ab g m (i + 1) n (o + k) (r.drop k) (.slice (A7.map (·.add k)) (n7 - k) (c7 - k))) := HP.out.1.cut H24.out.2 H24.out.1 (H24.out.2.byt hv (by rw [own_add A7 k _ _ n7 c7]; exact HP.out.1.ap.1) (by rw [own_add A7 k _ _ n7 c7]; exact HP.out.1.ap.2)) (own_add A7 k _ _ n7 c7)
                clear hv
                go_wp2_with fail
                go_meet
                exact ⟨_, n7 - k, c7 - k, n, o + k, r.drop k, rfl, rfl, rfl, by rw [List.length_drop, ← HXB.out.2.2], by rw [HJ.out.1]; exact HE.out⟩
          have p1 : (d == 1) = false := by rw [beq_eq_false_iff_ne]; exact q1
          by_cases q2 : d = 2
          · subst q2
            clear y1 y3
            obtain ⟨k, hk⟩ : ∃ k, k = fst an n7 := ⟨_, rfl⟩
            have cF := first_any an n7 wA
            rw [← hk] at cF
            have hk7 : k ≤ n7 := by rw [hk]; exact fst_le _ _
            have HQ := Lib.hid (And.intro (show fst an r.length = k by rw [hk, HXB.out.2.2]) (And.intro hk7 (And.intro (show (k : Int) ≤ (c7 : Int) by omega) (show k ≤ c7 by omega))))
            have eo : IntKind.i64.wrap ((o : Int) + (k : Int)) = ((o + k : Nat) : Int) := by rw [IntKind.wrap_i64]; have := HNO.out; have := HXB.out.2.2; omega
            have EO := Lib.hid eo
            clear hk hk7 eo
            go_wp2_with fail
            refine cF.mono ?_
            rintro e w' ⟨rfl, hw⟩
            subst w'
            clear cF
            go_upto_region 24 with fail
            clear y0 y2
            refine wp_region_weave2 (A := ?frame24b) [23] (fun q => Chg ab g wA q) (inVals2 (isW2 (.pointer (some ⟨ga, 0, none⟩)) :: isW2 (.int .i64 2) :: isW2 (.bool false) :: isW2 (.bool false) :: isW2 (undef) :: isW2 (undef) :: isW2 (undef) :: isW2 (undef) :: isW2 (undef) :: isW2 (undef) :: isW2 (undef) :: isW2 (undef) :: isW2 (undef) :: isW2 (undef) :: isW2 (.bool false) :: isW2 (.bool false) :: isW2 (.pointer (some ⟨ga, 0, none⟩)) :: isW2 (.int .i64 2) :: isW2 (.bool true) :: isW2 (.bool true) :: isW2 (.pointer (some ⟨ab, 0, none⟩)) :: isW2 (.pointer (some ⟨ga, 2, none⟩)) :: isW2 (.int .i64 an) :: isW2 (.int .i64 (k : Int)) :: isW2 (.int .i64 (k : Int)) :: isW2 (.bool false) :: isW2 (.bool false) :: isW2 (.bool false) :: [])) (fun j vs q => match j, vs with | 0, [] => Hs q w.heap.size ab g m n o r | 1, [_] => Hs q w.heap.size ab g m n (o + k) (r.drop k) | _, _ => False) (by kernel_rfl) (by kernel_rfl) (by kernel_rfl) (by kernel_rfl) (fun x => ?frameEq24b) (Chg.of_grow (Grow.drew wA)) (HP.out.1.hs.grow (Grow.drew wA)) ?_ ?_ ?_
            case frameEq24b => go_simp; rfl
            · refine ⟨fun _ x w1 hI hd post hp => ?_, fun _ x w1 hI hd post hp => ?_, fun _ x w1 hI hd post hp => ?_, fun _ x w1 hI hd post hp => ?_, fun _ x w1 hI hd post hp => ?_, fun _ x w1 hI hd post hp => ?_, fun _ x w1 hI hd post hp => ?_, fun _ x w1 hI hd post hp => ?_, fun _ x w1 hI hd post hp => ?_, fun _ x w1 hI hd post hp => ?_, fun _ x w1 hI hd post hp => ?_, fun _ x w1 hI hd post hp => ?_, fun _ x w1 hI hd post hp => ?_, fun _ x w1 hI hd post hp => ?_, fun _ x w1 hI hd post hp => ?_, fun _ x w1 hI hd post hp => ?_, fun _ x w1 hI hd post hp => ?_, fun _ x w1 hI hd post hp => ?_, fun _ x w1 hI hd post hp => ?_, fun _ x w1 hI hd post hp => ?_, fun _ x w1 hI hd post hp => ?_, fun _ x w1 hI hd post hp => ?_, fun _ x w1 hI hd post hp => ?_, fun hn => absurd hn (by decide), fun _ x w1 hI hd post hp => ?_, fun _ x w1 hI hd post hp => ?_, fun _ x w1 hI hd post hp => ?_, fun _ x w1 hI hd post hp => ?_, trivial⟩
              · -- 0: slot 94: Op.fieldAddr 32 t11 0
                clear hd
                go_simp
                exact hp _ rfl
              · -- 1: slot 95: Op.load 3 t94
                have h94 : x 94 = .pointer (some ⟨ga, 0, none⟩) := hd 0 (by decide) _ rfl
                clear hd
                have y0 := (HP.out.2.chg HP.out.1.hs hI).c0
                go_simp
                exact hp _ rfl
              · -- 2: slot 96: Op.binOp BinOp.eql 3 t95 (const (1:i64)) 3
                have h95 : x 95 = .int .i64 2 := hd 1 (by decide) _ rfl
                clear hd
                go_simp
                exact hp _ rfl
              · -- 3: slot 97: Op.move t96
                have h96 : x 96 = .bool false := hd 2 (by decide) _ rfl
                clear hd
                go_simp
                exact hp _ rfl
              · -- 4: slot 98: Op.move t5
                have h97 : x 97 = .bool false := hd 3 (by decide) _ rfl
                clear hd
                go_simp
                exact hp _ rfl
              · -- 5: slot 99: Op.fieldAddr 32 t11 2
                have h97 : x 97 = .bool false := hd 3 (by decide) _ rfl
                clear hd
                go_simp
                exact hp _ rfl
              · -- 6: slot 100: Op.load 3 t99
                have h99 : x 99 = undef := hd 5 (by decide) _ rfl
                have h97 : x 97 = .bool false := hd 3 (by decide) _ rfl
                clear hd
                go_simp
                exact hp _ rfl
              · -- 7: slot 101: Op.call { value (Operand.func 12), args := #[t98, t100], argTypes := #[25, 3] }
                have h98 : x 98 = undef := hd 4 (by decide) _ rfl
                have h100 : x 100 = undef := hd 6 (by decide) _ rfl
                have h97 : x 97 = .bool false := hd 3 (by decide) _ rfl
                clear hd
                go_simp
                exact hp _ rfl
              · -- 8: slot 102: Op.convert 30 9 t101
                have h101 : x 101 = undef := hd 7 (by decide) _ rfl
                have h97 : x 97 = .bool false := hd 3 (by decide) _ rfl
                clear hd
                go_simp
                exact hp _ rfl
              · -- 9: slot 103: Op.move t7
                have h97 : x 97 = .bool false := hd 3 (by decide) _ rfl
                clear hd
                go_simp
                exact hp _ rfl
              · -- 10: slot 104: Op.move t13
                have h97 : x 97 = .bool false := hd 3 (by decide) _ rfl
                clear hd
                go_simp
                exact hp _ rfl
              · -- 11: slot 105: Op.slice 30 t103 none (some t104) none
                have h103 : x 103 = undef := hd 9 (by decide) _ rfl
                have h104 : x 104 = undef := hd 10 (by decide) _ rfl
                have h97 : x 97 = .bool false := hd 3 (by decide) _ rfl
                clear hd
                go_simp
                exact hp _ rfl
              · -- 12: slot 106: Op.convert 30 9 t105
                have h105 : x 105 = undef := hd 11 (by decide) _ rfl
                have h97 : x 97 = .bool false := hd 3 (by decide) _ rfl
                clear hd
                go_simp
                exact hp _ rfl
              · -- 13: slot 107: Op.binOp BinOp.neq 9 t102 t106 9
                have h102 : x 102 = undef := hd 8 (by decide) _ rfl
                have h106 : x 106 = undef := hd 12 (by decide) _ rfl
                have h97 : x 97 = .bool false := hd 3 (by decide) _ rfl
                clear hd
                go_simp
                exact hp _ rfl
              · -- 14: slot 108: Op.pick t97 t107 (const (Value.bool false))
                have h97 : x 97 = .bool false := hd 3 (by decide) _ rfl
                have h107 : x 107 = undef := hd 13 (by decide) _ rfl
                clear hd
                go_simp
                exact hp _ rfl
              · -- 15: slot 109: Op.move t108
                have h108 : x 108 = .bool false := hd 14 (by decide) _ rfl
                clear hd
                go_simp
                exact hp _ rfl
              · -- 16: slot 110: Op.fieldAddr 32 t11 0
                have h109 : x 109 = .bool false := hd 15 (by decide) _ rfl
                clear hd
                go_simp
                exact hp _ rfl
              · -- 17: slot 111: Op.load 3 t110
                have h110 : x 110 = .pointer (some ⟨ga, 0, none⟩) := hd 16 (by decide) _ rfl
                have h109 : x 109 = .bool false := hd 15 (by decide) _ rfl
                clear hd
                have y0 := (HP.out.2.chg HP.out.1.hs hI).c0
                go_simp
                exact hp _ rfl
              · -- 18: slot 112: Op.binOp BinOp.eql 3 t111 (const (2:i64)) 3
                have h111 : x 111 = .int .i64 2 := hd 17 (by decide) _ rfl
                have h109 : x 109 = .bool false := hd 15 (by decide) _ rfl
                clear hd
                go_simp
                exact hp _ rfl
              · -- 19: slot 113: Op.move t112
                have h112 : x 112 = .bool true := hd 18 (by decide) _ rfl
                have h109 : x 109 = .bool false := hd 15 (by decide) _ rfl
                clear hd
                go_simp
                exact hp _ rfl
              · -- 20: slot 114: Op.move t5
                have h113 : x 113 = .bool true := hd 19 (by decide) _ rfl
                clear hd
                go_simp
                exact hp _ rfl
              · -- 21: slot 115: Op.fieldAddr 32 t11 2
                have h113 : x 113 = .bool true := hd 19 (by decide) _ rfl
                clear hd
                go_simp
                exact hp _ rfl
              · -- 22: slot 116: Op.load 3 t115
                have h115 : x 115 = .pointer (some ⟨ga, 2, none⟩) := hd 21 (by decide) _ rfl
                have h113 : x 113 = .bool true := hd 19 (by decide) _ rfl
                clear hd
                have y2 := (HP.out.2.chg HP.out.1.hs hI).c2
                go_simp
                exact hp _ rfl
              · -- 24: slot 118: Op.move t13
                have h113 : x 113 = .bool true := hd 19 (by decide) _ rfl
                clear hd
                go_simp
                exact hp _ rfl
              · -- 25: slot 119: Op.binOp BinOp.neq 3 t117 t118 3
                have h117 : x 117 = .int .i64 (k : Int) := hd 23 (by decide) _ rfl
                have h118 : x 118 = .int .i64 (k : Int) := hd 24 (by decide) _ rfl
                have h113 : x 113 = .bool true := hd 19 (by decide) _ rfl
                clear hd
                go_simp
                exact hp _ rfl
              · -- 26: slot 120: Op.pick t113 t119 (const (Value.bool false))
                have h113 : x 113 = .bool true := hd 19 (by decide) _ rfl
                have h119 : x 119 = .bool false := hd 25 (by decide) _ rfl
                have h109 : x 109 = .bool false := hd 15 (by decide) _ rfl
                clear hd
                go_simp
                exact hp _ rfl
              · -- 27: slot 121: Op.pick t109 (const (Value.bool true)) t120
                have h109 : x 109 = .bool false := hd 15 (by decide) _ rfl
                have h120 : x 120 = .bool false := hd 26 (by decide) _ rfl
                clear hd
                go_simp
                exact hp _ rfl
            · refine ⟨fun x w1 hI hd hs post hp => ?_, trivial⟩
              · -- 23: slot 117: Op.call { value (Operand.func 13), args := #[t114, t116], argTypes := #[25, 3] }
                have h114 : x 114 = .pointer (some ⟨ab, 0, none⟩) := hd 20 (by decide) _ rfl
                have h116 : x 116 = .int .i64 an := hd 22 (by decide) _ rfl
                have h113 : x 113 = .bool true := hd 19 (by decide) _ rfl
                clear hd
                have s0 : Hs w1 w.heap.size ab g m n o r := hs
                have c := hDrop_any s0 an
                rw [HQ.out.1] at c
                go_simp
                refine c.mono ?_
                rintro e w2 ⟨rfl, q2, q3⟩
                exact ⟨_, rfl, hp _ _ (hI.trans q3) (fun i hi => by obtain rfl := Option.some.inj hi; rfl) q2⟩
            · intro x w1 hI hd hs
              have h121 : x 121 = .bool false := hd 27 _ rfl
              have h24 : Hs w1 w.heap.size ab g m n (o + k) (r.drop k) := hs
              have H24 := Lib.hid (And.intro h24 hI)
              clear hd hs hI h24
              rw [h121]
              clear h121
              have eo := EO.out
              have f2 : (k : Int) ≤ (n7 : Int) := by have := HQ.out.2.1; omega
              have f3 : k ≤ n7 := HQ.out.2.1
              have f4 : k ≤ c7 := HQ.out.2.2.2
              by_cases hck : c7 = k
              · have hv := HP.out.1.row.back0 f3 hck
                rw [hck, Nat.sub_self] at hv
                have HE : Hid (PlH w w1 ab g m (i + 1) n (o + k) (r.drop k) (.slice A7 (n7 - k) 0)) := HP.out.1.cut H24.out.2 H24.out.1 (H24.out.2.byt hv (by rw [own_same A7 _ _ n7 c7]; exact HP.out.1.ap.1) (by rw [own_same A7 _ _ n7 c7]; exact HP.out.1.ap.2)) (own_same A7 _ _ n7 c7)
                clear hv
                go_wp2_with fail
                go_meet
                exact ⟨A7, n7 - k, 0, n, o + k, r.drop k, rfl, rfl, rfl, by rw [List.length_drop, ← HXB.out.2.2], by rw [HJ.out.1]; exact HE.out⟩
              · have hv := HP.out.1.row.back f3 hck
                have HE : Hid (PlH w w1 ab g m (i + 1) n (o + k) (r.drop k) (.slice (A7.map (·.add k)) (n7 - k) (c7 - k))) := HP.out.1.cut H24.out.2 H24.out.1 (H24.out.2.byt hv (by rw [own_add A7 k _ _ n7 c7]; exact HP.out.1.ap.1) (by rw [own_add A7 k _ _ n7 c7]; exact HP.out.1.ap.2)) (own_add A7 k _ _ n7 c7)
                clear hv
                go_wp2_with fail
                go_meet
                exact ⟨_, n7 - k, c7 - k, n, o + k, r.drop k, rfl, rfl, rfl, by rw [List.length_drop, ← HXB.out.2.2], by rw [HJ.out.1]; exact HE.out⟩
          have p2 : (d == 2) = false := by rw [beq_eq_false_iff_ne]; exact q2
          by_cases q3 : d = 3
          · subst q3
            have HQ3 := Lib.hid (show r.length ≤ 2000000 by have := HP.out.1.len; omega)
            go_upto_region 29 with fail
            clear y0 y1 y2 y3
            refine wp_region_loose (A := ?frame29) (inList (isV (.pointer (some ⟨ab, 0, none⟩)) :: isV (.pointer (some ⟨ga, 1, none⟩)) :: isV (.int .i64 xa) :: isV (.pointer (some ⟨ga, 2, none⟩)) :: isV (.int .i64 an) :: isB (pk r xa an) :: isV (strV (pk r xa an)) :: isV (.slice A7 n7 c7) :: isV (.pointer (some ⟨ga, 1, none⟩)) :: isV (.int .i64 xa) :: isV (.pointer (some ⟨ga, 2, none⟩)) :: isV (.int .i64 an) :: isB (pk r xa an) :: isV (strV (pk r xa an)) :: isV (.bool false) :: [])) (by kernel_rfl) (by kernel_rfl) (inList_stays ?_) (fun x => ?frameEq29) ?_ ?_
            case frameEq29 => go_simp; rfl
            · intro f hf
              simp only [List.mem_cons, List.not_mem_nil, or_false] at hf
              rcases hf with rfl | rfl | rfl | rfl | rfl | rfl | rfl | rfl | rfl | rfl | rfl | rfl | rfl | rfl | rfl <;> first | exact isV_stays _ | exact isB_stays _ | exact isBs_stays _
            · refine ⟨fun x w1 hg hd post hp => ?_, fun x w1 hg hd post hp => ?_, fun x w1 hg hd post hp => ?_, fun x w1 hg hd post hp => ?_, fun x w1 hg hd post hp => ?_, fun x w1 hg hd post hp => ?_, fun x w1 hg hd post hp => ?_, fun x w1 hg hd post hp => ?_, fun x w1 hg hd post hp => ?_, fun x w1 hg hd post hp => ?_, fun x w1 hg hd post hp => ?_, fun x w1 hg hd post hp => ?_, fun x w1 hg hd post hp => ?_, fun x w1 hg hd post hp => ?_, fun x w1 hg hd post hp => ?_, trivial⟩
              · -- 0: slot 130: Op.move t5
                clear hd
                go_simp
                exact hp _ _ (Grow.refl _) rfl
              · -- 1: slot 131: Op.fieldAddr 32 t11 1
                clear hd
                go_simp
                exact hp _ _ (Grow.refl _) rfl
              · -- 2: slot 132: Op.load 3 t131
                have h131 : x 131 = .pointer (some ⟨ga, 1, none⟩) := hd 1 (by decide) _ rfl
                clear hd
                have y1 := (HP.out.2.chg HP.out.1.hs (Chg.of_grow hg)).c1
                go_simp
                exact hp _ _ (Grow.refl _) rfl
              · -- 3: slot 133: Op.fieldAddr 32 t11 2
                clear hd
                go_simp
                exact hp _ _ (Grow.refl _) rfl
              · -- 4: slot 134: Op.load 3 t133
                have h133 : x 133 = .pointer (some ⟨ga, 2, none⟩) := hd 3 (by decide) _ rfl
                clear hd
                have y2 := (HP.out.2.chg HP.out.1.hs (Chg.of_grow hg)).c2
                go_simp
                exact hp _ _ (Grow.refl _) rfl
              · -- 5: slot 135: Op.call { value (Operand.func 14), args := #[t130, t132, t134], argTypes := #[25
                have h130 : x 130 = .pointer (some ⟨ab, 0, none⟩) := hd 0 (by decide) _ rfl
                have h132 : x 132 = .int .i64 xa := hd 2 (by decide) _ rfl
                have h134 : x 134 = .int .i64 an := hd 4 (by decide) _ rfl
                clear hd
                go_simp
                refine (hPeek_any (HP.out.1.hs.grow hg) xa an).mono ?_
                rintro e w2 ⟨u, rfl, q1, q2⟩
                exact ⟨_, rfl, hp _ _ q2 q1.byt⟩
              · -- 6: slot 136: Op.convert 30 9 t135
                have h135 : Byt w1 (x 135) (pk r xa an) := hd 5 (by decide) _ rfl
                clear hd
                have c := str1 h135
                go_simp
                exact hp _ _ (Grow.refl _) rfl
              · -- 7: slot 137: Op.move t7
                clear hd
                go_simp
                exact hp _ _ (Grow.refl _) rfl
              · -- 8: slot 138: Op.fieldAddr 32 t11 1
                clear hd
                go_simp
                exact hp _ _ (Grow.refl _) rfl
              · -- 9: slot 139: Op.load 3 t138
                have h138 : x 138 = .pointer (some ⟨ga, 1, none⟩) := hd 8 (by decide) _ rfl
                clear hd
                have y1 := (HP.out.2.chg HP.out.1.hs (Chg.of_grow hg)).c1
                go_simp
                exact hp _ _ (Grow.refl _) rfl
              · -- 10: slot 140: Op.fieldAddr 32 t11 2
                clear hd
                go_simp
                exact hp _ _ (Grow.refl _) rfl
              · -- 11: slot 141: Op.load 3 t140
                have h140 : x 140 = .pointer (some ⟨ga, 2, none⟩) := hd 10 (by decide) _ rfl
                clear hd
                have y2 := (HP.out.2.chg HP.out.1.hs (Chg.of_grow hg)).c2
                go_simp
                exact hp _ _ (Grow.refl _) rfl
              · -- 12: slot 142: Op.call { value (Operand.func 15), args := #[t137, t139, t141], argTypes := #[30
                have h137 : x 137 = .slice A7 n7 c7 := hd 7 (by decide) _ rfl
                have h139 : x 139 = .int .i64 xa := hd 9 (by decide) _ rfl
                have h141 : x 141 = .int .i64 an := hd 11 (by decide) _ rfl
                clear hd
                go_simp
                refine (rPeek_any w1 _ r (HP.out.1.row.grow hg) xa an HQ3.out).mono ?_
                rintro e w2 ⟨u, rfl, q1, rfl⟩
                exact ⟨_, rfl, hp _ _ (Grow.refl _) q1⟩
              · -- 13: slot 143: Op.convert 30 9 t142
                have h142 : Byt w1 (x 142) (pk r xa an) := hd 12 (by decide) _ rfl
                clear hd
                have c := str1 h142
                go_simp
                exact hp _ _ (Grow.refl _) rfl
              · -- 14: slot 144: Op.binOp BinOp.neq 9 t136 t143 9
                have h136 : x 136 = strV (pk r xa an) := hd 6 (by decide) _ rfl
                have h143 : x 143 = strV (pk r xa an) := hd 13 (by decide) _ rfl
                clear hd
                unfold strV at *
                go_simp
                exact hp _ _ (Grow.refl _) (by show Value.bool _ = Value.bool false; simp)
            · intro x w1 hg hd
              have h144 : x 144 = .bool false := hd 14 _ rfl
              have G29 := Lib.hid hg
              clear hd hg
              rw [h144]
              clear h144
              go_wp2_with fail
              go_meet
              exact ⟨A7, n7, c7, n, o, r, rfl, rfl, rfl, HXB.out.2.2, by rw [HJ.out.1]; exact (HP.out.1.grow G29.out).next⟩
          · have p3 : (d == 3) = false := by rw [beq_eq_false_iff_ne]; exact q3
            clear y1 y2 y3
            go_wp2_with fail
            go_meet
            exact ⟨A7, n7, c7, n, o, r, rfl, rfl, rfl, HXB.out.2.2, by rw [HJ.out.1]; exact HP.out.1.next⟩
        case rest =>
          obtain ⟨A8, n8, c8, n', o', r', rfl, rfl, rfl, HX⟩ := hcut
          have cP := hPassed_any HX.out.2.hs
          obtain ⟨z, hz⟩ : ∃ z, z = m - r'.length := ⟨_, rfl⟩
          have ez : IntKind.i64.wrap ((m : Int) - (n8 : Int)) = (z : Int) := by rw [IntKind.wrap_i64]; have := HX.out.1; have := HX.out.2.len; omega
          have HZ := Lib.hid hz
          have EZ := Lib.hid ez
          clear hz ez y0
          go_wp2_with fail
          refine cP.mono ?_
          rintro e w4 ⟨rfl, g4⟩
          have G4 := Lib.hid g4
          clear cP g4
          go_upto_region 32 with fail
          refine wp_region_loose (A := ?frame32) (inList (isV (.pointer (some ⟨ab, 0, none⟩)) :: isV (.int .i64 (n8 : Int)) :: isV (.slice A8 n8 c8) :: isV (.int .i64 (n8 : Int)) :: isV (.bool false) :: isV (.bool false) :: isV (.pointer (some ⟨ab, 0, none⟩)) :: isV (.int .i64 (z : Int)) :: isV (.int .i64 (m : Int)) :: isV (.slice A8 n8 c8) :: isV (.int .i64 (n8 : Int)) :: isV (.int .i64 (z : Int)) :: isV (.bool false) :: isV (.bool false) :: isV (.bool false) :: isV (.int .i64 (n' : Int)) :: isV (.int .i64 (n' : Int)) :: isV (.bool false) :: isV (.bool false) :: isV (.bool false) :: isV (.int .i64 (o' : Int)) :: isV (.int .i64 (o' : Int)) :: isV (.bool false) :: isV (.bool false) :: isV (.bool false) :: isV (.pointer (some ⟨ab, 0, none⟩)) :: isV (.slice A8 n8 c8) :: isV (.int .i64 (n8 : Int)) :: isB (r') :: isV (strV r') :: isV (.slice A8 n8 c8) :: isV (strV r') :: isV (.bool false) :: isV (.bool false) :: [])) (by kernel_rfl) (by kernel_rfl) (inList_stays ?_) (fun x => ?frameEq32) ?_ ?_
          case frameEq32 => go_simp; rfl
          · intro f hf
            simp only [List.mem_cons, List.not_mem_nil, or_false] at hf
            rcases hf with rfl | rfl | rfl | rfl | rfl | rfl | rfl | rfl | rfl | rfl | rfl | rfl | rfl | rfl | rfl | rfl | rfl | rfl | rfl | rfl | rfl | rfl | rfl | rfl | rfl | rfl | rfl | rfl | rfl | rfl | rfl | rfl | rfl | rfl <;> first | exact isV_stays _ | exact isB_stays _ | exact isBs_stays _
          · refine ⟨fun x w1 hg hd post hp => ?_, fun x w1 hg hd post hp => ?_, fun x w1 hg hd post hp => ?_, fun x w1 hg hd post hp => ?_, fun x w1 hg hd post hp => ?_, fun x w1 hg hd post hp => ?_, fun x w1 hg hd post hp => ?_, fun x w1 hg hd post hp => ?_, fun x w1 hg hd post hp => ?_, fun x w1 hg hd post hp => ?_, fun x w1 hg hd post hp => ?_, fun x w1 hg hd post hp => ?_, fun x w1 hg hd post hp => ?_, fun x w1 hg hd post hp => ?_, fun x w1 hg hd post hp => ?_, fun x w1 hg hd post hp => ?_, fun x w1 hg hd post hp => ?_, fun x w1 hg hd post hp => ?_, fun x w1 hg hd post hp => ?_, fun x w1 hg hd post hp => ?_, fun x w1 hg hd post hp => ?_, fun x w1 hg hd post hp => ?_, fun x w1 hg hd post hp => ?_, fun x w1 hg hd post hp => ?_, fun x w1 hg hd post hp => ?_, fun x w1 hg hd post hp => ?_, fun x w1 hg hd post hp => ?_, fun x w1 hg hd post hp => ?_, fun x w1 hg hd post hp => ?_, fun x w1 hg hd post hp => ?_, fun x w1 hg hd post hp => ?_, fun x w1 hg hd post hp => ?_, fun x w1 hg hd post hp => ?_, fun x w1 hg hd post hp => ?_, trivial⟩
            · -- 0: slot 150: Op.move t5
              clear hd
              go_simp
              exact hp _ _ (Grow.refl _) rfl
            · -- 1: slot 151: Op.call { value (Operand.func 17), args := #[t150], argTypes := #[25] }
              have h150 : x 150 = .pointer (some ⟨ab, 0, none⟩) := hd 0 (by decide) _ rfl
              clear hd
              have c := hLen_any ((HX.out.2.hs).grow (G4.out.trans hg))
              rw [← HX.out.1] at c
              go_simp
              refine c.mono ?_
              rintro e w2 ⟨rfl, q⟩
              exact ⟨_, rfl, hp _ _ q rfl⟩
            · -- 2: slot 152: Op.move t7
              clear hd
              go_simp
              exact hp _ _ (Grow.refl _) rfl
            · -- 3: slot 153: Op.call { builtin len, args := #[t152], argTypes := #[30] }
              have h152 : x 152 = .slice A8 n8 c8 := hd 2 (by decide) _ rfl
              clear hd
              go_simp
              exact hp _ _ (Grow.refl _) rfl
            · -- 4: slot 154: Op.binOp BinOp.neq 3 t151 t153 3
              have h151 : x 151 = .int .i64 (n8 : Int) := hd 1 (by decide) _ rfl
              have h153 : x 153 = .int .i64 (n8 : Int) := hd 3 (by decide) _ rfl
              clear hd
              go_simp
              exact hp _ _ (Grow.refl _) rfl
            · -- 5: slot 155: Op.move t154
              have h154 : x 154 = .bool false := hd 4 (by decide) _ rfl
              clear hd
              go_simp
              exact hp _ _ (Grow.refl _) rfl
            · -- 6: slot 156: Op.move t5
              have h155 : x 155 = .bool false := hd 5 (by decide) _ rfl
              clear hd
              go_simp
              exact hp _ _ (Grow.refl _) rfl
            · -- 7: slot 157: Op.call { value (Operand.func 18), args := #[t156], argTypes := #[25] }
              have h156 : x 156 = .pointer (some ⟨ab, 0, none⟩) := hd 6 (by decide) _ rfl
              have h155 : x 155 = .bool false := hd 5 (by decide) _ rfl
              clear hd
              have c := hRoom_any ((HX.out.2.hs).grow (G4.out.trans hg))
              rw [← HZ.out] at c
              go_simp
              refine c.mono ?_
              rintro e w2 ⟨rfl, q⟩
              exact ⟨_, rfl, hp _ _ q rfl⟩
            · -- 8: slot 158: Op.move t0
              have h155 : x 155 = .bool false := hd 5 (by decide) _ rfl
              clear hd
              go_simp
              exact hp _ _ (Grow.refl _) rfl
            · -- 9: slot 159: Op.move t7
              have h155 : x 155 = .bool false := hd 5 (by decide) _ rfl
              clear hd
              go_simp
              exact hp _ _ (Grow.refl _) rfl
            · -- 10: slot 160: Op.call { builtin len, args := #[t159], argTypes := #[30] }
              have h159 : x 159 = .slice A8 n8 c8 := hd 9 (by decide) _ rfl
              have h155 : x 155 = .bool false := hd 5 (by decide) _ rfl
              clear hd
              go_simp
              exact hp _ _ (Grow.refl _) rfl
            · -- 11: slot 161: Op.binOp BinOp.sub 3 t158 t160 3
              have h158 : x 158 = .int .i64 (m : Int) := hd 8 (by decide) _ rfl
              have h160 : x 160 = .int .i64 (n8 : Int) := hd 10 (by decide) _ rfl
              have h155 : x 155 = .bool false := hd 5 (by decide) _ rfl
              clear hd
              have ez := EZ.out
              go_simp
              exact hp _ _ (Grow.refl _) rfl
            · -- 12: slot 162: Op.binOp BinOp.neq 3 t157 t161 3
              have h157 : x 157 = .int .i64 (z : Int) := hd 7 (by decide) _ rfl
              have h161 : x 161 = .int .i64 (z : Int) := hd 11 (by decide) _ rfl
              have h155 : x 155 = .bool false := hd 5 (by decide) _ rfl
              clear hd
              go_simp
              exact hp _ _ (Grow.refl _) rfl
            · -- 13: slot 163: Op.pick t155 (const (Value.bool true)) t162
              have h155 : x 155 = .bool false := hd 5 (by decide) _ rfl
              have h162 : x 162 = .bool false := hd 12 (by decide) _ rfl
              clear hd
              go_simp
              exact hp _ _ (Grow.refl _) rfl
            · -- 14: slot 164: Op.move t163
              have h163 : x 163 = .bool false := hd 13 (by decide) _ rfl
              clear hd
              go_simp
              exact hp _ _ (Grow.refl _) rfl
            · -- 15: slot 165: Op.move t14
              have h164 : x 164 = .bool false := hd 14 (by decide) _ rfl
              clear hd
              go_simp
              exact hp _ _ (Grow.refl _) rfl
            · -- 16: slot 166: Op.move t8
              have h164 : x 164 = .bool false := hd 14 (by decide) _ rfl
              clear hd
              go_simp
              exact hp _ _ (Grow.refl _) rfl
            · -- 17: slot 167: Op.binOp BinOp.neq 3 t165 t166 3
              have h165 : x 165 = .int .i64 (n' : Int) := hd 15 (by decide) _ rfl
              have h166 : x 166 = .int .i64 (n' : Int) := hd 16 (by decide) _ rfl
              have h164 : x 164 = .bool false := hd 14 (by decide) _ rfl
              clear hd
              go_simp
              exact hp _ _ (Grow.refl _) rfl
            · -- 18: slot 168: Op.pick t164 (const (Value.bool true)) t167
              have h164 : x 164 = .bool false := hd 14 (by decide) _ rfl
              have h167 : x 167 = .bool false := hd 17 (by decide) _ rfl
              clear hd
              go_simp
              exact hp _ _ (Grow.refl _) rfl
            · -- 19: slot 169: Op.move t168
              have h168 : x 168 = .bool false := hd 18 (by decide) _ rfl
              clear hd
              go_simp
              exact hp _ _ (Grow.refl _) rfl
            · -- 20: slot 170: Op.move t15
              have h169 : x 169 = .bool false := hd 19 (by decide) _ rfl
              clear hd
              go_simp
              exact hp _ _ (Grow.refl _) rfl
            · -- 21: slot 171: Op.move t9
              have h169 : x 169 = .bool false := hd 19 (by decide) _ rfl
              clear hd
              go_simp
              exact hp _ _ (Grow.refl _) rfl
            · -- 22: slot 172: Op.binOp BinOp.neq 3 t170 t171 3
              have h170 : x 170 = .int .i64 (o' : Int) := hd 20 (by decide) _ rfl
              have h171 : x 171 = .int .i64 (o' : Int) := hd 21 (by decide) _ rfl
              have h169 : x 169 = .bool false := hd 19 (by decide) _ rfl
              clear hd
              go_simp
              exact hp _ _ (Grow.refl _) rfl
            · -- 23: slot 173: Op.pick t169 (const (Value.bool true)) t172
              have h169 : x 169 = .bool false := hd 19 (by decide) _ rfl
              have h172 : x 172 = .bool false := hd 22 (by decide) _ rfl
              clear hd
              go_simp
              exact hp _ _ (Grow.refl _) rfl
            · -- 24: slot 174: Op.move t173
              have h173 : x 173 = .bool false := hd 23 (by decide) _ rfl
              clear hd
              go_simp
              exact hp _ _ (Grow.refl _) rfl
            · -- 25: slot 175: Op.move t5
              have h174 : x 174 = .bool false := hd 24 (by decide) _ rfl
              clear hd
              go_simp
              exact hp _ _ (Grow.refl _) rfl
            · -- 26: slot 176: Op.move t7
              have h174 : x 174 = .bool false := hd 24 (by decide) _ rfl
              clear hd
              go_simp
              exact hp _ _ (Grow.refl _) rfl
            · -- 27: slot 177: Op.call { builtin len, args := #[t176], argTypes := #[30] }
              have h176 : x 176 = .slice A8 n8 c8 := hd 26 (by decide) _ rfl
              have h174 : x 174 = .bool false := hd 24 (by decide) _ rfl
              clear hd
              go_simp
              exact hp _ _ (Grow.refl _) rfl
            · -- 28: slot 178: Op.call { value (Operand.func 14), args := #[t175, const (0:i64), t177], argType
              have h175 : x 175 = .pointer (some ⟨ab, 0, none⟩) := hd 25 (by decide) _ rfl
              have h177 : x 177 = .int .i64 (n8 : Int) := hd 27 (by decide) _ rfl
              have h174 : x 174 = .bool false := hd 24 (by decide) _ rfl
              clear hd
              have c := hPeek_any ((HX.out.2.hs).grow (G4.out.trans hg)) 0 (n8 : Int)
              unfold PeekPost at c
              rw [pk_front, HX.out.1, fst_nat, Nat.min_self, List.take_of_length_le (Nat.le_refl _), ← HX.out.1] at c
              go_simp
              refine c.mono ?_
              rintro e w2 ⟨u, rfl, q1, q2⟩
              exact ⟨_, rfl, hp _ _ q2 q1.byt⟩
            · -- 29: slot 179: Op.convert 30 9 t178
              have h178 : Byt w1 (x 178) (r') := hd 28 (by decide) _ rfl
              have h174 : x 174 = .bool false := hd 24 (by decide) _ rfl
              clear hd
              have c := str1 h178
              go_simp
              exact hp _ _ (Grow.refl _) rfl
            · -- 30: slot 180: Op.move t7
              have h174 : x 174 = .bool false := hd 24 (by decide) _ rfl
              clear hd
              go_simp
              exact hp _ _ (Grow.refl _) rfl
            · -- 31: slot 181: Op.convert 30 9 t180
              have h180 : x 180 = .slice A8 n8 c8 := hd 30 (by decide) _ rfl
              have h174 : x 174 = .bool false := hd 24 (by decide) _ rfl
              clear hd
              have c := str1 (HX.out.2.row.grow (G4.out.trans hg))
              go_simp
              exact hp _ _ (Grow.refl _) rfl
            · -- 32: slot 182: Op.binOp BinOp.neq 9 t179 t181 9
              have h179 : x 179 = strV r' := hd 29 (by decide) _ rfl
              have h181 : x 181 = strV r' := hd 31 (by decide) _ rfl
              have h174 : x 174 = .bool false := hd 24 (by decide) _ rfl
              clear hd
              unfold strV at *
              go_simp
              exact hp _ _ (Grow.refl _) (by show Value.bool _ = Value.bool false; simp)
            · -- 33: slot 183: Op.pick t174 (const (Value.bool true)) t182
              have h174 : x 174 = .bool false := hd 24 (by decide) _ rfl
              have h182 : x 182 = .bool false := hd 32 (by decide) _ rfl
              clear hd
              go_simp
              exact hp _ _ (Grow.refl _) rfl
          · intro x w1 hg hd
            have h183 : x 183 = .bool false := hd 33 _ rfl
            have G32 := Lib.hid hg
            clear hd hg
            rw [h183]
            clear h183
            have n3 := N3.out
            go_wp2_with fail
            go_roundg (N - j)
            case measure => have := HJ.out; omega
            case rel => exact ⟨j, A8, n8, c8, n', o', rfl, rfl, rfl, rfl, rfl, by have := HJ.out; omega, r', HX.out.1, HX.out.2.grow (G4.out.trans G32.out)⟩
      · obtain rfl : i = N := by have := HR.out.1; omega
        have q1 : ¬ ((i : Int) < (i : Int)) := by omega
        have c0 := HLv.out wo
        have HG0 : Hid (Grow w wo) := by obtain ⟨-, r, hnr, hP⟩ := HR.out; exact hP.g
        go_wp2_with fail
        refine c0.mono ?_
        rintro e w5 ⟨rfl, g5⟩
        have G5 := Lib.hid (Grow.trans HG0.out g5)
        clear c0 g5
        go_wp2_with fail
        go_ret
        exact ⟨rfl, G5.out⟩
theorem hosePlays_walk (w : World) (mo : Int) (hmo : -9223372036854775808 ≤ mo ∧ mo ≤ 9223372036854775807) {v : Value} {l : List Ha} (hl : Has w v l) : Calls Try.prog 3 #[.int .i64 mo, v] w fun e w' => e = .returned (.bool true) ∧ Below w.heap.size w w' := by
  by_cases q : mo < 1 ∨ 1048576 < mo
  · exact hplays_cases w mo hl q
  · obtain ⟨m, rfl⟩ : ∃ m : Nat, mo = (m : Int) := ⟨mo.toNat, by omega⟩
    exact hplays_main w m (by omega) hl
end Go.Proofs.Yteohepgpghmioaa
