/- The walk of FragHolds. -/
import Derived.Test.YtkofmbnolaiecaaFrLive
import Derived.Test.YtkofmbnolaiecaaFrPure
namespace Go.Proofs.Ytkofmbnolaiecaa
set_option linter.unusedVariables false
set_option linter.unusedSimpArgs false
open Go.ChangeShapes Go.WideShapes Go.ChangeAt Go.RowKit

/-- append onto a row of bytes of the call's own; what else became of memory is handed on. -/
theorem wpList_app_by (w₀ w : World) {ops : Array Oper} {rest : List Oper} {o : Oper} {a : Act} {Q : Exit → Act → World → Prop} (hgd : o.guard = none) (s x : Operand)
    (ho : o.op = .call { callee := .builtin .append, args := #[s, x], argTypes := #[25, 25] })
    (v u : Value) (l m : List UInt8) (hs : a.eval s = v) (hx : a.eval x = u) (hown : Own w w₀.heap.size v l) (hg : Grow w₀ w) (hr : Byt w u m) (hl : l.length + m.length ≤ 140737488355328)
    (h : ∀ v' w', Own w' w₀.heap.size v' (l ++ m) → Grow w₀ w' → w.grownBy w' v.ownBlock → wpList Try.prog ops Q rest (a.put o.dst v') w') : wpList Try.prog ops Q (o :: rest) a w := by
  have f2 : Hid ((m.map bv).length = m.length) := Lib.hid (by simp)
  have hb := hg.size
  refine wpList_append_rd _ hgd s x 25 ho w₀.heap.size 5 (.int .u8 0) 1 Try.underlying25 infoByte rfl v l.length m.length _ hs hown u _ hx hr f2 (bv_one _) (by omega) (by unfold maxLen; omega) hb ?_
  intro v' w' hown' hgr hat
  refine h v' w' ?_ (hg.grown hgr hb fun k hk => own_block hown k hk) hgr
  unfold Own
  rw [List.length_append, List.map_append]
  exact hown'
/-- A packet's block stays where a row of bytes grows. -/
theorem Blk.pastOwn {w w' : World} {g base : Nat} {k : Pkt} {vo vd s : Value} {bs : List UInt8} (hk : Blk w g k vo vd) (hr : Own w base s bs) (hg : w.grownBy w' s.ownBlock) : Blk w' g k vo vd := by
  refine (hg.block g hk.lt ?_).trans hk
  intro e
  rcases hr.2 with ⟨rfl, _⟩ | ⟨b, cap, cur, rfl, _, hh, _⟩
  · cases e
  · have e2 : b = g := by cases e; rfl
    subst e2
    have hk2 : w.heap[b]? = _ := hk
    rw [hh] at hk2
    injection hk2 with hk2
    injection hk2 with _ e3 _
    exact absurd e3 (by decide)
theorem Blk.c3 {w : World} {g : Nat} {k : Pkt} {vo vd : Value} (h : Blk w g k vo vd) : w.cell? ⟨g, 3, none⟩ = some (.bool k.more) := by
  obtain ⟨_, _, _, b3, _⟩ := h.boxd
  exact b3

set_option maxRecDepth 10000 in
set_option maxHeartbeats 8000000 in
theorem fragHolds_walk (w : World) {v : Value} {k : Pkt} (h : Ip w v k) (mtu : Int) (hm : -9223372036854775808 ≤ mtu ∧ mtu ≤ 9223372036854775807) :
    Calls Try.prog 5 #[v, .int .i64 mtu] w fun e w' => e = .returned (.bool true) ∧ Grow w w' := by
  obtain ⟨hm1, hm2⟩ := hm
  obtain ⟨A, c, B, d, rfl, ho, hd, hk⟩ := h.form
  obtain ⟨W1, hW1⟩ : ∃ W1, W1 = w.alloc (.cells #[.int .u8 (k.tos : Int), .int .u16 (k.ident : Int), .bool k.whole, .bool k.more, .int .i64 k.off, .int .u8 (k.ttl : Int), .int .u8 (k.proto : Int), .int .u32 (k.src : Int), .int .u32 (k.dst : Int), .slice A k.opts.length c, .slice B k.data.length d] 27) := ⟨_, rfl⟩
  have hg1 : Grow w W1 := by rw [hW1]; exact Grow.alloc w _
  have hB1 : Blk W1 w.heap.size k (.slice A k.opts.length c) (.slice B k.data.length d) := by rw [hW1]; exact Blk.new _ _ _ _
  have hip := h.grow hg1
  have T := Lib.hid (And.intro hg1 (And.intro hB1 (And.intro hip (And.intro (hd.grow hg1) hk))))
  have cV := fragLive_any
  have cLg := Long_any _ k W1 hip
  clear hg1 hB1 hip h ho hd hk
  go_enter Try.func5, Try.ntmps5
  go_wp2_with fail
  rw [← hW1]
  clear hW1
  refine cLg.mono ?_
  rintro e w2 ⟨rfl, hg2⟩
  by_cases hL : 100 < k.opts.length ∨ 70000 < k.data.length
  · rw [decide_eq_true hL]
    go_wp2_with fail
    refine (cV _).mono ?_
    rintro e wl ⟨rfl, hgl⟩
    go_wp2_with fail
    go_ret
    exact ⟨rfl, (T.out.1.trans hg2).trans hgl⟩
  rw [decide_eq_false hL]
  have hsm : k.Small := ⟨by omega, by omega⟩
  have hkd : k.data.length ≤ 70000 := by omega
  have hcr := fcodeS_in k mtu
  have G2 := Lib.hid hg2
  obtain ⟨b0, b1, b2, b3, b4, b5, b6, b7, b8, b9, b10⟩ := (T.out.2.1.grow hg2).boxd
  clear cLg hg2 hL
  go_wp2_with fail
  refine (Split_any _ k mtu w2 (T.out.2.2.1.grow G2.out) hsm hm1 hm2).mono ?_
  rintro e w3 ⟨u, l, rfl, hl, hrow, hmine, hg3⟩
  clear b0 b1 b2 b3 b4 b5 b6 b7 b8 b9 b10
  have G3 := Lib.hid (G2.out.trans hg3)
  have cC := fun n (h1 : 0 ≤ n) (h2 : n ≤ 110) w => fragCode_any n w (by omega) (by omega)
  by_cases hE : fcodeS k mtu ≠ 0
  · have hl0 : l = [] := by rw [flist_bad hE] at hl; simpa using hl
    subst hl0
    obtain ⟨A3, c3, rfl, _, _⟩ := hrow.ips.form
    have dE : (fcodeS k mtu != 0) = true := by simpa using hE
    have cC1 := cC _ hcr.1 hcr.2
    clear hE hl hrow hmine hg3 cC
    generalize fcodeS k mtu = n at *
    go_wp2_with fail
    refine (cC1 _).mono ?_
    rintro e w' ⟨rfl, rfl⟩
    go_wp2_with fail
    refine (cV _).mono ?_
    rintro e wl ⟨rfl, hgl⟩
    go_wp2_with fail
    go_ret
    exact ⟨rfl, (T.out.1.trans G3.out).trans hgl⟩
  have hE0 : fcodeS k mtu = 0 := by simpa using hE
  obtain ⟨m, rfl, hm68, hm65, ⟨hk01, hk02⟩, hfall, hpk⟩ := flist_spec hE0
  obtain ⟨A3, c3, rfl, hlc3, hcm3⟩ := hrow.ips.form
  unfold maxLen at hcm3
  rw [hE0]
  have cC0 := cC 0 (by decide) (by decide)
  have hll : l.length = (flist k (m : Int)).length := by rw [← hl, List.length_map]
  have HP := Lib.hid hpk
  have HL := Lib.hid (And.intro hl (And.intro hll hfall))
  have R3 := Lib.hid (And.intro hrow hmine)
  clear hE hE0 hcr hfall hpk hl hrow hmine hg3 cC hll
  go_wp2_with fail
  refine (cC0 _).mono ?_
  rintro e w' ⟨rfl, rfl⟩
  go_wp2_with fail
  go_loopg [7, 8] l.length (fun g s7 s8 wr => ∃ i : Nat, i ≤ l.length ∧ g = l.length - i ∧ s8 = .int .i64 (i : Int) ∧ Own wr w3.heap.size s7 (fall ((flist k (m : Int)).take i)) ∧ Grow w3 wr)
  case atStart => exact ⟨0, Nat.zero_le _, rfl, rfl, World.ownsRow_nil _ _ _ _, Grow.refl _⟩
  case round =>
    obtain ⟨i, hi, rfl, rfl, hall, hgr⟩ := hrel
    rcases Nat.lt_or_ge i l.length with hlt | hge
    · obtain ⟨b, off, hA3, hbl, hat⟩ := R3.out.1.ips.at_ (show 0 < l.length by omega)
      subst hA3
      have hlf : i < (flist k (m : Int)).length := by rw [← HL.out.2.1]; exact hlt
      have eL : (flist k (m : Int))[i]'hlf = (l[i]'hlt).k := by
        have h1 : (l.map Pk.k)[i]? = (flist k (m : Int))[i]? := by rw [HL.out.1]
        rw [List.getElem?_map, List.getElem?_eq_getElem hlt, List.getElem?_eq_getElem hlf] at h1
        simpa using h1.symm
      obtain ⟨p1, p2, p3, p4, p5, p6, p7⟩ := HP.out i hlf
      have hnext := fall_next (flist k (m : Int)) i hlf
      rw [eL] at p1 p2 p4 p5 p6 p7 hnext
      rw [← HL.out.2.1] at p4 p5
      have X := (hat i hlt).grow hgr hbl
      have hg3 := (R3.out.2 _ (List.getElem_mem hlt)).good
      have hgq := (R3.out.2 _ (List.getElem_mem hlt)).good.grow hgr
      generalize l[i]'hlt = q at *
      obtain ⟨K, vo, vd⟩ := q
      obtain ⟨hgo_, hgd_, hKok⟩ := hgq
      simp only at p1 p2 p4 p5 p6 p7 hnext hgo_ hgd_ hKok
      obtain ⟨Aq, nq, cq, rfl, hnq⟩ := hgo_.form2
      obtain ⟨Bq, mq, dq, rfl, hmq⟩ := hgd_.form2
      obtain ⟨A7, n7, c7, rfl, hn7⟩ := hall.byt.form2
      have hag := flist_again p1 hm68 hm65 p6 p7
      have hKs : K.Small := ⟨by omega, by unfold Pkt.len at p1; omega⟩
      obtain ⟨Qn, hQn⟩ : ∃ Qn, Qn = n7 / 8 := ⟨_, rfl⟩
      have eQ : (n7 : Int) / 8 = (Qn : Int) := by omega
      have hS : (fall ((flist k (m : Int)).take i)).length = n7 := hn7.out.symm
      rw [hS] at p2 p3
      have hoffe : K.off = k.off + (Qn : Int) := by rw [p2, hQn]
      have hSb : n7 ≤ 70000 := by
        have h1 : (fall ((flist k (m : Int)).take i) ++ fall ((flist k (m : Int)).drop i)) = fall (flist k (m : Int)) := by
          unfold fall; rw [← List.flatMap_append, List.take_append_drop]
        have h2 := congrArg List.length h1
        rw [List.length_append, hS, HL.out.2.2] at h2
        omega
      have hQb : Qn ≤ 10000 := by omega
      have doff : (K.off != k.off + (Qn : Int)) = false := by rw [hoffe]; simp
      have dlen : decide (m < K.len) = false := decide_eq_false (by omega)
      have hKl : K.len ≤ 65535 := by omega
      obtain ⟨I1, hI1⟩ : ∃ I1, I1 = i + 1 := ⟨_, rfl⟩
      have eI1 : (i : Int) + 1 = (I1 : Int) := by omega
      have hmqb : mq ≤ 65535 := by have := hmq.out; unfold Pkt.len at p1; omega
      have hll2 : (fall ((flist k (m : Int)).take i)).length + K.data.length ≤ 140737488355328 := by rw [hS]; have := hmq.out; omega
      have NX := Lib.hid (And.intro hnext (And.intro hag (And.intro hKs (And.intro hKok hll2))))
      have R6 : Hid (∀ w', Grow w3 w' → Byt w' (.slice Aq nq cq) K.opts ∧ Byt w' (.slice Bq mq dq) K.data) := fun w' g => ⟨hg3.1.grow g, hg3.2.1.grow g⟩
      have HB := Lib.hid (And.intro hgo_ (And.intro hgd_ (And.intro hall hgr)))
      obtain ⟨x0, x1, x2, x3, x4, x5, x6, x7, x8, x9, x10⟩ := X
      simp only at x0 x1 x2 x3 x4 x5 x6 x7 x8 x9 x10
      have hltI : (i : Int) < (l.length : Int) := by omega
      have hKo1 : 0 ≤ K.off ∧ K.off ≤ 8191 := p7
      obtain ⟨hKo2, hKo3⟩ := hKo1
      have MID := Lib.hid p4
      have LAST := Lib.hid p5
      have HM8 := Lib.hid hmq.out
      clear hg3 hat hbl hlf eL p1 p2 p3 p4 p5 p6 p7 hnext hgo_ hgd_ hKok hall hgr hag hKs hQn hS hoffe hll2 hnq hmq hn7
      by_cases hmid : i + 1 < l.length
      · by_cases h50 : l.length < 50
        · obtain ⟨hm8, hmore⟩ := MID.out (by omega)
          have d1 : decide (I1 < l.length) = true := decide_eq_true (by omega)
          have dm8 : ((mq : Int) % 8 != 0) = false := bne_eq_false_iff_eq.2 (by have := HM8.out; omega)
          have dI : ((I1 : Int) == (l.length : Int)) = false := beq_eq_false_iff_ne.2 (by omega)
          have HMO := Lib.hid hmore
          have HI1 := Lib.hid hI1
          have d50 : decide ((l.length : Int) < 50) = true := decide_eq_true (by omega)
          clear hmore hI1 hm8
          go_wp2_with (show wpList _ _ _ (⟨none, .store 27 (.tmp 9) (.tmp 39), _, _, _, _⟩ :: _) _ _; refine wpList_store_ip wr _ rfl _ _ rfl rfl wr.heap.size rfl K zeroPk (.slice Aq nq cq) (.slice Bq mq dq) (.slice none 0 0) (.slice none 0 0) rfl rfl rfl (Blk.new wr zeroPk (.slice none 0 0) (.slice none 0 0)) (Grow.alloc wr _) (Nat.le_refl _) ?_; intro wA hA hbA gA; have FA := Lib.hid (And.intro hA gA); clear hA hbA gA x0 x1 x2 x3 x4 x5 x6 x7 x8 x9 x10; obtain ⟨x0, x1, x2, x3, x4, x5, x6, x7, x8, x9, x10⟩ := FA.out.1.boxd)
          refine (RLen_any _ K wA ⟨_, _, rfl, HB.out.1.grow FA.out.2, HB.out.2.1.grow FA.out.2, NX.out.2.2.2.1⟩ NX.out.2.2.1).mono ?_
          rintro e w5 ⟨rfl, hg5⟩
          have F5 := Lib.hid (And.intro (FA.out.1.grow hg5) (FA.out.2.trans hg5))
          clear x0 x1 x2 x3 x4 x5 x6 x7 x8 x9 x10 hg5
          have x3 := F5.out.1.c3
          rw [HMO.out] at x3
          have x4 := F5.out.1.c4
          have x10 := F5.out.1.c10
          have g3 := (T.out.2.1.grow (G3.out.trans (HB.out.2.2.2.trans F5.out.2))).c3
          have g4 := (T.out.2.1.grow (G3.out.trans (HB.out.2.2.2.trans F5.out.2))).c4
          go_wp2_with (at_builtin; refine wpList_app_by w3 w5 rfl (.tmp 88) (.tmp 90) rfl (.slice A7 n7 c7) (.slice Bq mq dq) (fall ((flist k (m : Int)).take i)) K.data rfl rfl (HB.out.2.2.1.grow F5.out.2) (HB.out.2.2.2.trans F5.out.2) (HB.out.2.1.grow F5.out.2) NX.out.2.2.2.2 ?_; intro v6 w6 ho6 hg6 hgb6; have H6 := Lib.hid (And.intro ho6 (And.intro hg6 (F5.out.1.pastOwn (HB.out.2.2.1.grow F5.out.2) hgb6))); clear ho6 hg6 hgb6 x3 x4 x10 g3 g4; obtain ⟨x0, x1, x2, x3, x4, x5, x6, x7, x8, x9, x10⟩ := H6.out.2.2.boxd)
          clear x0 x1 x2 x3 x4 x5 x6 x7 x8 x9 x10
          refine (Split_any _ K (m : Int) w6 ⟨_, _, rfl, (R6.out _ H6.out.2.1).1, (R6.out _ H6.out.2.1).2, NX.out.2.2.2.1⟩ NX.out.2.2.1 hm1 hm2).mono ?_
          rintro e w7 ⟨u7, l7, rfl, hl7, hrow7, hmine7, hg7⟩
          rw [NX.out.2.1.2] at hl7
          rw [NX.out.2.1.1]
          obtain ⟨A8, c8, rfl, hlc8, hcm8⟩ := hrow7.ips.form
          have H7 := Lib.hid (And.intro (Psl.of_mine hl7 hrow7 hmine7) (And.intro hg7 (H6.out.2.2.grow hg7)))
          clear hl7 hrow7 hmine7 hg7
          obtain ⟨x0, x1, x2, x3, x4, x5, x6, x7, x8, x9, x10⟩ := H7.out.2.2.boxd
          go_wp2_with fail
          refine (cC0 _).mono ?_
          rintro e w' ⟨rfl, rfl⟩
          go_wp2_with fail
          refine (RSame11_any [K] _ _ _ (H7.out.1.grow (Grow.alloc _ _)) ⟨[⟨K, .slice Aq nq cq, .slice Bq mq dq⟩], rfl, (Iprow.lit w7 ⟨K, .slice Aq nq cq, .slice Bq mq dq⟩ _ (by rfl) _ rfl).ips, fun q hq => by rw [List.mem_singleton.1 hq]; exact ⟨(R6.out _ (H6.out.2.1.trans H7.out.2.1)).1.grow (Grow.alloc _ _), (R6.out _ (H6.out.2.1.trans H7.out.2.1)).2.grow (Grow.alloc _ _), NX.out.2.2.2.1⟩⟩).mono ?_
          rintro e w9 ⟨rfl, hg9⟩
          have H9 := Lib.hid ((H7.out.2.1.trans (Grow.alloc _ _)).trans hg9)
          clear x0 x1 x2 x3 x4 x5 x6 x7 x8 x9 x10 hg9
          go_wp2_with fail
          go_roundg (l.length - (i + 1))
          case measure => omega
          case rel => exact ⟨i + 1, by omega, rfl, by rw [← HI1.out], by rw [NX.out.1]; exact H6.out.1.grow H9.out, H6.out.2.1.trans H9.out⟩
        · obtain ⟨hm8, hmore⟩ := MID.out (by omega)
          have d1 : decide (I1 < l.length) = true := decide_eq_true (by omega)
          have dm8 : ((mq : Int) % 8 != 0) = false := bne_eq_false_iff_eq.2 (by have := HM8.out; omega)
          have dI : ((I1 : Int) == (l.length : Int)) = false := beq_eq_false_iff_ne.2 (by omega)
          have HMO := Lib.hid hmore
          have HI1 := Lib.hid hI1
          have d50 : decide ((l.length : Int) < 50) = false := decide_eq_false (by omega)
          clear hmore hI1 hm8
          go_wp2_with (show wpList _ _ _ (⟨none, .store 27 (.tmp 9) (.tmp 39), _, _, _, _⟩ :: _) _ _; refine wpList_store_ip wr _ rfl _ _ rfl rfl wr.heap.size rfl K zeroPk (.slice Aq nq cq) (.slice Bq mq dq) (.slice none 0 0) (.slice none 0 0) rfl rfl rfl (Blk.new wr zeroPk (.slice none 0 0) (.slice none 0 0)) (Grow.alloc wr _) (Nat.le_refl _) ?_; intro wA hA hbA gA; have FA := Lib.hid (And.intro hA gA); clear hA hbA gA x0 x1 x2 x3 x4 x5 x6 x7 x8 x9 x10; obtain ⟨x0, x1, x2, x3, x4, x5, x6, x7, x8, x9, x10⟩ := FA.out.1.boxd)
          refine (RLen_any _ K wA ⟨_, _, rfl, HB.out.1.grow FA.out.2, HB.out.2.1.grow FA.out.2, NX.out.2.2.2.1⟩ NX.out.2.2.1).mono ?_
          rintro e w5 ⟨rfl, hg5⟩
          have F5 := Lib.hid (And.intro (FA.out.1.grow hg5) (FA.out.2.trans hg5))
          clear x0 x1 x2 x3 x4 x5 x6 x7 x8 x9 x10 hg5
          have x3 := F5.out.1.c3
          rw [HMO.out] at x3
          have x4 := F5.out.1.c4
          have x10 := F5.out.1.c10
          have g3 := (T.out.2.1.grow (G3.out.trans (HB.out.2.2.2.trans F5.out.2))).c3
          have g4 := (T.out.2.1.grow (G3.out.trans (HB.out.2.2.2.trans F5.out.2))).c4
          go_wp2_with (at_builtin; refine wpList_app_by w3 w5 rfl (.tmp 88) (.tmp 90) rfl (.slice A7 n7 c7) (.slice Bq mq dq) (fall ((flist k (m : Int)).take i)) K.data rfl rfl (HB.out.2.2.1.grow F5.out.2) (HB.out.2.2.2.trans F5.out.2) (HB.out.2.1.grow F5.out.2) NX.out.2.2.2.2 ?_; intro v6 w6 ho6 hg6 hgb6; have H6 := Lib.hid (And.intro ho6 (And.intro hg6 (F5.out.1.pastOwn (HB.out.2.2.1.grow F5.out.2) hgb6))); clear ho6 hg6 hgb6 x3 x4 x10 g3 g4; obtain ⟨x0, x1, x2, x3, x4, x5, x6, x7, x8, x9, x10⟩ := H6.out.2.2.boxd)
          clear x0 x1 x2 x3 x4 x5 x6 x7 x8 x9 x10
          go_roundg (l.length - (i + 1))
          case measure => omega
          case rel => exact ⟨i + 1, by omega, rfl, by rw [← HI1.out], by rw [NX.out.1]; exact H6.out.1, H6.out.2.1⟩
      · by_cases h50 : l.length < 50
        · have hmore := LAST.out (by omega)
          have d1 : decide (I1 < l.length) = false := decide_eq_false (by omega)
          have dI : ((I1 : Int) == (l.length : Int)) = true := beq_iff_eq.2 (by omega)
          have HMO := Lib.hid hmore
          have HI1 := Lib.hid hI1
          have d50 : decide ((l.length : Int) < 50) = true := decide_eq_true (by omega)
          clear hmore hI1
          go_wp2_with (show wpList _ _ _ (⟨none, .store 27 (.tmp 9) (.tmp 39), _, _, _, _⟩ :: _) _ _; refine wpList_store_ip wr _ rfl _ _ rfl rfl wr.heap.size rfl K zeroPk (.slice Aq nq cq) (.slice Bq mq dq) (.slice none 0 0) (.slice none 0 0) rfl rfl rfl (Blk.new wr zeroPk (.slice none 0 0) (.slice none 0 0)) (Grow.alloc wr _) (Nat.le_refl _) ?_; intro wA hA hbA gA; have FA := Lib.hid (And.intro hA gA); clear hA hbA gA x0 x1 x2 x3 x4 x5 x6 x7 x8 x9 x10; obtain ⟨x0, x1, x2, x3, x4, x5, x6, x7, x8, x9, x10⟩ := FA.out.1.boxd)
          refine (RLen_any _ K wA ⟨_, _, rfl, HB.out.1.grow FA.out.2, HB.out.2.1.grow FA.out.2, NX.out.2.2.2.1⟩ NX.out.2.2.1).mono ?_
          rintro e w5 ⟨rfl, hg5⟩
          have F5 := Lib.hid (And.intro (FA.out.1.grow hg5) (FA.out.2.trans hg5))
          clear x0 x1 x2 x3 x4 x5 x6 x7 x8 x9 x10 hg5
          have x3 := F5.out.1.c3
          rw [HMO.out] at x3
          have x4 := F5.out.1.c4
          have x10 := F5.out.1.c10
          have g3 := (T.out.2.1.grow (G3.out.trans (HB.out.2.2.2.trans F5.out.2))).c3
          have g4 := (T.out.2.1.grow (G3.out.trans (HB.out.2.2.2.trans F5.out.2))).c4
          go_wp2_with (at_builtin; refine wpList_app_by w3 w5 rfl (.tmp 88) (.tmp 90) rfl (.slice A7 n7 c7) (.slice Bq mq dq) (fall ((flist k (m : Int)).take i)) K.data rfl rfl (HB.out.2.2.1.grow F5.out.2) (HB.out.2.2.2.trans F5.out.2) (HB.out.2.1.grow F5.out.2) NX.out.2.2.2.2 ?_; intro v6 w6 ho6 hg6 hgb6; have H6 := Lib.hid (And.intro ho6 (And.intro hg6 (F5.out.1.pastOwn (HB.out.2.2.1.grow F5.out.2) hgb6))); clear ho6 hg6 hgb6 x3 x4 x10 g3 g4; obtain ⟨x0, x1, x2, x3, x4, x5, x6, x7, x8, x9, x10⟩ := H6.out.2.2.boxd)
          clear x0 x1 x2 x3 x4 x5 x6 x7 x8 x9 x10
          refine (Split_any _ K (m : Int) w6 ⟨_, _, rfl, (R6.out _ H6.out.2.1).1, (R6.out _ H6.out.2.1).2, NX.out.2.2.2.1⟩ NX.out.2.2.1 hm1 hm2).mono ?_
          rintro e w7 ⟨u7, l7, rfl, hl7, hrow7, hmine7, hg7⟩
          rw [NX.out.2.1.2] at hl7
          rw [NX.out.2.1.1]
          obtain ⟨A8, c8, rfl, hlc8, hcm8⟩ := hrow7.ips.form
          have H7 := Lib.hid (And.intro (Psl.of_mine hl7 hrow7 hmine7) (And.intro hg7 (H6.out.2.2.grow hg7)))
          clear hl7 hrow7 hmine7 hg7
          obtain ⟨x0, x1, x2, x3, x4, x5, x6, x7, x8, x9, x10⟩ := H7.out.2.2.boxd
          go_wp2_with fail
          refine (cC0 _).mono ?_
          rintro e w' ⟨rfl, rfl⟩
          go_wp2_with fail
          refine (RSame11_any [K] _ _ _ (H7.out.1.grow (Grow.alloc _ _)) ⟨[⟨K, .slice Aq nq cq, .slice Bq mq dq⟩], rfl, (Iprow.lit w7 ⟨K, .slice Aq nq cq, .slice Bq mq dq⟩ _ (by rfl) _ rfl).ips, fun q hq => by rw [List.mem_singleton.1 hq]; exact ⟨(R6.out _ (H6.out.2.1.trans H7.out.2.1)).1.grow (Grow.alloc _ _), (R6.out _ (H6.out.2.1.trans H7.out.2.1)).2.grow (Grow.alloc _ _), NX.out.2.2.2.1⟩⟩).mono ?_
          rintro e w9 ⟨rfl, hg9⟩
          have H9 := Lib.hid ((H7.out.2.1.trans (Grow.alloc _ _)).trans hg9)
          clear x0 x1 x2 x3 x4 x5 x6 x7 x8 x9 x10 hg9
          go_wp2_with fail
          go_roundg (l.length - (i + 1))
          case measure => omega
          case rel => exact ⟨i + 1, by omega, rfl, by rw [← HI1.out], by rw [NX.out.1]; exact H6.out.1.grow H9.out, H6.out.2.1.trans H9.out⟩
        · have hmore := LAST.out (by omega)
          have d1 : decide (I1 < l.length) = false := decide_eq_false (by omega)
          have dI : ((I1 : Int) == (l.length : Int)) = true := beq_iff_eq.2 (by omega)
          have HMO := Lib.hid hmore
          have HI1 := Lib.hid hI1
          have d50 : decide ((l.length : Int) < 50) = false := decide_eq_false (by omega)
          clear hmore hI1
          go_wp2_with (show wpList _ _ _ (⟨none, .store 27 (.tmp 9) (.tmp 39), _, _, _, _⟩ :: _) _ _; refine wpList_store_ip wr _ rfl _ _ rfl rfl wr.heap.size rfl K zeroPk (.slice Aq nq cq) (.slice Bq mq dq) (.slice none 0 0) (.slice none 0 0) rfl rfl rfl (Blk.new wr zeroPk (.slice none 0 0) (.slice none 0 0)) (Grow.alloc wr _) (Nat.le_refl _) ?_; intro wA hA hbA gA; have FA := Lib.hid (And.intro hA gA); clear hA hbA gA x0 x1 x2 x3 x4 x5 x6 x7 x8 x9 x10; obtain ⟨x0, x1, x2, x3, x4, x5, x6, x7, x8, x9, x10⟩ := FA.out.1.boxd)
          refine (RLen_any _ K wA ⟨_, _, rfl, HB.out.1.grow FA.out.2, HB.out.2.1.grow FA.out.2, NX.out.2.2.2.1⟩ NX.out.2.2.1).mono ?_
          rintro e w5 ⟨rfl, hg5⟩
          have F5 := Lib.hid (And.intro (FA.out.1.grow hg5) (FA.out.2.trans hg5))
          clear x0 x1 x2 x3 x4 x5 x6 x7 x8 x9 x10 hg5
          have x3 := F5.out.1.c3
          rw [HMO.out] at x3
          have x4 := F5.out.1.c4
          have x10 := F5.out.1.c10
          have g3 := (T.out.2.1.grow (G3.out.trans (HB.out.2.2.2.trans F5.out.2))).c3
          have g4 := (T.out.2.1.grow (G3.out.trans (HB.out.2.2.2.trans F5.out.2))).c4
          go_wp2_with (at_builtin; refine wpList_app_by w3 w5 rfl (.tmp 88) (.tmp 90) rfl (.slice A7 n7 c7) (.slice Bq mq dq) (fall ((flist k (m : Int)).take i)) K.data rfl rfl (HB.out.2.2.1.grow F5.out.2) (HB.out.2.2.2.trans F5.out.2) (HB.out.2.1.grow F5.out.2) NX.out.2.2.2.2 ?_; intro v6 w6 ho6 hg6 hgb6; have H6 := Lib.hid (And.intro ho6 (And.intro hg6 (F5.out.1.pastOwn (HB.out.2.2.1.grow F5.out.2) hgb6))); clear ho6 hg6 hgb6 x3 x4 x10 g3 g4; obtain ⟨x0, x1, x2, x3, x4, x5, x6, x7, x8, x9, x10⟩ := H6.out.2.2.boxd)
          clear x0 x1 x2 x3 x4 x5 x6 x7 x8 x9 x10
          go_roundg (l.length - (i + 1))
          case measure => omega
          case rel => exact ⟨i + 1, by omega, rfl, by rw [← HI1.out], by rw [NX.out.1]; exact H6.out.1, H6.out.2.1⟩
    · have hie : i = l.length := by omega
      subst hie
      rw [HL.out.2.1, List.take_length, HL.out.2.2] at hall
      obtain ⟨A7, n7, c7, rfl, hn7⟩ := hall.byt.form2
      have G7 := Lib.hid (G3.out.trans hgr)
      obtain ⟨b0, b1, b2, b3, b4, b5, b6, b7, b8, b9, b10⟩ := (T.out.2.1.grow (G3.out.trans hgr)).boxd
      have s1 := str1 (T.out.2.2.2.1.grow (G3.out.trans hgr))
      have s2 := str1 hall.byt
      unfold strV at s1 s2
      clear hall hgr
      go_wp2_with fail
      refine (cV _).mono ?_
      rintro e wl ⟨rfl, hgl⟩
      go_wp2_with fail
      go_ret
      exact ⟨rfl, (T.out.1.trans G7.out).trans hgl⟩
end Go.Proofs.Ytkofmbnolaiecaa
