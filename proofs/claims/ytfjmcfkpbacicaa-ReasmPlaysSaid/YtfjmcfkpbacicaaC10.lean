/- Contracts: Add, a complete packet; refused. -/
import Derived.Test.YtfjmcfkpbacicaaC09
namespace Go.Proofs.Ytfjmcfkpbacicaa
set_option linter.unusedVariables false
set_option linter.unusedSimpArgs false
open Go.ChangeShapes Go.WideShapes Go.ChangeAt Go.RowKit Go.Shelf
attribute [local irreducible] wpQuiet

set_option maxRecDepth 10000 in
set_option maxHeartbeats 8000000 in
theorem Add_whole (w : World) (base tb : Nat) (most life : Int) (A0 : List Wt) (hA : TabA w base tb most life A0) (now : Int) (k : Pkt) (vo vd : Value) (hp : Piece base w k vo vd) (hr : ¬ (now < 0 ∨ 1099511627776 < now ∨ k.off < 0 ∨ 8191 < k.off)) (h0 : k.off = 0) (hm : k.more = false) :
    Calls Try.prog 14 #[.pointer (some ⟨tb, 0, none⟩), .int .i64 now, ipV k vo vd] w fun e w' => AddedF w base tb most life ⟨A0, k, true, 0⟩ e w' := by
  obtain ⟨A, c, rfl, _⟩ := hp.o.1.form
  obtain ⟨B, d, rfl, _⟩ := hp.d.1.form
  obtain ⟨W1, hW1⟩ : ∃ W1, W1 = (w.alloc (.cells #[.int .u8 (k.tos : Int), .int .u16 (k.ident : Int), .bool k.whole, .bool k.more, .int .i64 k.off, .int .u8 (k.ttl : Int), .int .u8 (k.proto : Int), .int .u32 (k.src : Int), .int .u32 (k.dst : Int), .slice A k.opts.length c, .slice B k.data.length d] 38)).alloc (.cells #[.int .u8 0, .int .u16 0, .bool false, .bool false, .int .i64 0, .int .u8 0, .int .u8 0, .int .u32 0, .int .u32 0, .slice none 0 0, .slice none 0 0] 38) := ⟨_, rfl⟩
  obtain ⟨hg1, hsz, hB, hZ⟩ := two_blk w k _ _ hW1
  obtain ⟨mb, ov, L, hT, hLA, hAok⟩ := hA
  have hb := hT.sz
  have hb1 : base ≤ W1.heap.size := Nat.le_trans hb hg1.size
  have d1 : decide (now < 0) = false := decide_eq_false (by omega)
  have d2 : decide (1099511627776 < now) = false := decide_eq_false (by omega)
  have d3 : decide (k.off < 0) = false := decide_eq_false (by omega)
  have d4 : decide (8191 < k.off) = false := decide_eq_false (by omega)
  have o1 : (k.off == 0) = true := by simpa using h0
  have o2 : decide (k.off = 0) = true := decide_eq_true h0
  have cO := rsOwn_any _ k W1 (hp.ip.grow hg1) hp.small
  have fin : Hid (∀ w2 w8 vo2 vd2, Grow W1 w2 → Own w2 W1.heap.size vo2 k.opts → Own w2 W1.heap.size vd2 k.data → Blk w8 (w.heap.size + 1) k vo2 vd2 → w2.grownBy w8 (some (w.heap.size + 1)) → AddedF w base tb most life ⟨A0, k, true, 0⟩ (.returned (.tuple #[ipV k vo2 vd2, .bool true, .int .i64 0])) w8) := by
    intro w2 w8 vo2 vd2 hg2 ho2 hd2 hb8 hg8
    have g2 := hg1.trans hg2
    have o8 : Only base Za w w8 := (Only.grow g2 hb Za).fresh hg8 (by omega) hb
    have o28 : Only base (fun b T => b = w.heap.size + 1 ∧ T = 38) w2 w8 := Only.grown hg8 (fun b e => by
      cases e
      exact ⟨by omega, fun o T ho hT => by rw [show w2.heap[w.heap.size + 1]? = _ from hZ.grow hg2] at ho; cases ho; cases hT; exact ⟨rfl, rfl⟩⟩) (Nat.le_trans hb g2.size)
    exact ⟨_, _, rfl, ⟨(Firm.own (o28.row ho2 (fun b _ e => absurd e.2 (by decide)))), (Firm.own (o28.row hd2 (fun b _ e => absurd e.2 (by decide)))), hp.ok⟩, ⟨mb, ov, L, (hT.grow g2).beside (fun q hq f hf e => by have := hT.firsts q hq f hf; omega) (hZ.grow hg2) (by omega) hg8, hLA, hAok⟩, o8⟩
  have HZ := Lib.hid (And.intro hZ (And.intro hsz hB))
  obtain ⟨b0, b1, b2, b3, b4, b5, b6, b7, b8, b9, b10⟩ := hB.boxd
  unfold ipV at cO
  have bm : W1.cell? ⟨w.heap.size, 3, none⟩ = some (.bool false) := by rw [← hm]; exact b3
  have HM := Lib.hid hm
  have b0' := b0
  clear hZ hB hg1 hsz hT hp hb hb1 hr h0
  rw [HM.out] at cO b3
  clear hm
  go_enter Try.func14, Try.ntmps14
  go_upto_if 12 with fail
  rw [← hW1]
  clear hW1
  go_wp2_with fail
  refine cO.mono ?_
  rintro e w2 ⟨vo2, vd2, rfl, ho2, hd2, hg2⟩
  obtain ⟨A6, n6, c6, rfl, hn6⟩ := ho2.byt.form2
  obtain ⟨B6, m6, d6, rfl, hm6⟩ := hd2.byt.form2
  have H2 := Lib.hid (And.intro hg2 (And.intro ho2 hd2))
  clear ho2 hd2 hg2 cO
  go_wp2_with (show wpList _ _ _ (⟨none, .store 38 (.tmp 6) (.tmp 40), _, _, _, _⟩ :: _) _ _; refine wpList_store_ipB w2 rfl _ _ rfl rfl (w.heap.size + 1) rfl { k with more := false } zeroPk (.slice A6 n6 c6) (.slice B6 m6 d6) (.slice none 0 0) (.slice none 0 0) rfl rfl rfl (HZ.out.1.grow H2.out.1) ?_; intro w8 hF8 hg8; have H8 := Lib.hid hg8; clear hg8)
  have hk : ({ k with more := false } : Pkt) = k := by rw [← HM.out]
  rw [hk] at hF8
  refine bodyPost_ret (results3_ip 6 7 8 rfl _ w8 (w.heap.size + 1) k _ _ rfl hF8) rfl ?_
  exact fin.out w2 w8 _ _ H2.out.1 H2.out.2.1 H2.out.2.2 hF8 H8.out

set_option maxRecDepth 10000 in
set_option maxHeartbeats 8000000 in
theorem Add_check (w : World) (base tb : Nat) (most life : Int) (A0 : List Wt) (hA : TabA w base tb most life A0) (now : Int) (k : Pkt) (vo vd : Value) (hp : Piece base w k vo vd) (hr : ¬ (now < 0 ∨ 1099511627776 < now ∨ k.off < 0 ∨ 8191 < k.off)) (hcp : ¬ (k.off = 0 ∧ k.more = false)) (hc : chk k ≠ 0) :
    Calls Try.prog 14 #[.pointer (some ⟨tb, 0, none⟩), .int .i64 now, ipV k vo vd] w fun e w' => AddedF w base tb most life ⟨A0, zeroPk, false, chk k⟩ e w' := by
  obtain ⟨A, c, rfl, _⟩ := hp.o.1.form
  obtain ⟨B, d, rfl, _⟩ := hp.d.1.form
  obtain ⟨W1, hW1⟩ : ∃ W1, W1 = (w.alloc (.cells #[.int .u8 (k.tos : Int), .int .u16 (k.ident : Int), .bool k.whole, .bool k.more, .int .i64 k.off, .int .u8 (k.ttl : Int), .int .u8 (k.proto : Int), .int .u32 (k.src : Int), .int .u32 (k.dst : Int), .slice A k.opts.length c, .slice B k.data.length d] 38)).alloc (.cells #[.int .u8 0, .int .u16 0, .bool false, .bool false, .int .i64 0, .int .u8 0, .int .u8 0, .int .u32 0, .int .u32 0, .slice none 0 0, .slice none 0 0] 38) := ⟨_, rfl⟩
  obtain ⟨hg1, hsz, hB, hZ⟩ := two_blk w k _ _ hW1
  obtain ⟨mb, ov, L, hT, hLA, hAok⟩ := hA
  have hb := hT.sz
  have hb1 : base ≤ W1.heap.size := Nat.le_trans hb hg1.size
  have d1 : decide (now < 0) = false := decide_eq_false (by omega)
  have d2 : decide (1099511627776 < now) = false := decide_eq_false (by omega)
  have d3 : decide (k.off < 0) = false := decide_eq_false (by omega)
  have d4 : decide (8191 < k.off) = false := decide_eq_false (by omega)
  have fin : Hid (∀ w2 w8, Grow W1 w2 → w2.grownBy w8 (some (w.heap.size + 1)) → AddedF w base tb most life ⟨A0, zeroPk, false, chk k⟩ (.returned (.tuple #[ipV zeroPk (.slice none 0 0) (.slice none 0 0), .bool false, .int .i64 (chk k)])) w8) := by
    intro w2 w8 hg2 hg8
    have g2 := hg1.trans hg2
    have o8 : Only base Za w w8 := (Only.grow g2 hb Za).fresh hg8 (by omega) hb
    exact ⟨_, _, rfl, zero_ipF _ _, ⟨mb, ov, L, (hT.grow g2).beside (fun q hq f hf e => by have := hT.firsts q hq f hf; omega) (hZ.grow hg2) (by omega) hg8, hLA, hAok⟩, o8⟩
  have HZ := Lib.hid (And.intro hZ (And.intro hsz hB))
  obtain ⟨b0, b1, b2, b3, b4, b5, b6, b7, b8, b9, b10⟩ := hB.boxd
  have cC := check_any _ k W1 (hp.ip.grow hg1) (by omega) (by omega) hp.small.2
  have q1 : ((chk k) != 0) = true := by simpa using hc
  have q2 : decide (chk k = 0) = false := decide_eq_false hc
  unfold ipV at cC
  clear hZ hB hg1 hsz hT hp hb hb1 hr
  generalize chk k = CK at *
  by_cases h0 : k.off = 0
  · have o1 : (k.off == 0) = true := by simpa using h0
    have o2 : decide (k.off = 0) = true := decide_eq_true h0
    have hm : k.more = true := by
      cases hm : k.more with
      | true => rfl
      | false => exact absurd ⟨h0, hm⟩ hcp
    have bm : W1.cell? ⟨w.heap.size, 3, none⟩ = some (.bool true) := by rw [← hm]; exact b3
    rw [hm] at cC
    clear b3 h0 hm hcp
    go_enter Try.func14, Try.ntmps14
    go_upto_if 12 with fail
    rw [← hW1]
    clear hW1
    go_wp2_with fail
    refine cC.mono ?_
    rintro e w2 ⟨rfl, hg2⟩
    have H2 := Lib.hid hg2
    clear hg2 cC
    go_wp2_with (show wpList _ _ _ (⟨none, .store 38 (.tmp 6) (.tmp 45), _, _, _, _⟩ :: _) _ _; refine wpList_store_ipB w2 rfl _ _ rfl rfl (w.heap.size + 1) rfl zeroPk zeroPk (.slice none 0 0) (.slice none 0 0) (.slice none 0 0) (.slice none 0 0) rfl rfl rfl (HZ.out.1.grow H2.out) ?_; intro w8 hF8 hg8; have H8 := Lib.hid hg8; clear hg8)
    refine bodyPost_ret (results3_ip 6 7 8 rfl _ w8 (w.heap.size + 1) zeroPk _ _ rfl hF8) rfl ?_
    exact fin.out w2 w8 H2.out H8.out
  · have o1 : (k.off == 0) = false := by simpa using h0
    have o2 : decide (k.off = 0) = false := decide_eq_false h0
    clear h0 hcp
    go_enter Try.func14, Try.ntmps14
    go_upto_if 12 with fail
    rw [← hW1]
    clear hW1
    go_wp2_with fail
    refine cC.mono ?_
    rintro e w2 ⟨rfl, hg2⟩
    have H2 := Lib.hid hg2
    clear hg2 cC
    go_wp2_with (show wpList _ _ _ (⟨none, .store 38 (.tmp 6) (.tmp 45), _, _, _, _⟩ :: _) _ _; refine wpList_store_ipB w2 rfl _ _ rfl rfl (w.heap.size + 1) rfl zeroPk zeroPk (.slice none 0 0) (.slice none 0 0) (.slice none 0 0) (.slice none 0 0) rfl rfl rfl (HZ.out.1.grow H2.out) ?_; intro w8 hF8 hg8; have H8 := Lib.hid hg8; clear hg8)
    refine bodyPost_ret (results3_ip 6 7 8 rfl _ w8 (w.heap.size + 1) zeroPk _ _ rfl hF8) rfl ?_
    exact fin.out w2 w8 H2.out H8.out

set_option maxRecDepth 10000 in
set_option maxHeartbeats 8000000 in
theorem Add_refuse (w : World) (base tb : Nat) (most life : Int) (A0 : List Wt) (hA : TabA w base tb most life A0) (now : Int) (k : Pkt) (vo vd : Value) (hp : Piece base w k vo vd) (hr : ¬ (now < 0 ∨ 1099511627776 < now ∨ k.off < 0 ∨ 8191 < k.off)) (hcp : ¬ (k.off = 0 ∧ k.more = false)) (hc : chk k = 0) (E : Int) (hE : E ≠ 0)
    (cF : ∀ W, Grow w W → Calls Try.prog 29 #[.pointer (some ⟨tb, 0, none⟩), .int .i64 now, ipV k vo vd] W fun e w' => e = .returned (.tuple #[.pointer none, .int .i64 E]) ∧ Grow W w') :
    Calls Try.prog 14 #[.pointer (some ⟨tb, 0, none⟩), .int .i64 now, ipV k vo vd] w fun e w' => AddedF w base tb most life ⟨A0, zeroPk, false, E⟩ e w' := by
  obtain ⟨A, c, rfl, _⟩ := hp.o.1.form
  obtain ⟨B, d, rfl, _⟩ := hp.d.1.form
  obtain ⟨W1, hW1⟩ : ∃ W1, W1 = (w.alloc (.cells #[.int .u8 (k.tos : Int), .int .u16 (k.ident : Int), .bool k.whole, .bool k.more, .int .i64 k.off, .int .u8 (k.ttl : Int), .int .u8 (k.proto : Int), .int .u32 (k.src : Int), .int .u32 (k.dst : Int), .slice A k.opts.length c, .slice B k.data.length d] 38)).alloc (.cells #[.int .u8 0, .int .u16 0, .bool false, .bool false, .int .i64 0, .int .u8 0, .int .u8 0, .int .u32 0, .int .u32 0, .slice none 0 0, .slice none 0 0] 38) := ⟨_, rfl⟩
  obtain ⟨hg1, hsz, hB, hZ⟩ := two_blk w k _ _ hW1
  obtain ⟨mb, ov, L, hT, hLA, hAok⟩ := hA
  have hb := hT.sz
  have hb1 : base ≤ W1.heap.size := Nat.le_trans hb hg1.size
  have d1 : decide (now < 0) = false := decide_eq_false (by omega)
  have d2 : decide (1099511627776 < now) = false := decide_eq_false (by omega)
  have d3 : decide (k.off < 0) = false := decide_eq_false (by omega)
  have d4 : decide (8191 < k.off) = false := decide_eq_false (by omega)
  have fin : Hid (∀ w2 w8, Grow W1 w2 → w2.grownBy w8 (some (w.heap.size + 1)) → AddedF w base tb most life ⟨A0, zeroPk, false, E⟩ (.returned (.tuple #[ipV zeroPk (.slice none 0 0) (.slice none 0 0), .bool false, .int .i64 E])) w8) := by
    intro w2 w8 hg2 hg8
    have g2 := hg1.trans hg2
    have o8 : Only base Za w w8 := (Only.grow g2 hb Za).fresh hg8 (by omega) hb
    exact ⟨_, _, rfl, zero_ipF _ _, ⟨mb, ov, L, (hT.grow g2).beside (fun q hq f hf e => by have := hT.firsts q hq f hf; omega) (hZ.grow hg2) (by omega) hg8, hLA, hAok⟩, o8⟩
  have HZ := Lib.hid (And.intro hZ (And.intro hsz hB))
  obtain ⟨b0, b1, b2, b3, b4, b5, b6, b7, b8, b9, b10⟩ := hB.boxd
  have cC := check_any _ k W1 (hp.ip.grow hg1) (by omega) (by omega) hp.small.2
  rw [hc] at cC
  have q1 : (E != 0) = true := by simpa using hE
  have q2 : decide (E = 0) = false := decide_eq_false hE
  have cF := fun W (g : Grow W1 W) => cF W (hg1.trans g)
  unfold ipV at cC cF
  clear hZ hB hg1 hsz hT hp hb hb1 hr hc
  by_cases h0 : k.off = 0
  · have o1 : (k.off == 0) = true := by simpa using h0
    have o2 : decide (k.off = 0) = true := decide_eq_true h0
    have hm : k.more = true := by
      cases hm : k.more with
      | true => rfl
      | false => exact absurd ⟨h0, hm⟩ hcp
    have bm : W1.cell? ⟨w.heap.size, 3, none⟩ = some (.bool true) := by rw [← hm]; exact b3
    have HBX := Lib.hid (fun w2 (g : Grow W1 w2) => show Boxd w2 w.heap.size { k with more := true } (.slice A k.opts.length c) (.slice B k.data.length d) from by have := (HZ.out.2.2.grow g).boxd; unfold Boxd at this ⊢; rw [hm] at this; exact this)
    rw [hm] at cC
    simp only [hm] at cF
    clear b3 h0 hm hcp
    go_enter Try.func14, Try.ntmps14
    go_upto_if 12 with fail
    rw [← hW1]
    clear hW1
    go_wp2_with fail
    refine cC.mono ?_
    rintro e w2 ⟨rfl, hg2⟩
    obtain ⟨e0, e1, e2, e3, e4, e5, e6, e7, e8, e9, e10⟩ := HBX.out w2 hg2
    have cG := cF w2 hg2
    have H2 := Lib.hid hg2
    clear hg2 cC cF
    go_wp2_with fail
    refine cG.mono ?_
    rintro e w3 ⟨rfl, hg3⟩
    have H3 := Lib.hid (H2.out.trans hg3)
    clear hg3 cG
    go_wp2_with (show wpList _ _ _ (⟨none, .store 38 (.tmp 6) (.tmp 56), _, _, _, _⟩ :: _) _ _; refine wpList_store_ipB w3 rfl _ _ rfl rfl (w.heap.size + 1) rfl zeroPk zeroPk (.slice none 0 0) (.slice none 0 0) (.slice none 0 0) (.slice none 0 0) rfl rfl rfl (HZ.out.1.grow H3.out) ?_; intro w8 hF8 hg8; have H8 := Lib.hid hg8; clear hg8)
    refine bodyPost_ret (results3_ip 6 7 8 rfl _ w8 (w.heap.size + 1) zeroPk _ _ rfl hF8) rfl ?_
    exact fin.out w3 w8 H3.out H8.out
  · have o1 : (k.off == 0) = false := by simpa using h0
    have o2 : decide (k.off = 0) = false := decide_eq_false h0
    have HBX := Lib.hid (fun w2 (g : Grow W1 w2) => (HZ.out.2.2.grow g).boxd)
    clear h0 hcp
    go_enter Try.func14, Try.ntmps14
    go_upto_if 12 with fail
    rw [← hW1]
    clear hW1
    go_wp2_with fail
    refine cC.mono ?_
    rintro e w2 ⟨rfl, hg2⟩
    obtain ⟨e0, e1, e2, e3, e4, e5, e6, e7, e8, e9, e10⟩ := HBX.out w2 hg2
    have cG := cF w2 hg2
    have H2 := Lib.hid hg2
    clear hg2 cC cF
    go_wp2_with fail
    refine cG.mono ?_
    rintro e w3 ⟨rfl, hg3⟩
    have H3 := Lib.hid (H2.out.trans hg3)
    clear hg3 cG
    go_wp2_with (show wpList _ _ _ (⟨none, .store 38 (.tmp 6) (.tmp 56), _, _, _, _⟩ :: _) _ _; refine wpList_store_ipB w3 rfl _ _ rfl rfl (w.heap.size + 1) rfl zeroPk zeroPk (.slice none 0 0) (.slice none 0 0) (.slice none 0 0) (.slice none 0 0) rfl rfl rfl (HZ.out.1.grow H3.out) ?_; intro w8 hF8 hg8; have H8 := Lib.hid hg8; clear hg8)
    refine bodyPost_ret (results3_ip 6 7 8 rfl _ w8 (w.heap.size + 1) zeroPk _ _ rfl hF8) rfl ?_
    exact fin.out w3 w8 H3.out H8.out
end Go.Proofs.Ytfjmcfkpbacicaa
/- Contract: Add, a fragment that is taken. -/
namespace Go.Proofs.Ytfjmcfkpbacicaa
set_option linter.unusedVariables false
set_option linter.unusedSimpArgs false
open Go.ChangeShapes Go.WideShapes Go.ChangeAt Go.RowKit Go.Shelf
attribute [local irreducible] wpQuiet

theorem eraseIdx_set_same {α : Type} (l : List α) (i : Nat) (a : α) : (l.set i a).eraseIdx i = l.eraseIdx i := by
  induction l generalizing i with
  | nil => rfl
  | cons x r ih => cases i with
    | zero => rfl
    | succ i => simp [ih]
/-- The table behind all, the result's block written. -/
theorem done_tab {w W w8 : World} {base tb mb g : Nat} {ov : Value} {most life : Int} {L : List Wp} {A : List Wt} (hT : Tab W base tb mb ov most life L) (hA : L.map absW = A) (hok : AOk A) (ho : Only base Za w W) (hb : base ≤ w.heap.size) (hg : w.heap.size ≤ g) (hn : NoG g L)
    {k : Pkt} {vo vd : Value} (hz : Blk W g k vo vd) (hg8 : W.grownBy w8 (some g)) : TabA w8 base tb most life A ∧ Only base Za w w8 :=
  ⟨⟨mb, ov, L, hT.beside hn hz (by omega) hg8, hA, hok⟩, ho.fresh hg8 hg hb⟩
theorem Byt.beside {w w' : World} {v : Value} {l : List UInt8} {g : Nat} {k : Pkt} {vo vd : Value} (h : Byt w v l) (hg : w.grownBy w' (some g)) (hv : ∀ b, v.ownBlock = some b → b ≠ g) : Byt w' v l := by
  obtain ⟨A, c, rfl, h1, h2, h3⟩ := h
  refine ⟨A, c, rfl, h1, h2, fun hp => ?_⟩
  obtain ⟨b, off, rfl, hlt, hc⟩ := h3 hp
  exact ⟨b, off, rfl, Nat.lt_of_lt_of_le hlt hg.size, fun j hj => (World.cell?_of_block (w := w) (a := ⟨b, off + j, none⟩) (hg.block b hlt (fun e => hv b rfl (by cases e; rfl)))).trans (hc j hj)⟩

set_option maxRecDepth 10000 in
set_option maxHeartbeats 16000000 in
theorem Add_go (w : World) (base tb : Nat) (most life : Int) (hb : base ≤ w.heap.size) (now : Int) (k : Pkt) (vo vd : Value) (hp : Piece base w k vo vd) (hr : ¬ (now < 0 ∨ 1099511627776 < now ∨ k.off < 0 ∨ 8191 < k.off)) (hcp : ¬ (k.off = 0 ∧ k.more = false)) (hc : chk k = 0)
    (A' : List Wt) (i : Nat) (t : Wt) (htn : t.nm = nmOf k) (htw : WOk (tookW t k)) (hAR : AOk (finS A' i (tookW t k)).L)
    (cF : ∀ W, Grow w W → Calls Try.prog 29 #[.pointer (some ⟨tb, 0, none⟩), .int .i64 now, ipV k vo vd] W fun e w' => ∃ pb, e = .returned (.tuple #[.pointer (some ⟨pb, 0, none⟩), .int .i64 0]) ∧ FoundAt w W w' base tb most life A' i t pb) :
    Calls Try.prog 14 #[.pointer (some ⟨tb, 0, none⟩), .int .i64 now, ipV k vo vd] w fun e w' => AddedF w base tb most life (finS A' i (tookW t k)) e w' := by
  obtain ⟨A, c, rfl, _⟩ := hp.o.1.form
  obtain ⟨B, d, rfl, _⟩ := hp.d.1.form
  obtain ⟨W1, hW1⟩ : ∃ W1, W1 = (w.alloc (.cells #[.int .u8 (k.tos : Int), .int .u16 (k.ident : Int), .bool k.whole, .bool k.more, .int .i64 k.off, .int .u8 (k.ttl : Int), .int .u8 (k.proto : Int), .int .u32 (k.src : Int), .int .u32 (k.dst : Int), .slice A k.opts.length c, .slice B k.data.length d] 38)).alloc (.cells #[.int .u8 0, .int .u16 0, .bool false, .bool false, .int .i64 0, .int .u8 0, .int .u8 0, .int .u32 0, .int .u32 0, .slice none 0 0, .slice none 0 0] 38) := ⟨_, rfl⟩
  obtain ⟨hg1, hsz, hB, hZ⟩ := two_blk w k _ _ hW1
  have hb1 : base ≤ W1.heap.size := Nat.le_trans hb hg1.size
  have d1 : decide (now < 0) = false := decide_eq_false (by omega)
  have d2 : decide (1099511627776 < now) = false := decide_eq_false (by omega)
  have d3 : decide (k.off < 0) = false := decide_eq_false (by omega)
  have d4 : decide (8191 < k.off) = false := decide_eq_false (by omega)
  have cC := check_any _ k W1 (hp.ip.grow hg1) (by omega) (by omega) hp.small.2
  rw [hc] at cC
  have hE : endOf k ≤ 65515 := (chk_zero hc).2.2
  have h0 : 0 ≤ k.off := by omega
  have h1 : k.off ≤ 8191 := by omega
  have HB : Hid (∀ W, Only base Za W1 W → Boxd W w.heap.size k (.slice A k.opts.length c) (.slice B k.data.length d) ∧ Blk W (w.heap.size + 1) zeroPk (.slice none 0 0) (.slice none 0 0) ∧ Piece base W k (.slice A k.opts.length c) (.slice B k.data.length d) ∧ Only base Za w W) := fun W o =>
    ⟨Blk.boxd (o.cells hB (fun e => by rcases e with (e | e | e) | e | e <;> exact absurd e (by decide))), o.cells hZ (fun e => by rcases e with (e | e | e) | e | e <;> exact absurd e (by decide)), (hp.grow hg1 hb).only o za_byte, (Only.grow hg1 hb Za).trans o⟩
  obtain ⟨b0, b1, b2, b3, b4, b5, b6, b7, b8, b9, b10⟩ := hB.boxd
  have HP := Lib.hid (And.intro hg1 (And.intro hsz (And.intro hb hb1)))
  have cF := Lib.hid (fun W (g : Grow W1 W) => cF W (hg1.trans g))
  unfold ipV at cC
  clear hZ hB hg1 hsz hp hr hc
  by_cases hz0 : k.off = 0
  · have o1 : (k.off == 0) = true := by simpa using hz0
    have o2 : decide (k.off = 0) = true := decide_eq_true hz0
    have hm : k.more = true := by
      cases hm : k.more with
      | true => rfl
      | false => exact absurd ⟨hz0, hm⟩ hcp
    have bm : W1.cell? ⟨w.heap.size, 3, none⟩ = some (.bool true) := by rw [← hm]; exact b3
    rw [hm] at cC
    clear b3 hz0 hm hcp
    go_enter Try.func14, Try.ntmps14
    go_upto_if 12 with fail
    rw [← hW1]
    clear hW1
    go_wp2_with fail
    refine cC.mono ?_
    rintro e w2 ⟨rfl, hg2⟩
    have o2 : Only base Za W1 w2 := Only.grow hg2 HP.out.2.2.2 Za
    obtain ⟨⟨e0, e1, e2, e3, e4, e5, e6, e7, e8, e9, e10⟩, _, _, _⟩ := HB.out w2 o2
    have cG := cF.out w2 hg2
    have O2 := Lib.hid (And.intro o2 (HP.out.1.trans hg2).size)
    unfold ipV at cG
    clear o2 hg2 cC b0 b1 b2 bm b4 b5 b6 b7 b8 b9 b10
    go_wp2_with fail
    refine cG.mono ?_
    rintro e w3 ⟨pb, rfl, mb, ov, L, p, hT3, hLA, hLi, hpt, hpb, o3, hfs⟩
    have o13 := O2.out.1.trans o3
    obtain ⟨bx, z3, pc3, ow3⟩ := HB.out w3 o13
    have hpm := List.mem_of_getElem? hLi
    have cT := take_any w3 base p (hT3.pk p hpm) hT3.sz k _ _ pc3 h0 h1 hE
    unfold pptr ipV at cT
    rw [hpb] at cT
    have T3 := Lib.hid (And.intro hT3 (And.intro hLA (And.intro hLi (And.intro hpt (And.intro hpb (And.intro o13 (And.intro hfs hpm)))))))
    clear e0 e1 e2 e3 e4 e5 e6 e7 e8 e9 e10
    obtain ⟨e0, e1, e2, e3, e4, e5, e6, e7, e8, e9, e10⟩ := bx
    clear hT3 hLA hLi hpt hpb o3 o13 hfs hpm z3 pc3 ow3 cG
    go_wp2_with fail
    refine cT.mono ?_
    rintro e w4 ⟨rfl, p', hTk⟩
    have hT4 := T3.out.1.set T3.out.2.2.1 hTk.pkt hTk.grows
    have o14 : Only base Za W1 w4 := T3.out.2.2.2.2.2.1.trans (hTk.grows.only.mono fun _ _ _ _ _ e => zp_za e)
    obtain ⟨bx, z4, pc4, ow4⟩ := HB.out w4 o14
    have hpb' : p'.blk = pb := hTk.grows.blk.trans T3.out.2.2.2.2.1
    have habs : absW p' = tookW t k := by rw [absW_took hTk, T3.out.2.2.2.1]
    have cM := complete_any w4 base p' hTk.pkt
    rw [full_abs, habs] at cM
    unfold pptr at cM
    rw [hpb'] at cM
    have T4 := Lib.hid (And.intro hT4 (And.intro hTk (And.intro o14 (And.intro hpb' habs))))
    clear e0 e1 e2 e3 e4 e5 e6 e7 e8 e9 e10
    clear bx hT4 hTk o14 hpb' habs z4 pc4 ow4 cT
    have hnoG : Hid (NoG (w.heap.size + 1) (L.set i p')) := by
      intro q hq f hf e
      rcases List.mem_or_eq_of_mem_set hq with h1 | h1
      · have := T3.out.2.2.2.2.2.2.1 q h1 f hf
        omega
      · rw [h1] at hf
        rcases T4.out.2.1.fresh f hf with h2 | h2
        · have := T3.out.2.2.2.2.2.2.1 p T3.out.2.2.2.2.2.2.2 f h2
          omega
        · have h4 := O2.out.2
          have h3 := (T3.out.2.2.2.2.2.1).size
          have h5 := HP.out.2.1
          omega
    have hmapS : Hid ((L.set i p').map absW = A'.set i (tookW t k)) := by
      show _ = _
      rw [List.map_set, T3.out.2.1, T4.out.2.2.2.2]
    cases hF : fullW (tookW t k) with
    | false =>
      rw [hF] at cM
      have HF := Lib.hid hF
      clear hF
      go_wp2_with (first
        | (show wpList _ _ _ (⟨none, .store 38 (.tmp 6) (.tmp 64), _, _, _, _⟩ :: _) _ _; refine wpList_store_ipB w5 rfl _ _ rfl rfl (w.heap.size + 1) rfl zeroPk zeroPk (.slice none 0 0) (.slice none 0 0) (.slice none 0 0) (.slice none 0 0) rfl rfl rfl (HB.out w5 O5.out).2.1 ?_; intro w8 hF8 hg8; have H8 := Lib.hid hg8; clear hg8)
        | (go_at_call 31; refine cM.mono ?_; rintro e w5 ⟨rfl, hg5⟩; have O5 := Lib.hid (T4.out.2.2.1.trans (Only.grow hg5 T4.out.1.sz Za)); have G5 := Lib.hid hg5; clear hg5))
      refine bodyPost_ret (results3_ip 6 7 8 rfl _ w8 (w.heap.size + 1) zeroPk _ _ rfl hF8) rfl ?_
      have hfs : finS A' i (tookW t k) = ⟨A'.set i (tookW t k), zeroPk, false, 0⟩ := by unfold finS; rw [if_neg (by rw [HF.out]; simp)]
      rw [hfs] at hAR ⊢
      obtain ⟨ta, oa⟩ := done_tab (T4.out.1.grow G5.out) hmapS.out hAR (HB.out w5 O5.out).2.2.2 hb (Nat.le_succ _) hnoG.out (HB.out w5 O5.out).2.1 H8.out
      exact ⟨_, _, rfl, zero_ipF _ _, ta, oa⟩
    | true =>
      rw [hF] at cM
      have HF := Lib.hid hF
      clear hF
      obtain ⟨k1, hk1⟩ := fullW_first htw HF.out
      obtain ⟨f, hff, hfk⟩ : ∃ f, p'.first = some f ∧ f.q.k = k1 := by
        have e1 : (absW p').first = some k1 := by rw [T4.out.2.2.2.2]; exact hk1
        have e2 : p'.first.map (fun f => f.q.k) = some k1 := e1
        obtain ⟨f, h1, h2⟩ := Option.map_eq_some_iff.1 e2
        exact ⟨f, h1, h2⟩
      have hflat : flat p'.ns = bytesC (tookW t k).c := full_flat T4.out.2.1.pkt.laid (by rw [← T4.out.2.2.2.2]; rfl) htw HF.out
      have hpn : p'.nm = nmOf k := by
        have e1 : (absW p').nm = t.nm := by rw [T4.out.2.2.2.2]; rfl
        exact e1.trans htn
      have HN := Lib.hid (And.intro hk1 (And.intro hff (And.intro hfk (And.intro hflat hpn))))
      clear hk1 hff hfk hflat hpn
      go_wp2_with fail
      refine cM.mono ?_
      rintro e w5 ⟨rfl, hg5⟩
      have o15 := T4.out.2.2.1.trans (Only.grow hg5 T4.out.1.sz Za)
      obtain ⟨bx, z5, pc5, ow5⟩ := HB.out w5 o15
      have cNm := nameOf_any _ k w5 pc5.ip
      unfold ipV nmV at cNm
      obtain ⟨e0, e1, e2, e3, e4, e5, e6, e7, e8, e9, e10⟩ := bx
      have T5 := Lib.hid (And.intro (T4.out.1.grow hg5) (And.intro (T4.out.2.1.pkt.grow hg5 T4.out.1.sz) o15))
      clear o15 z5 pc5 ow5 hg5 cM
      go_wp2_with fail
      refine cNm.mono ?_
      rintro e w6 ⟨rfl, hg6⟩
      have hT6 := T5.out.1.grow hg6
      have hset : (L.set i p')[i]? = some p' := by
        obtain ⟨h1, _⟩ := List.getElem?_eq_some_iff.1 T3.out.2.2.1
        rw [List.getElem?_eq_getElem (by rw [List.length_set]; exact h1), List.getElem_set_self]
      have cRm := remove_any w6 base tb mb ov most life (L.set i p') hT6 i p' hset
      rw [HN.out.2.2.2.2] at cRm
      unfold nmV at cRm
      have T6 := Lib.hid (And.intro (T5.out.2.1.grow hg6 T5.out.1.sz) (T5.out.2.2.trans (Only.grow hg6 T5.out.1.sz Za)))
      clear e0 e1 e2 e3 e4 e5 e6 e7 e8 e9 e10 hT6 hset hg6 cNm
      go_wp2_with fail
      refine cRm.mono ?_
      rintro e w7 ⟨rfl, ov7, hT7, oZ7⟩
      have hp7 : PktAt w7 base p' := T6.out.1.only oZ7 (zt_no (by decide) (by decide) (by decide)) (fun b _ => zt_no (by decide) (by decide) (by decide)) zt_byte zt_ip
      have cJ := join_any w7 base p' hp7 hT7.sz f HN.out.2.1
      rw [HN.out.2.2.1, HN.out.2.2.2.1] at cJ
      unfold pptr at cJ
      rw [T4.out.2.2.2.1] at cJ
      have hf7 := hp7.first f HN.out.2.1
      have T7 := Lib.hid (And.intro hT7 (And.intro (T6.out.2.trans (oZ7.mono fun _ _ _ _ _ e => zt_za e)) hf7))
      clear hT7 oZ7 hp7 cRm hf7
      have hmapE : Hid (((L.set i p').eraseIdx i).map absW = A'.eraseIdx i) := by
        show _ = _
        rw [ChangeMaps.map_eraseIdx, hmapS.out, eraseIdx_set_same]
      have hnoE : Hid (NoG (w.heap.size + 1) ((L.set i p').eraseIdx i)) := fun q hq => hnoG.out q (List.mem_of_mem_eraseIdx hq)
      have hg7 : w.heap.size + 1 < w7.heap.size := by
        have := T7.out.2.1.size
        have := HP.out.2.1
        omega
      have hgD : (tookW t k).first.getD zeroPk = k1 := by rw [HN.out.1]; rfl
      by_cases hlen : 65535 < (wholeK k1 (bytesC (tookW t k).c)).len
      · have hfs : finS A' i (tookW t k) = ⟨A'.eraseIdx i, zeroPk, false, 9⟩ := by unfold finS; rw [if_pos HF.out, hgD, if_pos hlen]
        rw [hfs] at hAR
        have HFS := Lib.hid hfs
        have HAR := Lib.hid hAR
        have HLN := Lib.hid hlen
        clear hfs hgD hlen hAR
        go_wp2_with (first
          | (show wpList _ _ _ (⟨none, .store 38 (.tmp 6) (.tmp 71), _, _, _, _⟩ :: _) _ _; refine wpList_store_ipB w8 rfl _ _ rfl rfl (w.heap.size + 1) rfl zeroPk zeroPk (.slice none 0 0) (.slice none 0 0) (.slice none 0 0) (.slice none 0 0) rfl rfl rfl ((HB.out w7 T7.out.2.1).2.1.grow G8.out) ?_; intro w9 hF9 hg9; have H9 := Lib.hid hg9; clear hg9)
          | (go_at_call 33; refine cJ.mono ?_; rintro e w8 ⟨vo8, vd8, hg8, hl8, _⟩; obtain rfl := hl8 HLN.out; have G8 := Lib.hid hg8; clear hg8 hl8))
        refine bodyPost_ret (results3_ip 6 7 8 rfl _ w9 (w.heap.size + 1) zeroPk _ _ rfl hF9) rfl ?_
        rw [HFS.out]
        obtain ⟨ta, oa⟩ := done_tab (T7.out.1.grow G8.out) hmapE.out HAR.out ((HB.out w7 T7.out.2.1).2.2.2.trans (Only.grow G8.out T7.out.1.sz Za)) hb (Nat.le_succ _) hnoE.out ((HB.out w7 T7.out.2.1).2.1.grow G8.out) H9.out
        exact ⟨_, _, rfl, zero_ipF _ _, ta, oa⟩
      · have hfs : finS A' i (tookW t k) = ⟨A'.eraseIdx i, wholeK k1 (bytesC (tookW t k).c), true, 0⟩ := by unfold finS; rw [if_pos HF.out, hgD, if_neg hlen]
        rw [hfs] at hAR
        obtain ⟨WK, hWK⟩ : ∃ WK, wholeK k1 (bytesC (tookW t k).c) = WK := ⟨_, rfl⟩
        rw [hWK] at cJ hfs
        have HFS := Lib.hid hfs
        have HAR := Lib.hid hAR
        have HLN := Lib.hid hlen
        have HWK := Lib.hid hWK
        clear hfs hgD hlen hAR hWK
        go_wp2_with (first
          | (show wpList _ _ _ (⟨none, .store 38 (.tmp 6) (.tmp 71), _, _, _, _⟩ :: _) _ _; refine wpList_store_ipB w8 rfl _ _ rfl rfl (w.heap.size + 1) rfl WK zeroPk (.slice A8 n8 c8) (.slice B8 m8 c9) (.slice none 0 0) (.slice none 0 0) rfl rfl rfl ((HB.out w7 T7.out.2.1).2.1.grow G8.out.1) ?_; intro w9 hF9 hg9; have H9 := Lib.hid hg9; clear hg9)
          | (go_at_call 33; refine cJ.mono ?_; rintro e w8 ⟨vo8, vd8, hg8, _, hl8⟩; obtain ⟨rfl, ho8, hd8⟩ := hl8 (by have := HLN.out; rw [HWK.out] at this; exact this); obtain ⟨A8, n8, c8, rfl, hn8⟩ := ho8.byt.form2; obtain ⟨B8, m8, c9, rfl, hm8⟩ := hd8.byt.form2; have G8 := Lib.hid (And.intro hg8 (And.intro ho8 hd8)); clear hg8 hl8 ho8 hd8 hn8 hm8))
        refine bodyPost_ret (results3_ip 6 7 8 rfl _ w9 (w.heap.size + 1) WK _ _ rfl hF9) rfl ?_
        rw [HFS.out]
        have hz8 := (HB.out w7 T7.out.2.1).2.1.grow G8.out.1
        have hgb : base ≤ w.heap.size + 1 := Nat.le_succ_of_le hb
        have hb8 : base ≤ w8.heap.size := Nat.le_trans T7.out.1.sz G8.out.1.size
        obtain ⟨ta, oa⟩ := done_tab (T7.out.1.grow G8.out.1) hmapE.out HAR.out ((HB.out w7 T7.out.2.1).2.2.2.trans (Only.grow G8.out.1 T7.out.1.sz Za)) hb (Nat.le_succ _) hnoE.out hz8 H9.out
        have o89 : Only base (fun b T => b = w.heap.size + 1 ∧ T = 38) w8 w9 := Only.grown H9.out (fun b e => by
          cases e
          exact ⟨hgb, fun o T ho hT => by rw [show w8.heap[w.heap.size + 1]? = _ from hz8] at ho; cases ho; cases hT; exact ⟨rfl, rfl⟩⟩) hb8
        have hWo : WK.opts = f.q.k.opts := by rw [← HWK.out, HN.out.2.2.1]; rfl
        have hWd : WK.data = bytesC (tookW t k).c := by rw [← HWK.out]; rfl
        have hkk := (T7.out.2.2.2.2.2.2.1)
        rw [HN.out.2.2.1] at hkk
        have hWok : WK.Ok := by rw [← HWK.out]; exact ⟨hkk.tos, hkk.ident, hkk.off1, hkk.off2, hkk.ttl, hkk.proto, hkk.src, hkk.dst⟩
        exact ⟨_, _, rfl, ⟨by rw [hWo]; exact Firm.own (o89.row (by rw [HN.out.2.2.1]; exact G8.out.2.1) (fun b _ e => absurd e.2 (by decide))), by rw [hWd]; exact Firm.own (o89.row G8.out.2.2 (fun b _ e => absurd e.2 (by decide))), hWok⟩, ta, oa⟩
  · have o1 : (k.off == 0) = false := by simpa using hz0
    have o2 : decide (k.off = 0) = false := decide_eq_false hz0
    clear hz0 hcp
    go_enter Try.func14, Try.ntmps14
    go_upto_if 12 with fail
    rw [← hW1]
    clear hW1
    go_wp2_with fail
    refine cC.mono ?_
    rintro e w2 ⟨rfl, hg2⟩
    have o2 : Only base Za W1 w2 := Only.grow hg2 HP.out.2.2.2 Za
    obtain ⟨⟨e0, e1, e2, e3, e4, e5, e6, e7, e8, e9, e10⟩, _, _, _⟩ := HB.out w2 o2
    have cG := cF.out w2 hg2
    have O2 := Lib.hid (And.intro o2 (HP.out.1.trans hg2).size)
    unfold ipV at cG
    clear o2 hg2 cC b0 b1 b2 b3 b4 b5 b6 b7 b8 b9 b10
    go_wp2_with fail
    refine cG.mono ?_
    rintro e w3 ⟨pb, rfl, mb, ov, L, p, hT3, hLA, hLi, hpt, hpb, o3, hfs⟩
    have o13 := O2.out.1.trans o3
    obtain ⟨bx, z3, pc3, ow3⟩ := HB.out w3 o13
    have hpm := List.mem_of_getElem? hLi
    have cT := take_any w3 base p (hT3.pk p hpm) hT3.sz k _ _ pc3 h0 h1 hE
    unfold pptr ipV at cT
    rw [hpb] at cT
    have T3 := Lib.hid (And.intro hT3 (And.intro hLA (And.intro hLi (And.intro hpt (And.intro hpb (And.intro o13 (And.intro hfs hpm)))))))
    clear e0 e1 e2 e3 e4 e5 e6 e7 e8 e9 e10
    obtain ⟨e0, e1, e2, e3, e4, e5, e6, e7, e8, e9, e10⟩ := bx
    clear hT3 hLA hLi hpt hpb o3 o13 hfs hpm z3 pc3 ow3 cG
    go_wp2_with fail
    refine cT.mono ?_
    rintro e w4 ⟨rfl, p', hTk⟩
    have hT4 := T3.out.1.set T3.out.2.2.1 hTk.pkt hTk.grows
    have o14 : Only base Za W1 w4 := T3.out.2.2.2.2.2.1.trans (hTk.grows.only.mono fun _ _ _ _ _ e => zp_za e)
    obtain ⟨bx, z4, pc4, ow4⟩ := HB.out w4 o14
    have hpb' : p'.blk = pb := hTk.grows.blk.trans T3.out.2.2.2.2.1
    have habs : absW p' = tookW t k := by rw [absW_took hTk, T3.out.2.2.2.1]
    have cM := complete_any w4 base p' hTk.pkt
    rw [full_abs, habs] at cM
    unfold pptr at cM
    rw [hpb'] at cM
    have T4 := Lib.hid (And.intro hT4 (And.intro hTk (And.intro o14 (And.intro hpb' habs))))
    clear e0 e1 e2 e3 e4 e5 e6 e7 e8 e9 e10
    clear bx hT4 hTk o14 hpb' habs z4 pc4 ow4 cT
    have hnoG : Hid (NoG (w.heap.size + 1) (L.set i p')) := by
      intro q hq f hf e
      rcases List.mem_or_eq_of_mem_set hq with h1 | h1
      · have := T3.out.2.2.2.2.2.2.1 q h1 f hf
        omega
      · rw [h1] at hf
        rcases T4.out.2.1.fresh f hf with h2 | h2
        · have := T3.out.2.2.2.2.2.2.1 p T3.out.2.2.2.2.2.2.2 f h2
          omega
        · have h4 := O2.out.2
          have h3 := (T3.out.2.2.2.2.2.1).size
          have h5 := HP.out.2.1
          omega
    have hmapS : Hid ((L.set i p').map absW = A'.set i (tookW t k)) := by
      show _ = _
      rw [List.map_set, T3.out.2.1, T4.out.2.2.2.2]
    cases hF : fullW (tookW t k) with
    | false =>
      rw [hF] at cM
      have HF := Lib.hid hF
      clear hF
      go_wp2_with (first
        | (show wpList _ _ _ (⟨none, .store 38 (.tmp 6) (.tmp 64), _, _, _, _⟩ :: _) _ _; refine wpList_store_ipB w5 rfl _ _ rfl rfl (w.heap.size + 1) rfl zeroPk zeroPk (.slice none 0 0) (.slice none 0 0) (.slice none 0 0) (.slice none 0 0) rfl rfl rfl (HB.out w5 O5.out).2.1 ?_; intro w8 hF8 hg8; have H8 := Lib.hid hg8; clear hg8)
        | (go_at_call 31; refine cM.mono ?_; rintro e w5 ⟨rfl, hg5⟩; have O5 := Lib.hid (T4.out.2.2.1.trans (Only.grow hg5 T4.out.1.sz Za)); have G5 := Lib.hid hg5; clear hg5))
      refine bodyPost_ret (results3_ip 6 7 8 rfl _ w8 (w.heap.size + 1) zeroPk _ _ rfl hF8) rfl ?_
      have hfs : finS A' i (tookW t k) = ⟨A'.set i (tookW t k), zeroPk, false, 0⟩ := by unfold finS; rw [if_neg (by rw [HF.out]; simp)]
      rw [hfs] at hAR ⊢
      obtain ⟨ta, oa⟩ := done_tab (T4.out.1.grow G5.out) hmapS.out hAR (HB.out w5 O5.out).2.2.2 hb (Nat.le_succ _) hnoG.out (HB.out w5 O5.out).2.1 H8.out
      exact ⟨_, _, rfl, zero_ipF _ _, ta, oa⟩
    | true =>
      rw [hF] at cM
      have HF := Lib.hid hF
      clear hF
      obtain ⟨k1, hk1⟩ := fullW_first htw HF.out
      obtain ⟨f, hff, hfk⟩ : ∃ f, p'.first = some f ∧ f.q.k = k1 := by
        have e1 : (absW p').first = some k1 := by rw [T4.out.2.2.2.2]; exact hk1
        have e2 : p'.first.map (fun f => f.q.k) = some k1 := e1
        obtain ⟨f, h1, h2⟩ := Option.map_eq_some_iff.1 e2
        exact ⟨f, h1, h2⟩
      have hflat : flat p'.ns = bytesC (tookW t k).c := full_flat T4.out.2.1.pkt.laid (by rw [← T4.out.2.2.2.2]; rfl) htw HF.out
      have hpn : p'.nm = nmOf k := by
        have e1 : (absW p').nm = t.nm := by rw [T4.out.2.2.2.2]; rfl
        exact e1.trans htn
      have HN := Lib.hid (And.intro hk1 (And.intro hff (And.intro hfk (And.intro hflat hpn))))
      clear hk1 hff hfk hflat hpn
      go_wp2_with fail
      refine cM.mono ?_
      rintro e w5 ⟨rfl, hg5⟩
      have o15 := T4.out.2.2.1.trans (Only.grow hg5 T4.out.1.sz Za)
      obtain ⟨bx, z5, pc5, ow5⟩ := HB.out w5 o15
      have cNm := nameOf_any _ k w5 pc5.ip
      unfold ipV nmV at cNm
      obtain ⟨e0, e1, e2, e3, e4, e5, e6, e7, e8, e9, e10⟩ := bx
      have T5 := Lib.hid (And.intro (T4.out.1.grow hg5) (And.intro (T4.out.2.1.pkt.grow hg5 T4.out.1.sz) o15))
      clear o15 z5 pc5 ow5 hg5 cM
      go_wp2_with fail
      refine cNm.mono ?_
      rintro e w6 ⟨rfl, hg6⟩
      have hT6 := T5.out.1.grow hg6
      have hset : (L.set i p')[i]? = some p' := by
        obtain ⟨h1, _⟩ := List.getElem?_eq_some_iff.1 T3.out.2.2.1
        rw [List.getElem?_eq_getElem (by rw [List.length_set]; exact h1), List.getElem_set_self]
      have cRm := remove_any w6 base tb mb ov most life (L.set i p') hT6 i p' hset
      rw [HN.out.2.2.2.2] at cRm
      unfold nmV at cRm
      have T6 := Lib.hid (And.intro (T5.out.2.1.grow hg6 T5.out.1.sz) (T5.out.2.2.trans (Only.grow hg6 T5.out.1.sz Za)))
      clear e0 e1 e2 e3 e4 e5 e6 e7 e8 e9 e10 hT6 hset hg6 cNm
      go_wp2_with fail
      refine cRm.mono ?_
      rintro e w7 ⟨rfl, ov7, hT7, oZ7⟩
      have hp7 : PktAt w7 base p' := T6.out.1.only oZ7 (zt_no (by decide) (by decide) (by decide)) (fun b _ => zt_no (by decide) (by decide) (by decide)) zt_byte zt_ip
      have cJ := join_any w7 base p' hp7 hT7.sz f HN.out.2.1
      rw [HN.out.2.2.1, HN.out.2.2.2.1] at cJ
      unfold pptr at cJ
      rw [T4.out.2.2.2.1] at cJ
      have hf7 := hp7.first f HN.out.2.1
      have T7 := Lib.hid (And.intro hT7 (And.intro (T6.out.2.trans (oZ7.mono fun _ _ _ _ _ e => zt_za e)) hf7))
      clear hT7 oZ7 hp7 cRm hf7
      have hmapE : Hid (((L.set i p').eraseIdx i).map absW = A'.eraseIdx i) := by
        show _ = _
        rw [ChangeMaps.map_eraseIdx, hmapS.out, eraseIdx_set_same]
      have hnoE : Hid (NoG (w.heap.size + 1) ((L.set i p').eraseIdx i)) := fun q hq => hnoG.out q (List.mem_of_mem_eraseIdx hq)
      have hg7 : w.heap.size + 1 < w7.heap.size := by
        have := T7.out.2.1.size
        have := HP.out.2.1
        omega
      have hgD : (tookW t k).first.getD zeroPk = k1 := by rw [HN.out.1]; rfl
      by_cases hlen : 65535 < (wholeK k1 (bytesC (tookW t k).c)).len
      · have hfs : finS A' i (tookW t k) = ⟨A'.eraseIdx i, zeroPk, false, 9⟩ := by unfold finS; rw [if_pos HF.out, hgD, if_pos hlen]
        rw [hfs] at hAR
        have HFS := Lib.hid hfs
        have HAR := Lib.hid hAR
        have HLN := Lib.hid hlen
        clear hfs hgD hlen hAR
        go_wp2_with (first
          | (show wpList _ _ _ (⟨none, .store 38 (.tmp 6) (.tmp 71), _, _, _, _⟩ :: _) _ _; refine wpList_store_ipB w8 rfl _ _ rfl rfl (w.heap.size + 1) rfl zeroPk zeroPk (.slice none 0 0) (.slice none 0 0) (.slice none 0 0) (.slice none 0 0) rfl rfl rfl ((HB.out w7 T7.out.2.1).2.1.grow G8.out) ?_; intro w9 hF9 hg9; have H9 := Lib.hid hg9; clear hg9)
          | (go_at_call 33; refine cJ.mono ?_; rintro e w8 ⟨vo8, vd8, hg8, hl8, _⟩; obtain rfl := hl8 HLN.out; have G8 := Lib.hid hg8; clear hg8 hl8))
        refine bodyPost_ret (results3_ip 6 7 8 rfl _ w9 (w.heap.size + 1) zeroPk _ _ rfl hF9) rfl ?_
        rw [HFS.out]
        obtain ⟨ta, oa⟩ := done_tab (T7.out.1.grow G8.out) hmapE.out HAR.out ((HB.out w7 T7.out.2.1).2.2.2.trans (Only.grow G8.out T7.out.1.sz Za)) hb (Nat.le_succ _) hnoE.out ((HB.out w7 T7.out.2.1).2.1.grow G8.out) H9.out
        exact ⟨_, _, rfl, zero_ipF _ _, ta, oa⟩
      · have hfs : finS A' i (tookW t k) = ⟨A'.eraseIdx i, wholeK k1 (bytesC (tookW t k).c), true, 0⟩ := by unfold finS; rw [if_pos HF.out, hgD, if_neg hlen]
        rw [hfs] at hAR
        obtain ⟨WK, hWK⟩ : ∃ WK, wholeK k1 (bytesC (tookW t k).c) = WK := ⟨_, rfl⟩
        rw [hWK] at cJ hfs
        have HFS := Lib.hid hfs
        have HAR := Lib.hid hAR
        have HLN := Lib.hid hlen
        have HWK := Lib.hid hWK
        clear hfs hgD hlen hAR hWK
        go_wp2_with (first
          | (show wpList _ _ _ (⟨none, .store 38 (.tmp 6) (.tmp 71), _, _, _, _⟩ :: _) _ _; refine wpList_store_ipB w8 rfl _ _ rfl rfl (w.heap.size + 1) rfl WK zeroPk (.slice A8 n8 c8) (.slice B8 m8 c9) (.slice none 0 0) (.slice none 0 0) rfl rfl rfl ((HB.out w7 T7.out.2.1).2.1.grow G8.out.1) ?_; intro w9 hF9 hg9; have H9 := Lib.hid hg9; clear hg9)
          | (go_at_call 33; refine cJ.mono ?_; rintro e w8 ⟨vo8, vd8, hg8, _, hl8⟩; obtain ⟨rfl, ho8, hd8⟩ := hl8 (by have := HLN.out; rw [HWK.out] at this; exact this); obtain ⟨A8, n8, c8, rfl, hn8⟩ := ho8.byt.form2; obtain ⟨B8, m8, c9, rfl, hm8⟩ := hd8.byt.form2; have G8 := Lib.hid (And.intro hg8 (And.intro ho8 hd8)); clear hg8 hl8 ho8 hd8 hn8 hm8))
        refine bodyPost_ret (results3_ip 6 7 8 rfl _ w9 (w.heap.size + 1) WK _ _ rfl hF9) rfl ?_
        rw [HFS.out]
        have hz8 := (HB.out w7 T7.out.2.1).2.1.grow G8.out.1
        have hgb : base ≤ w.heap.size + 1 := Nat.le_succ_of_le hb
        have hb8 : base ≤ w8.heap.size := Nat.le_trans T7.out.1.sz G8.out.1.size
        obtain ⟨ta, oa⟩ := done_tab (T7.out.1.grow G8.out.1) hmapE.out HAR.out ((HB.out w7 T7.out.2.1).2.2.2.trans (Only.grow G8.out.1 T7.out.1.sz Za)) hb (Nat.le_succ _) hnoE.out hz8 H9.out
        have o89 : Only base (fun b T => b = w.heap.size + 1 ∧ T = 38) w8 w9 := Only.grown H9.out (fun b e => by
          cases e
          exact ⟨hgb, fun o T ho hT => by rw [show w8.heap[w.heap.size + 1]? = _ from hz8] at ho; cases ho; cases hT; exact ⟨rfl, rfl⟩⟩) hb8
        have hWo : WK.opts = f.q.k.opts := by rw [← HWK.out, HN.out.2.2.1]; rfl
        have hWd : WK.data = bytesC (tookW t k).c := by rw [← HWK.out]; rfl
        have hkk := (T7.out.2.2.2.2.2.2.1)
        rw [HN.out.2.2.1] at hkk
        have hWok : WK.Ok := by rw [← HWK.out]; exact ⟨hkk.tos, hkk.ident, hkk.off1, hkk.off2, hkk.ttl, hkk.proto, hkk.src, hkk.dst⟩
        exact ⟨_, _, rfl, ⟨by rw [hWo]; exact Firm.own (o89.row (by rw [HN.out.2.2.1]; exact G8.out.2.1) (fun b _ e => absurd e.2 (by decide))), by rw [hWd]; exact Firm.own (o89.row G8.out.2.2 (fun b _ e => absurd e.2 (by decide))), hWok⟩, ta, oa⟩
end Go.Proofs.Ytfjmcfkpbacicaa
/- Contract: Add. -/
namespace Go.Proofs.Ytfjmcfkpbacicaa
set_option linter.unusedVariables false
set_option linter.unusedSimpArgs false
open Go.ChangeShapes Go.WideShapes Go.ChangeAt Go.RowKit Go.Shelf

theorem stale_fresh (x : Nm) (till : Int) (k : Pkt) (h0 : 0 ≤ k.off) : staleB (freshW x till).fin (freshW x till).c.length k = false := by
  unfold staleB freshW
  simp only [ne_eq, not_true_eq_false, if_false, List.length_nil]
  have : 0 ≤ endOf k := by unfold endOf; omega
  simp
  intro _
  exact this
theorem abs_fresh (x : Nm) (b : Nat) (till : Int) : absW (fresh x b till) = freshW x till := rfl
theorem abs_at {L : List Wp} {A : List Wt} (h : L.map absW = A) {i : Nat} {t : Wt} (ht : A[i]? = some t) : ∃ p, L[i]? = some p ∧ absW p = t := by
  rw [← h, List.getElem?_map] at ht
  obtain ⟨p, h1, h2⟩ := Option.map_eq_some_iff.1 ht
  exact ⟨p, h1, h2⟩
set_option maxHeartbeats 2000000 in
theorem RsAdd_anyF (w : World) (base tb : Nat) (most life : Int) (A : List Wt) (hA : TabA w base tb most life A) (now : Int) (k : Pkt) (vo vd : Value) (hp : Piece base w k vo vd) :
    Calls Try.prog 14 #[.pointer (some ⟨tb, 0, none⟩), .int .i64 now, ipV k vo vd] w fun e w' => AddedF w base tb most life (addS most life now k A) e w' := by
  obtain ⟨mb, ov, L, hT, hLA, hAok⟩ := id hA
  have hAR : AOk (addS most life now k A).L := addS_ok hAok hp.ok hp.small
  have hb : base ≤ w.heap.size := hT.sz
  have hlen : A.length = L.length := by rw [← hLA, List.length_map]
  unfold addS at hAR ⊢
  by_cases hr : now < 0 ∨ 1099511627776 < now ∨ k.off < 0 ∨ 8191 < k.off
  · rw [if_pos hr]
    exact Add_range w base tb most life A hA now k vo vd hp hr
  rw [if_neg hr] at hAR ⊢
  by_cases hcp : k.off = 0 ∧ k.more = false
  · rw [if_pos hcp]
    exact Add_whole w base tb most life A hA now k vo vd hp hr hcp.1 hcp.2
  rw [if_neg hcp] at hAR ⊢
  by_cases hc : chk k ≠ 0
  · rw [if_pos hc]
    exact Add_check w base tb most life A hA now k vo vd hp hr hcp hc
  rw [if_neg hc] at hAR ⊢
  have hc : chk k = 0 := by simpa using hc
  have hnow : 0 ≤ now ∧ now ≤ 1099511627776 := by omega
  have h0 : 0 ≤ k.off := by omega
  have h1 : k.off ≤ 8191 := by omega
  cases hix : idxOf A (nmOf k) with
  | none =>
    rw [hix] at hAR
    simp only at hAR ⊢
    have hx0 : nmOf k ∉ L.map Wp.nm := by rw [← absW_nm, hLA]; exact idxOf_none hix
    by_cases hful : most ≤ (A.length : Int)
    · rw [if_pos hful]
      exact Add_refuse w base tb most life A hA now k vo vd hp hr hcp hc 5 (by decide) fun W g => find_full W base tb mb ov most life L (hT.grow g) now hnow k vo vd (hp.grow g hb) h0 h1 hx0 (by rw [← hlen]; exact hful)
    · rw [if_neg hful] at hAR ⊢
      refine Add_go w base tb most life hb now k vo vd hp hr hcp hc (A ++ [freshW (nmOf k) (now + life)]) A.length (freshW (nmOf k) (now + life)) rfl (tookW_ok (freshW_ok _ _) (stale_fresh _ _ _ h0) h0 hc hp.ok hp.small).1 hAR fun W g => (find_new W base tb mb ov most life L (hT.grow g) now hnow k vo vd (hp.grow g hb) h0 h1 hx0 (by rw [← hlen]; exact hful)).mono ?_
      rintro e wf ⟨ov', pb, rfl, hT', o, hpb⟩
      refine ⟨pb, rfl, mb, ov', _, fresh (nmOf k) pb (now + life), hT', ?_, ?_, rfl, rfl, o.mono fun _ _ _ _ _ e => zt_za e, ?_⟩
      · rw [List.map_append, hLA]
        rfl
      · rw [hlen, List.getElem?_append_right (Nat.le_refl _), Nat.sub_self]
        rfl
      · intro q hq f hf
        rcases List.mem_append.1 hq with h2 | h2
        · exact hT.firsts q h2 f hf
        · obtain rfl : q = fresh (nmOf k) pb (now + life) := by simpa using h2
          cases hf
  | some i =>
    rw [hix] at hAR
    obtain ⟨t, ht, htn⟩ := idxOf_some hix
    simp only [ht] at hAR ⊢
    obtain ⟨p, hLi, hpt⟩ := abs_at hLA ht
    have htm := List.mem_of_getElem? ht
    have hpm := List.mem_of_getElem? hLi
    have hne : p.rows ≠ [] := by
      intro e
      refine (hAok t htm).2 ?_
      rw [← hpt]
      unfold absW Wp.ns
      rw [e]
      rfl
    have hreach : reach 0 p.ns = t.c.length := by
      rw [← hpt]
      show _ = (cont 0 p.ns).length
      rw [cont_length _ _ (hT.pk p hpm).laid, Nat.sub_zero]
    have hfin : p.fin = t.fin := by rw [← hpt]; rfl
    have hpn : p.nm = nmOf k := by rw [← htn, ← hpt]; rfl
    by_cases hst : staleB t.fin t.c.length k = true
    · rw [if_pos hst]
      exact Add_refuse w base tb most life A hA now k vo vd hp hr hcp hc 120 (by decide) fun W g => find_stale W base tb mb ov most life L (hT.grow g) now hnow k vo vd (hp.grow g hb) h0 h1 i p hLi hpn hne (by rw [hfin, hreach]; exact hst)
    · rw [if_neg hst] at hAR ⊢
      have hst : staleB t.fin t.c.length k = false := by simpa using hst
      refine Add_go w base tb most life hb now k vo vd hp hr hcp hc A i t htn (tookW_ok (hAok t htm).1 hst h0 hc hp.ok hp.small).1 hAR fun W g => (find_old W base tb mb ov most life L (hT.grow g) now hnow k vo vd (hp.grow g hb) h0 h1 i p hLi hpn hne (by rw [hfin, hreach]; exact hst)).mono ?_
      rintro e wf ⟨rfl, hg⟩
      exact ⟨p.blk, rfl, mb, ov, L, p, (hT.grow g).grow hg, hLA, hLi, hpt, rfl, Only.grow hg (Nat.le_trans hb g.size) Za, hT.firsts⟩
theorem RsAdd_any (w : World) (base tb : Nat) (most life : Int) (A : List Wt) (hA : TabA w base tb most life A) (now : Int) (k : Pkt) (vo vd : Value) (hp : Piece base w k vo vd) :
    Calls Try.prog 14 #[.pointer (some ⟨tb, 0, none⟩), .int .i64 now, ipV k vo vd] w fun e w' => Added w base tb most life (addS most life now k A) e w' :=
  (RsAdd_anyF w base tb most life A hA now k vo vd hp).mono fun _ _ h => h.added
end Go.Proofs.Ytfjmcfkpbacicaa
