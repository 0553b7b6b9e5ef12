/- Contract: Add, where nothing begins to wait and nothing comes in. -/
import Derived.Test.YtmnemkeieaflhaaC12
namespace Go.Proofs.Ytmnemkeieaflhaa
set_option linter.unusedVariables false
set_option linter.unusedSimpArgs false
open Go.ChangeShapes Go.WideShapes Go.ChangeAt Go.RowKit Go.Shelf

/-- What Add answers. -/
def Added (w : World) (base tb : Nat) (most life : Int) (R : AddR) (e : Ending) (w' : World) : Prop :=
  ∃ vo vd, e = .returned (.tuple #[ipV R.k vo vd, .bool R.ok, .int .i64 R.e]) ∧ Ip w' (ipV R.k vo vd) R.k ∧ TabA w' base tb most life R.L ∧ Only base Za w w'
theorem zero_ip (w : World) : Ip w (ipV zeroPk (.slice none 0 0) (.slice none 0 0)) zeroPk := ⟨_, _, rfl, Byt.nil w, Byt.nil w, ⟨by decide, by decide, by decide, by decide, by decide, by decide, by decide, by decide⟩⟩

set_option maxRecDepth 10000 in
set_option maxHeartbeats 8000000 in
theorem Add_range (w : World) (base tb : Nat) (most life : Int) (A0 : List Wt) (hA : TabA w base tb most life A0) (now : Int) (k : Pkt) (vo vd : Value) (hp : Piece base w k vo vd) (hr : now < 0 ∨ 1099511627776 < now ∨ k.off < 0 ∨ 8191 < k.off) :
    Calls Try.prog 14 #[.pointer (some ⟨tb, 0, none⟩), .int .i64 now, ipV k vo vd] w fun e w' => Added w base tb most life ⟨A0, zeroPk, false, 8⟩ e w' := by
  obtain ⟨A, c, rfl, _⟩ := hp.o.1.form
  obtain ⟨B, d, rfl, _⟩ := hp.d.1.form
  obtain ⟨W1, hW1⟩ : ∃ W1, W1 = (w.alloc (.cells #[.int .u8 (k.tos : Int), .int .u16 (k.ident : Int), .bool k.whole, .bool k.more, .int .i64 k.off, .int .u8 (k.ttl : Int), .int .u8 (k.proto : Int), .int .u32 (k.src : Int), .int .u32 (k.dst : Int), .slice A k.opts.length c, .slice B k.data.length d] 38)).alloc (.cells #[.int .u8 0, .int .u16 0, .bool false, .bool false, .int .i64 0, .int .u8 0, .int .u8 0, .int .u32 0, .int .u32 0, .slice none 0 0, .slice none 0 0] 38) := ⟨_, rfl⟩
  obtain ⟨hg1, hsz, hB, hZ⟩ := two_blk w k _ _ hW1
  obtain ⟨mb, ov, L, hT, hLA, hAok⟩ := hA
  have hb := hT.sz
  have hb1 : base ≤ W1.heap.size := Nat.le_trans hb hg1.size
  have fin : Hid (∀ w8, Blk w8 (w.heap.size + 1) zeroPk (.slice none 0 0) (.slice none 0 0) → W1.grownBy w8 (some (w.heap.size + 1)) → Added w base tb most life ⟨A0, zeroPk, false, 8⟩ (.returned (.tuple #[ipV zeroPk (.slice none 0 0) (.slice none 0 0), .bool false, .int .i64 8])) w8) := by
    intro w8 hb8 hg8
    have o8 : Only base Za w w8 := (Only.grow hg1 hb Za).fresh hg8 (by omega) hb
    exact ⟨_, _, rfl, zero_ip _, ⟨mb, ov, L, (hT.grow hg1).beside (fun q hq f hf e => by have := hT.firsts q hq f hf; omega) hZ (by omega) hg8, hLA, hAok⟩, o8⟩
  have HZ := Lib.hid hZ
  obtain ⟨b0, b1, b2, b3, b4, b5, b6, b7, b8, b9, b10⟩ := hB.boxd
  clear hZ hB hg1 hsz hT hp hb hb1
  by_cases q1 : now < 0
  · have d1 : decide (now < 0) = true := decide_eq_true q1
    clear hr q1
    go_enter Try.func14, Try.ntmps14
    go_wp2_with (show wpList _ _ _ (⟨none, .store 38 (.tmp 6) (.tmp 30), _, _, _, _⟩ :: _) _ _; refine wpList_store_ipB _ rfl _ _ rfl rfl (w.heap.size + 1) rfl zeroPk zeroPk (.slice none 0 0) (.slice none 0 0) (.slice none 0 0) (.slice none 0 0) rfl rfl rfl (by rw [← hW1]; exact HZ.out) ?_; intro w8 hF8 hg8; rw [← hW1] at hg8; have H8 := Lib.hid (fin.out w8 hF8 hg8); clear hg8)
    refine bodyPost_ret (results3_ip 6 7 8 rfl _ w8 (w.heap.size + 1) zeroPk _ _ rfl hF8) rfl ?_
    exact H8.out
  have d1 : decide (now < 0) = false := decide_eq_false q1
  by_cases q2 : 1099511627776 < now
  · have d2 : decide (1099511627776 < now) = true := decide_eq_true q2
    clear hr q1
    go_enter Try.func14, Try.ntmps14
    go_wp2_with (show wpList _ _ _ (⟨none, .store 38 (.tmp 6) (.tmp 30), _, _, _, _⟩ :: _) _ _; refine wpList_store_ipB _ rfl _ _ rfl rfl (w.heap.size + 1) rfl zeroPk zeroPk (.slice none 0 0) (.slice none 0 0) (.slice none 0 0) (.slice none 0 0) rfl rfl rfl (by rw [← hW1]; exact HZ.out) ?_; intro w8 hF8 hg8; rw [← hW1] at hg8; have H8 := Lib.hid (fin.out w8 hF8 hg8); clear hg8)
    refine bodyPost_ret (results3_ip 6 7 8 rfl _ w8 (w.heap.size + 1) zeroPk _ _ rfl hF8) rfl ?_
    exact H8.out
  have d2 : decide (1099511627776 < now) = false := decide_eq_false q2
  by_cases q3 : k.off < 0
  · have d3 : decide (k.off < 0) = true := decide_eq_true q3
    clear hr q1 q2
    go_enter Try.func14, Try.ntmps14
    go_wp2_with (show wpList _ _ _ (⟨none, .store 38 (.tmp 6) (.tmp 30), _, _, _, _⟩ :: _) _ _; refine wpList_store_ipB _ rfl _ _ rfl rfl (w.heap.size + 1) rfl zeroPk zeroPk (.slice none 0 0) (.slice none 0 0) (.slice none 0 0) (.slice none 0 0) rfl rfl rfl (by rw [← hW1]; exact HZ.out) ?_; intro w8 hF8 hg8; rw [← hW1] at hg8; have H8 := Lib.hid (fin.out w8 hF8 hg8); clear hg8)
    refine bodyPost_ret (results3_ip 6 7 8 rfl _ w8 (w.heap.size + 1) zeroPk _ _ rfl hF8) rfl ?_
    exact H8.out
  have d3 : decide (k.off < 0) = false := decide_eq_false q3
  have q4 : 8191 < k.off := by omega
  have d4 : decide (8191 < k.off) = true := decide_eq_true q4
  · clear hr q1 q2 q3
    go_enter Try.func14, Try.ntmps14
    go_wp2_with (show wpList _ _ _ (⟨none, .store 38 (.tmp 6) (.tmp 30), _, _, _, _⟩ :: _) _ _; refine wpList_store_ipB _ rfl _ _ rfl rfl (w.heap.size + 1) rfl zeroPk zeroPk (.slice none 0 0) (.slice none 0 0) (.slice none 0 0) (.slice none 0 0) rfl rfl rfl (by rw [← hW1]; exact HZ.out) ?_; intro w8 hF8 hg8; rw [← hW1] at hg8; have H8 := Lib.hid (fin.out w8 hF8 hg8); clear hg8)
    refine bodyPost_ret (results3_ip 6 7 8 rfl _ w8 (w.heap.size + 1) zeroPk _ _ rfl hF8) rfl ?_
    exact H8.out
end Go.Proofs.Ytmnemkeieaflhaa
/- Contracts: Add, a complete packet; refused. -/
namespace Go.Proofs.Ytmnemkeieaflhaa
set_option linter.unusedVariables false
set_option linter.unusedSimpArgs false
open Go.ChangeShapes Go.WideShapes Go.ChangeAt Go.RowKit Go.Shelf
attribute [local irreducible] wpQuiet

set_option maxRecDepth 10000 in
set_option maxHeartbeats 8000000 in
theorem Add_whole (w : World) (base tb : Nat) (most life : Int) (A0 : List Wt) (hA : TabA w base tb most life A0) (now : Int) (k : Pkt) (vo vd : Value) (hp : Piece base w k vo vd) (hr : ¬ (now < 0 ∨ 1099511627776 < now ∨ k.off < 0 ∨ 8191 < k.off)) (h0 : k.off = 0) (hm : k.more = false) :
    Calls Try.prog 14 #[.pointer (some ⟨tb, 0, none⟩), .int .i64 now, ipV k vo vd] w fun e w' => Added w base tb most life ⟨A0, k, true, 0⟩ e w' := by
  obtain ⟨A, c, rfl, _⟩ := hp.o.1.form
  obtain ⟨B, d, rfl, _⟩ := hp.d.1.form
  obtain ⟨W1, hW1⟩ : ∃ W1, W1 = (w.alloc (.cells #[.int .u8 (k.tos : Int), .int .u16 (k.ident : Int), .bool k.whole, .bool k.more, .int .i64 k.off, .int .u8 (k.ttl : Int), .int .u8 (k.proto : Int), .int .u32 (k.src : Int), .int .u32 (k.dst : Int), .slice A k.opts.length c, .slice B k.data.length d] 38)).alloc (.cells #[.int .u8 0, .int .u16 0, .bool false, .bool false, .int .i64 0, .int .u8 0, .int .u8 0, .int .u32 0, .int .u32 0, .slice none 0 0, .slice none 0 0] 38) := ⟨_, rfl⟩
  obtain ⟨hg1, hsz, hB, hZ⟩ := two_blk w k _ _ hW1
  obtain ⟨mb, ov, L, hT, hLA, hAok⟩ := hA
  have hb := hT.sz
  have hb1 : base ≤ W1.heap.size := Nat.le_trans hb hg1.size
  have d1 : decide (now < 0) = false := decide_eq_false (by omega)
  have d2 : decide (1099511627776 < now) = false := decide_eq_false (by omega)
  have d3 : decide (k.off < 0) = false := decide_eq_false (by omega)
  have d4 : decide (8191 < k.off) = false := decide_eq_false (by omega)
  have o1 : (k.off == 0) = true := by simpa using h0
  have o2 : decide (k.off = 0) = true := decide_eq_true h0
  have cO := rsOwn_any _ k W1 (hp.ip.grow hg1) hp.small
  have fin : Hid (∀ w2 w8 vo2 vd2, Grow W1 w2 → Own w2 W1.heap.size vo2 k.opts → Own w2 W1.heap.size vd2 k.data → Blk w8 (w.heap.size + 1) k vo2 vd2 → w2.grownBy w8 (some (w.heap.size + 1)) → Added w base tb most life ⟨A0, k, true, 0⟩ (.returned (.tuple #[ipV k vo2 vd2, .bool true, .int .i64 0])) w8) := by
    intro w2 w8 vo2 vd2 hg2 ho2 hd2 hb8 hg8
    have g2 := hg1.trans hg2
    have o8 : Only base Za w w8 := (Only.grow g2 hb Za).fresh hg8 (by omega) hb
    have o28 : Only base (fun b T => b = w.heap.size + 1 ∧ T = 38) w2 w8 := Only.grown hg8 (fun b e => by
      cases e
      exact ⟨by omega, fun o T ho hT => by rw [show w2.heap[w.heap.size + 1]? = _ from hZ.grow hg2] at ho; cases ho; cases hT; exact ⟨rfl, rfl⟩⟩) (Nat.le_trans hb g2.size)
    exact ⟨_, _, rfl, ⟨_, _, rfl, (Own.byt (o28.row ho2 (fun b _ e => absurd e.2 (by decide)))), (Own.byt (o28.row hd2 (fun b _ e => absurd e.2 (by decide)))), hp.ok⟩, ⟨mb, ov, L, (hT.grow g2).beside (fun q hq f hf e => by have := hT.firsts q hq f hf; omega) (hZ.grow hg2) (by omega) hg8, hLA, hAok⟩, o8⟩
  have HZ := Lib.hid (And.intro hZ (And.intro hsz hB))
  obtain ⟨b0, b1, b2, b3, b4, b5, b6, b7, b8, b9, b10⟩ := hB.boxd
  unfold ipV at cO
  have bm : W1.cell? ⟨w.heap.size, 3, none⟩ = some (.bool false) := by rw [← hm]; exact b3
  have HM := Lib.hid hm
  have b0' := b0
  clear hZ hB hg1 hsz hT hp hb hb1 hr h0
  rw [HM.out] at cO b3
  clear hm
  go_enter Try.func14, Try.ntmps14
  go_upto_if 12 with fail
  rw [← hW1]
  clear hW1
  go_wp2_with fail
  refine cO.mono ?_
  rintro e w2 ⟨vo2, vd2, rfl, ho2, hd2, hg2⟩
  obtain ⟨A6, n6, c6, rfl, hn6⟩ := ho2.byt.form2
  obtain ⟨B6, m6, d6, rfl, hm6⟩ := hd2.byt.form2
  have H2 := Lib.hid (And.intro hg2 (And.intro ho2 hd2))
  clear ho2 hd2 hg2 cO
  go_wp2_with (show wpList _ _ _ (⟨none, .store 38 (.tmp 6) (.tmp 40), _, _, _, _⟩ :: _) _ _; refine wpList_store_ipB w2 rfl _ _ rfl rfl (w.heap.size + 1) rfl { k with more := false } zeroPk (.slice A6 n6 c6) (.slice B6 m6 d6) (.slice none 0 0) (.slice none 0 0) rfl rfl rfl (HZ.out.1.grow H2.out.1) ?_; intro w8 hF8 hg8; have H8 := Lib.hid hg8; clear hg8)
  have hk : ({ k with more := false } : Pkt) = k := by rw [← HM.out]
  rw [hk] at hF8
  refine bodyPost_ret (results3_ip 6 7 8 rfl _ w8 (w.heap.size + 1) k _ _ rfl hF8) rfl ?_
  exact fin.out w2 w8 _ _ H2.out.1 H2.out.2.1 H2.out.2.2 hF8 H8.out

set_option maxRecDepth 10000 in
set_option maxHeartbeats 8000000 in
theorem Add_check (w : World) (base tb : Nat) (most life : Int) (A0 : List Wt) (hA : TabA w base tb most life A0) (now : Int) (k : Pkt) (vo vd : Value) (hp : Piece base w k vo vd) (hr : ¬ (now < 0 ∨ 1099511627776 < now ∨ k.off < 0 ∨ 8191 < k.off)) (hcp : ¬ (k.off = 0 ∧ k.more = false)) (hc : chk k ≠ 0) :
    Calls Try.prog 14 #[.pointer (some ⟨tb, 0, none⟩), .int .i64 now, ipV k vo vd] w fun e w' => Added w base tb most life ⟨A0, zeroPk, false, chk k⟩ e w' := by
  obtain ⟨A, c, rfl, _⟩ := hp.o.1.form
  obtain ⟨B, d, rfl, _⟩ := hp.d.1.form
  obtain ⟨W1, hW1⟩ : ∃ W1, W1 = (w.alloc (.cells #[.int .u8 (k.tos : Int), .int .u16 (k.ident : Int), .bool k.whole, .bool k.more, .int .i64 k.off, .int .u8 (k.ttl : Int), .int .u8 (k.proto : Int), .int .u32 (k.src : Int), .int .u32 (k.dst : Int), .slice A k.opts.length c, .slice B k.data.length d] 38)).alloc (.cells #[.int .u8 0, .int .u16 0, .bool false, .bool false, .int .i64 0, .int .u8 0, .int .u8 0, .int .u32 0, .int .u32 0, .slice none 0 0, .slice none 0 0] 38) := ⟨_, rfl⟩
  obtain ⟨hg1, hsz, hB, hZ⟩ := two_blk w k _ _ hW1
  obtain ⟨mb, ov, L, hT, hLA, hAok⟩ := hA
  have hb := hT.sz
  have hb1 : base ≤ W1.heap.size := Nat.le_trans hb hg1.size
  have d1 : decide (now < 0) = false := decide_eq_false (by omega)
  have d2 : decide (1099511627776 < now) = false := decide_eq_false (by omega)
  have d3 : decide (k.off < 0) = false := decide_eq_false (by omega)
  have d4 : decide (8191 < k.off) = false := decide_eq_false (by omega)
  have fin : Hid (∀ w2 w8, Grow W1 w2 → w2.grownBy w8 (some (w.heap.size + 1)) → Added w base tb most life ⟨A0, zeroPk, false, chk k⟩ (.returned (.tuple #[ipV zeroPk (.slice none 0 0) (.slice none 0 0), .bool false, .int .i64 (chk k)])) w8) := by
    intro w2 w8 hg2 hg8
    have g2 := hg1.trans hg2
    have o8 : Only base Za w w8 := (Only.grow g2 hb Za).fresh hg8 (by omega) hb
    exact ⟨_, _, rfl, zero_ip _, ⟨mb, ov, L, (hT.grow g2).beside (fun q hq f hf e => by have := hT.firsts q hq f hf; omega) (hZ.grow hg2) (by omega) hg8, hLA, hAok⟩, o8⟩
  have HZ := Lib.hid (And.intro hZ (And.intro hsz hB))
  obtain ⟨b0, b1, b2, b3, b4, b5, b6, b7, b8, b9, b10⟩ := hB.boxd
  have cC := check_any _ k W1 (hp.ip.grow hg1) (by omega) (by omega) hp.small.2
  have q1 : ((chk k) != 0) = true := by simpa using hc
  have q2 : decide (chk k = 0) = false := decide_eq_false hc
  unfold ipV at cC
  clear hZ hB hg1 hsz hT hp hb hb1 hr
  generalize chk k = CK at *
  by_cases h0 : k.off = 0
  · have o1 : (k.off == 0) = true := by simpa using h0
    have o2 : decide (k.off = 0) = true := decide_eq_true h0
    have hm : k.more = true := by
      cases hm : k.more with
      | true => rfl
      | false => exact absurd ⟨h0, hm⟩ hcp
    have bm : W1.cell? ⟨w.heap.size, 3, none⟩ = some (.bool true) := by rw [← hm]; exact b3
    rw [hm] at cC
    clear b3 h0 hm hcp
    go_enter Try.func14, Try.ntmps14
    go_upto_if 12 with fail
    rw [← hW1]
    clear hW1
    go_wp2_with fail
    refine cC.mono ?_
    rintro e w2 ⟨rfl, hg2⟩
    have H2 := Lib.hid hg2
    clear hg2 cC
    go_wp2_with (show wpList _ _ _ (⟨none, .store 38 (.tmp 6) (.tmp 45), _, _, _, _⟩ :: _) _ _; refine wpList_store_ipB w2 rfl _ _ rfl rfl (w.heap.size + 1) rfl zeroPk zeroPk (.slice none 0 0) (.slice none 0 0) (.slice none 0 0) (.slice none 0 0) rfl rfl rfl (HZ.out.1.grow H2.out) ?_; intro w8 hF8 hg8; have H8 := Lib.hid hg8; clear hg8)
    refine bodyPost_ret (results3_ip 6 7 8 rfl _ w8 (w.heap.size + 1) zeroPk _ _ rfl hF8) rfl ?_
    exact fin.out w2 w8 H2.out H8.out
  · have o1 : (k.off == 0) = false := by simpa using h0
    have o2 : decide (k.off = 0) = false := decide_eq_false h0
    clear h0 hcp
    go_enter Try.func14, Try.ntmps14
    go_upto_if 12 with fail
    rw [← hW1]
    clear hW1
    go_wp2_with fail
    refine cC.mono ?_
    rintro e w2 ⟨rfl, hg2⟩
    have H2 := Lib.hid hg2
    clear hg2 cC
    go_wp2_with (show wpList _ _ _ (⟨none, .store 38 (.tmp 6) (.tmp 45), _, _, _, _⟩ :: _) _ _; refine wpList_store_ipB w2 rfl _ _ rfl rfl (w.heap.size + 1) rfl zeroPk zeroPk (.slice none 0 0) (.slice none 0 0) (.slice none 0 0) (.slice none 0 0) rfl rfl rfl (HZ.out.1.grow H2.out) ?_; intro w8 hF8 hg8; have H8 := Lib.hid hg8; clear hg8)
    refine bodyPost_ret (results3_ip 6 7 8 rfl _ w8 (w.heap.size + 1) zeroPk _ _ rfl hF8) rfl ?_
    exact fin.out w2 w8 H2.out H8.out

set_option maxRecDepth 10000 in
set_option maxHeartbeats 8000000 in
theorem Add_refuse (w : World) (base tb : Nat) (most life : Int) (A0 : List Wt) (hA : TabA w base tb most life A0) (now : Int) (k : Pkt) (vo vd : Value) (hp : Piece base w k vo vd) (hr : ¬ (now < 0 ∨ 1099511627776 < now ∨ k.off < 0 ∨ 8191 < k.off)) (hcp : ¬ (k.off = 0 ∧ k.more = false)) (hc : chk k = 0) (E : Int) (hE : E ≠ 0)
    (cF : ∀ W, Grow w W → Calls Try.prog 29 #[.pointer (some ⟨tb, 0, none⟩), .int .i64 now, ipV k vo vd] W fun e w' => e = .returned (.tuple #[.pointer none, .int .i64 E]) ∧ Grow W w') :
    Calls Try.prog 14 #[.pointer (some ⟨tb, 0, none⟩), .int .i64 now, ipV k vo vd] w fun e w' => Added w base tb most life ⟨A0, zeroPk, false, E⟩ e w' := by
  obtain ⟨A, c, rfl, _⟩ := hp.o.1.form
  obtain ⟨B, d, rfl, _⟩ := hp.d.1.form
  obtain ⟨W1, hW1⟩ : ∃ W1, W1 = (w.alloc (.cells #[.int .u8 (k.tos : Int), .int .u16 (k.ident : Int), .bool k.whole, .bool k.more, .int .i64 k.off, .int .u8 (k.ttl : Int), .int .u8 (k.proto : Int), .int .u32 (k.src : Int), .int .u32 (k.dst : Int), .slice A k.opts.length c, .slice B k.data.length d] 38)).alloc (.cells #[.int .u8 0, .int .u16 0, .bool false, .bool false, .int .i64 0, .int .u8 0, .int .u8 0, .int .u32 0, .int .u32 0, .slice none 0 0, .slice none 0 0] 38) := ⟨_, rfl⟩
  obtain ⟨hg1, hsz, hB, hZ⟩ := two_blk w k _ _ hW1
  obtain ⟨mb, ov, L, hT, hLA, hAok⟩ := hA
  have hb := hT.sz
  have hb1 : base ≤ W1.heap.size := Nat.le_trans hb hg1.size
  have d1 : decide (now < 0) = false := decide_eq_false (by omega)
  have d2 : decide (1099511627776 < now) = false := decide_eq_false (by omega)
  have d3 : decide (k.off < 0) = false := decide_eq_false (by omega)
  have d4 : decide (8191 < k.off) = false := decide_eq_false (by omega)
  have fin : Hid (∀ w2 w8, Grow W1 w2 → w2.grownBy w8 (some (w.heap.size + 1)) → Added w base tb most life ⟨A0, zeroPk, false, E⟩ (.returned (.tuple #[ipV zeroPk (.slice none 0 0) (.slice none 0 0), .bool false, .int .i64 E])) w8) := by
    intro w2 w8 hg2 hg8
    have g2 := hg1.trans hg2
    have o8 : Only base Za w w8 := (Only.grow g2 hb Za).fresh hg8 (by omega) hb
    exact ⟨_, _, rfl, zero_ip _, ⟨mb, ov, L, (hT.grow g2).beside (fun q hq f hf e => by have := hT.firsts q hq f hf; omega) (hZ.grow hg2) (by omega) hg8, hLA, hAok⟩, o8⟩
  have HZ := Lib.hid (And.intro hZ (And.intro hsz hB))
  obtain ⟨b0, b1, b2, b3, b4, b5, b6, b7, b8, b9, b10⟩ := hB.boxd
  have cC := check_any _ k W1 (hp.ip.grow hg1) (by omega) (by omega) hp.small.2
  rw [hc] at cC
  have q1 : (E != 0) = true := by simpa using hE
  have q2 : decide (E = 0) = false := decide_eq_false hE
  have cF := fun W (g : Grow W1 W) => cF W (hg1.trans g)
  unfold ipV at cC cF
  clear hZ hB hg1 hsz hT hp hb hb1 hr hc
  by_cases h0 : k.off = 0
  · have o1 : (k.off == 0) = true := by simpa using h0
    have o2 : decide (k.off = 0) = true := decide_eq_true h0
    have hm : k.more = true := by
      cases hm : k.more with
      | true => rfl
      | false => exact absurd ⟨h0, hm⟩ hcp
    have bm : W1.cell? ⟨w.heap.size, 3, none⟩ = some (.bool true) := by rw [← hm]; exact b3
    have HBX := Lib.hid (fun w2 (g : Grow W1 w2) => show Boxd w2 w.heap.size { k with more := true } (.slice A k.opts.length c) (.slice B k.data.length d) from by have := (HZ.out.2.2.grow g).boxd; unfold Boxd at this ⊢; rw [hm] at this; exact this)
    rw [hm] at cC
    simp only [hm] at cF
    clear b3 h0 hm hcp
    go_enter Try.func14, Try.ntmps14
    go_upto_if 12 with fail
    rw [← hW1]
    clear hW1
    go_wp2_with fail
    refine cC.mono ?_
    rintro e w2 ⟨rfl, hg2⟩
    obtain ⟨e0, e1, e2, e3, e4, e5, e6, e7, e8, e9, e10⟩ := HBX.out w2 hg2
    have cG := cF w2 hg2
    have H2 := Lib.hid hg2
    clear hg2 cC cF
    go_wp2_with fail
    refine cG.mono ?_
    rintro e w3 ⟨rfl, hg3⟩
    have H3 := Lib.hid (H2.out.trans hg3)
    clear hg3 cG
    go_wp2_with (show wpList _ _ _ (⟨none, .store 38 (.tmp 6) (.tmp 56), _, _, _, _⟩ :: _) _ _; refine wpList_store_ipB w3 rfl _ _ rfl rfl (w.heap.size + 1) rfl zeroPk zeroPk (.slice none 0 0) (.slice none 0 0) (.slice none 0 0) (.slice none 0 0) rfl rfl rfl (HZ.out.1.grow H3.out) ?_; intro w8 hF8 hg8; have H8 := Lib.hid hg8; clear hg8)
    refine bodyPost_ret (results3_ip 6 7 8 rfl _ w8 (w.heap.size + 1) zeroPk _ _ rfl hF8) rfl ?_
    exact fin.out w3 w8 H3.out H8.out
  · have o1 : (k.off == 0) = false := by simpa using h0
    have o2 : decide (k.off = 0) = false := decide_eq_false h0
    have HBX := Lib.hid (fun w2 (g : Grow W1 w2) => (HZ.out.2.2.grow g).boxd)
    clear h0 hcp
    go_enter Try.func14, Try.ntmps14
    go_upto_if 12 with fail
    rw [← hW1]
    clear hW1
    go_wp2_with fail
    refine cC.mono ?_
    rintro e w2 ⟨rfl, hg2⟩
    obtain ⟨e0, e1, e2, e3, e4, e5, e6, e7, e8, e9, e10⟩ := HBX.out w2 hg2
    have cG := cF w2 hg2
    have H2 := Lib.hid hg2
    clear hg2 cC cF
    go_wp2_with fail
    refine cG.mono ?_
    rintro e w3 ⟨rfl, hg3⟩
    have H3 := Lib.hid (H2.out.trans hg3)
    clear hg3 cG
    go_wp2_with (show wpList _ _ _ (⟨none, .store 38 (.tmp 6) (.tmp 56), _, _, _, _⟩ :: _) _ _; refine wpList_store_ipB w3 rfl _ _ rfl rfl (w.heap.size + 1) rfl zeroPk zeroPk (.slice none 0 0) (.slice none 0 0) (.slice none 0 0) (.slice none 0 0) rfl rfl rfl (HZ.out.1.grow H3.out) ?_; intro w8 hF8 hg8; have H8 := Lib.hid hg8; clear hg8)
    refine bodyPost_ret (results3_ip 6 7 8 rfl _ w8 (w.heap.size + 1) zeroPk _ _ rfl hF8) rfl ?_
    exact fin.out w3 w8 H3.out H8.out
end Go.Proofs.Ytmnemkeieaflhaa
