/- Contracts: option, the laws' code, a packet with memory of its own. -/
import Derived.Test.YtkofmbnolaiecaaFrRow
import Derived.Test.YtkofmbnolaiecaaFrNum
namespace Go.Proofs.Ytkofmbnolaiecaa
set_option linter.unusedVariables false
set_option linter.unusedSimpArgs false
open Go.ChangeShapes Go.WideShapes Go.ChangeAt Go.RowKit

theorem fragCode_any (n : Int) (w : World) (h1 : -9223372036854775808 ≤ n) (h2 : n ≤ 9223372036854775807) :
    Calls Try.prog 12 #[.int .i64 n] w fun e w' => e = .returned (.int .i64 n) ∧ w = w' := by
  go_enter Try.func12, Try.ntmps12
  go_wp2_with fail
  go_ret
  exact ⟨rfl, rfl⟩

set_option maxHeartbeats 1000000 in
theorem option_any (v : Value) (l : List UInt8) (w : World) (h : Byt w v l) (hl : l.length ≤ 1000) :
    Calls Try.prog 22 #[v] w fun e w' => e = .returned (.int .i64 (fopt l : Nat)) ∧ w = w' := by
  obtain ⟨A, c, rfl, hc, hcm⟩ := h.form
  unfold fopt
  by_cases h2 : l.length < 2
  · rw [if_pos h2]
    go_enter Try.func22, Try.ntmps22
    go_wp2_with fail
    go_ret
    exact ⟨rfl, rfl⟩
  · rw [if_neg h2]
    obtain ⟨b, off, rfl, hb, hcell⟩ := h.at_ (by omega)
    have c1 := hcell 1 (by omega)
    rw [byt_at (show 1 < l.length by omega)] at c1
    have l1 := byt_lt l 1
    generalize byt l 1 = s at *
    by_cases h3 : s < 2
    · rw [if_pos (.inl h3)]
      go_enter Try.func22, Try.ntmps22
      go_wp2_with fail
      go_ret
      exact ⟨rfl, rfl⟩
    · by_cases h4 : l.length < s
      · rw [if_pos (.inr h4)]
        go_enter Try.func22, Try.ntmps22
        go_wp2_with fail
        go_ret
        exact ⟨rfl, rfl⟩
      · rw [if_neg (by omega)]
        go_enter Try.func22, Try.ntmps22
        go_wp2_with fail
        go_ret
        exact ⟨rfl, rfl⟩

def zeroPk : Pkt := ⟨0, 0, false, false, 0, 0, 0, 0, 0, [], []⟩

set_option maxHeartbeats 400000 in
/-- A packet, handed back alone out of its block. -/
theorem results1_ip {fn : Func} (j : Nat) (h : fn.results = #[.cell j 27]) (tmps : Array Value) (w : World) (g : Nat) (k : Pkt) (vo vd : Value) (ht : tmps.getD j undef = .pointer (some ⟨g, 0, none⟩)) (hb : Blk w g k vo vd) :
    (results fn tmps).run Try.prog w = .ok (ipV k vo vd) w := by
  obtain ⟨b0, b1, b2, b3, b4, b5, b6, b7, b8, b9, b10⟩ := hb.boxd
  have ht' : tmps[j]?.getD undef = .pointer (some ⟨g, 0, none⟩) := by simpa using ht
  simp only [results, h, go_sem]
  simp [ht', b0, b1, b2, b3, b4, b5, b6, b7, b8, b9, b10, go_sem]

/-- Two blocks laid ahead: a packet and the zero packet. -/
theorem two_blk (w : World) (k : Pkt) (vo vd : Value) {W : World} (hW : W = (w.alloc (.cells #[.int .u8 (k.tos : Int), .int .u16 (k.ident : Int), .bool k.whole, .bool k.more, .int .i64 k.off, .int .u8 (k.ttl : Int), .int .u8 (k.proto : Int), .int .u32 (k.src : Int), .int .u32 (k.dst : Int), vo, vd] 27)).alloc (.cells #[.int .u8 0, .int .u16 0, .bool false, .bool false, .int .i64 0, .int .u8 0, .int .u8 0, .int .u32 0, .int .u32 0, .slice none 0 0, .slice none 0 0] 27)) :
    Grow w W ∧ W.heap.size = w.heap.size + 2 ∧ Blk W w.heap.size k vo vd ∧ Blk W (w.heap.size + 1) zeroPk (.slice none 0 0) (.slice none 0 0) := by
  subst hW
  refine ⟨(Grow.alloc _ _).trans (Grow.alloc _ _), by simp, (Blk.new _ _ _ _).grow (Grow.alloc _ _), ?_⟩
  have := Blk.new (w.alloc (.cells #[.int .u8 (k.tos : Int), .int .u16 (k.ident : Int), .bool k.whole, .bool k.more, .int .i64 k.off, .int .u8 (k.ttl : Int), .int .u8 (k.proto : Int), .int .u32 (k.src : Int), .int .u32 (k.dst : Int), vo, vd] 27)) zeroPk (.slice none 0 0) (.slice none 0 0)
  rw [World.size_alloc] at this
  exact this
theorem Blk.but {w w' : World} {g h : Nat} {k : Pkt} {vo vd : Value} (hk : Blk w h k vo vd) (hb : But g w w') (hne : h ≠ g) : Blk w' h k vo vd := (hb.2 h hne).trans hk

set_option maxHeartbeats 4000000 in
theorem own_any (v : Value) (k : Pkt) (w : World) (h : Ip w v k) (hs : k.Small) :
    Calls Try.prog 18 #[v] w fun e w' => ∃ vo vd, e = .returned (ipV k vo vd) ∧ Own w' (w.heap.size + 2) vo k.opts ∧ Own w' (w.heap.size + 2) vd k.data ∧ Grow w w' := by
  obtain ⟨A, c, B, d, rfl, ho, hd, hk⟩ := h.form
  obtain ⟨hs1, hs2⟩ := hs
  obtain ⟨W1, hW1⟩ : ∃ W1, W1 = (w.alloc (.cells #[.int .u8 (k.tos : Int), .int .u16 (k.ident : Int), .bool k.whole, .bool k.more, .int .i64 k.off, .int .u8 (k.ttl : Int), .int .u8 (k.proto : Int), .int .u32 (k.src : Int), .int .u32 (k.dst : Int), .slice A k.opts.length c, .slice B k.data.length d] 27)).alloc (.cells #[.int .u8 0, .int .u16 0, .bool false, .bool false, .int .i64 0, .int .u8 0, .int .u8 0, .int .u32 0, .int .u32 0, .slice none 0 0, .slice none 0 0] 27) := ⟨_, rfl⟩
  obtain ⟨hg1, hsz, hB, hZ⟩ := two_blk w k _ _ hW1
  have T := Lib.hid (And.intro hg1 (And.intro hsz (And.intro hB hZ)))
  have Z9 : (cellsP k (.slice A k.opts.length c) (.slice B k.data.length d)).size = 11 := rfl
  have n1 : 0 < [k.opts].length := by simp
  have n2 : [k.opts].length ≤ maxLen := by simp [maxLen]
  have n3 : lens [k.opts] ≤ 281474976710656 := by simp [lens]; omega
  have m1 : 0 < [k.data].length := by simp
  have m2 : [k.data].length ≤ maxLen := by simp [maxLen]
  have m3 : lens [k.data] ≤ 281474976710656 := by simp [lens]; omega
  have hd1 := hd.grow hg1
  have q1 : Hid (w.heap.size + 2 = W1.heap.size) := hsz.symm
  obtain ⟨b0, b1, b2, b3, b4, b5, b6, b7, b8, b9, b10⟩ := hB.boxd
  clear hZ hg1 hB Z9 hsz
  go_enter Try.func18, Try.ntmps18
  go_wp2_with fail
  rw [← hW1]
  refine (Join_lit_at W1 _ (Grow.refl _) _ 1 _ q1.out [k.opts] rfl rfl n1 n2 n3 (byt_one (ho.grow T.out.1))).mono ?_
  rw [show [k.opts].flatten = k.opts by simp]
  rintro e w2 ⟨vo, rfl, ho2, hg2⟩
  clear hW1 b0 b1 b2 b3 b4 b5 b6 b7 b8 b9 b10
  obtain ⟨A4, n4, c4, rfl, hn4⟩ := ho2.byt.form2
  have hn4' := hn4.out
  subst hn4'
  go_wp2_with (refine wpList_store_fld w w2 rfl _ _ _ rfl rfl w.heap.size 9 (.slice A4 k.opts.length c4) rfl rfl k k (.slice A k.opts.length c) (.slice B k.data.length d) (.slice A4 k.opts.length c4) (.slice B k.data.length d) (T.out.2.2.1.grow hg2) (by kernel_rfl) rfl (by omega) rfl (T.out.1.trans hg2) (Nat.le_refl _) ?_; intro w3 hB3 hbut3 hg3; have hB3' := hB3; obtain ⟨b0, b1, b2, b3, b4, b5, b6, b7, b8, b9, b10⟩ := hB3'.boxd; clear hB3')
  have ho3 := (Own.but ho2 hbut3 (by rw [← q1.out]; omega)).base (show w.heap.size + 2 ≤ W1.heap.size by rw [← q1.out]; omega)
  have hd3 := (hd.grow hg3)
  refine (Join_lit_at w3 _ (Grow.refl _) _ 1 _ rfl [k.data] rfl rfl m1 m2 m3 (byt_one hd3)).mono ?_
  rw [show [k.data].flatten = k.data by simp]
  rintro e w4 ⟨vd, rfl, ho4, hg4⟩
  clear b0 b1 b2 b3 b4 b5 b6 b7 b8 b9 b10
  obtain ⟨A5, n5, c5, rfl, hn5⟩ := ho4.byt.form2
  have hn5' := hn5.out
  subst hn5'
  have hz3 : w.heap.size + 2 ≤ w3.heap.size := by
    have := hg2.size
    have := q1.out
    rw [hbut3.1]
    omega
  have ho4b := ho4.base hz3
  have ho3b := ho3.grow hg4
  have HZ : Hid (Blk w4 (w.heap.size + 1) zeroPk (.slice none 0 0) (.slice none 0 0)) := ((T.out.2.2.2.grow hg2).but hbut3 (by omega)).grow hg4
  have HO := Lib.hid (And.intro ho3b ho4b)
  clear ho3b ho4b ho2 ho4
  go_wp2_with (first | (refine wpList_store_ip w w5 rfl _ _ rfl rfl (w.heap.size + 1) rfl k zeroPk (.slice A4 k.opts.length c4) (.slice A5 k.data.length c5) (.slice none 0 0) (.slice none 0 0) rfl rfl rfl (HZ.out.but hbut5 (by omega)) hg5 (by omega) ?_; intro w6 hk6 hbut6 hg6) | (refine wpList_store_fld w w4 rfl _ _ _ rfl rfl w.heap.size 10 (.slice A5 k.data.length c5) rfl rfl k k (.slice A4 k.opts.length c4) (.slice B k.data.length d) (.slice A4 k.opts.length c4) (.slice A5 k.data.length c5) (hB3.grow hg4) (by kernel_rfl) rfl (by omega) rfl (hg3.trans hg4) (Nat.le_refl _) ?_; intro w5 hB5 hbut5 hg5; have hB5' := hB5; obtain ⟨b0, b1, b2, b3, b4, b5, b6, b7, b8, b9, b10⟩ := hB5'.boxd; clear hB5'))
  refine bodyPost_ret (results1_ip 2 rfl _ w6 (w.heap.size + 1) _ _ _ rfl hk6) rfl ?_
  exact ⟨_, _, rfl, (HO.out.1.but hbut5 (by omega)).but hbut6 (by omega), (HO.out.2.but hbut5 (by omega)).but hbut6 (by omega), hg6⟩
end Go.Proofs.Ytkofmbnolaiecaa
