/- The walk of ReasmNils. -/
import Derived.Test.YtmnemkeieaflhaaC16
namespace Go.Proofs.Ytmnemkeieaflhaa
set_option linter.unusedVariables false
set_option linter.unusedSimpArgs false
open Go.ChangeShapes Go.WideShapes Go.ChangeAt Go.RowKit

set_option maxRecDepth 10000 in
set_option maxHeartbeats 8000000 in
theorem reasmNils_walk (w : World) (now : Int) (hn : -9223372036854775808 ≤ now ∧ now ≤ 9223372036854775807) {v : Value} {k : Pkt} (h : Ip w v k) :
    Calls Try.prog 5 #[.int .i64 now, v] w fun e w' => e = .returned (.bool true) ∧ Grow w w' := by
  obtain ⟨A, c, B, d, rfl, ho, hd, hk⟩ := h.form
  obtain ⟨W1, hW1⟩ : ∃ W1, W1 = w.alloc (.cells #[.int .u8 (k.tos : Int), .int .u16 (k.ident : Int), .bool k.whole, .bool k.more, .int .i64 k.off, .int .u8 (k.ttl : Int), .int .u8 (k.proto : Int), .int .u32 (k.src : Int), .int .u32 (k.dst : Int), .slice A k.opts.length c, .slice B k.data.length d] 38) := ⟨_, rfl⟩
  have hg1 : Grow w W1 := by rw [hW1]; exact Grow.alloc w _
  have hB1 : Blk W1 w.heap.size k (.slice A k.opts.length c) (.slice B k.data.length d) := by rw [hW1]; exact Blk.new _ _ _ _
  obtain ⟨b0, b1, b2, b3, b4, b5, b6, b7, b8, b9, b10⟩ := hB1.boxd
  have cA := Add_nil W1 now k _ _ (h.grow hg1)
  have G1 := Lib.hid hg1
  unfold ipV at cA
  clear hg1 hB1 h ho hd
  go_enter Try.func5, Try.ntmps5
  go_wp2_with fail
  rw [← hW1]
  clear hW1
  go_wp2_with fail
  refine cA.mono ?_
  rintro e w2 ⟨rfl, hg2⟩
  have G2 := Lib.hid (G1.out.trans hg2)
  clear cA hg2 b0 b1 b2 b3 b4 b5 b6 b7 b8 b9 b10
  go_upto_region 3 with fail
  obtain ⟨w3, hw3⟩ : ∃ w3, w3 = w2.alloc (.cells #[.int .u8 (zeroPk.tos : Int), .int .u16 (zeroPk.ident : Int), .bool zeroPk.whole, .bool zeroPk.more, .int .i64 zeroPk.off, .int .u8 (zeroPk.ttl : Int), .int .u8 (zeroPk.proto : Int), .int .u32 (zeroPk.src : Int), .int .u32 (zeroPk.dst : Int), .slice none 0 0, .slice none 0 0] 38) := ⟨_, rfl⟩
  rw [← hw3]
  have g3 : Grow w2 w3 := by rw [hw3]; exact Grow.alloc _ _
  have hB3 : Blk w3 w2.heap.size zeroPk (.slice none 0 0) (.slice none 0 0) := by rw [hw3]; exact Blk.new _ _ _ _
  have T3 := Lib.hid (And.intro (G2.out.trans g3) hB3)
  clear g3 hB3 hw3
  have cN := Next_nil w3
  go_wp2_with fail
  refine cN.mono ?_
  rintro e w4 ⟨rfl, hg4⟩
  obtain ⟨b0, b1, b2, b3, b4, b5, b6, b7, b8, b9, b10⟩ := (T3.out.2.grow hg4).boxd
  have G4 := Lib.hid (T3.out.1.trans hg4)
  have cS : Calls Try.prog 16 #[.agg #[.int .u8 (zeroPk.tos : Int), .int .u16 (zeroPk.ident : Int), .bool zeroPk.whole, .bool zeroPk.more, .int .i64 zeroPk.off, .int .u8 (zeroPk.ttl : Int), .int .u8 (zeroPk.proto : Int), .int .u32 (zeroPk.src : Int), .int .u32 (zeroPk.dst : Int), .slice none 0 0, .slice none 0 0], .agg #[.int .u8 0, .int .u16 0, .bool false, .bool false, .int .i64 0, .int .u8 0, .int .u8 0, .int .u32 0, .int .u32 0, .slice none 0 0, .slice none 0 0]] w4 fun e w' => e = .returned (.bool true) ∧ Grow w4 w' := RSame_yes _ _ zeroPk zeroPk w4 (zero_ip w4) (zero_ip w4) rfl
  clear cN hg4
  go_wp2_with fail
  refine cS.mono ?_
  rintro e w5 ⟨rfl, hg5⟩
  have G5 := Lib.hid (G4.out.trans hg5)
  clear cS hg5 b0 b1 b2 b3 b4 b5 b6 b7 b8 b9 b10
  go_wp2_with fail
  refine (rsLawCode_any 7 _ (by decide) (by decide)).mono ?_
  rintro e w' ⟨rfl, rfl⟩
  go_wp2_with fail
  refine (Len_nil _).mono ?_
  rintro e w6 ⟨rfl, hg6⟩
  have G6 := Lib.hid (G5.out.trans hg6)
  clear hg6
  go_wp2_with fail
  refine (Held_nil _).mono ?_
  rintro e w7 ⟨rfl, hg7⟩
  have G7 := Lib.hid (G6.out.trans hg7)
  clear hg7
  go_wp2_with fail
  refine (Expire_nil _ now).mono ?_
  rintro e w8 ⟨rfl, hg8⟩
  have G8 := Lib.hid (G7.out.trans hg8)
  clear hg8
  go_wp2_with fail
  refine (rsLive_any _).mono ?_
  rintro e wl ⟨rfl, hgl⟩
  go_wp2_with fail
  go_ret
  exact ⟨rfl, G8.out.trans hgl⟩
end Go.Proofs.Ytmnemkeieaflhaa
