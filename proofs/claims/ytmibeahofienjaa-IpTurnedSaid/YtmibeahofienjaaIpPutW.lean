/- The packet as bytes: Put. -/
import Derived.Test.YtmibeahofienjaaIpPut
namespace Go.Proofs.Ytmibeahofienjaa
set_option linter.unusedVariables false
set_option linter.unusedSimpArgs false
open Go.ChangeShapes Go.WideShapes Go.ChangeAt Go.RowKit

theorem check_zero {k : Pkt} (h : k.check = 0) : 0 ≤ k.off ∧ k.off ≤ 8191 ∧ k.opts.length ≤ 40 ∧ k.opts.length % 4 = 0 ∧ k.len ≤ 65535 := by
  unfold Pkt.check at h
  split at h
  · cases h
  · split at h
    · cases h
    · omega
theorem check_code (k : Pkt) : k.check = 0 ∨ k.check = 1 ∨ k.check = 9 := by
  unfold Pkt.check
  split
  · exact .inr (.inl rfl)
  · split
    · exact .inr (.inr rfl)
    · exact .inl rfl
theorem lay_head (k : Pkt) : lay k.bare 10 (two ((k.csum : Nat) : Int)) = k.head := by
  unfold lay Pkt.bare Pkt.head
  have h := pre_length k
  rw [two_length, List.append_assoc, List.append_assoc, List.take_left' h]
  congr 1

set_option maxHeartbeats 2000000 in
theorem Put_bad (v : Value) (k : Pkt) (w : World) (h : Ip w v k) (hs : k.Small) (hc : k.check ≠ 0) :
    Calls Try.prog 11 #[v] w fun e w' => e = .returned (.tuple #[.slice none 0 0, .int .i64 k.check]) ∧ Grow w w' := by
  have hb : (k.check != 0) = true := by simpa using hc
  have hcc : 0 ≤ k.check ∧ k.check ≤ 9 := by rcases check_code k with e | e | e <;> rw [e] <;> decide
  obtain ⟨c1, c2⟩ := hcc
  obtain ⟨A, c, B, d, rfl, ho, hd, hk⟩ := h.form
  have hg1 := Grow.alloc w (.cells #[.int .u8 (k.tos : Int), .int .u16 (k.ident : Int), .bool k.whole, .bool k.more, .int .i64 k.off, .int .u8 (k.ttl : Int), .int .u8 (k.proto : Int), .int .u32 (k.src : Int), .int .u32 (k.dst : Int), .slice A k.opts.length c, .slice B k.data.length d] 27)
  have hip := h.grow hg1
  go_enter Try.func11, Try.ntmps11
  go_wp2_with fail
  refine (Check_ip _ k _ hip hs).mono ?_
  rintro e w2 ⟨rfl, hg2⟩
  go_wp2_with fail
  go_ret2
  exact ⟨rfl, hg1.trans hg2⟩

set_option maxHeartbeats 2000000 in
theorem Put_good (v : Value) (k : Pkt) (w : World) (h : Ip w v k) (hs : k.Small) (hc : k.check = 0) :
    Calls Try.prog 11 #[v] w fun e w' => ∃ u, e = .returned (.tuple #[u, .int .i64 0]) ∧ Own w' w.heap.size u k.bytes ∧ Grow w w' := by
  obtain ⟨o1, o2, o3, o4, o5⟩ := check_zero hc
  obtain ⟨A, c, B, d, rfl, ho, hd, hk⟩ := h.form
  have hsm := hs
  obtain ⟨hs1, hs2⟩ := hs
  obtain ⟨W1, hW1⟩ : ∃ W1, W1 = w.alloc (.cells #[.int .u8 (k.tos : Int), .int .u16 (k.ident : Int), .bool k.whole, .bool k.more, .int .i64 k.off, .int .u8 (k.ttl : Int), .int .u8 (k.proto : Int), .int .u32 (k.src : Int), .int .u32 (k.dst : Int), .slice A k.opts.length c, .slice B k.data.length d] 27) := ⟨_, rfl⟩
  have hg1 : Grow w W1 := by rw [hW1]; exact Grow.alloc w _
  have hB1 : Boxd W1 w.heap.size k (.slice A k.opts.length c) (.slice B k.data.length d) := by rw [hW1]; exact Boxd.new _ _ _ _
  have hs0 : W1.heap.size = w.heap.size + 1 := by rw [hW1]; simp
  have hip := h.grow hg1
  have l1 := ones_lt k.bare
  have lb : k.bare.length ≤ 281474976710656 := by rw [bare_length]; omega
  have e1 : (65535 : Int) - (ones k.bare : Int) = ((k.csum : Nat) : Int) := by unfold Pkt.csum; omega
  go_enter Try.func11, Try.ntmps11
  go_wp2_with fail
  rw [← hW1]
  refine (Check_ip _ k _ hip hsm).mono ?_
  rw [hc]
  rintro e w2 ⟨rfl, hg2⟩
  obtain ⟨b0, b1, b2, b3, b4, b5, b6, b7, b8, b9, b10⟩ := hB1.grow hg2
  go_wp2_with fail
  refine (header_any _ k _ (hip.grow hg2) hsm ⟨o1, o2⟩).mono ?_
  rintro e w3 ⟨v3, rfl, ho3, hg3⟩
  have hg13 := hg2.trans hg3
  go_wp2_with fail
  refine (Check_any _ _ _ ho3.byt lb).mono ?_
  rw [e1]
  rintro e w4 ⟨rfl, hg4⟩
  have hg14 := hg13.trans hg4
  have hz : k.csum ≤ 65535 := by unfold Pkt.csum; omega
  go_wp2_with fail
  refine (set16_any W1 w4 w2.heap.size hg2.size hg14 _ _ (ho3.grow hg4) 10 _ (by rw [bare_length]; omega) (by rw [bare_length]; omega)).mono ?_
  rw [lay_head]
  rintro e w5 ⟨rfl, ho5, hg5⟩
  clear b0 b1 b2 b3 b4 b5 b6 b7 b8 b9 b10
  obtain ⟨b0, b1, b2, b3, b4, b5, b6, b7, b8, b9, b10⟩ := hB1.grow hg5
  have lh := head_length k
  obtain ⟨A5, m5, c5, rfl, _⟩ := ho5.byt.form2
  have q5 := ho5.byt
  have r5 := hd.grow (hg1.trans hg5)
  have n3 : 0 < [k.head, k.data].length := by simp
  have n4 : [k.head, k.data].length ≤ maxLen := by simp [maxLen]
  have n5 : lens [k.head, k.data] ≤ 281474976710656 := by simp [lens, lh]; omega
  go_wp2_with fail
  refine (Join_lit_at W1 _ hg5 _ 2 _ rfl [k.head, k.data] rfl rfl n3 n4 n5 (byt_two q5 r5)).mono ?_
  rintro e w9 ⟨v9, rfl, ho9, hg9⟩
  go_wp2_with fail
  go_ret2
  have eq9 : [k.head, k.data].flatten = k.bytes := by simp [Pkt.bytes]
  rw [eq9] at ho9
  exact ⟨_, rfl, ho9.base (by omega), hg1.trans hg9⟩
end Go.Proofs.Ytmibeahofienjaa
