/- Pieces of a packet, in numbers; the contract of first. -/
import Derived.Test.YtkofmbnolaiecaaFrOpt
namespace Go.Proofs.Ytkofmbnolaiecaa
set_option linter.unusedVariables false
set_option linter.unusedSimpArgs false
open Go.ChangeShapes Go.WideShapes Go.ChangeAt Go.RowKit

/-- How many bytes go into one piece. -/
def froom (mtu : Nat) (k : Pkt) : Nat := (mtu - 20 - k.opts.length) / 8 * 8
def ffirst (mtu : Nat) (k : Pkt) : Pkt := { k with more := true, data := k.data.take (froom mtu k) }
def frest (c : List UInt8) (mtu : Nat) (k : Pkt) : Pkt := { k with opts := c, data := k.data.drop (froom mtu k), off := k.off + (froom mtu k / 8 : Nat) }
/-- The pieces, or none: one lies too far behind. -/
def fpieces (c : List UInt8) (mtu : Nat) : Nat → Pkt → Option (List Pkt)
  | 0, _ => some []
  | n + 1, k => if 8191 < k.off then none else if k.len ≤ mtu then some [k] else (fpieces c mtu n (frest c mtu k)).map (ffirst mtu k :: ·)
theorem froom_bounds {mtu : Nat} {k : Pkt} (h1 : 68 ≤ mtu) (h2 : k.opts.length ≤ 40) (h3 : mtu < k.len) : 8 ≤ froom mtu k ∧ froom mtu k < k.data.length ∧ froom mtu k % 8 = 0 ∧ froom mtu k ≤ mtu := by
  unfold froom
  unfold Pkt.len at h3
  omega
theorem len_nil {mtu : Nat} {k : Pkt} (h1 : 68 ≤ mtu) (h2 : k.opts.length ≤ 40) (h3 : mtu < k.len) : 8 < k.data.length := by
  unfold Pkt.len at h3
  omega

/-- Why there are none, or 0. -/
def fwhy (k : Pkt) (mtu : Int) : Int := if k.check ≠ 0 then k.check else if mtu < 68 ∨ 65535 < mtu then 1 else if (k.len : Int) ≤ mtu then 0 else if k.whole then 110 else fcode k.opts
def fgo (k : Pkt) (mtu : Int) : Option (List Pkt) := fpieces (fcar k.opts) mtu.toNat (k.data.length + 1) k
def fcodeS (k : Pkt) (mtu : Int) : Int := if fwhy k mtu ≠ 0 then fwhy k mtu else if (fgo k mtu).isNone then 8 else 0
def flist (k : Pkt) (mtu : Int) : List Pkt := if fwhy k mtu ≠ 0 then [] else (fgo k mtu).getD []

theorem Pkt.check_ok {k : Pkt} (h : k.check = 0) : 0 ≤ k.off ∧ k.off ≤ 8191 ∧ k.opts.length ≤ 40 ∧ k.len ≤ 65535 := by
  unfold Pkt.check at h
  split at h
  · cases h
  · split at h
    · cases h
    · omega
theorem Pkt.check_in (k : Pkt) : 0 ≤ k.check ∧ k.check ≤ 9 := by
  unfold Pkt.check
  split
  · decide
  · split <;> decide
theorem fcode_in (l : List UInt8) : 0 ≤ fcode l ∧ fcode l ≤ 3 := by
  rcases fcode_cases l with ⟨h, _⟩ | ⟨h, _⟩ | ⟨h, _⟩ <;> rw [h] <;> decide
theorem fwhy_in (k : Pkt) (mtu : Int) : 0 ≤ fwhy k mtu ∧ fwhy k mtu ≤ 110 := by
  have h1 := k.check_in
  have h2 := fcode_in k.opts
  unfold fwhy
  split
  · omega
  · split
    · decide
    · split
      · decide
      · split
        · decide
        · omega
theorem fcodeS_in (k : Pkt) (mtu : Int) : 0 ≤ fcodeS k mtu ∧ fcodeS k mtu ≤ 110 := by
  have h1 := fwhy_in k mtu
  unfold fcodeS
  split
  · exact h1
  · split <;> decide

set_option maxHeartbeats 4000000 in
theorem first_any (vo vd : Value) (k : Pkt) (mtu : Nat) (w : World) (ho : Byt w vo k.opts) (hd : Byt w vd k.data) (hk : k.Ok) (hs : k.Small) (h1 : 68 ≤ mtu) (h2 : mtu ≤ 65535) (h3 : k.opts.length ≤ 40) (h4 : mtu < k.len) :
    Calls Try.prog 19 #[ipV k vo vd, .int .i64 (mtu : Int)] w fun e w' => ∃ vd', e = .returned (ipV (ffirst mtu k) vo vd') ∧ Byt w' vd' (k.data.take (froom mtu k)) ∧ Grow w w' := by
  obtain ⟨A, c, rfl, hc, hcm⟩ := ho.form
  obtain ⟨B, d, rfl, hdc, hdm⟩ := hd.form
  have hsm := hs
  obtain ⟨hs1, hs2⟩ := hs
  have hlen : k.len ≤ 2000020 := by unfold Pkt.len; omega
  have hll : k.len = 20 + k.opts.length + k.data.length := rfl
  have hr := froom_bounds h1 h3 h4
  obtain ⟨R, hR⟩ : ∃ R, R = froom mtu k := ⟨_, rfl⟩
  obtain ⟨O, hO⟩ : ∃ O, O = k.len - mtu := ⟨_, rfl⟩
  obtain ⟨F, hF⟩ : ∃ F, F = mtu - 20 - k.opts.length := ⟨_, rfl⟩
  have hRF : R = F / 8 * 8 := by rw [hR, hF]; rfl
  rw [← hR] at hr ⊢
  have e1 : (k.len : Int) - (mtu : Int) = (O : Int) := by omega
  have e2 : (k.data.length : Int) - (O : Int) = (F : Int) := by omega
  have e3 : (F : Int) - (F : Int) % 8 = (R : Int) := by omega
  have hR2 : R ≤ d := by omega
  have hR3 : R ≤ k.data.length := by omega
  have hOb : O ≤ 2000020 := by omega
  have hFb : F ≤ 65535 := by omega
  have hRb : R ≤ 65535 := by omega
  have EK : Hid ({ k with more := true, data := k.data.take R } = ffirst mtu k) := by unfold ffirst; rw [← hR]; rfl
  have hbf := hd.front hR3
  obtain ⟨W1, hW1⟩ : ∃ W1, W1 = (w.alloc (.cells #[.int .u8 (k.tos : Int), .int .u16 (k.ident : Int), .bool k.whole, .bool k.more, .int .i64 k.off, .int .u8 (k.ttl : Int), .int .u8 (k.proto : Int), .int .u32 (k.src : Int), .int .u32 (k.dst : Int), .slice A k.opts.length c, .slice B k.data.length d] 27)).alloc (.cells #[.int .u8 0, .int .u16 0, .bool false, .bool false, .int .i64 0, .int .u8 0, .int .u8 0, .int .u32 0, .int .u32 0, .slice none 0 0, .slice none 0 0] 27) := ⟨_, rfl⟩
  obtain ⟨hg1, hsz, hB, hZ⟩ := two_blk w k _ _ hW1
  have T := Lib.hid (And.intro hg1 (And.intro hsz (And.intro hB hZ)))
  have hip : Hid (Ip W1 (ipV k (.slice A k.opts.length c) (.slice B k.data.length d)) k) := ⟨_, _, rfl, ho.grow hg1, hd.grow hg1, hk⟩
  have HD := Lib.hid hbf
  obtain ⟨b0, b1, b2, b3, b4, b5, b6, b7, b8, b9, b10⟩ := hB.boxd
  clear hZ hg1 hB hsz hbf ho hd hR hO hF hRF hll hr h1 h3 h4 hdc hc
  go_enter Try.func19, Try.ntmps19
  go_wp2_with fail
  rw [← hW1]
  refine (Len_any _ _ _ hip.out hsm).mono ?_
  rintro e w2 ⟨rfl, hg2⟩
  clear hW1 b0 b1 b2 b3 b4 b5 b6 b7 b8 b9 b10
  have hB2 := T.out.2.2.1.grow hg2
  obtain ⟨b0, b1, b2, b3, b4, b5, b6, b7, b8, b9, b10⟩ := hB2.boxd
  have HB2 := Lib.hid hB2
  clear hB2
  go_wp2_with (first | (refine wpList_store_ip w w4 rfl _ _ rfl rfl (w.heap.size + 1) rfl { k with more := true, data := k.data.take R } zeroPk (.slice A k.opts.length c) (.slice B R d) (.slice none 0 0) (.slice none 0 0) rfl rfl rfl (((T.out.2.2.2.grow hg2).but hbut3 (by omega)).but hbut4 (by omega)) hg4 (by omega) ?_; intro w6 hk6 hbut6 hg6) | (refine wpList_store_fld w w3 rfl _ _ _ rfl rfl w.heap.size 3 (.bool true) rfl rfl { k with data := k.data.take R } { k with more := true, data := k.data.take R } (.slice A k.opts.length c) (.slice B R d) (.slice A k.opts.length c) (.slice B R d) hB3 (by kernel_rfl) rfl (by omega) rfl hg3 (Nat.le_refl _) ?_; intro w4 hB4 hbut4 hg4; have hB4' := hB4; obtain ⟨b0, b1, b2, b3, b4, b5, b6, b7, b8, b9, b10⟩ := hB4'.boxd; clear hB4') | (refine wpList_store_fld w w2 rfl _ _ _ rfl rfl w.heap.size 10 (.slice B R d) rfl rfl k { k with data := k.data.take R } (.slice A k.opts.length c) (.slice B k.data.length d) (.slice A k.opts.length c) (.slice B R d) HB2.out (by kernel_rfl) rfl (by omega) rfl (T.out.1.trans hg2) (Nat.le_refl _) ?_; intro w3 hB3 hbut3 hg3; have hB3' := hB3; obtain ⟨b0, b1, b2, b3, b4, b5, b6, b7, b8, b9, b10⟩ := hB3'.boxd; clear hB3'))
  refine bodyPost_ret (results1_ip 4 rfl _ w6 (w.heap.size + 1) _ _ _ rfl hk6) rfl ?_
  rw [← EK.out]
  exact ⟨_, rfl, HD.out.grow hg6, hg6⟩
end Go.Proofs.Ytkofmbnolaiecaa
