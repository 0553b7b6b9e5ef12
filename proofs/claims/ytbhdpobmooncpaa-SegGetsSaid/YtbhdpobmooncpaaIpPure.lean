/- What is put is got; what is got, and put, is its own bytes: in numbers. -/
import Derived.Test.YtbhdpobmooncpaaIpNum
namespace Go.Proofs.Ytbhdpobmooncpaa
set_option linter.unusedVariables false
set_option linter.unusedSimpArgs false

theorem check_zero' {k : Pkt} (h : k.check = 0) : 0 ≤ k.off ∧ k.off ≤ 8191 ∧ k.opts.length ≤ 40 ∧ k.opts.length % 4 = 0 ∧ k.len ≤ 65535 := by
  unfold Pkt.check at h
  split at h
  · cases h
  · split at h
    · cases h
    · omega
theorem flag_le (k : Pkt) : 0 ≤ k.flag ∧ k.flag ≤ 24576 := by unfold Pkt.flag; cases k.whole <;> cases k.more <;> simp

theorem dig4 (n : Nat) : dig n 4 = [UInt8.ofNat (n / 16777216), UInt8.ofNat (n / 65536), UInt8.ofNat (n / 256), UInt8.ofNat n] := by simp [dig]
theorem two_pair (a b : UInt8) : two ((256 * a.toNat + b.toNat : Nat) : Int) = [a, b] := by
  have ha := a.toNat_lt
  have hb := b.toNat_lt
  have e : (((256 * a.toNat + b.toNat : Nat) : Int) % 65536).toNat = 256 * a.toNat + b.toNat := by omega
  unfold two
  rw [e, show (256 * a.toNat + b.toNat) / 256 = a.toNat by omega, show (256 * a.toNat + b.toNat) % 256 = b.toNat by omega]
  simp
theorem dig_pairs (a b c d : UInt8) : dig (65536 * (256 * a.toNat + b.toNat) + (256 * c.toNat + d.toNat)) 4 = [a, b, c, d] := by
  have ha := a.toNat_lt
  have hb := b.toNat_lt
  have hc := c.toNat_lt
  have hd := d.toNat_lt
  rw [dig_four _ (by omega), show (65536 * (256 * a.toNat + b.toNat) + (256 * c.toNat + d.toNat)) / 65536 = 256 * a.toNat + b.toNat by omega,
    show (65536 * (256 * a.toNat + b.toNat) + (256 * c.toNat + d.toNat)) % 65536 = 256 * c.toNat + d.toNat by omega, two_pair, two_pair]
  rfl

/-- The header that is written is right. -/
theorem head_right (k : Pkt) : ones k.head = 65535 := by
  have h1 := pre_length k
  have e1 : total k.bare = total k.pre + total k.post := by
    unfold Pkt.bare
    rw [total_append _ _ (by simp [h1]), total_append _ _ (by rw [h1])]
    simp [total]
  have e2 : ones k.bare = ocs (total k.pre + total k.post) := by rw [ones_ocs, e1]
  have h2 := ones_lt k.bare
  have e3 : total k.head = total k.pre + total k.post + (65535 - ocs (total k.pre + total k.post)) := by
    unfold Pkt.head
    rw [total_append _ _ (by simp [h1, two_length]), total_append _ _ (by rw [h1]), total_two _ (by unfold Pkt.csum; omega)]
    unfold Pkt.csum
    rw [e2]
    omega
  rw [ones_ocs, e3]
  exact ocs_right _

theorem bytes_h20 (k : Pkt) (m : List UInt8) : ∃ b10 b11, k.bytes ++ m = H20 (UInt8.ofNat (69 + k.opts.length / 4)) (UInt8.ofNat k.tos) (UInt8.ofNat (((k.len : Int) % 65536).toNat / 256)) (UInt8.ofNat (((k.len : Int) % 65536).toNat % 256))
    (UInt8.ofNat (((k.ident : Int) % 65536).toNat / 256)) (UInt8.ofNat (((k.ident : Int) % 65536).toNat % 256)) (UInt8.ofNat (((k.off + k.flag) % 65536).toNat / 256)) (UInt8.ofNat (((k.off + k.flag) % 65536).toNat % 256)) (UInt8.ofNat k.ttl) (UInt8.ofNat k.proto) b10 b11
    (UInt8.ofNat (k.src / 16777216)) (UInt8.ofNat (k.src / 65536)) (UInt8.ofNat (k.src / 256)) (UInt8.ofNat k.src) (UInt8.ofNat (k.dst / 16777216)) (UInt8.ofNat (k.dst / 65536)) (UInt8.ofNat (k.dst / 256)) (UInt8.ofNat k.dst) (k.opts ++ (k.data ++ m)) :=
  ⟨UInt8.ofNat (((k.csum : Int) % 65536).toNat / 256), UInt8.ofNat (((k.csum : Int) % 65536).toNat % 256), by simp only [Pkt.bytes, Pkt.head, Pkt.pre, Pkt.post, two, dig4, H20, List.cons_append, List.nil_append, List.append_assoc]⟩

theorem put_got (k : Pkt) (hk : k.Ok) (hc : k.check = 0) (m : List UInt8) : mcode (k.bytes ++ m) = 0 ∧ got (k.bytes ++ m) = k := by
  obtain ⟨o1, o2, o3, o4, o5⟩ := check_zero' hc
  obtain ⟨f1, f2⟩ := flag_le k
  have hhl := head_length k
  have hbl := bytes_length k
  have e1 : k.bytes ++ m = k.head ++ (k.data ++ m) := by simp [Pkt.bytes]
  have hlen : (k.bytes ++ m).length = k.len + m.length := by rw [List.length_append, hbl]
  have hkl : k.len = 20 + k.opts.length + k.data.length := rfl
  obtain ⟨b10, b11, e2⟩ := bytes_h20 k m
  obtain ⟨h1, h2, h3, h4, h5, h6, h7, h8⟩ := hk
  have B0 : byt (k.bytes ++ m) 0 = 69 + k.opts.length / 4 := by rw [e2, byt0, UInt8.toNat_ofNat']; omega
  have B1 : byt (k.bytes ++ m) 1 = k.tos := by rw [e2, byt1, UInt8.toNat_ofNat']; omega
  have N2 : num (k.bytes ++ m) 2 = k.len := by unfold num; rw [e2, byt2, byt3, UInt8.toNat_ofNat', UInt8.toNat_ofNat']; omega
  have N4 : num (k.bytes ++ m) 4 = k.ident := by unfold num; rw [e2, byt4, byt5, UInt8.toNat_ofNat', UInt8.toNat_ofNat']; omega
  have B6 : byt (k.bytes ++ m) 6 = (k.off + k.flag).toNat / 256 := by rw [e2, byt6, UInt8.toNat_ofNat']; omega
  have N6 : num (k.bytes ++ m) 6 = (k.off + k.flag).toNat := by unfold num; rw [e2, byt6, byt7, UInt8.toNat_ofNat', UInt8.toNat_ofNat']; omega
  have B8 : byt (k.bytes ++ m) 8 = k.ttl := by rw [e2, byt8, UInt8.toNat_ofNat']; omega
  have B9 : byt (k.bytes ++ m) 9 = k.proto := by rw [e2, byt9, UInt8.toNat_ofNat']; omega
  have NS : 65536 * num (k.bytes ++ m) 12 + num (k.bytes ++ m) 14 = k.src := by unfold num; rw [e2, byt12, byt13, byt14, byt15, UInt8.toNat_ofNat', UInt8.toNat_ofNat', UInt8.toNat_ofNat', UInt8.toNat_ofNat']; omega
  have ND : 65536 * num (k.bytes ++ m) 16 + num (k.bytes ++ m) 18 = k.dst := by unfold num; rw [e2, byt16, byt17, byt18, byt19, UInt8.toNat_ofNat', UInt8.toNat_ofNat', UInt8.toNat_ofNat', UInt8.toNat_ofNat']; omega
  have hH : hdr (k.bytes ++ m) = 20 + k.opts.length := by unfold hdr; rw [B0]; omega
  have hT : (k.bytes ++ m).take (20 + k.opts.length) = k.head := by rw [e1]; exact List.take_left' hhl
  clear e2
  constructor
  · rw [good_iff]
    refine ⟨by omega, by omega, by omega, by omega, ?_, by omega, by omega, by omega⟩
    rw [hH, hT]
    exact head_right k
  · have hO : ((k.bytes ++ m).take (hdr (k.bytes ++ m))).drop 20 = k.opts := by
      rw [hH, hT]
      unfold Pkt.head Pkt.post
      rw [← List.append_assoc]
      exact List.drop_left' (by simp [pre_length, two_length, dig_length])
    have hD : ((k.bytes ++ m).take (num (k.bytes ++ m) 2)).drop (hdr (k.bytes ++ m)) = k.data := by
      rw [N2, hH, List.take_left' hbl]
      unfold Pkt.bytes
      exact List.drop_left' hhl
    have hW : decide (byt (k.bytes ++ m) 6 / 64 % 2 = 1) = k.whole := by
      rw [B6]
      unfold Pkt.flag
      cases hw : k.whole <;> cases hm : k.more <;> simp <;> omega
    have hM : decide (byt (k.bytes ++ m) 6 / 32 % 2 = 1) = k.more := by
      rw [B6]
      unfold Pkt.flag
      cases hw : k.whole <;> cases hm : k.more <;> simp <;> omega
    have hF : ((num (k.bytes ++ m) 6 % 8192 : Nat) : Int) = k.off := by
      rw [N6]
      unfold Pkt.flag
      cases hw : k.whole <;> cases hm : k.more <;> simp <;> omega
    unfold got
    rw [hO, hD, B1, N4, hW, hM, hF, B8, B9, NS, ND]

/-- What was got, put again. -/
theorem got_check {l : List UInt8} (h : Good l) : (got l).check = 0 ∧ (got l).len = num l 2 ∧ (got l).opts.length = hdr l - 20 := by
  obtain ⟨h1, h2, h3, h4, h5, h6, h7, h8⟩ := h
  have hh : 20 ≤ hdr l := by unfold hdr; omega
  have hh2 : hdr l ≤ 60 := by unfold hdr; omega
  have hh3 : hdr l % 4 = 0 := by unfold hdr; omega
  have l2 := num_lt l 2
  have lo : (got l).opts.length = hdr l - 20 := by simp only [got, List.length_drop, List.length_take]; omega
  have ld : (got l).data.length = num l 2 - hdr l := by simp only [got, List.length_drop, List.length_take]; omega
  have ll : (got l).len = num l 2 := by unfold Pkt.len; omega
  have l6 := num_lt l 6
  have hoff : (got l).off = ((num l 6 % 8192 : Nat) : Int) := rfl
  refine ⟨?_, ll, lo⟩
  unfold Pkt.check
  rw [if_neg (by omega), if_neg (by omega)]

theorem got_bytes {l : List UInt8} (h : Good l) : (got l).bytes = l.take 10 ++ two (((got l).csum : Nat) : Int) ++ (l.take (num l 2)).drop 12 ∧ ((got l).csum = num l 10 ∨ (num l 10 = 65535 ∧ (got l).csum = 0)) := by
  have hgd := h
  obtain ⟨hc, hll, hol⟩ := got_check h
  obtain ⟨h1, h2, h3, h4, h5, h6, h7, h8⟩ := h
  have hh : 20 ≤ hdr l := by unfold hdr; omega
  have heh : hdr l = 4 * (byt l 0 - 64) := rfl
  obtain ⟨x0, x1, x2, x3, x4, x5, x6, x7, x8, x9, x10, x11, x12, x13, x14, x15, x16, x17, x18, x19, r, hl⟩ := h20 h1
  have q6 := x6.toNat_lt
  have q7 := x7.toNat_lt
  have B0 : byt l 0 = x0.toNat := by rw [hl]; rfl
  have B6 : byt l 6 = x6.toNat := by rw [hl]; rfl
  have N6 : num l 6 = 256 * x6.toNat + x7.toNat := by rw [hl]; rfl
  have ep : (got l).pre = [x0, x1, x2, x3, x4, x5, x6, x7, x8, x9] := by
    unfold Pkt.pre
    rw [hll, hol, show 69 + (hdr l - 20) / 4 = x0.toNat by omega]
    have e2 : two ((num l 2 : Nat) : Int) = [x2, x3] := by rw [hl]; exact two_pair x2 x3
    have e4 : two (((got l).ident : Nat) : Int) = [x4, x5] := by
      show two ((num l 4 : Nat) : Int) = _
      rw [hl]; exact two_pair x4 x5
    have ew : (got l).off + (got l).flag = ((256 * x6.toNat + x7.toNat : Nat) : Int) := by
      have hw : (got l).whole = decide (x6.toNat / 64 % 2 = 1) := by show decide (byt l 6 / 64 % 2 = 1) = _; rw [B6]
      have hm : (got l).more = decide (x6.toNat / 32 % 2 = 1) := by show decide (byt l 6 / 32 % 2 = 1) = _; rw [B6]
      have ho : (got l).off = ((num l 6 % 8192 : Nat) : Int) := rfl
      unfold Pkt.flag
      rw [hw, hm, ho, N6]
      by_cases c1 : x6.toNat / 64 % 2 = 1 <;> by_cases c2 : x6.toNat / 32 % 2 = 1 <;> simp [c1, c2] <;> omega
    have e6 : two ((got l).off + (got l).flag) = [x6, x7] := by rw [ew]; exact two_pair x6 x7
    have e1 : UInt8.ofNat (got l).tos = x1 := by show UInt8.ofNat (byt l 1) = _; rw [hl, byt1]; simp
    have e8 : UInt8.ofNat (got l).ttl = x8 := by show UInt8.ofNat (byt l 8) = _; rw [hl, byt8]; simp
    have e9 : UInt8.ofNat (got l).proto = x9 := by show UInt8.ofNat (byt l 9) = _; rw [hl, byt9]; simp
    rw [e2, e4, e6, e1, e8, e9]
    simp
  have es : dig (got l).src 4 = [x12, x13, x14, x15] := by
    show dig (65536 * num l 12 + num l 14) 4 = _
    rw [hl]; exact dig_pairs x12 x13 x14 x15
  have ed : dig (got l).dst 4 = [x16, x17, x18, x19] := by
    show dig (65536 * num l 16 + num l 18) 4 = _
    rw [hl]; exact dig_pairs x16 x17 x18 x19
  have eo : (got l).opts = r.take (hdr l - 20) := by
    show (l.take (hdr l)).drop 20 = _
    conv => lhs; rw [hl]
    rw [h20_take _ _ _ _ _ _ _ _ _ _ _ _ _ _ _ _ _ _ _ _ _ _ (by rw [← hl]; exact hh), h20_drop _ _ _ _ _ _ _ _ _ _ _ _ _ _ _ _ _ _ _ _ _ _ (Nat.le_refl _), ← hl]
    simp
  have eod : (got l).opts ++ (got l).data = r.take (num l 2 - 20) := by
    have e1 : (got l).data = (r.take (num l 2 - 20)).drop (hdr l - 20) := by
      show (l.take (num l 2)).drop (hdr l) = _
      conv => lhs; rw [hl]
      rw [h20_take _ _ _ _ _ _ _ _ _ _ _ _ _ _ _ _ _ _ _ _ _ _ (by rw [← hl]; omega), h20_drop _ _ _ _ _ _ _ _ _ _ _ _ _ _ _ _ _ _ _ _ _ _ (by rw [← hl]; omega), ← hl]
    have e2 : r.take (hdr l - 20) = (r.take (num l 2 - 20)).take (hdr l - 20) := by rw [List.take_take]; congr 1; omega
    rw [eo, e1, e2, List.take_append_drop]
  constructor
  · have e3 : (l.take (num l 2)).drop 12 = [x12, x13, x14, x15, x16, x17, x18, x19] ++ r.take (num l 2 - 20) := by
      conv => lhs; rw [hl]
      rw [h20_take _ _ _ _ _ _ _ _ _ _ _ _ _ _ _ _ _ _ _ _ _ _ (by rw [← hl]; omega), ← hl]
      rfl
    have e4 : l.take 10 = [x0, x1, x2, x3, x4, x5, x6, x7, x8, x9] := by rw [hl]; rfl
    rw [e3, e4]
    unfold Pkt.bytes Pkt.head Pkt.post
    rw [ep, es, ed, ← eod]
    simp only [List.append_assoc, List.cons_append, List.nil_append]
  · have et : total (l.take (hdr l)) = total (got l).bare + num l 10 := by
      conv => lhs; rw [hl]
      rw [h20_take _ _ _ _ _ _ _ _ _ _ _ _ _ _ _ _ _ _ _ _ _ _ (by rw [← hl]; omega), h20_total, ← hl]
      have e5 : (got l).bare = H20 x0 x1 x2 x3 x4 x5 x6 x7 x8 x9 0 0 x12 x13 x14 x15 x16 x17 x18 x19 (r.take (hdr l - 20)) := by
        unfold Pkt.bare Pkt.post
        rw [ep, es, ed, eo]
        rfl
      have e6 : num l 10 = 256 * x10.toNat + x11.toNat := by rw [hl]; rfl
      rw [e5, h20_total, e6]
      simp
      omega
    have hp : 0 < total (got l).bare := by
      have e5 : (got l).bare = x0 :: x1 :: ([x2, x3, x4, x5, x6, x7, x8, x9, 0, 0, x12, x13, x14, x15, x16, x17, x18, x19] ++ r.take (hdr l - 20)) := by
        unfold Pkt.bare Pkt.post
        rw [ep, es, ed, eo]
        rfl
      rw [e5]
      simp only [total]
      omega
    rw [ones_ocs, et] at h5
    have n10 := num_lt l 10
    have ec : (got l).csum = 65535 - ocs (total (got l).bare) := by unfold Pkt.csum; rw [ones_ocs]
    rw [ec]
    generalize total (got l).bare = T at *
    generalize num l 10 = c at *
    unfold ocs at h5 ⊢
    rw [if_neg (by omega)] at h5
    rw [if_neg (by omega)]
    omega
end Go.Proofs.Ytbhdpobmooncpaa
