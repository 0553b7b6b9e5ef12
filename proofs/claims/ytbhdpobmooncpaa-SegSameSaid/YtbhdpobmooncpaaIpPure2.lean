/- One byte turned; a packet that goes on: in numbers. -/
import Derived.Test.YtbhdpobmooncpaaIpPure
namespace Go.Proofs.Ytbhdpobmooncpaa
set_option linter.unusedVariables false
set_option linter.unusedSimpArgs false

theorem total_set : ∀ (l : List UInt8) (j : Nat) (v : UInt8) (h : j < l.length), total (l.set j v) + (if j % 2 = 0 then 256 else 1) * l[j].toNat = total l + (if j % 2 = 0 then 256 else 1) * v.toNat
  | [], j, v, h => by simp at h
  | [a], 0, v, h => by simp [total]; omega
  | [a], j + 1, v, h => by simp at h
  | a :: b :: r, 0, v, h => by simp [total]; omega
  | a :: b :: r, 1, v, h => by simp [total]; omega
  | a :: b :: r, j + 2, v, h => by
    have ih := total_set r j v (by simpa using h)
    have e : (j + 2) % 2 = j % 2 := by omega
    simp only [List.set_cons_succ, total, List.getElem_cons_succ, e]
    omega

theorem turned_code (k : Pkt) (hk : k.Ok) (hc : k.check = 0) (j : Nat) (v : UInt8) (hj1 : 1 ≤ j) (hj2 : j < 20 + k.opts.length) (hv : v.toNat ≠ byt k.bytes j) : mcode (k.bytes.set j v) = 4 := by
  have hg := (good_iff _).1 (by simpa using (put_got k hk hc []).1)
  obtain ⟨o1, o2, o3, o4, o5⟩ := check_zero' hc
  have hbl := bytes_length k
  have hkl : k.len = 20 + k.opts.length + k.data.length := rfl
  obtain ⟨h1, h2, h3, h4, h5, h6, h7, h8⟩ := hg
  have hb0 : byt (k.bytes.set j v) 0 = byt k.bytes 0 := by
    unfold byt
    rw [List.getElem?_set_ne (by omega)]
  have hh : hdr (k.bytes.set j v) = hdr k.bytes := by unfold hdr; rw [hb0]
  have hT : k.bytes.take (hdr k.bytes) = k.head := by
    have hB : byt k.bytes 0 = 69 + k.opts.length / 4 := by
      obtain ⟨b10, b11, e2⟩ := bytes_h20 k []
      rw [List.append_nil] at e2
      rw [e2, byt0, UInt8.toNat_ofNat']
      omega
    have : hdr k.bytes = 20 + k.opts.length := by unfold hdr; omega
    rw [this]
    exact List.take_left' (head_length k)
  have hH : hdr k.bytes = 20 + k.opts.length := by
    have := congrArg List.length hT
    rw [List.length_take, head_length] at this
    omega
  unfold mcode
  rw [hb0, hh, List.length_set, if_neg (by omega), if_neg (by omega), if_neg (by omega), if_pos]
  rw [List.take_set, hT]
  rw [hT] at h5
  rw [ones_ocs] at h5 ⊢
  have hlt : j < k.head.length := by rw [head_length]; omega
  have hs := total_set k.head j v hlt
  have hold : k.head[j].toNat = byt k.bytes j := by
    unfold byt Pkt.bytes
    rw [List.getElem?_append_left hlt]
    simp [hlt]
  rw [hold] at hs
  have q1 := v.toNat_lt
  have q2 := byt_lt k.bytes j
  generalize total (k.head.set j v) = T' at *
  generalize total k.head = T at *
  generalize byt k.bytes j = a at *
  generalize v.toNat = b at *
  unfold ocs at h5 ⊢
  split at hs
  · split at h5
    · omega
    · split
      · omega
      · omega
  · split at h5
    · omega
    · split
      · omega
      · omega

/-- What goes on. -/
def lcode (l : List UInt8) : Int := if mcode l ≠ 0 then mcode l else if byt l 8 < 2 then 6 else 0
def lturn (l : List UInt8) : Nat := turn (num l 10 : Nat) (num l 8 : Nat) ((num l 8 : Int) - 256)
def lived (l : List UInt8) : List UInt8 := (((l.take (num l 2)).set 8 (UInt8.ofNat (byt l 8 - 1))).set 10 (UInt8.ofNat (lturn l / 256))).set 11 (UInt8.ofNat (lturn l % 256))

theorem lived_good {l : List UInt8} (h : Good l) (h2 : 2 ≤ byt l 8) : mcode (lived l) = 0 ∧ got (lived l) = { got l with ttl := byt l 8 - 1 } := by
  obtain ⟨g1, g2, g3, g4, g5, g6, g7, g8⟩ := h
  have hh : 20 ≤ hdr l := by unfold hdr; omega
  have heh : hdr l = 4 * (byt l 0 - 64) := rfl
  obtain ⟨x0, x1, x2, x3, x4, x5, x6, x7, x8, x9, x10, x11, x12, x13, x14, x15, x16, x17, x18, x19, r, hl⟩ := h20 g1
  have hn : 20 ≤ num l 2 := by omega
  have ht : l.take (num l 2) = H20 x0 x1 x2 x3 x4 x5 x6 x7 x8 x9 x10 x11 x12 x13 x14 x15 x16 x17 x18 x19 (r.take (num l 2 - 20)) := by
    conv => lhs; rw [hl]
    rw [h20_take _ _ _ _ _ _ _ _ _ _ _ _ _ _ _ _ _ _ _ _ _ _ (by rw [← hl]; omega), ← hl]
  have el : lived l = H20 x0 x1 x2 x3 x4 x5 x6 x7 (UInt8.ofNat (byt l 8 - 1)) x9 (UInt8.ofNat (lturn l / 256)) (UInt8.ofNat (lturn l % 256)) x12 x13 x14 x15 x16 x17 x18 x19 (r.take (num l 2 - 20)) := by
    unfold lived
    rw [ht]
    rfl
  have B8 : byt l 8 = x8.toNat := by rw [hl]; rfl
  have B9 : byt l 9 = x9.toNat := by rw [hl]; rfl
  have N8 : num l 8 = 256 * x8.toNat + x9.toNat := by rw [hl]; rfl
  have N10 : num l 10 = 256 * x10.toNat + x11.toNat := by rw [hl]; rfl
  have q8 := x8.toNat_lt
  have q9 := x9.toNat_lt
  have q10 := num_lt l 10
  have q0 := x0.toNat_lt
  have lt : lturn l < 65536 := turn_lt _ _ _
  have hlr : l.length = 20 + r.length := by rw [hl, h20_length]
  have lr : (lived l).length = num l 2 := by
    rw [el, h20_length, List.length_take]
    omega
  have b0 : byt (lived l) 0 = byt l 0 := by rw [el, hl]; rfl
  have b1 : byt (lived l) 1 = byt l 1 := by rw [el, hl]; rfl
  have n2 : num (lived l) 2 = num l 2 := by rw [el, hl]; rfl
  have n4 : num (lived l) 4 = num l 4 := by rw [el, hl]; rfl
  have b6 : byt (lived l) 6 = byt l 6 := by rw [el, hl]; rfl
  have n6 : num (lived l) 6 = num l 6 := by rw [el, hl]; rfl
  have b8 : byt (lived l) 8 = byt l 8 - 1 := by rw [el, byt8, UInt8.toNat_ofNat']; omega
  have b9 : byt (lived l) 9 = byt l 9 := by rw [el, hl]; rfl
  have n12 : num (lived l) 12 = num l 12 := by rw [el, hl]; rfl
  have n14 : num (lived l) 14 = num l 14 := by rw [el, hl]; rfl
  have n16 : num (lived l) 16 = num l 16 := by rw [el, hl]; rfl
  have n18 : num (lived l) 18 = num l 18 := by rw [el, hl]; rfl
  have hhl : hdr (lived l) = hdr l := by unfold hdr; rw [b0]
  have t1 : (lived l).take (hdr l) = H20 x0 x1 x2 x3 x4 x5 x6 x7 (UInt8.ofNat (byt l 8 - 1)) x9 (UInt8.ofNat (lturn l / 256)) (UInt8.ofNat (lturn l % 256)) x12 x13 x14 x15 x16 x17 x18 x19 (r.take (hdr l - 20)) := by
    conv => lhs; rw [el]
    rw [h20_take _ _ _ _ _ _ _ _ _ _ _ _ _ _ _ _ _ _ _ _ _ _ hh, List.take_take]
    congr 2
    omega
  have t0 : l.take (hdr l) = H20 x0 x1 x2 x3 x4 x5 x6 x7 x8 x9 x10 x11 x12 x13 x14 x15 x16 x17 x18 x19 (r.take (hdr l - 20)) := by
    conv => lhs; rw [hl]
    rw [h20_take _ _ _ _ _ _ _ _ _ _ _ _ _ _ _ _ _ _ _ _ _ _ (by rw [← hl]; omega), ← hl]
  have tt : total ((lived l).take (hdr l)) + 256 + num l 10 = total (l.take (hdr l)) + lturn l := by
    rw [t1, t0, h20_total, h20_total, UInt8.toNat_ofNat', UInt8.toNat_ofNat', UInt8.toNat_ofNat']
    omega
  have pos : 256 * 69 ≤ total ((lived l).take (hdr l)) := by
    rw [t1, h20_total]
    have : byt l 0 = x0.toNat := by rw [hl]; rfl
    omega
  have hr : ones ((lived l).take (hdr l)) = 65535 := by
    rw [ones_ocs] at g5 ⊢
    have elt : lturn l = 65535 - addc (addc (65535 - num l 10) (65535 - num l 8)) (num l 8 - 256) := by
      have q := num_lt l 8
      unfold lturn turn
      rw [low_nat q10, low_nat q, show ((num l 8 : Int) - 256) = ((num l 8 - 256 : Nat) : Int) by omega, low_nat (by omega)]
    have e1 : addc (addc (65535 - num l 10) (65535 - num l 8)) (num l 8 - 256) = ocs (65535 - num l 10 + (65535 - num l 8) + (num l 8 - 256)) := by
      have q := num_lt l 8
      rw [← ocs_self (show 65535 - num l 10 < 65536 by omega), ocs_add _ _ (by omega), ocs_add _ _ (by omega)]
      rw [ocs_self (show 65535 - num l 10 < 65536 by omega)]
    rw [e1] at elt
    have q := num_lt l 8
    generalize total ((lived l).take (hdr l)) = T' at *
    generalize total (l.take (hdr l)) = T at *
    generalize num l 10 = c at *
    generalize num l 8 = wv at *
    generalize lturn l = u at *
    have hw : 512 ≤ wv := by omega
    have es : 65535 - c + (65535 - wv) + (wv - 256) = 130814 - c := by omega
    rw [es] at elt
    clear es
    have hT : T' = T ∨ T' + 65535 = T := by
      unfold ocs at elt
      rw [if_neg (by omega)] at elt
      clear g5
      omega
    have h256 : 1 ≤ T' := by omega
    clear elt tt pos
    unfold ocs at g5 ⊢
    rw [if_neg (by omega)] at g5 ⊢
    omega
  constructor
  · rw [good_iff]
    refine ⟨by omega, by omega, by omega, by omega, by rw [hhl]; exact hr, by omega, by omega, by omega⟩
  · have eo : ((lived l).take (hdr l)).drop 20 = (l.take (hdr l)).drop 20 := by rw [t1, t0]; rfl
    have ed : ((lived l).take (num l 2)).drop (hdr l) = (l.take (num l 2)).drop (hdr l) := by
      rw [List.take_of_length_le (by omega), el, ht, h20_drop _ _ _ _ _ _ _ _ _ _ _ _ _ _ _ _ _ _ _ _ _ _ hh, h20_drop _ _ _ _ _ _ _ _ _ _ _ _ _ _ _ _ _ _ _ _ _ _ hh]
    unfold got
    simp only [hhl, n2, b1, n4, b6, n6, b8, b9, n12, n14, n16, n18, eo, ed]
end Go.Proofs.Ytbhdpobmooncpaa
