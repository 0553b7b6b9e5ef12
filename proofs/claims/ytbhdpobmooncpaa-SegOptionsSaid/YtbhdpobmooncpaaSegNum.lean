/- Segments and bytes, in numbers: what is written, what is read, and that the one undoes the other; one byte turned; options. -/
import Derived.Test.YtbhdpobmooncpaaSegS
import Derived.Test.YtbhdpobmooncpaaIpPure2
import Derived.Test.YtbhdpobmooncpaaSumHead
namespace Go.Proofs.Ytbhdpobmooncpaa
set_option linter.unusedVariables false
set_option linter.unusedSimpArgs false

/-- May it be a segment? -/
def Sgm.check (k : Sgm) : Int := if 63 < k.flags ∨ k.mss < 0 ∨ 65535 < k.mss ∨ k.scale < 0 ∨ 15 < k.scale then 1 else if 65455 < k.data.length then 9 else 0
structure Sgm.Fine (k : Sgm) : Prop where
  flags : k.flags ≤ 63
  mss1 : 0 ≤ k.mss
  mss2 : k.mss ≤ 65535
  scale1 : 0 ≤ k.scale
  scale2 : k.scale ≤ 15
  data : k.data.length ≤ 65455
theorem fine_iff (k : Sgm) : k.check = 0 ↔ k.Fine := by
  unfold Sgm.check
  constructor
  · intro h
    split at h
    · cases h
    · split at h
      · cases h
      · exact ⟨by omega, by omega, by omega, by omega, by omega, by omega⟩
  · rintro ⟨h1, h2, h3, h4, h5, h6⟩
    rw [if_neg (by omega), if_neg (by omega)]
theorem check_le (k : Sgm) : 0 ≤ k.check ∧ k.check ≤ 9 := by
  unfold Sgm.check
  split
  · omega
  · split <;> omega
def Sgm.len (k : Sgm) : Int := (k.data.length : Int) + ((k.flags % 2 : Nat) : Int) + ((k.flags / 2 % 2 : Nat) : Int)

/-- Options as bytes. -/
def mssO (m : Int) : List UInt8 := if m = 0 then [] else [2, 4] ++ two m
def scaleO (s : Int) : List UInt8 := if s = 0 then [] else [1, 3, 3, UInt8.ofNat (s - 1).toNat]
def sopts (m s : Int) : List UInt8 := mssO m ++ scaleO s
theorem mssO_length (m : Int) : (mssO m).length = if m = 0 then 0 else 4 := by unfold mssO; split <;> rfl
theorem scaleO_length (s : Int) : (scaleO s).length = if s = 0 then 0 else 4 := by unfold scaleO; split <;> rfl
theorem sopts_length (m s : Int) : (sopts m s).length = 0 ∨ (sopts m s).length = 4 ∨ (sopts m s).length = 8 := by
  unfold sopts
  rw [List.length_append, mssO_length, scaleO_length]
  split <;> split <;> omega

/-- Bytes as options. -/
def osize (l : List UInt8) : Nat := if l.length < 2 ∨ byt l 1 < 2 ∨ l.length < byt l 1 ∨ (byt l 0 = 2 ∧ byt l 1 ≠ 4) ∨ (byt l 0 = 3 ∧ byt l 1 ≠ 3) then 0 else byt l 1
def capS (b : Nat) : Nat := if 14 < b then 15 else b + 1
theorem capS_le (b : Nat) : 1 ≤ capS b ∧ capS b ≤ 15 := by unfold capS; split <;> omega
def scan : Nat → List UInt8 → Nat → Nat → Nat × Nat × Int
  | 0, _, m, s => (m, s, 0)
  | f + 1, l, m, s =>
    if l.length = 0 then (m, s, 0) else if byt l 0 = 0 then (m, s, 0) else if byt l 0 = 1 then scan f (l.drop 1) m s
    else if osize l = 0 then (0, 0, 3) else if byt l 0 = 2 then scan f (l.drop 4) (num l 2) s
    else if byt l 0 = 3 then scan f (l.drop 3) m (capS (byt l 2)) else scan f (l.drop (osize l)) m s
def sread (l : List UInt8) : Nat × Nat × Int := scan l.length l 0 0
theorem scan_le : ∀ (f : Nat) (l : List UInt8) (m s : Nat), m < 65536 → s ≤ 15 → (scan f l m s).1 < 65536 ∧ (scan f l m s).2.1 ≤ 15 ∧ ((scan f l m s).2.2 = 0 ∨ (scan f l m s).2.2 = 3)
  | 0, _, m, s, h1, h2 => ⟨h1, h2, .inl rfl⟩
  | f + 1, l, m, s, h1, h2 => by
    unfold scan
    split
    · exact ⟨h1, h2, .inl rfl⟩
    · split
      · exact ⟨h1, h2, .inl rfl⟩
      · split
        · exact scan_le f _ m s h1 h2
        · split
          · exact ⟨by decide, by decide, .inr rfl⟩
          · split
            · exact scan_le f _ _ s (num_lt l 2) h2
            · split
              · exact scan_le f _ m _ h1 (capS_le _).2
              · exact scan_le f _ m s h1 h2
theorem sread_le (l : List UInt8) : (sread l).1 < 65536 ∧ (sread l).2.1 ≤ 15 ∧ ((sread l).2.2 = 0 ∨ (sread l).2.2 = 3) := scan_le _ l 0 0 (by decide) (by decide)
theorem osize_pos {l : List UInt8} (h : osize l ≠ 0) : 2 ≤ l.length ∧ 2 ≤ byt l 1 ∧ byt l 1 ≤ l.length ∧ (byt l 0 = 2 → byt l 1 = 4) ∧ (byt l 0 = 3 → byt l 1 = 3) ∧ osize l = byt l 1 := by
  unfold osize at h ⊢
  split at h
  · exact absurd rfl h
  · next h1 => rw [if_neg h1]; omega

/-- Options that were written are read. -/
theorem scan_scaleO (f : Nat) (m s : Nat) (hs : s ≤ 15) (hf : 4 ≤ f) : scan f (scaleO (s : Int)) m 0 = (m, s, 0) := by
  obtain ⟨f, rfl⟩ : ∃ j, f = j + 2 + 1 := ⟨f - 3, by omega⟩
  unfold scaleO
  by_cases h : s = 0
  · subst h
    simp [scan]
  · have e : ((s : Int) - 1).toNat = s - 1 := by omega
    rw [if_neg (by omega), e]
    have hb : (UInt8.ofNat (s - 1)).toNat = s - 1 := by rw [UInt8.toNat_ofNat']; omega
    have hc : capS (s - 1) = s := by unfold capS; rw [if_neg (by omega)]; omega
    simp [scan, byt, osize, hb, hc]
theorem sread_sopts (m s : Nat) (hm : m < 65536) (hs : s ≤ 15) : sread (sopts (m : Int) (s : Int)) = (m, s, 0) := by
  unfold sread sopts mssO
  by_cases h : m = 0
  · subst h
    simp only [Int.natCast_zero, if_pos, List.nil_append]
    by_cases h0 : s = 0
    · subst h0; rfl
    · refine scan_scaleO _ 0 s hs ?_
      rw [scaleO_length, if_neg (by omega)]
      omega
  · rw [if_neg (by omega)]
    have e1 : (two (m : Int)) = [UInt8.ofNat (m / 256), UInt8.ofNat (m % 256)] := by
      unfold two
      rw [show ((m : Int) % 65536).toNat = m by omega]
    have b1 : (UInt8.ofNat (m / 256)).toNat = m / 256 := by rw [UInt8.toNat_ofNat']; omega
    have b2 : (UInt8.ofNat (m % 256)).toNat = m % 256 := by rw [UInt8.toNat_ofNat']; omega
    rw [e1]
    have el : ([2, 4] ++ [UInt8.ofNat (m / 256), UInt8.ofNat (m % 256)] ++ scaleO (s : Int)).length = (3 + (scaleO (s : Int)).length) + 1 := by simp; omega
    rw [el]
    unfold scan
    have hnum : num ([2, 4] ++ [UInt8.ofNat (m / 256), UInt8.ofNat (m % 256)] ++ scaleO (s : Int)) 2 = m := by
      simp [num, byt, b1, b2]
      omega
    have hos : osize ([2, 4] ++ [UInt8.ofNat (m / 256), UInt8.ofNat (m % 256)] ++ scaleO (s : Int)) = 4 := by
      unfold osize
      rw [if_neg]
      · simp [byt]
      · simp [byt]
    have h0 : byt ([2, 4] ++ [UInt8.ofNat (m / 256), UInt8.ofNat (m % 256)] ++ scaleO (s : Int)) 0 = 2 := by simp [byt]
    rw [if_neg (by rw [el]; omega), h0, if_neg (by decide), if_neg (by decide), hos, if_neg (by decide), if_pos rfl, hnum]
    have ed : ([2, 4] ++ [UInt8.ofNat (m / 256), UInt8.ofNat (m % 256)] ++ scaleO (s : Int)).drop 4 = scaleO (s : Int) := by simp
    rw [ed]
    by_cases h0 : s = 0
    · subst h0
      simp [scaleO, scan]
    · refine scan_scaleO _ m s hs ?_
      rw [scaleO_length, if_neg (by omega)]
      omega

/-- A segment's bytes, with this check sum. -/
def Sgm.opts (k : Sgm) : List UInt8 := sopts k.mss k.scale
def Sgm.pre (k : Sgm) : List UInt8 := two (k.src : Int) ++ two (k.dst : Int) ++ dig k.seq 4 ++ dig k.ack 4 ++ [UInt8.ofNat (80 + 4 * k.opts.length), UInt8.ofNat k.flags] ++ two (k.win : Int)
def Sgm.post (k : Sgm) : List UInt8 := [0, 0] ++ k.opts ++ k.data
def Sgm.bytes (k : Sgm) (n : Nat) : List UInt8 := k.pre ++ two (n : Int) ++ k.post
theorem spre_length (k : Sgm) : k.pre.length = 16 := by simp [Sgm.pre, two_length, dig_length]
theorem spost_length (k : Sgm) : k.post.length = 2 + k.opts.length + k.data.length := by simp [Sgm.post]; omega
theorem sbytes_length (k : Sgm) (n : Nat) : (k.bytes n).length = 20 + k.opts.length + k.data.length := by simp [Sgm.bytes, spre_length, spost_length, two_length]; omega
theorem sopt_length (k : Sgm) : k.opts.length = 0 ∨ k.opts.length = 4 ∨ k.opts.length = 8 := sopts_length _ _

/-- The number of the addresses and these bytes. -/
def tsum (s d : Nat) (l : List UInt8) : Nat := ones (headOf s d 6 (l.length : Int) ++ l)
theorem tsum_lt (s d : Nat) (l : List UInt8) : tsum s d l < 65536 := ones_lt _
theorem tsum_ocs (s d : Nat) (l : List UInt8) : tsum s d l = ocs (total (headOf s d 6 (l.length : Int)) + total l) := by
  unfold tsum
  rw [ones_ocs, total_append _ _ (by simp [headOf_length])]
def tcheck (s d : Nat) (k : Sgm) : Nat := 65535 - tsum s d (k.bytes 0)
theorem tcheck_lt (s d : Nat) (k : Sgm) : tcheck s d k < 65536 := by unfold tcheck; omega
theorem sbytes_total (k : Sgm) (n : Nat) (hn : n < 65536) : total (k.bytes n) = total k.pre + n + total k.post := by
  unfold Sgm.bytes
  rw [total_append _ _ (by simp [spre_length, two_length]), total_append _ _ (by rw [spre_length]), total_two _ hn]
theorem sbytes_tsum (s d : Nat) (k : Sgm) (n : Nat) (hn : n < 65536) : tsum s d (k.bytes n) = ocs (total (headOf s d 6 ((20 + k.opts.length + k.data.length : Nat) : Int)) + (total k.pre + n + total k.post)) := by
  rw [tsum_ocs, sbytes_length, sbytes_total k n hn]
theorem tcheck_right (s d : Nat) (k : Sgm) : tsum s d (k.bytes (tcheck s d k)) = 65535 := by
  have h0 := sbytes_tsum s d k 0 (by decide)
  rw [sbytes_tsum s d k _ (tcheck_lt s d k)]
  unfold tcheck
  rw [h0]
  generalize total (headOf s d 6 ((20 + k.opts.length + k.data.length : Nat) : Int)) = H
  generalize total k.pre = T
  generalize total k.post = D
  have := ocs_right (H + (T + 0 + D))
  rw [← this]
  congr 1
  omega

/-- The header's bytes; the error; the segment. -/
def shead (l : List UInt8) : Nat := 4 * (byt l 12 / 16)
def smcode (l : List UInt8) : Int := if l.length < 20 then 2 else if shead l < 20 then 3 else if l.length < shead l then 2 else 0
def sro (l : List UInt8) : Nat × Nat × Int := sread ((l.take (shead l)).drop 20)
def tcode (s d : Nat) (l : List UInt8) : Int := if smcode l ≠ 0 then smcode l else if tsum s d l ≠ 65535 then 4 else (sro l).2.2
def tgot (l : List UInt8) : Sgm := ⟨num l 0, num l 2, 65536 * num l 4 + num l 6, 65536 * num l 8 + num l 10, byt l 13 % 64, num l 14, ((sro l).1 : Int), ((sro l).2.1 : Int), l.drop (shead l)⟩
def zeroT : Sgm := ⟨0, 0, 0, 0, 0, 0, 0, 0, []⟩
theorem zeroT_ok : zeroT.Ok := ⟨trivial, by decide, by decide, by decide, by decide, by decide, by decide, by decide, by decide, by decide, by decide⟩
theorem tgot_ok (l : List UInt8) : (tgot l).Ok := by
  have := num_lt l 4
  have := num_lt l 6
  have := num_lt l 8
  have := num_lt l 10
  obtain ⟨h1, h2, h3⟩ := sread_le ((l.take (shead l)).drop 20)
  refine ⟨trivial, num_lt l 0, num_lt l 2, ?_, ?_, ?_, num_lt l 14, ?_, ?_, ?_, ?_⟩
  · show 65536 * num l 4 + num l 6 < _; omega
  · show 65536 * num l 8 + num l 10 < _; omega
  · show byt l 13 % 64 < _; omega
  · show _ ≤ ((sro l).1 : Int); unfold sro; omega
  · show ((sro l).1 : Int) ≤ _; unfold sro; omega
  · show _ ≤ ((sro l).2.1 : Int); unfold sro; omega
  · show ((sro l).2.1 : Int) ≤ _; unfold sro; omega
def tres (s d : Nat) (l : List UInt8) : Sgm := if tcode s d l = 0 then tgot l else zeroT
theorem tres_ok (s d : Nat) (l : List UInt8) : (tres s d l).Ok := by
  unfold tres
  split
  · exact tgot_ok l
  · exact zeroT_ok
theorem smcode_le (l : List UInt8) : 0 ≤ smcode l ∧ smcode l ≤ 3 := by
  unfold smcode
  split
  · omega
  · split
    · omega
    · split <;> omega
theorem tcode_le (s d : Nat) (l : List UInt8) : 0 ≤ tcode s d l ∧ tcode s d l ≤ 4 := by
  have h := smcode_le l
  have h2 := (sread_le ((l.take (shead l)).drop 20)).2.2
  unfold tcode
  split
  · omega
  · split
    · omega
    · unfold sro
      omega
theorem smcode_zero {l : List UInt8} (h : smcode l = 0) : 20 ≤ l.length ∧ 20 ≤ shead l ∧ shead l ≤ l.length := by
  unfold smcode at h
  by_cases h1 : l.length < 20
  · rw [if_pos h1] at h; cases h
  rw [if_neg h1] at h
  by_cases h2 : shead l < 20
  · rw [if_pos h2] at h; cases h
  rw [if_neg h2] at h
  by_cases h3 : l.length < shead l
  · rw [if_pos h3] at h; cases h
  omega
theorem tcode_zero {s d : Nat} {l : List UInt8} (h : tcode s d l = 0) : smcode l = 0 ∧ tsum s d l = 65535 ∧ (sro l).2.2 = 0 := by
  unfold tcode at h
  by_cases h1 : smcode l = 0
  · rw [if_neg (by simp [h1])] at h
    by_cases h2 : tsum s d l = 65535
    · rw [if_neg (by simp [h2])] at h
      exact ⟨h1, h2, h⟩
    · rw [if_pos h2] at h; cases h
  · rw [if_pos h1] at h
    exact absurd h h1

theorem sbytes_h20 (k : Sgm) (n : Nat) : ∃ c0 c1, k.bytes n = H20 (UInt8.ofNat (((k.src : Int) % 65536).toNat / 256)) (UInt8.ofNat (((k.src : Int) % 65536).toNat % 256)) (UInt8.ofNat (((k.dst : Int) % 65536).toNat / 256)) (UInt8.ofNat (((k.dst : Int) % 65536).toNat % 256))
    (UInt8.ofNat (k.seq / 16777216)) (UInt8.ofNat (k.seq / 65536)) (UInt8.ofNat (k.seq / 256)) (UInt8.ofNat k.seq) (UInt8.ofNat (k.ack / 16777216)) (UInt8.ofNat (k.ack / 65536)) (UInt8.ofNat (k.ack / 256)) (UInt8.ofNat k.ack)
    (UInt8.ofNat (80 + 4 * k.opts.length)) (UInt8.ofNat k.flags) (UInt8.ofNat (((k.win : Int) % 65536).toNat / 256)) (UInt8.ofNat (((k.win : Int) % 65536).toNat % 256)) c0 c1 0 0 (k.opts ++ k.data) :=
  ⟨UInt8.ofNat (((n : Int) % 65536).toNat / 256), UInt8.ofNat (((n : Int) % 65536).toNat % 256), by simp only [Sgm.bytes, Sgm.pre, Sgm.post, two, dig4, H20, List.cons_append, List.nil_append, List.append_assoc]⟩

theorem sbytes_head (k : Sgm) (n : Nat) : shead (k.bytes n) = 20 + k.opts.length := by
  obtain ⟨c0, c1, e⟩ := sbytes_h20 k n
  have ho := sopt_length k
  unfold shead
  rw [e, byt12, UInt8.toNat_ofNat']
  omega
theorem sbytes_opts (k : Sgm) (n : Nat) : ((k.bytes n).take (20 + k.opts.length)).drop 20 = k.opts := by
  obtain ⟨c0, c1, e⟩ := sbytes_h20 k n
  rw [e, h20_take _ _ _ _ _ _ _ _ _ _ _ _ _ _ _ _ _ _ _ _ _ _ (by omega), h20_drop _ _ _ _ _ _ _ _ _ _ _ _ _ _ _ _ _ _ _ _ _ _ (Nat.le_refl _)]
  simp
theorem sbytes_data (k : Sgm) (n : Nat) : (k.bytes n).drop (20 + k.opts.length) = k.data := by
  obtain ⟨c0, c1, e⟩ := sbytes_h20 k n
  rw [e, h20_drop _ _ _ _ _ _ _ _ _ _ _ _ _ _ _ _ _ _ _ _ _ _ (by omega)]
  simp
theorem sbytes_sro (k : Sgm) (n : Nat) (hf : k.Fine) : sro (k.bytes n) = (k.mss.toNat, k.scale.toNat, 0) := by
  obtain ⟨h1, h2, h3, h4, h5, h6⟩ := hf
  unfold sro
  rw [sbytes_head, sbytes_opts]
  have := sread_sopts k.mss.toNat k.scale.toNat (by omega) (by omega)
  rw [show ((k.mss.toNat : Nat) : Int) = k.mss by omega, show ((k.scale.toNat : Nat) : Int) = k.scale by omega] at this
  exact this

/-- What is written is got. -/
theorem tgot_bytes (k : Sgm) (n : Nat) (hk : k.Ok) (hf : k.Fine) : tgot (k.bytes n) = k := by
  have hs := sbytes_sro k n hf
  have hh := sbytes_head k n
  have hd := sbytes_data k n
  obtain ⟨f1, f2, f3, f4, f5, f6⟩ := hf
  obtain ⟨_, h1, h2, h3, h4, h5, h6, h7, h8, h9, h10⟩ := hk
  obtain ⟨c0, c1, e⟩ := sbytes_h20 k n
  have N0 : num (k.bytes n) 0 = k.src := by unfold num; rw [e, byt0, byt1, UInt8.toNat_ofNat', UInt8.toNat_ofNat']; omega
  have N2 : num (k.bytes n) 2 = k.dst := by unfold num; rw [e, byt2, byt3, UInt8.toNat_ofNat', UInt8.toNat_ofNat']; omega
  have N4 : 65536 * num (k.bytes n) 4 + num (k.bytes n) 6 = k.seq := by unfold num; rw [e, byt4, byt5, byt6, byt7, UInt8.toNat_ofNat', UInt8.toNat_ofNat', UInt8.toNat_ofNat', UInt8.toNat_ofNat']; omega
  have N8 : 65536 * num (k.bytes n) 8 + num (k.bytes n) 10 = k.ack := by unfold num; rw [e, byt8, byt9, byt10, byt11, UInt8.toNat_ofNat', UInt8.toNat_ofNat', UInt8.toNat_ofNat', UInt8.toNat_ofNat']; omega
  have B13 : byt (k.bytes n) 13 % 64 = k.flags := by rw [e, byt13, UInt8.toNat_ofNat']; omega
  have N14 : num (k.bytes n) 14 = k.win := by unfold num; rw [e, byt14, byt15, UInt8.toNat_ofNat', UInt8.toNat_ofNat']; omega
  unfold tgot
  rw [N0, N2, N4, N8, B13, N14, hs, hh, hd]
  have e1 : ((k.mss.toNat : Nat) : Int) = k.mss := by omega
  have e2 : ((k.scale.toNat : Nat) : Int) = k.scale := by omega
  show Sgm.mk _ _ _ _ _ _ ((k.mss.toNat : Nat) : Int) ((k.scale.toNat : Nat) : Int) _ = _
  rw [e1, e2]
theorem smcode_bytes (k : Sgm) (n : Nat) : smcode (k.bytes n) = 0 := by
  have hl := sbytes_length k n
  have hh := sbytes_head k n
  unfold smcode
  rw [hh, hl, if_neg (by omega), if_neg (by omega), if_neg (by omega)]
theorem tput_code (s d : Nat) (k : Sgm) (hf : k.Fine) : tcode s d (k.bytes (tcheck s d k)) = 0 := by
  unfold tcode
  rw [smcode_bytes, tcheck_right, sbytes_sro k _ hf]
  rfl
theorem tput_res (s d : Nat) (k : Sgm) (hk : k.Ok) (hf : k.Fine) : tres s d (k.bytes (tcheck s d k)) = k := by
  unfold tres
  rw [if_pos (tput_code s d k hf), tgot_bytes k _ hk hf]

/-- One byte turned. -/
theorem tturned (s d : Nat) (l : List UInt8) (j : Nat) (v : UInt8) (hr : tsum s d l = 65535) (hj : j < l.length) (hv : v.toNat ≠ byt l j) : tsum s d (l.set j v) ≠ 65535 := by
  rw [tsum_ocs] at hr ⊢
  rw [List.length_set]
  have hs := total_set l j v hj
  rw [byt_at] at hs
  have q1 := v.toNat_lt
  have q2 := byt_lt l j
  generalize total (headOf s d 6 (l.length : Int)) = H at *
  generalize total (l.set j v) = T' at *
  generalize total l = T at *
  generalize byt l j = a at *
  generalize v.toNat = b at *
  unfold ocs at hr ⊢
  split at hs
  · split at hr
    · omega
    · split
      · omega
      · omega
  · split at hr
    · omega
    · split
      · omega
      · omega
theorem tturned_code (s d : Nat) (k : Sgm) (j : Nat) (v : UInt8) (hj : j < (k.bytes (tcheck s d k)).length) (hv : v.toNat ≠ byt (k.bytes (tcheck s d k)) j) : tcode s d ((k.bytes (tcheck s d k)).set j v) ≠ 0 := by
  intro h
  exact tturned s d _ j v (tcheck_right s d k) hj hv (tcode_zero h).2.1
attribute [irreducible] Sgm.bytes tsum tcheck
end Go.Proofs.Ytbhdpobmooncpaa
