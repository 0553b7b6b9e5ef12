/- Messages and bytes, in numbers: what is written, what is read, and that the one undoes the other; what is told about a packet, and what is told again. -/
import Derived.Test.YtbnnacohkemnhaaIcmS
import Derived.Test.YtbnnacohkemnhaaIpPure2
namespace Go.Proofs.Ytbnnacohkemnhaa
set_option linter.unusedVariables false
set_option linter.unusedSimpArgs false

def Icm.top (k : Icm) : List UInt8 := [UInt8.ofNat k.kind, UInt8.ofNat k.code]
def Icm.tail (k : Icm) : List UInt8 := dig k.rest 4 ++ k.data
def Icm.bare (k : Icm) : List UInt8 := k.top ++ [0, 0] ++ k.tail
def Icm.csum (k : Icm) : Nat := 65535 - ones k.bare
def Icm.bytes (k : Icm) : List UInt8 := k.top ++ two (k.csum : Nat) ++ k.tail
theorem itop_length (k : Icm) : k.top.length = 2 := rfl
theorem itail_length (k : Icm) : k.tail.length = 4 + k.data.length := by simp [Icm.tail, dig_length]
theorem ibare_length (k : Icm) : k.bare.length = 8 + k.data.length := by simp [Icm.bare, itop_length, itail_length]; omega
theorem ibytes_length (k : Icm) : k.bytes.length = 8 + k.data.length := by simp [Icm.bytes, itop_length, itail_length, two_length]; omega
theorem icsum_lt (k : Icm) : k.csum < 65536 := by unfold Icm.csum; omega

/-- The error; the message. -/
def icode (l : List UInt8) : Int := if l.length < 8 then 2 else if ones l ≠ 65535 then 4 else 0
def igot (l : List UInt8) : Icm := ⟨byt l 0, byt l 1, 65536 * num l 4 + num l 6, l.drop 8⟩
def zeroM : Icm := ⟨0, 0, 0, []⟩
theorem zeroM_ok : zeroM.Ok := ⟨trivial, by decide, by decide, by decide⟩
theorem igot_ok (l : List UInt8) : (igot l).Ok := by
  have := num_lt l 4
  have := num_lt l 6
  refine ⟨trivial, byt_lt l 0, byt_lt l 1, ?_⟩
  simp only [igot]
  omega
def ires (l : List UInt8) : Icm := if icode l = 0 then igot l else zeroM
theorem ires_ok (l : List UInt8) : (ires l).Ok := by
  unfold ires
  split
  · exact igot_ok l
  · exact zeroM_ok

/-- What is written is right. -/
theorem ibytes_right (k : Icm) : ones k.bytes = 65535 := by
  have e1 : total k.bare = total k.top + total k.tail := by
    unfold Icm.bare
    rw [total_append _ _ (by simp [itop_length]), total_append _ _ (by rw [itop_length])]
    simp [total]
  have e2 : ones k.bare = ocs (total k.top + total k.tail) := by rw [ones_ocs, e1]
  have h2 := ones_lt k.bare
  have e3 : total k.bytes = total k.top + total k.tail + (65535 - ocs (total k.top + total k.tail)) := by
    unfold Icm.bytes
    rw [total_append _ _ (by simp [itop_length, two_length]), total_append _ _ (by rw [itop_length]), total_two _ (icsum_lt k)]
    unfold Icm.csum
    rw [e2]
    omega
  rw [ones_ocs, e3]
  exact ocs_right _

theorem ibytes_eq (k : Icm) : ∃ b2 b3, k.bytes = UInt8.ofNat k.kind :: UInt8.ofNat k.code :: b2 :: b3 :: UInt8.ofNat (k.rest / 16777216) :: UInt8.ofNat (k.rest / 65536) :: UInt8.ofNat (k.rest / 256) :: UInt8.ofNat k.rest :: k.data :=
  ⟨UInt8.ofNat (((k.csum : Int) % 65536).toNat / 256), UInt8.ofNat (((k.csum : Int) % 65536).toNat % 256), by simp only [Icm.bytes, Icm.top, Icm.tail, two, dig4, List.cons_append, List.nil_append]⟩

/-- What is put is got. -/
theorem iput_got (k : Icm) (hk : k.Ok) : icode k.bytes = 0 ∧ igot k.bytes = k := by
  have hl := ibytes_length k
  constructor
  · unfold icode
    rw [if_neg (by omega), if_neg (by rw [ibytes_right]; simp)]
  · obtain ⟨b2, b3, e⟩ := ibytes_eq k
    obtain ⟨_, h1, h2, h3⟩ := hk
    unfold igot num
    rw [e]
    have B0 : ∀ (x : UInt8) (r : List UInt8), byt (x :: r) 0 = x.toNat := fun _ _ => rfl
    have BS : ∀ (x : UInt8) (r : List UInt8) (i : Nat), byt (x :: r) (i + 1) = byt r i := fun _ _ _ => rfl
    rw [show (1 : Nat) = 0 + 1 from rfl, show (4 : Nat) = 0 + 1 + 1 + 1 + 1 from rfl, show (6 : Nat) = 0 + 1 + 1 + 1 + 1 + 1 + 1 from rfl]
    simp only [B0, BS, UInt8.toNat_ofNat', List.drop_succ_cons, List.drop_zero]
    obtain ⟨a, b, c, d⟩ := k
    simp only [Icm.mk.injEq]
    simp only at h1 h2 h3
    exact ⟨by omega, by omega, by omega, trivial⟩
theorem iput_res (k : Icm) (hk : k.Ok) : ires k.bytes = k := by
  obtain ⟨h1, h2⟩ := iput_got k hk
  unfold ires
  rw [if_pos h1, h2]

/-- One byte turned: refused. -/
theorem iturned_code (k : Icm) (j : Nat) (v : UInt8) (hj : j < k.bytes.length) (hv : v.toNat ≠ byt k.bytes j) : icode (k.bytes.set j v) = 4 := by
  have h5 := ibytes_right k
  have hl := ibytes_length k
  unfold icode
  rw [List.length_set, if_neg (by omega), if_pos]
  have hs := total_set k.bytes j v hj
  rw [byt_at hj] at hs
  rw [ones_ocs] at h5 ⊢
  have q1 := v.toNat_lt
  have q2 := byt_lt k.bytes j
  generalize total (k.bytes.set j v) = T' at *
  generalize total k.bytes = T at *
  generalize byt k.bytes j = a at *
  generalize v.toNat = b at *
  unfold ocs at h5 ⊢
  split at hs
  · split at h5
    · omega
    · split
      · omega
      · omega
  · split at h5
    · omega
    · split
      · omega
      · omega

/-- What is told about a packet: its header by its first byte, how many bytes. -/
def ahead (l : List UInt8) : Nat := if 5 < byt l 0 % 16 then 4 * (byt l 0 % 16) else 20
def about (l : List UInt8) : Nat := if ahead l + 8 ≤ l.length then ahead l + 8 else l.length
theorem ahead_le (l : List UInt8) : 20 ≤ ahead l ∧ ahead l ≤ 60 := by unfold ahead; split <;> omega
theorem about_le (l : List UInt8) : about l ≤ l.length := by unfold about; split <;> omega

/-- What a message is about: the error, the packet. -/
def isErr (k : Icm) : Bool := decide (k.kind = 3 ∨ k.kind = 11)
def ccode (k : Icm) : Int :=
  if isErr k = false then 6 else if k.data.length < 28 then 2 else if byt k.data 0 < 69 ∨ 79 < byt k.data 0 then 3 else if k.data.length < hdr k.data + 8 then 2 else 0
def cgot (l : List UInt8) : Pkt where
  tos := byt l 1
  ident := num l 4
  whole := decide (byt l 6 / 64 % 2 = 1)
  more := decide (byt l 6 / 32 % 2 = 1)
  off := ((num l 6 % 8192 : Nat) : Int)
  ttl := byt l 8
  proto := byt l 9
  src := 65536 * num l 12 + num l 14
  dst := 65536 * num l 16 + num l 18
  opts := (l.take (hdr l)).drop 20
  data := (l.take (hdr l + 8)).drop (hdr l)
theorem cgot_ok (l : List UInt8) : (cgot l).Ok := by
  have := num_lt l 6
  have := num_lt l 12
  have := num_lt l 14
  have := num_lt l 16
  have := num_lt l 18
  refine ⟨byt_lt l 1, num_lt l 4, ?_, ?_, byt_lt l 8, byt_lt l 9, ?_, ?_⟩ <;> simp only [cgot] <;> omega
def cres (k : Icm) : Pkt := if ccode k = 0 then cgot k.data else zeroP
theorem cres_ok (k : Icm) : (cres k).Ok := by
  unfold cres
  split
  · exact cgot_ok _
  · exact zero_ok
/-- What is known where a message is about a packet. -/
structure Told (k : Icm) : Prop where
  err : isErr k = true
  len : 28 ≤ k.data.length
  first1 : 69 ≤ byt k.data 0
  first2 : byt k.data 0 ≤ 79
  all : hdr k.data + 8 ≤ k.data.length
theorem told_iff (k : Icm) : ccode k = 0 ↔ Told k := by
  unfold ccode
  constructor
  · intro h
    by_cases h1 : isErr k = false
    · rw [if_pos h1] at h; cases h
    rw [if_neg h1] at h
    by_cases h2 : k.data.length < 28
    · rw [if_pos h2] at h; cases h
    rw [if_neg h2] at h
    by_cases h3 : byt k.data 0 < 69 ∨ 79 < byt k.data 0
    · rw [if_pos h3] at h; cases h
    rw [if_neg h3] at h
    by_cases h4 : k.data.length < hdr k.data + 8
    · rw [if_pos h4] at h; cases h
    exact ⟨by simpa using h1, by omega, by omega, by omega, by omega⟩
  · rintro ⟨h1, h2, h3, h4, h5⟩
    rw [if_neg (by simp [h1]), if_neg (by omega), if_neg (by omega), if_neg (by omega)]
theorem ccode_le (k : Icm) : 0 ≤ ccode k ∧ ccode k ≤ 6 := by
  unfold ccode
  split
  · omega
  · split
    · omega
    · split
      · omega
      · split <;> omega

/-- What is told about a packet that may be, is told again: its header, and eight bytes. -/
theorem back_told (p : Pkt) (c : Nat) (hk : p.Ok) (hc : p.check = 0) (hd : 8 ≤ p.data.length) :
    about p.bytes = 28 + p.opts.length ∧ ccode ⟨11, c, 0, p.bytes.take (28 + p.opts.length)⟩ = 0 ∧ cgot (p.bytes.take (28 + p.opts.length)) = { p with data := p.data.take 8 } := by
  obtain ⟨o1, o2, o3, o4, o5⟩ := check_zero' hc
  have hbl := bytes_length p
  have hkl : p.len = 20 + p.opts.length + p.data.length := rfl
  have hg := (put_got p hk hc []).2
  rw [List.append_nil] at hg
  have hgood := (good_iff _).1 (put_got p hk hc []).1
  rw [List.append_nil] at hgood
  have B0 : byt p.bytes 0 = 69 + p.opts.length / 4 := by
    obtain ⟨b10, b11, e2⟩ := bytes_h20 p []
    rw [List.append_nil] at e2
    rw [e2, byt0, UInt8.toNat_ofNat']
    omega
  have hH : hdr p.bytes = 20 + p.opts.length := by unfold hdr; rw [B0]; omega
  have hA : ahead p.bytes = 20 + p.opts.length := by
    unfold ahead
    rw [B0]
    split <;> omega
  have hT : p.bytes.take (20 + p.opts.length) = p.head := List.take_left' (head_length p)
  have E : about p.bytes = 28 + p.opts.length := by
    unfold about
    rw [hA, if_pos (by omega)]
    omega
  have bt : ∀ i, i < 20 → byt (p.bytes.take (28 + p.opts.length)) i = byt p.bytes i := fun i hi => by
    unfold byt
    rw [List.getElem?_take_of_lt (by omega)]
  have nt : ∀ i, i < 19 → num (p.bytes.take (28 + p.opts.length)) i = num p.bytes i := fun i hi => by
    unfold num
    rw [bt i (by omega), bt (i + 1) (by omega)]
  have hH' : hdr (p.bytes.take (28 + p.opts.length)) = 20 + p.opts.length := by unfold hdr at hH ⊢; rw [bt 0 (by omega)]; exact hH
  have hL : (p.bytes.take (28 + p.opts.length)).length = 28 + p.opts.length := by rw [List.length_take]; omega
  refine ⟨E, ?_, ?_⟩
  · rw [told_iff]
    refine ⟨rfl, ?_, ?_, ?_, ?_⟩
    · show 28 ≤ (p.bytes.take (28 + p.opts.length)).length
      omega
    · show 69 ≤ byt (p.bytes.take (28 + p.opts.length)) 0
      rw [bt 0 (by omega)]; omega
    · show byt (p.bytes.take (28 + p.opts.length)) 0 ≤ 79
      rw [bt 0 (by omega)]; omega
    · show hdr (p.bytes.take (28 + p.opts.length)) + 8 ≤ (p.bytes.take (28 + p.opts.length)).length
      omega
  · have f1 : byt p.bytes 1 = p.tos := congrArg Pkt.tos hg
    have f2 : num p.bytes 4 = p.ident := congrArg Pkt.ident hg
    have f3 : decide (byt p.bytes 6 / 64 % 2 = 1) = p.whole := congrArg Pkt.whole hg
    have f4 : decide (byt p.bytes 6 / 32 % 2 = 1) = p.more := congrArg Pkt.more hg
    have f5 : ((num p.bytes 6 % 8192 : Nat) : Int) = p.off := congrArg Pkt.off hg
    have f6 : byt p.bytes 8 = p.ttl := congrArg Pkt.ttl hg
    have f7 : byt p.bytes 9 = p.proto := congrArg Pkt.proto hg
    have f8 : 65536 * num p.bytes 12 + num p.bytes 14 = p.src := congrArg Pkt.src hg
    have f9 : 65536 * num p.bytes 16 + num p.bytes 18 = p.dst := congrArg Pkt.dst hg
    have fo : ((p.bytes.take (28 + p.opts.length)).take (hdr (p.bytes.take (28 + p.opts.length)))).drop 20 = p.opts := by
      rw [hH', List.take_take, show min (20 + p.opts.length) (28 + p.opts.length) = 20 + p.opts.length by omega, hT]
      unfold Pkt.head Pkt.post
      rw [← List.append_assoc]
      exact List.drop_left' (by simp [pre_length, two_length, dig_length])
    have fd : ((p.bytes.take (28 + p.opts.length)).take (hdr (p.bytes.take (28 + p.opts.length)) + 8)).drop (hdr (p.bytes.take (28 + p.opts.length))) = p.data.take 8 := by
      rw [hH', List.take_take, show min (20 + p.opts.length + 8) (28 + p.opts.length) = (20 + p.opts.length) + 8 by omega]
      unfold Pkt.bytes
      rw [List.drop_take, List.drop_left' (head_length p)]
      congr 1
      omega
    unfold cgot
    rw [bt 1 (by omega), nt 4 (by omega), bt 6 (by omega), nt 6 (by omega), bt 8 (by omega), bt 9 (by omega), nt 12 (by omega), nt 14 (by omega), nt 16 (by omega), nt 18 (by omega), fo, fd, f1, f2, f3, f4, f5, f6, f7, f8, f9]
end Go.Proofs.Ytbnnacohkemnhaa
