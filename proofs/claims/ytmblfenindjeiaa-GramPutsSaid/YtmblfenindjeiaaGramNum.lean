/- Datagrams and bytes, in numbers: what is written, what is read, and that the one undoes the other; two bytes of the data turned. -/
import Derived.Test.YtmblfenindjeiaaGramS
import Derived.Test.YtmblfenindjeiaaIpPure2
import Derived.Test.YtmblfenindjeiaaSumHead
namespace Go.Proofs.Ytmblfenindjeiaa
set_option linter.unusedVariables false
set_option linter.unusedSimpArgs false

def Gram.top (g : Gram) : List UInt8 := two (g.src : Int) ++ two (g.dst : Int) ++ two ((8 + g.data.length : Nat) : Int)
def Gram.bytes (g : Gram) (n : Nat) : List UInt8 := g.top ++ two (n : Int) ++ g.data
theorem gtop_length (g : Gram) : g.top.length = 6 := rfl
theorem gbytes_length (g : Gram) (n : Nat) : (g.bytes n).length = 8 + g.data.length := by simp [Gram.bytes, gtop_length, two_length]; omega

/-- The number of the addresses and these bytes. -/
def psum (s d : Nat) (l : List UInt8) : Nat := ones (headOf s d 17 (l.length : Int) ++ l)
theorem psum_lt (s d : Nat) (l : List UInt8) : psum s d l < 65536 := ones_lt _
theorem psum_ocs (s d : Nat) (l : List UInt8) : psum s d l = ocs (total (headOf s d 17 (l.length : Int)) + total l) := by
  unfold psum
  rw [ones_ocs, total_append _ _ (by simp [headOf_length])]
def gcheck (s d : Nat) (g : Gram) : Nat := if psum s d (g.bytes 0) = 65535 then 65535 else 65535 - psum s d (g.bytes 0)
theorem gcheck_lt (s d : Nat) (g : Gram) : gcheck s d g < 65536 := by unfold gcheck; split <;> omega
theorem gcheck_pos (s d : Nat) (g : Gram) : 0 < gcheck s d g := by
  have := psum_lt s d (g.bytes 0)
  unfold gcheck
  split <;> omega

/-- The error; the datagram. -/
def gcode (s d : Nat) (l : List UInt8) : Int :=
  if l.length < 8 then 2 else if num l 4 < 8 then 3 else if l.length < num l 4 then 2 else if num l 6 ≠ 0 ∧ psum s d (l.take (num l 4)) ≠ 65535 then 4 else 0
def ggot (l : List UInt8) : Gram := ⟨num l 0, num l 2, (l.take (num l 4)).drop 8⟩
def zeroG : Gram := ⟨0, 0, []⟩
theorem zeroG_ok : zeroG.Ok := ⟨trivial, by decide, by decide⟩
theorem ggot_ok (l : List UInt8) : (ggot l).Ok := ⟨trivial, num_lt l 0, num_lt l 2⟩
def gres (s d : Nat) (l : List UInt8) : Gram := if gcode s d l = 0 then ggot l else zeroG
theorem gres_ok (s d : Nat) (l : List UInt8) : (gres s d l).Ok := by
  unfold gres
  split
  · exact ggot_ok l
  · exact zeroG_ok
theorem gcode_le (s d : Nat) (l : List UInt8) : 0 ≤ gcode s d l ∧ gcode s d l ≤ 4 := by
  unfold gcode
  split
  · omega
  · split
    · omega
    · split
      · omega
      · split <;> omega
theorem gcode_zero {s d : Nat} {l : List UInt8} (h : gcode s d l = 0) : 8 ≤ l.length ∧ 8 ≤ num l 4 ∧ num l 4 ≤ l.length ∧ (num l 6 = 0 ∨ psum s d (l.take (num l 4)) = 65535) := by
  unfold gcode at h
  by_cases h1 : l.length < 8
  · rw [if_pos h1] at h; cases h
  rw [if_neg h1] at h
  by_cases h2 : num l 4 < 8
  · rw [if_pos h2] at h; cases h
  rw [if_neg h2] at h
  by_cases h3 : l.length < num l 4
  · rw [if_pos h3] at h; cases h
  rw [if_neg h3] at h
  by_cases h4 : num l 6 ≠ 0 ∧ psum s d (l.take (num l 4)) ≠ 65535
  · rw [if_pos h4] at h; cases h
  refine ⟨by omega, by omega, by omega, ?_⟩
  by_cases h5 : num l 6 = 0
  · exact .inl h5
  · exact .inr (Classical.byContradiction fun h6 => h4 ⟨h5, h6⟩)

/-- What is written, byte by byte. -/
theorem gbytes_eq (g : Gram) (n : Nat) (more : List UInt8) (hg : g.Ok) (hl : g.data.length ≤ 65507) (hn : n < 65536) :
    ∃ a0 a1 a2 a3 a4 a5 a6 a7 : UInt8, g.bytes n ++ more = a0 :: a1 :: a2 :: a3 :: a4 :: a5 :: a6 :: a7 :: (g.data ++ more) ∧
      256 * a0.toNat + a1.toNat = g.src ∧ 256 * a2.toNat + a3.toNat = g.dst ∧ 256 * a4.toNat + a5.toNat = 8 + g.data.length ∧ 256 * a6.toNat + a7.toNat = n := by
  have T : ∀ m : Nat, m < 65536 → 256 * (UInt8.ofNat (((m : Int) % 65536).toNat / 256)).toNat + (UInt8.ofNat (((m : Int) % 65536).toNat % 256)).toNat = m := fun m hm => by
    rw [UInt8.toNat_ofNat', UInt8.toNat_ofNat']
    omega
  exact ⟨_, _, _, _, _, _, _, _, rfl, T _ hg.src, T _ hg.dst, T _ (by omega), T _ hn⟩
theorem gbytes_nums (g : Gram) (n : Nat) (more : List UInt8) (hg : g.Ok) (hl : g.data.length ≤ 65507) (hn : n < 65536) :
    num (g.bytes n ++ more) 0 = g.src ∧ num (g.bytes n ++ more) 2 = g.dst ∧ num (g.bytes n ++ more) 4 = 8 + g.data.length ∧ num (g.bytes n ++ more) 6 = n := by
  obtain ⟨a0, a1, a2, a3, a4, a5, a6, a7, e, h1, h2, h3, h4⟩ := gbytes_eq g n more hg hl hn
  rw [e]
  exact ⟨h1, h2, h3, h4⟩
theorem gbytes_take (g : Gram) (n : Nat) (more : List UInt8) : (g.bytes n ++ more).take (8 + g.data.length) = g.bytes n := List.take_left' (gbytes_length g n)
theorem gbytes_drop (g : Gram) (n : Nat) : (g.bytes n).drop 8 = g.data := List.drop_left' (by simp [gtop_length, two_length])
theorem gbytes_total (g : Gram) (n : Nat) (hn : n < 65536) : total (g.bytes n) = total g.top + n + total g.data := by
  unfold Gram.bytes
  rw [total_append _ _ (by simp [gtop_length, two_length]), total_append _ _ (by rw [gtop_length]), total_two _ hn]
theorem gbytes_psum (s d : Nat) (g : Gram) (n : Nat) (hn : n < 65536) : psum s d (g.bytes n) = ocs (total (headOf s d 17 ((8 + g.data.length : Nat) : Int)) + (total g.top + n + total g.data)) := by
  rw [psum_ocs, gbytes_length, gbytes_total g n hn]

/-- What is written is got. -/
theorem ggot_bytes (g : Gram) (n : Nat) (more : List UInt8) (hg : g.Ok) (hl : g.data.length ≤ 65507) (hn : n < 65536) : ggot (g.bytes n ++ more) = g := by
  obtain ⟨h1, h2, h3, h4⟩ := gbytes_nums g n more hg hl hn
  unfold ggot
  rw [h1, h2, h3, gbytes_take, gbytes_drop]
theorem gcode_bytes (s d : Nat) (g : Gram) (n : Nat) (more : List UInt8) (hg : g.Ok) (hl : g.data.length ≤ 65507) (hn : n < 65536) :
    gcode s d (g.bytes n ++ more) = if n ≠ 0 ∧ psum s d (g.bytes n) ≠ 65535 then 4 else 0 := by
  obtain ⟨h1, h2, h3, h4⟩ := gbytes_nums g n more hg hl hn
  have hbl := gbytes_length g n
  unfold gcode
  rw [h3, h4, gbytes_take, List.length_append, if_neg (by omega), if_neg (by omega), if_neg (by omega)]
theorem gcheck_right (s d : Nat) (g : Gram) : psum s d (g.bytes (gcheck s d g)) = 65535 := by
  have h0 := gbytes_psum s d g 0 (by decide)
  rw [gbytes_psum s d g _ (gcheck_lt s d g)]
  unfold gcheck
  rw [h0]
  generalize total (headOf s d 17 ((8 + g.data.length : Nat) : Int)) = H
  generalize total g.top = T
  generalize total g.data = D
  split
  · next h =>
    unfold ocs at h ⊢
    split at h
    · omega
    · rw [if_neg (by omega)]
      omega
  · have := ocs_right (H + (T + 0 + D))
    rw [← this]
    congr 1
    omega
theorem gput_code (s d : Nat) (g : Gram) (more : List UInt8) (hg : g.Ok) (hl : g.data.length ≤ 65507) : gcode s d (g.bytes (gcheck s d g) ++ more) = 0 := by
  rw [gcode_bytes s d g _ more hg hl (gcheck_lt s d g), if_neg]
  rw [gcheck_right]
  simp
theorem gbare_code (s d : Nat) (g : Gram) (more : List UInt8) (hg : g.Ok) (hl : g.data.length ≤ 65507) : gcode s d (g.bytes 0 ++ more) = 0 := by
  rw [gcode_bytes s d g 0 more hg hl (by decide), if_neg]
  simp
theorem gput_res (s d : Nat) (g : Gram) (more : List UInt8) (hg : g.Ok) (hl : g.data.length ≤ 65507) : gres s d (g.bytes (gcheck s d g) ++ more) = g := by
  unfold gres
  rw [if_pos (gput_code s d g more hg hl), ggot_bytes g _ more hg hl (gcheck_lt s d g)]
theorem gbare_res (s d : Nat) (g : Gram) (more : List UInt8) (hg : g.Ok) (hl : g.data.length ≤ 65507) : gres s d (g.bytes 0 ++ more) = g := by
  unfold gres
  rw [if_pos (gbare_code s d g more hg hl), ggot_bytes g _ more hg hl (by decide)]

/-- Two bytes of the data turned. -/
def Gram.turned (g : Gram) (k : Nat) (a b : UInt8) : Gram := ⟨g.src, g.dst, (g.data.set k a).set (k + 1) b⟩
theorem gturned_bytes (g : Gram) (n k : Nat) (a b : UInt8) (hk : k + 1 < g.data.length) : ((g.bytes n).set (8 + k) a).set (9 + k) b = (g.turned k a b).bytes n := by
  have e1 : (g.top ++ two (n : Int)).length = 8 := by simp [gtop_length, two_length]
  have e2 : (g.turned k a b).top = g.top := by simp [Gram.turned, Gram.top]
  unfold Gram.bytes
  rw [e2, List.set_append_right _ _ (by omega), List.set_append_right _ _ (by omega), e1]
  rw [show 8 + k - 8 = k by omega, show 9 + k - 8 = k + 1 by omega]
  rfl
theorem gturned_ok {g : Gram} (hg : g.Ok) (k : Nat) (a b : UInt8) : (g.turned k a b).Ok := ⟨trivial, hg.src, hg.dst⟩
theorem gturned_len (g : Gram) (k : Nat) (a b : UInt8) : (g.turned k a b).data.length = g.data.length := by simp [Gram.turned]
theorem gturned_code (s d : Nat) (g : Gram) (k : Nat) (a b : UInt8) (hg : g.Ok) (hl : g.data.length ≤ 65507) (he : k % 2 = 0) (hk : k + 1 < g.data.length) (was now : Nat)
    (hw : was = 256 * byt g.data k + byt g.data (k + 1)) (hn : now = 256 * a.toNat + b.toNat) :
    gcode s d (((g.bytes (gcheck s d g)).set (8 + k) a).set (9 + k) b) = if was = now ∨ (was + now = 65535 ∧ was * now = 0) then 0 else 4 := by
  have hc := gcheck_lt s d g
  have hp := gcheck_pos s d g
  have hr := gcheck_right s d g
  rw [gturned_bytes g _ k a b hk]
  have := gcode_bytes s d (g.turned k a b) (gcheck s d g) [] (gturned_ok hg k a b) (by rw [gturned_len]; exact hl) hc
  rw [List.append_nil] at this
  rw [this, gbytes_psum s d _ _ hc, gturned_len, show (g.turned k a b).top = g.top by simp [Gram.turned, Gram.top]]
  rw [gbytes_psum s d _ _ hc] at hr
  have s1 := total_set g.data k a (by omega)
  have s2 := total_set (g.data.set k a) (k + 1) b (by simpa using hk)
  rw [if_pos he, byt_at] at s1
  have ho : ¬ (k + 1) % 2 = 0 := by omega
  rw [if_neg ho] at s2
  have e3 : ((g.data.set k a)[k + 1]'(by simpa using hk)).toNat = byt g.data (k + 1) := by
    rw [List.getElem_set_ne (by omega), byt_at]
  rw [e3] at s2
  have hD : total (g.turned k a b).data = total ((g.data.set k a).set (k + 1) b) := rfl
  rw [hD]
  have q1 := byt_lt g.data k
  have q2 := byt_lt g.data (k + 1)
  have q3 := a.toNat_lt
  have q4 := b.toNat_lt
  have tot : total ((g.data.set k a).set (k + 1) b) + was = total g.data + now := by omega
  have hw2 : was < 65536 := by omega
  have hn2 : now < 65536 := by omega
  have hz : (was * now = 0) ↔ (was = 0 ∨ now = 0) := Nat.mul_eq_zero
  clear s1 s2 e3 hD hw hn this q1 q2 q3 q4
  generalize total ((g.data.set k a).set (k + 1) b) = D' at *
  generalize total g.data = D at *
  generalize total g.top = T at *
  generalize total (headOf s d 17 ((8 + g.data.length : Nat) : Int)) = H at *
  generalize gcheck s d g = C at *
  generalize was * now = P at *
  unfold ocs at hr ⊢
  split at hr
  · omega
  · rw [if_neg (show ¬ H + (T + C + D') = 0 by omega)]
    by_cases h1 : was = now ∨ (was + now = 65535 ∧ P = 0)
    · rw [if_pos h1, if_neg (by omega)]
    · rw [if_neg h1, if_pos (by omega)]
theorem gturned_data (s d : Nat) (g : Gram) (k : Nat) (a b : UInt8) (hg : g.Ok) (hl : g.data.length ≤ 65507) (hk : k + 1 < g.data.length) :
    (ggot (((g.bytes (gcheck s d g)).set (8 + k) a).set (9 + k) b)).data.length = g.data.length := by
  rw [gturned_bytes g _ k a b hk]
  have := ggot_bytes (g.turned k a b) (gcheck s d g) [] (gturned_ok hg k a b) (by rw [gturned_len]; exact hl) (gcheck_lt s d g)
  rw [List.append_nil] at this
  rw [this, gturned_len]
attribute [irreducible] Gram.bytes psum gcheck
end Go.Proofs.Ytmblfenindjeiaa
