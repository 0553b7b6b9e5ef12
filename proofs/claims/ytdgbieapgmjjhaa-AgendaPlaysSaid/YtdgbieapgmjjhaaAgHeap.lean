/- Heaps as lists: up and down, step by step. -/
import Derived.Test.YtdgbieapgmjjhaaAgEn
namespace Go.Proofs.Ytdgbieapgmjjhaa
set_option linter.unusedVariables false
set_option linter.unusedSimpArgs false

theorem ltE_asymm {a b : En} (h : ltE a b) : ¬ ltE b a := by
  unfold ltE at *
  omega
theorem ltE_ge {a b c : En} (h : ¬ ltE a b) (k : ¬ ltE b c) : ¬ ltE a c := by
  unfold ltE at *
  omega
theorem ltE_le {a b c : En} (h : ¬ ltE c b) (k : ltE a b) : ¬ ltE c a := fun q => by
  unfold ltE at *
  omega
/-- The entry at a place. -/
def pt (E : List En) (k : Nat) : En := E.getD k default
def sw (E : List En) (i j : Nat) : List En := (E.set i (pt E j)).set j (pt E i)
def par (k : Nat) : Nat := (k - 1) / 2
theorem sw_len (E : List En) (i j : Nat) : (sw E i j).length = E.length := by unfold sw; simp
theorem pt_get {E : List En} {k : Nat} (h : k < E.length) : E[k]? = some (pt E k) := by
  unfold pt
  rw [List.getD_eq_getElem?_getD, List.getElem?_eq_getElem h]
  rfl
theorem pt_sw {E : List En} {i j : Nat} (hi : i < E.length) (hj : j < E.length) (k : Nat) : pt (sw E i j) k = if k = j then pt E i else if k = i then pt E j else pt E k := by
  unfold sw pt
  simp only [List.getD_eq_getElem?_getD, List.getElem?_set, List.length_set]
  by_cases h1 : k = j
  · subst h1
    simp [hj]
  · by_cases h2 : k = i
    · subst h2
      simp [hi, h1, Ne.symm h1]
    · simp [h1, h2, Ne.symm h1, Ne.symm h2]
theorem sw_perm {E : List En} {i j : Nat} (hi : i < E.length) (hj : j < E.length) : (sw E i j).Perm E := by
  rw [List.perm_iff_count]
  intro a
  unfold sw
  have ei : E[i] = pt E i := by
    have := pt_get hi
    rw [List.getElem?_eq_getElem hi] at this
    exact Option.some.inj this
  have ej : E[j] = pt E j := by
    have := pt_get hj
    rw [List.getElem?_eq_getElem hj] at this
    exact Option.some.inj this
  have hci : (if E[i] == a then 1 else 0) ≤ E.count a := by
    split
    · rename_i h
      rw [beq_iff_eq] at h
      exact List.count_pos_iff.2 (h ▸ List.getElem_mem hi)
    · exact Nat.zero_le _
  rw [List.count_set (by simpa using hj), List.count_set hi]
  by_cases e : i = j
  · subst e
    rw [List.getElem_set_self]
    rw [ei] at hci ⊢
    omega
  · rw [List.getElem_set_ne e, ei, ej]
    rw [ei] at hci
    have hcj : (if pt E j == a then 1 else 0) ≤ E.count a - (if pt E i == a then 1 else 0) + (if pt E j == a then 1 else 0) := by omega
    omega
theorem par_lt {k : Nat} (h : 0 < k) : par k < k := by unfold par; omega
/-- A heap of the first n. -/
def Hp (E : List En) (n : Nat) : Prop := ∀ k, 0 < k → k < n → ¬ ltE (pt E k) (pt E (par k))
/-- A heap but for j, that may want to go up. -/
structure UpAt (E : List En) (n j : Nat) : Prop where
  o : ∀ k, 0 < k → k < n → k ≠ j → ¬ ltE (pt E k) (pt E (par k))
  c : ∀ k, 0 < k → k < n → par k = j → 0 < j → ¬ ltE (pt E k) (pt E (par j))
/-- A heap but for i, that may want to go down. -/
structure DnAt (E : List En) (n i : Nat) : Prop where
  o : ∀ k, 0 < k → k < n → k ≠ i → par k ≠ i → ¬ ltE (pt E k) (pt E (par k))
  c : ∀ k, 0 < k → k < n → par k = i → 0 < i → ¬ ltE (pt E k) (pt E (par i))
section
variable {E : List En} {n i j : Nat}
theorem UpAt.step (h : UpAt E n j) (hn : n ≤ E.length) (hj : j < n) (h0 : 0 < j) (hl : ltE (pt E j) (pt E (par j))) : UpAt (sw E (par j) j) n (par j) := by
  have hp := par_lt h0
  have e := fun k => pt_sw (E := E) (i := par j) (j := j) (by omega) (by omega) k
  refine ⟨fun k k0 kn kj => ?_, fun k k0 kn kp p0 => ?_⟩
  · rw [e, e]
    by_cases q : k = j
    · subst q
      rw [if_pos rfl, if_neg (by omega), if_pos rfl]
      exact ltE_asymm hl
    · rw [if_neg q, if_neg kj]
      by_cases q2 : par k = j
      · rw [if_pos q2]
        exact h.c k k0 kn q2 h0
      · rw [if_neg q2]
        by_cases q3 : par k = par j
        · rw [if_pos q3]
          have := h.o k k0 kn q
          rw [q3] at this
          exact ltE_le this hl
        · rw [if_neg q3]
          exact h.o k k0 kn q
  · have hpp := par_lt p0
    rw [e, e, if_neg (show ¬ par (par j) = j by omega), if_neg (show ¬ par (par j) = par j by omega)]
    have h1 := h.o (par j) p0 (by omega) (by omega)
    by_cases q : k = j
    · rw [if_pos q]
      exact h1
    · have hk := par_lt k0
      rw [if_neg q, if_neg (by omega)]
      have := h.o k k0 kn q
      rw [kp] at this
      exact ltE_ge this h1
theorem UpAt.done (h : UpAt E n j) (hs : j = 0 ∨ ¬ ltE (pt E j) (pt E (par j))) : Hp E n := fun k k0 kn => by
  by_cases q : k = j
  · rcases hs with hs | hs
    · omega
    · rw [q]; exact hs
  · exact h.o k k0 kn q
/-- c is the lesser child of i. -/
def Kid (E : List En) (n i c : Nat) : Prop := 0 < c ∧ c < n ∧ par c = i ∧ ∀ k, 0 < k → k < n → par k = i → ¬ ltE (pt E k) (pt E c)
theorem DnAt.step (h : DnAt E n i) (hn : n ≤ E.length) {c : Nat} (hc : Kid E n i c) (hl : ltE (pt E c) (pt E i)) : DnAt (sw E i c) n c ∧ ¬ ltE (pt (sw E i c) c) (pt (sw E i c) (par c)) := by
  obtain ⟨c0, cn, cp, ck⟩ := hc
  have hp := par_lt c0
  have e := fun k => pt_sw (E := E) (i := i) (j := c) (by omega) (by omega) k
  refine ⟨⟨fun k k0 kn kc kp => ?_, fun k k0 kn kp _ => ?_⟩, ?_⟩
  · rw [e, e, if_neg kc, if_neg kp]
    by_cases q : k = i
    · subst q
      have := par_lt k0
      rw [if_pos rfl, if_neg (by omega)]
      exact h.c c c0 cn cp k0
    · rw [if_neg q]
      by_cases q2 : par k = i
      · rw [if_pos q2]
        exact ck k k0 kn q2
      · rw [if_neg q2]
        exact h.o k k0 kn q q2
  · have := par_lt k0
    rw [e, e, if_neg (show ¬ k = c by omega), if_neg (show ¬ k = i by omega), cp, if_neg (show ¬ i = c by omega), if_pos rfl]
    have := h.o k k0 kn (by omega) (by omega)
    rw [kp] at this
    exact this
  · rw [e, e, if_pos rfl, cp, if_neg (show ¬ i = c by omega), if_pos rfl]
    exact ltE_asymm hl
theorem DnAt.done (h : DnAt E n i) (hk : ∀ k, 0 < k → k < n → par k = i → ¬ ltE (pt E k) (pt E i)) (hi : i = 0 ∨ ¬ ltE (pt E i) (pt E (par i))) : Hp E n := fun k k0 kn => by
  by_cases q : k = i
  · rcases hi with hi | hi
    · omega
    · rw [q]; exact hi
  · by_cases q2 : par k = i
    · rw [q2]; exact hk k k0 kn q2
    · exact h.o k k0 kn q q2
theorem DnAt.up (h : DnAt E n i) (hk : ∀ k, 0 < k → k < n → par k = i → ¬ ltE (pt E k) (pt E i)) : UpAt E n i :=
  ⟨fun k k0 kn kj => by
    by_cases q2 : par k = i
    · rw [q2]; exact hk k k0 kn q2
    · exact h.o k k0 kn kj q2, h.c⟩
/-- The children of i. -/
theorem kids {k : Nat} (k0 : 0 < k) : par k = i ↔ k = 2 * i + 1 ∨ k = 2 * i + 2 := by unfold par; omega
/-- A heap's first is the least. -/
theorem Hp.least (h : Hp E n) : ∀ k, k < n → ¬ ltE (pt E k) (pt E 0) := by
  intro k
  induction k using Nat.strongRecOn with
  | ind k ih =>
    intro hk
    rcases Nat.eq_zero_or_pos k with q | q
    · rw [q]
      unfold ltE
      omega
    · exact ltE_ge (h k q hk) (ih (par k) (par_lt q) (by have := par_lt q; omega))
theorem Hp.mono (h : Hp E n) {m : Nat} (hm : m ≤ n) : Hp E m := fun k k0 kn => h k k0 (by omega)
theorem Hp.dn (h : Hp E n) (i : Nat) : DnAt E n i := by
  refine ⟨fun k k0 kn _ _ => h k k0 kn, fun k k0 kn kp i0 => ?_⟩
  have := par_lt k0
  have h1 := h k k0 kn
  rw [kp] at h1
  exact ltE_ge h1 (h i i0 (by omega))
/-- One entry laid anew. -/
theorem Hp.set (h : Hp E n) (x : En) (i : Nat) : DnAt (E.set i x) n i := by
  have hd := h.dn i
  have e : ∀ k, k ≠ i → pt (E.set i x) k = pt E k := fun k hk => by
    unfold pt
    rw [List.getD_eq_getElem?_getD, List.getElem?_set_ne (Ne.symm hk), ← List.getD_eq_getElem?_getD]
  refine ⟨fun k k0 kn ki kp => ?_, fun k k0 kn kp i0 => ?_⟩
  · rw [e k ki, e _ kp]
    exact h k k0 kn
  · have h1 := par_lt k0
    have h2 := par_lt i0
    rw [e k (by omega), e _ (by omega)]
    exact hd.c k k0 kn kp i0
end
end Go.Proofs.Ytdgbieapgmjjhaa
