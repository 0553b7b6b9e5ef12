/- Chains of timers in memory: one more behind all others, one less. -/
import Derived.Test.YtnoglbceaibjeaaDoorC02
namespace Go.Proofs.YtnoglbceaibjeaaDoor
set_option linter.unusedVariables false
set_option linter.unusedSimpArgs false
open Go.ChangeShapes Go.WideShapes Go.ChangeAt Go.RowKit

def lk : Option Tm → Value
  | none => .pointer none
  | some t => .pointer (some ⟨t.blk, 0, none⟩)
def prv (l : List Tm) (i : Nat) : Value := lk (if i = 0 then none else l[i - 1]?)
def nxt (l : List Tm) (i : Nat) : Value := lk l[i + 1]?
def tmC (t : Tm) (a b : Value) : Array Value := #[.int .i64 t.id, .int .i64 (t.tk : Int), a, b]
/-- The timers lie in memory, each with its neighbours. -/
def Chn (w : World) (l : List Tm) : Prop := ∀ (i : Nat) (t : Tm), l[i]? = some t → w.heap[t.blk]? = some (.cells (tmC t (prv l i) (nxt l i)) 70 (0, 0))
section
variable {w w' : World} {l : List Tm}
theorem Chn.keep (h : Chn w l) (hk : ∀ t ∈ l, w'.heap[t.blk]? = w.heap[t.blk]?) : Chn w' l := fun i t ht => (hk t (List.mem_of_getElem? ht)).trans (h i t ht)
theorem Chn.nil : Chn w [] := fun i t ht => by simp at ht
theorem prv_app {i : Nat} (l m : List Tm) (h : i ≤ l.length) : prv (l ++ m) i = prv l i := by
  unfold prv
  split
  · rfl
  · rw [List.getElem?_append_left (by omega)]
theorem nxt_app {i : Nat} (l m : List Tm) (h : i + 1 < l.length) : nxt (l ++ m) i = nxt l i := by
  unfold nxt
  rw [List.getElem?_append_left h]
/-- One more, behind z. -/
theorem Chn.more (h : Chn w l) {z t : Tm} (hz : l[l.length - 1]? = some z) (hl : l ≠ [])
    (ht : w'.heap[t.blk]? = some (.cells (tmC t (lk (some z)) (.pointer none)) 70 (0, 0)))
    (hzb : w'.heap[z.blk]? = some (.cells ((tmC z (prv l (l.length - 1)) (nxt l (l.length - 1))).setIfInBounds 3 (lk (some t))) 70 (0, 0)))
    (ho : ∀ i x, l[i]? = some x → i + 1 < l.length → w'.heap[x.blk]? = w.heap[x.blk]?) : Chn w' (l ++ [t]) := by
  have hp : 0 < l.length := List.length_pos_iff.2 hl
  intro i x hx
  rcases Nat.lt_trichotomy i l.length with h1 | h1 | h1
  · rw [List.getElem?_append_left h1] at hx
    rw [prv_app l _ (by omega)]
    rcases Nat.lt_or_ge (i + 1) l.length with h2 | h2
    · rw [nxt_app l _ h2, ho i x hx h2]
      exact h i x hx
    · obtain rfl : i = l.length - 1 := by omega
      rw [hz] at hx
      cases hx
      rw [hzb]
      have e : nxt (l ++ [t]) (l.length - 1) = lk (some t) := by
        unfold nxt
        rw [Nat.sub_add_cancel hp, List.getElem?_append_right (Nat.le_refl _)]
        simp
      rw [e]
      rfl
  · subst h1
    rw [List.getElem?_append_right (Nat.le_refl _)] at hx
    simp at hx
    subst hx
    rw [ht, prv_app l _ (Nat.le_refl _)]
    have e1 : prv l l.length = lk (some z) := by
      unfold prv
      rw [if_neg (by omega), hz]
    have e2 : nxt (l ++ [t]) l.length = .pointer none := by
      unfold nxt
      rw [List.getElem?_eq_none (by simp)]
      rfl
    rw [e1, e2]
  · rw [List.getElem?_eq_none (by simp; omega)] at hx
    cases hx
theorem Chn.one {t : Tm} (ht : w'.heap[t.blk]? = some (.cells (tmC t (.pointer none) (.pointer none)) 70 (0, 0))) : Chn w' [t] := by
  intro i x hx
  cases i with
  | zero =>
    simp at hx
    subst hx
    exact ht
  | succ i => simp at hx
/-- One less. -/
theorem Chn.less (h : Chn w l) {j : Nat} (hj : j < l.length)
    (hz : ∀ z, 0 < j → l[j - 1]? = some z → w'.heap[z.blk]? = some (.cells ((tmC z (prv l (j - 1)) (nxt l (j - 1))).setIfInBounds 3 (nxt l j)) 70 (0, 0)))
    (hy : ∀ y, l[j + 1]? = some y → w'.heap[y.blk]? = some (.cells ((tmC y (prv l (j + 1)) (nxt l (j + 1))).setIfInBounds 2 (prv l j)) 70 (0, 0)))
    (ho : ∀ i x, l[i]? = some x → i ≠ j → i + 1 ≠ j → i ≠ j + 1 → w'.heap[x.blk]? = w.heap[x.blk]?) : Chn w' (l.eraseIdx j) := by
  intro i x hx
  rw [List.getElem?_eraseIdx] at hx
  split at hx <;> rename_i hij
  · have ep : prv (l.eraseIdx j) i = prv l i := by
      unfold prv
      split
      · rfl
      · rw [List.getElem?_eraseIdx, if_pos (by omega)]
    rw [ep]
    rcases Nat.lt_or_ge (i + 1) j with h2 | h2
    · have en : nxt (l.eraseIdx j) i = nxt l i := by
        unfold nxt
        rw [List.getElem?_eraseIdx, if_pos h2]
      rw [en, ho i x hx (by omega) (by omega) (by omega)]
      exact h i x hx
    · obtain rfl : i = j - 1 := by omega
      have en : nxt (l.eraseIdx j) (j - 1) = nxt l j := by
        unfold nxt
        rw [List.getElem?_eraseIdx, if_neg (by omega), show j - 1 + 1 + 1 = j + 1 from by omega]
      rw [en, hz x (by omega) hx]
      rfl
  · have en : nxt (l.eraseIdx j) i = nxt l (i + 1) := by
      unfold nxt
      rw [List.getElem?_eraseIdx, if_neg (by omega)]
    rw [en]
    rcases Nat.lt_or_ge j i with h2 | h2
    · have ep : prv (l.eraseIdx j) i = prv l (i + 1) := by
        unfold prv
        rw [if_neg (by omega), if_neg (by omega), List.getElem?_eraseIdx, if_neg (by omega), show i - 1 + 1 = i + 1 - 1 from by omega]
      rw [ep, ho (i + 1) x hx (by omega) (by omega) (by omega)]
      exact h (i + 1) x hx
    · obtain rfl : i = j := by omega
      have ep : prv (l.eraseIdx i) i = prv l i := by
        unfold prv
        split
        · rfl
        · rw [List.getElem?_eraseIdx, if_pos (by omega)]
      rw [ep, hy x hx]
      rfl
theorem head_less {j : Nat} (hj : j < l.length) : lk (l.eraseIdx j).head? = if j = 0 then nxt l 0 else lk l.head? := by
  rw [List.head?_eq_getElem?, List.getElem?_eraseIdx]
  split <;> rename_i h
  · rw [if_neg (by omega), List.head?_eq_getElem?]
  · rw [if_pos (by omega)]
    rfl
theorem last_less {j : Nat} (hj : j < l.length) : lk (l.eraseIdx j).getLast? = if j + 1 = l.length then prv l j else lk l.getLast? := by
  have hlen : (l.eraseIdx j).length = l.length - 1 := List.length_eraseIdx_of_lt hj
  rw [List.getLast?_eq_getElem?, List.getElem?_eraseIdx, hlen]
  unfold prv
  split <;> rename_i h
  · rw [if_pos (by omega), if_neg (by omega), show l.length - 1 - 1 = j - 1 from by omega]
  · split <;> rename_i h2
    · split <;> rename_i h3
      · rw [List.getElem?_eq_none (by omega)]
      · omega
    · rw [List.getLast?_eq_getElem?, show l.length - 1 - 1 + 1 = l.length - 1 from by omega]
end
end Go.Proofs.YtnoglbceaibjeaaDoor
/- The wheel in memory, and a slot's add as a change of it. -/
namespace Go.Proofs.YtnoglbceaibjeaaDoor
set_option linter.unusedVariables false
set_option linter.unusedSimpArgs false
open Go.ChangeShapes Go.WideShapes Go.ChangeAt Go.RowKit

def so (no s : Nat) : Nat := 2 + (no * 64 + s) * 2
theorem so_inj {no s no' s' : Nat} (h1 : s < 64) (h2 : s' < 64) (h : so no s = so no' s') : no = no' ∧ s = s' := by
  unfold so at h
  omega
structure WCs (cs : Array Value) (now mb : Nat) (C : Nat → Nat → List Tm) (U : Nat → Nat) : Prop where
  size : cs.size = 905
  c0 : cs[0]? = some (.int .i64 (now : Int))
  c1 : cs[1]? = some (.map (some mb))
  fst : ∀ no s, no < 7 → s < 64 → cs[so no s]? = some (lk (C no s).head?)
  lst : ∀ no s, no < 7 → s < 64 → cs[so no s + 1]? = some (lk (C no s).getLast?)
  usd : ∀ no, no < 7 → cs[898 + no]? = some (.int .u64 (U no : Int))
structure Whl (w : World) (base wb mb now : Nat) (C : Nat → Nat → List Tm) (U : Nat → Nat) : Prop where
  low : base ≤ wb
  blk : ∃ cs, w.heap[wb]? = some (.cells cs 68 (0, 0)) ∧ WCs cs now mb C U
  chn : ∀ no s, no < 7 → s < 64 → Chn w (C no s)
  lowT : ∀ no s, no < 7 → s < 64 → ∀ t ∈ C no s, base ≤ t.blk
  uniq : ∀ no s (i : Nat) no' s' (i' : Nat) (t t' : Tm), no < 7 → s < 64 → no' < 7 → s' < 64 → (C no s)[i]? = some t → (C no' s')[i']? = some t' → t.blk = t'.blk → no = no' ∧ s = s' ∧ i = i'
def upd (C : Nat → Nat → List Tm) (no s : Nat) (l : List Tm) : Nat → Nat → List Tm := fun n t => if n = no ∧ t = s then l else C n t
theorem upd_same (C : Nat → Nat → List Tm) (no s : Nat) (l : List Tm) : upd C no s l no s = l := if_pos ⟨rfl, rfl⟩
theorem upd_other {C : Nat → Nat → List Tm} {no s n t : Nat} {l : List Tm} (h : ¬ (n = no ∧ t = s)) : upd C no s l n t = C n t := if_neg h
def Zw (b : Nat) (T : TypeId) : Prop := T = 68 ∨ T = 70
theorem WCs.slot {cs cs' : Array Value} {now mb : Nat} {C : Nat → Nat → List Tm} {U : Nat → Nat} (h : WCs cs now mb C U) {no s : Nat} (hno : no < 7) (hs : s < 64) {l : List Tm} (hsz : cs'.size = cs.size)
    (ho : ∀ i, i ≠ so no s → i ≠ so no s + 1 → cs'[i]? = cs[i]?) (h0 : cs'[so no s]? = some (lk l.head?)) (h1 : cs'[so no s + 1]? = some (lk l.getLast?)) : WCs cs' now mb (upd C no s l) U := by
  refine ⟨hsz.trans h.size, ?_, ?_, ?_, ?_, ?_⟩
  · rw [ho 0 (by unfold so; omega) (by unfold so; omega)]; exact h.c0
  · rw [ho 1 (by unfold so; omega) (by unfold so; omega)]; exact h.c1
  · intro n t hn ht
    by_cases e : n = no ∧ t = s
    · obtain ⟨rfl, rfl⟩ := e
      rw [upd_same]; exact h0
    · rw [upd_other e, ho _ (by unfold so; omega) (by unfold so; omega)]
      exact h.fst n t hn ht
  · intro n t hn ht
    by_cases e : n = no ∧ t = s
    · obtain ⟨rfl, rfl⟩ := e
      rw [upd_same]; exact h1
    · rw [upd_other e, ho _ (by unfold so; omega) (by unfold so; omega)]
      exact h.lst n t hn ht
  · intro n hn
    rw [ho _ (by unfold so; omega) (by unfold so; omega)]
    exact h.usd n hn
section
variable {w w' : World} {base wb mb now : Nat} {C : Nat → Nat → List Tm} {U : Nat → Nat}
theorem Whl.ltT (h : Whl w base wb mb now C U) {no s : Nat} (hno : no < 7) (hs : s < 64) {t : Tm} (ht : t ∈ C no s) : t.blk < w.heap.size ∧ t.blk ≠ wb := by
  obtain ⟨i, hi⟩ := List.getElem?_of_mem ht
  have h1 := h.chn no s hno hs i t hi
  refine ⟨(Array.getElem?_eq_some_iff.1 h1).1, fun e => ?_⟩
  obtain ⟨cs, h2, _⟩ := h.blk
  rw [e, h2] at h1
  injection h1 with h1
  injection h1 with _ h1
  exact absurd h1 (by decide)
/-- What is put in place of one slot's chain. -/
theorem Whl.slot (h : Whl w base wb mb now C U) {no s : Nat} (hno : no < 7) (hs : s < 64) {l : List Tm} {cs : Array Value} (hb : w'.heap[wb]? = some (.cells cs 68 (0, 0))) (hcs : WCs cs now mb (upd C no s l) U)
    (hc : Chn w' l) (ho : ∀ n t, n < 7 → t < 64 → ¬ (n = no ∧ t = s) → ∀ x ∈ C n t, w'.heap[x.blk]? = w.heap[x.blk]?)
    (hl : ∀ t ∈ l, base ≤ t.blk) (hu : ∀ (i j : Nat) (t t' : Tm), l[i]? = some t → l[j]? = some t' → t.blk = t'.blk → i = j)
    (hd : ∀ n t, n < 7 → t < 64 → ¬ (n = no ∧ t = s) → ∀ x ∈ C n t, ∀ y ∈ l, x.blk ≠ y.blk) : Whl w' base wb mb now (upd C no s l) U := by
  refine ⟨h.low, ⟨cs, hb, hcs⟩, ?_, ?_, ?_⟩
  · intro n t hn ht
    by_cases e : n = no ∧ t = s
    · obtain ⟨rfl, rfl⟩ := e
      rw [upd_same]; exact hc
    · rw [upd_other e]
      exact (h.chn n t hn ht).keep (ho n t hn ht e)
  · intro n t hn ht
    by_cases e : n = no ∧ t = s
    · obtain ⟨rfl, rfl⟩ := e
      rw [upd_same]; exact hl
    · rw [upd_other e]
      exact h.lowT n t hn ht
  · intro n1 s1 i1 n2 s2 i2 t1 t2 a1 a2 a3 a4 h1 h2 hbl
    by_cases e1 : n1 = no ∧ s1 = s
    · by_cases e2 : n2 = no ∧ s2 = s
      · obtain ⟨rfl, rfl⟩ := e1
        obtain ⟨rfl, rfl⟩ := e2
        rw [upd_same] at h1 h2
        exact ⟨rfl, rfl, hu _ _ _ _ h1 h2 hbl⟩
      · obtain ⟨rfl, rfl⟩ := e1
        rw [upd_same] at h1
        rw [upd_other e2] at h2
        exact absurd hbl.symm (hd n2 s2 a3 a4 e2 t2 (List.mem_of_getElem? h2) t1 (List.mem_of_getElem? h1))
    · by_cases e2 : n2 = no ∧ s2 = s
      · obtain ⟨rfl, rfl⟩ := e2
        rw [upd_same] at h2
        rw [upd_other e1] at h1
        exact absurd hbl (hd n1 s1 a1 a2 e1 t1 (List.mem_of_getElem? h1) t2 (List.mem_of_getElem? h2))
      · rw [upd_other e1] at h1
        rw [upd_other e2] at h2
        exact h.uniq _ _ _ _ _ _ _ _ a1 a2 a3 a4 h1 h2 hbl
end
set_option maxHeartbeats 1000000 in
theorem sadd_any (w : World) (base wb mb now : Nat) (C : Nat → Nat → List Tm) (U : Nat → Nat) (h : Whl w base wb mb now C U) (no s : Nat) (hno : no < 7) (hs : s < 64) (t : Tm) (x y : Value)
    (ht : w.heap[t.blk]? = some (.cells (tmC t x y) 70 (0, 0))) (hf : ∀ n m, n < 7 → m < 64 → ∀ u ∈ C n m, u.blk ≠ t.blk) (hbt : base ≤ t.blk) :
    Calls Tryd.prog 34 #[.pointer (some ⟨wb, so no s, none⟩), .pointer (some ⟨t.blk, 0, none⟩)] w fun e w' => e = .returned (.tuple #[]) ∧ Whl w' base wb mb now (upd C no s (C no s ++ [t])) U ∧ Only base Zw w w' ∧ ∀ b, b ≠ wb → b ≠ t.blk → (∀ u ∈ C no s, b ≠ u.blk) → w'.heap[b]? = w.heap[b]? := by
  obtain ⟨cs, hB, hC⟩ := h.blk
  have hne : t.blk ≠ wb := fun e => by
    rw [e, hB] at ht
    injection ht with ht
    injection ht with _ ht
    exact absurd ht (by decide)
  have hk : so no s + 1 < cs.size := by rw [hC.size]; unfold so; omega
  have hf0 := hC.fst no s hno hs
  have hl0 := hC.lst no s hno hs
  have hlow : ∀ u ∈ C no s ++ [t], base ≤ u.blk := by
    intro u hu
    rcases List.mem_append.1 hu with h1 | h1
    · exact h.lowT no s hno hs u h1
    · rw [List.mem_singleton.1 h1]; exact hbt
  have hd : ∀ n m, n < 7 → m < 64 → ¬ (n = no ∧ m = s) → ∀ u ∈ C n m, ∀ v ∈ C no s ++ [t], u.blk ≠ v.blk := by
    intro n m hn hm e u hu v hv he
    rcases List.mem_append.1 hv with h1 | h1
    · obtain ⟨i, hi⟩ := List.getElem?_of_mem hu
      obtain ⟨j, hj⟩ := List.getElem?_of_mem h1
      obtain ⟨e1, e2, _⟩ := h.uniq _ _ _ _ _ _ _ _ hn hm hno hs hi hj he
      exact e ⟨e1, e2⟩
    · rw [List.mem_singleton.1 h1] at he
      exact hf n m hn hm u hu he
  have hu : ∀ (i j : Nat) (u v : Tm), (C no s ++ [t])[i]? = some u → (C no s ++ [t])[j]? = some v → u.blk = v.blk → i = j := by
    intro i j u v hi hj he
    have hli : i < (C no s ++ [t]).length := (List.getElem?_eq_some_iff.1 hi).1
    have hlj : j < (C no s ++ [t]).length := (List.getElem?_eq_some_iff.1 hj).1
    simp at hli hlj
    rcases Nat.lt_or_ge i (C no s).length with a | a <;> rcases Nat.lt_or_ge j (C no s).length with b | b
    · rw [List.getElem?_append_left a] at hi
      rw [List.getElem?_append_left b] at hj
      exact (h.uniq _ _ _ _ _ _ _ _ hno hs hno hs hi hj he).2.2
    · rw [List.getElem?_append_left a] at hi
      rw [List.getElem?_append_right b, show j - (C no s).length = 0 from by omega] at hj
      cases hj
      exact absurd he (hf no s hno hs u (List.mem_of_getElem? hi))
    · rw [List.getElem?_append_left b] at hj
      rw [List.getElem?_append_right a, show i - (C no s).length = 0 from by omega] at hi
      cases hi
      exact absurd he.symm (hf no s hno hs v (List.mem_of_getElem? hj))
    · omega
  by_cases hemp : C no s = []
  · rw [hemp] at hf0 hl0
    refine (add_nil w wb (so no s) t.blk cs (tmC t x y) _ _ _ x y hB hf0 hl0 ht rfl rfl hne).mono ?_
    rintro e w' ⟨rfl, rfl⟩
    refine ⟨rfl, ?_, ?_, ?_⟩
    · have hT1 := heap_setCell_own (k := 3) (heap_setCell_own (k := 2) ht (.pointer none)) (.pointer none)
      have hB1 := heap_setCell_own (k := so no s + 1) (heap_setCell_own (k := so no s) (show ((w.setCell ⟨t.blk, 2, none⟩ (.pointer none)).setCell ⟨t.blk, 3, none⟩ (.pointer none)).heap[wb]? = some (.cells cs 68 (0, 0)) from by
        rw [Below.heap_setCell _ _ _ _ (fun e => hne e.symm), Below.heap_setCell _ _ _ _ (fun e => hne e.symm)]; exact hB) (.pointer (some ⟨t.blk, 0, none⟩))) (.pointer (some ⟨t.blk, 0, none⟩))
      refine h.slot hno hs hB1 (hC.slot hno hs (by simp) ?_ ?_ ?_) ?_ ?_ hlow hu hd
      · intro i h1 h2
        simp [Ne.symm h1, Ne.symm h2]
      · rw [hemp]
        simp [lk, show so no s < cs.size from by omega]
      · rw [hemp]
        simp [lk, hk]
      · rw [hemp]
        refine Chn.one ?_
        rw [Below.heap_setCell _ _ _ _ hne, Below.heap_setCell _ _ _ _ hne]
        exact hT1
      · intro n m hn hm e u hu'
        have h1 := hf n m hn hm u hu'
        have h2 := (h.ltT hn hm hu').2
        rw [Below.heap_setCell _ _ _ _ h2, Below.heap_setCell _ _ _ _ h2, Below.heap_setCell _ _ _ _ h1, Below.heap_setCell _ _ _ _ h1]
    · have o1 : Only base Zw w (w.setCell ⟨t.blk, 2, none⟩ (.pointer none)) := Only.set ht hbt (.inr rfl) _
      have o2 := o1.trans (Only.set (heap_setCell_own (k := 2) ht (.pointer none)) hbt (Z := Zw) (.inr rfl) (i := 3) (.pointer none))
      have hB2 : ((w.setCell ⟨t.blk, 2, none⟩ (.pointer none)).setCell ⟨t.blk, 3, none⟩ (.pointer none)).heap[wb]? = some (.cells cs 68 (0, 0)) := by
        rw [Below.heap_setCell _ _ _ _ (fun e => hne e.symm), Below.heap_setCell _ _ _ _ (fun e => hne e.symm)]; exact hB
      have o3 := o2.trans (Only.set hB2 h.low (Z := Zw) (.inl rfl) (i := so no s) (.pointer (some ⟨t.blk, 0, none⟩)))
      exact o3.trans (Only.set (heap_setCell_own (k := so no s) hB2 (.pointer (some ⟨t.blk, 0, none⟩))) h.low (Z := Zw) (.inl rfl) (i := so no s + 1) (.pointer (some ⟨t.blk, 0, none⟩)))
    · intro b b1 b2 _
      rw [Below.heap_setCell _ _ _ _ b1, Below.heap_setCell _ _ _ _ b1, Below.heap_setCell _ _ _ _ b2, Below.heap_setCell _ _ _ _ b2]
  · have hp : 0 < (C no s).length := List.length_pos_iff.2 hemp
    obtain ⟨z, hz⟩ : ∃ z, (C no s)[(C no s).length - 1]? = some z := ⟨_, List.getElem?_eq_getElem (by omega)⟩
    have hzl : (C no s).getLast? = some z := by rw [List.getLast?_eq_getElem?]; exact hz
    have hzm := List.mem_of_getElem? hz
    have hzb := h.chn no s hno hs _ z hz
    have hzt := hf no s hno hs z hzm
    have hzw := (h.ltT hno hs hzm).2
    rw [hzl] at hl0
    refine (add_cons w wb (so no s) t.blk z.blk cs (tmC t x y) _ _ _ x y _ hB hl0 ht rfl rfl hne hzb rfl hzw hzt).mono ?_
    rintro e w' ⟨rfl, rfl⟩
    have hT1 := heap_setCell_own (k := 3) (heap_setCell_own (k := 2) ht (.pointer (some ⟨z.blk, 0, none⟩))) (.pointer none)
    have hZ1 : ((w.setCell ⟨t.blk, 2, none⟩ (.pointer (some ⟨z.blk, 0, none⟩))).setCell ⟨t.blk, 3, none⟩ (.pointer none)).heap[z.blk]? = w.heap[z.blk]? := by
      rw [Below.heap_setCell _ _ _ _ hzt, Below.heap_setCell _ _ _ _ hzt]
    have hZ2 := heap_setCell_own (k := 3) (hZ1.trans hzb) (.pointer (some ⟨t.blk, 0, none⟩))
    have hB2 : (((w.setCell ⟨t.blk, 2, none⟩ (.pointer (some ⟨z.blk, 0, none⟩))).setCell ⟨t.blk, 3, none⟩ (.pointer none)).setCell ⟨z.blk, 3, none⟩ (.pointer (some ⟨t.blk, 0, none⟩))).heap[wb]? = some (.cells cs 68 (0, 0)) := by
      rw [Below.heap_setCell _ _ _ _ (fun e => hzw e.symm), Below.heap_setCell _ _ _ _ (fun e => hne e.symm), Below.heap_setCell _ _ _ _ (fun e => hne e.symm)]; exact hB
    refine ⟨rfl, ?_, ?_, ?_⟩
    · have hB1 := heap_setCell_own (k := so no s + 1) hB2 (.pointer (some ⟨t.blk, 0, none⟩))
      refine h.slot hno hs hB1 (hC.slot hno hs (by simp) ?_ ?_ ?_) ?_ ?_ hlow hu hd
      · intro i h1 h2
        simp [Ne.symm h2]
      · have e1 : (C no s ++ [t]).head? = (C no s).head? := by
          cases hc : C no s with
          | nil => exact absurd hc hemp
          | cons a l => rfl
        rw [e1]
        simpa using hf0
      · simp [lk, hk]
      · refine (h.chn no s hno hs).more hz hemp ?_ ?_ ?_
        · rw [Below.heap_setCell _ _ _ _ hne, Below.heap_setCell _ _ _ _ (Ne.symm hzt)]
          exact hT1
        · rw [Below.heap_setCell _ _ _ _ hzw]
          exact hZ2
        · intro i u hi hil
          have hum := List.mem_of_getElem? hi
          have h1 := hf no s hno hs u hum
          have h2 := (h.ltT hno hs hum).2
          have h3 : u.blk ≠ z.blk := fun e => by
            have := (h.uniq _ _ _ _ _ _ _ _ hno hs hno hs hi hz e).2.2
            omega
          rw [Below.heap_setCell _ _ _ _ h2, Below.heap_setCell _ _ _ _ h3, Below.heap_setCell _ _ _ _ h1, Below.heap_setCell _ _ _ _ h1]
      · intro n m hn hm e u hu'
        have h1 := hf n m hn hm u hu'
        have h2 := (h.ltT hn hm hu').2
        have h3 := hd n m hn hm e u hu' z (List.mem_append_left _ hzm)
        rw [Below.heap_setCell _ _ _ _ h2, Below.heap_setCell _ _ _ _ h3, Below.heap_setCell _ _ _ _ h1, Below.heap_setCell _ _ _ _ h1]
    · have o1 : Only base Zw w (w.setCell ⟨t.blk, 2, none⟩ (.pointer (some ⟨z.blk, 0, none⟩))) := Only.set ht hbt (.inr rfl) _
      have o2 := o1.trans (Only.set (heap_setCell_own (k := 2) ht (.pointer (some ⟨z.blk, 0, none⟩))) hbt (Z := Zw) (.inr rfl) (i := 3) (.pointer none))
      have o3 := o2.trans (Only.set (hZ1.trans hzb) (h.lowT no s hno hs z hzm) (Z := Zw) (.inr rfl) (i := 3) (.pointer (some ⟨t.blk, 0, none⟩)))
      exact o3.trans (Only.set hB2 h.low (Z := Zw) (.inl rfl) (i := so no s + 1) (.pointer (some ⟨t.blk, 0, none⟩)))
    · intro b b1 b2 b3
      have b4 := b3 z hzm
      rw [Below.heap_setCell _ _ _ _ b1, Below.heap_setCell _ _ _ _ b4, Below.heap_setCell _ _ _ _ b2, Below.heap_setCell _ _ _ _ b2]
end Go.Proofs.YtnoglbceaibjeaaDoor
/- A slot's remove as a change of the wheel. -/
namespace Go.Proofs.YtnoglbceaibjeaaDoor
set_option linter.unusedVariables false
set_option linter.unusedSimpArgs false
open Go.ChangeShapes Go.WideShapes Go.ChangeAt Go.RowKit

section
variable {w w' : World} {base wb mb now : Nat} {C : Nat → Nat → List Tm} {U : Nat → Nat}
theorem Whl.rem (h : Whl w base wb mb now C U) {no s j : Nat} (hno : no < 7) (hs : s < 64) (hj : j < (C no s).length) {cs cs' : Array Value} (hC : WCs cs now mb C U)
    (hB : w'.heap[wb]? = some (.cells cs' 68 (0, 0))) (hsz : cs'.size = cs.size)
    (ho : ∀ i, i ≠ so no s → i ≠ so no s + 1 → cs'[i]? = cs[i]?) (h0 : cs'[so no s]? = some (if j = 0 then nxt (C no s) 0 else lk (C no s).head?)) (h1 : cs'[so no s + 1]? = some (if j + 1 = (C no s).length then prv (C no s) j else lk (C no s).getLast?))
    (hz : ∀ z, 0 < j → (C no s)[j - 1]? = some z → w'.heap[z.blk]? = some (.cells ((tmC z (prv (C no s) (j - 1)) (nxt (C no s) (j - 1))).setIfInBounds 3 (nxt (C no s) j)) 70 (0, 0)))
    (hy : ∀ y, (C no s)[j + 1]? = some y → w'.heap[y.blk]? = some (.cells ((tmC y (prv (C no s) (j + 1)) (nxt (C no s) (j + 1))).setIfInBounds 2 (prv (C no s) j)) 70 (0, 0)))
    (hk : ∀ b, b ≠ wb → (∀ z, 0 < j → (C no s)[j - 1]? = some z → b ≠ z.blk) → (∀ y, (C no s)[j + 1]? = some y → b ≠ y.blk) → w'.heap[b]? = w.heap[b]?) : Whl w' base wb mb now (upd C no s ((C no s).eraseIdx j)) U := by
  have hsub : ∀ u, u ∈ (C no s).eraseIdx j → u ∈ C no s := fun u hu => List.mem_of_mem_eraseIdx hu
  refine h.slot hno hs hB (hC.slot hno hs hsz ho ?_ ?_) ?_ ?_ ?_ ?_ ?_
  · rw [head_less hj]; exact h0
  · rw [last_less hj]; exact h1
  · refine (h.chn no s hno hs).less hj hz hy ?_
    intro i x hx a1 a2 a3
    refine hk _ (h.ltT hno hs (List.mem_of_getElem? hx)).2 ?_ ?_
    · intro z hp hz' e
      have := (h.uniq _ _ _ _ _ _ _ _ hno hs hno hs hx hz' e).2.2
      omega
    · intro y hy' e
      have := (h.uniq _ _ _ _ _ _ _ _ hno hs hno hs hx hy' e).2.2
      omega
  · intro n m hn hm e x hx
    obtain ⟨i, hi⟩ := List.getElem?_of_mem hx
    refine hk _ (h.ltT hn hm hx).2 ?_ ?_
    · intro z hp hz' e'
      have := h.uniq _ _ _ _ _ _ _ _ hn hm hno hs hi hz' e'
      exact e ⟨this.1, this.2.1⟩
    · intro y hy' e'
      have := h.uniq _ _ _ _ _ _ _ _ hn hm hno hs hi hy' e'
      exact e ⟨this.1, this.2.1⟩
  · exact fun t ht => h.lowT no s hno hs t (hsub t ht)
  · intro a b t t' ha hb e
    rw [List.getElem?_eraseIdx] at ha hb
    split at ha <;> split at hb <;> rename_i q1 q2
    · exact (h.uniq _ _ _ _ _ _ _ _ hno hs hno hs ha hb e).2.2
    · have := (h.uniq _ _ _ _ _ _ _ _ hno hs hno hs ha hb e).2.2
      omega
    · have := (h.uniq _ _ _ _ _ _ _ _ hno hs hno hs ha hb e).2.2
      omega
    · have := (h.uniq _ _ _ _ _ _ _ _ hno hs hno hs ha hb e).2.2
      omega
  · intro n m hn hm e x hx y hy' e'
    obtain ⟨i, hi⟩ := List.getElem?_of_mem hx
    obtain ⟨i', hi'⟩ := List.getElem?_of_mem (hsub y hy')
    have := h.uniq _ _ _ _ _ _ _ _ hn hm hno hs hi hi' e'
    exact e ⟨this.1, this.2.1⟩
end

set_option maxHeartbeats 2000000 in
theorem srem_any (w : World) (base wb mb now : Nat) (C : Nat → Nat → List Tm) (U : Nat → Nat) (h : Whl w base wb mb now C U) (no s j : Nat) (hno : no < 7) (hs : s < 64) (t : Tm) (ht : (C no s)[j]? = some t) :
    Calls Tryd.prog 35 #[.pointer (some ⟨wb, so no s, none⟩), .pointer (some ⟨t.blk, 0, none⟩)] w fun e w' => e = .returned (.tuple #[]) ∧ Whl w' base wb mb now (upd C no s ((C no s).eraseIdx j)) U ∧ Only base Zw w w' := by
  obtain ⟨cs, hB, hC⟩ := h.blk
  have hj : j < (C no s).length := (List.getElem?_eq_some_iff.1 ht).1
  have hT := h.chn no s hno hs j t ht
  have htw := (h.ltT hno hs (List.mem_of_getElem? ht)).2
  have hsz : so no s + 1 < cs.size := by rw [hC.size]; unfold so; omega
  have hsz0 : so no s < cs.size := by omega
  have hf0 := hC.fst no s hno hs
  have hl0 := hC.lst no s hno hs
  have apart : ∀ (a b : Nat) (x y : Tm), (C no s)[a]? = some x → (C no s)[b]? = some y → a ≠ b → x.blk ≠ y.blk := fun a b x y ha hb hab e => hab (h.uniq _ _ _ _ _ _ _ _ hno hs hno hs ha hb e).2.2
  rcases Nat.eq_zero_or_pos j with hj0 | hj0 <;> rcases Nat.lt_or_ge (j + 1) (C no s).length with hjl | hjl
  · -- the first one, others behind
    obtain ⟨y, hy⟩ : ∃ y, (C no s)[j + 1]? = some y := ⟨_, List.getElem?_eq_getElem hjl⟩
    have ep : prv (C no s) j = .pointer none := by subst hj0; rfl
    have en : nxt (C no s) j = .pointer (some ⟨y.blk, 0, none⟩) := by unfold nxt; rw [hy]; rfl
    have hyb := h.chn no s hno hs _ y hy
    have hyw := (h.ltT hno hs (List.mem_of_getElem? hy)).2
    have hyt := apart _ _ _ _ hy ht (by omega)
    refine (rem_01 w wb (so no s) t.blk y.blk cs _ _ _ _ _ _ hB hT (congrArg some ep) (congrArg some en) htw hf0 hyb rfl hyt hyw).mono ?_
    rintro e w' ⟨rfl, rfl⟩
    have hB1 := heap_setCell_own (k := so no s) hB (.pointer (some ⟨y.blk, 0, none⟩))
    have hY1 : (w.setCell ⟨wb, so no s, none⟩ (.pointer (some ⟨y.blk, 0, none⟩))).drew.heap[y.blk]? = w.heap[y.blk]? := Below.heap_setCell _ _ _ _ hyw
    have hY2 := heap_setCell_own (k := 2) (hY1.trans hyb) (.pointer none)
    refine ⟨rfl, h.rem hno hs hj hC ((Below.heap_setCell _ _ _ _ (Ne.symm hyw)).trans hB1) (by simp) ?_ ?_ ?_ ?_ ?_ ?_, ?_⟩
    · intro i h1 h2
      simp [Ne.symm h1]
    · subst hj0
      rw [if_pos rfl, en]
      simp [hsz0]
    · rw [if_neg (by omega)]
      simpa using hl0
    · intro z hp; omega
    · intro y' hy'
      rw [hy] at hy'
      cases hy'
      rw [ep]
      exact hY2
    · intro b h1 h2 h3
      rw [Below.heap_setCell _ _ _ _ (h3 y hy)]
      exact Below.heap_setCell _ _ _ _ h1
    · have o1 : Only base Zw w (w.setCell ⟨wb, so no s, none⟩ (.pointer (some ⟨y.blk, 0, none⟩))) := Only.set hB h.low (.inl rfl) _
      have o2 := o1.trans (Only.grow (Grow.drew _) (Nat.le_trans (Nat.le_of_lt (Nat.lt_of_le_of_lt h.low (Array.getElem?_eq_some_iff.1 hB).1)) o1.size) Zw)
      exact o2.trans (Only.set (hY1.trans hyb) (h.lowT no s hno hs y (List.mem_of_getElem? hy)) (Z := Zw) (.inr rfl) (i := 2) (.pointer none))
  · -- the only one
    have hj1 : j + 1 = (C no s).length := by omega
    have ep : prv (C no s) j = .pointer none := by subst hj0; rfl
    have en : nxt (C no s) j = .pointer none := by unfold nxt; rw [List.getElem?_eq_none (by omega)]; rfl
    refine (rem_00 w wb (so no s) t.blk cs _ _ _ _ _ hB hT (congrArg some ep) (congrArg some en) htw hf0 hl0).mono ?_
    rintro e w' ⟨rfl, rfl⟩
    have hB1 := heap_setCell_own (k := so no s) hB (.pointer none)
    have hB2 := heap_setCell_own (k := so no s + 1) hB1 (.pointer none)
    refine ⟨rfl, h.rem hno hs hj hC hB2 (by simp) ?_ ?_ ?_ ?_ ?_ ?_, ?_⟩
    · intro i h1 h2
      simp [Ne.symm h1, Ne.symm h2]
    · subst hj0
      rw [if_pos rfl, en]
      simp [hsz0]
    · rw [if_pos hj1, ep]
      simp [hsz]
    · intro z hp; omega
    · intro y' hy'
      rw [List.getElem?_eq_none (by omega)] at hy'
      cases hy'
    · intro b h1 h2 h3
      rw [Below.heap_setCell _ _ _ _ h1, Below.heap_setCell _ _ _ _ h1]
    · have o1 : Only base Zw w (w.setCell ⟨wb, so no s, none⟩ (.pointer none)) := Only.set hB h.low (.inl rfl) _
      exact o1.trans (Only.set hB1 h.low (Z := Zw) (.inl rfl) (i := so no s + 1) (.pointer none))
  · -- between others
    obtain ⟨y, hy⟩ : ∃ y, (C no s)[j + 1]? = some y := ⟨_, List.getElem?_eq_getElem hjl⟩
    obtain ⟨z, hz⟩ : ∃ z, (C no s)[j - 1]? = some z := ⟨_, List.getElem?_eq_getElem (by omega)⟩
    have ep : prv (C no s) j = .pointer (some ⟨z.blk, 0, none⟩) := by unfold prv; rw [if_neg (by omega), hz]; rfl
    have en : nxt (C no s) j = .pointer (some ⟨y.blk, 0, none⟩) := by unfold nxt; rw [hy]; rfl
    have hyb := h.chn no s hno hs _ y hy
    have hyw := (h.ltT hno hs (List.mem_of_getElem? hy)).2
    have hyt := apart _ _ _ _ hy ht (by omega)
    have hzb := h.chn no s hno hs _ z hz
    have hzw := (h.ltT hno hs (List.mem_of_getElem? hz)).2
    have hzt := apart _ _ _ _ hz ht (by omega)
    have hzy := apart _ _ _ _ hz hy (by omega)
    refine (rem_11 w wb (so no s) t.blk z.blk y.blk cs _ _ _ _ _ _ _ hB hT (congrArg some ep) (congrArg some en) htw hzb rfl hzt hzw hyb rfl hyt hyw hzy).mono ?_
    rintro e w' ⟨rfl, rfl⟩
    have hZ2 : (w.drew.setCell ⟨z.blk, 3, none⟩ (.pointer (some ⟨y.blk, 0, none⟩))).heap[z.blk]? = _ := heap_setCell_own (w := w.drew) (k := 3) hzb (.pointer (some ⟨y.blk, 0, none⟩))
    have hY1 : (w.drew.setCell ⟨z.blk, 3, none⟩ (.pointer (some ⟨y.blk, 0, none⟩))).drew.heap[y.blk]? = w.heap[y.blk]? := Below.heap_setCell _ _ _ _ (Ne.symm hzy)
    have hY2 := heap_setCell_own (k := 2) (hY1.trans hyb) (.pointer (some ⟨z.blk, 0, none⟩))
    have hB1 : (w.drew.setCell ⟨z.blk, 3, none⟩ (.pointer (some ⟨y.blk, 0, none⟩))).heap[wb]? = w.heap[wb]? := Below.heap_setCell _ _ _ _ (Ne.symm hzw)
    refine ⟨rfl, h.rem hno hs hj hC ((Below.heap_setCell _ _ _ _ (Ne.symm hyw)).trans (hB1.trans hB)) rfl ?_ ?_ ?_ ?_ ?_ ?_, ?_⟩
    · intro i h1 h2; rfl
    · rw [if_neg (by omega)]; exact hf0
    · rw [if_neg (by omega)]; exact hl0
    · intro z' hp hz'
      rw [hz] at hz'
      cases hz'
      rw [Below.heap_setCell _ _ _ _ hzy, en]
      exact hZ2
    · intro y' hy'
      rw [hy] at hy'
      cases hy'
      rw [ep]
      exact hY2
    · intro b h1 h2 h3
      rw [Below.heap_setCell _ _ _ _ (h3 y hy)]
      exact Below.heap_setCell _ _ _ _ (h2 z hj0 hz)
    · have hbs : base ≤ w.heap.size := Nat.le_of_lt (Nat.lt_of_le_of_lt h.low (Array.getElem?_eq_some_iff.1 hB).1)
      have o0 : Only base Zw w w.drew := Only.grow (Grow.drew _) hbs Zw
      have o1 := o0.trans (Only.set (show w.drew.heap[z.blk]? = _ from hzb) (h.lowT no s hno hs z (List.mem_of_getElem? hz)) (Z := Zw) (.inr rfl) (i := 3) (.pointer (some ⟨y.blk, 0, none⟩)))
      have o2 := o1.trans (Only.grow (Grow.drew _) (Nat.le_trans hbs o1.size) Zw)
      exact o2.trans (Only.set (hY1.trans hyb) (h.lowT no s hno hs y (List.mem_of_getElem? hy)) (Z := Zw) (.inr rfl) (i := 2) (.pointer (some ⟨z.blk, 0, none⟩)))
  · -- the last one, others ahead
    have hj1 : j + 1 = (C no s).length := by omega
    obtain ⟨z, hz⟩ : ∃ z, (C no s)[j - 1]? = some z := ⟨_, List.getElem?_eq_getElem (by omega)⟩
    have ep : prv (C no s) j = .pointer (some ⟨z.blk, 0, none⟩) := by unfold prv; rw [if_neg (by omega), hz]; rfl
    have en : nxt (C no s) j = .pointer none := by unfold nxt; rw [List.getElem?_eq_none (by omega)]; rfl
    have hzb := h.chn no s hno hs _ z hz
    have hzw := (h.ltT hno hs (List.mem_of_getElem? hz)).2
    have hzt := apart _ _ _ _ hz ht (by omega)
    refine (rem_10 w wb (so no s) t.blk z.blk cs _ _ _ _ _ _ hB hT (congrArg some ep) (congrArg some en) htw hzb rfl hzt hzw hl0).mono ?_
    rintro e w' ⟨rfl, rfl⟩
    have hZ2 : (w.drew.setCell ⟨z.blk, 3, none⟩ (.pointer none)).heap[z.blk]? = _ := heap_setCell_own (w := w.drew) (k := 3) hzb (.pointer none)
    have hB1 : (w.drew.setCell ⟨z.blk, 3, none⟩ (.pointer none)).heap[wb]? = w.heap[wb]? := Below.heap_setCell _ _ _ _ (Ne.symm hzw)
    have hB2 := heap_setCell_own (k := so no s + 1) (hB1.trans hB) (.pointer (some ⟨z.blk, 0, none⟩))
    refine ⟨rfl, h.rem hno hs hj hC hB2 (by simp) ?_ ?_ ?_ ?_ ?_ ?_, ?_⟩
    · intro i h1 h2
      simp [Ne.symm h2]
    · rw [if_neg (by omega)]
      simpa using hf0
    · rw [if_pos hj1, ep]
      simp [hsz]
    · intro z' hp hz'
      rw [hz] at hz'
      cases hz'
      rw [Below.heap_setCell _ _ _ _ hzw, en]
      exact hZ2
    · intro y' hy'
      rw [List.getElem?_eq_none (by omega)] at hy'
      cases hy'
    · intro b h1 h2 h3
      rw [Below.heap_setCell _ _ _ _ h1]
      exact Below.heap_setCell _ _ _ _ (h2 z hj0 hz)
    · have hbs : base ≤ w.heap.size := Nat.le_of_lt (Nat.lt_of_le_of_lt h.low (Array.getElem?_eq_some_iff.1 hB).1)
      have o0 : Only base Zw w w.drew := Only.grow (Grow.drew _) hbs Zw
      have o1 := o0.trans (Only.set (show w.drew.heap[z.blk]? = _ from hzb) (h.lowT no s hno hs z (List.mem_of_getElem? hz)) (Z := Zw) (.inr rfl) (i := 3) (.pointer none))
      exact o1.trans (Only.set (hB1.trans hB) h.low (Z := Zw) (.inl rfl) (i := so no s + 1) (.pointer (some ⟨z.blk, 0, none⟩)))
end Go.Proofs.YtnoglbceaibjeaaDoor
/- Contracts: put, take. -/
namespace Go.Proofs.YtnoglbceaibjeaaDoor
set_option linter.unusedVariables false
set_option linter.unusedSimpArgs false
open Go.ChangeShapes Go.WideShapes Go.ChangeAt Go.RowKit

def updU (U : Nat → Nat) (no v : Nat) : Nat → Nat := fun n => if n = no then v else U n
theorem or_64 (a b : Nat) (ha : a < 2 ^ 64) (hb : b < 2 ^ 64) : bits .or .u64 (a : Int) (b : Int) = ((a ||| b : Nat) : Int) := by
  have h : a ||| b < 2 ^ 64 := Nat.or_lt_two_pow ha hb
  show IntKind.u64.wrap (BitVec.toNat (BitVec.ofInt 64 (a : Int) ||| BitVec.ofInt 64 (b : Int))) = _
  rw [BitVec.toNat_or, BitVec.toNat_ofInt, BitVec.toNat_ofInt]
  have e1 : ((a : Int) % ((2 ^ 64 : Nat) : Int)).toNat = a := by omega
  have e2 : ((b : Int) % ((2 ^ 64 : Nat) : Int)).toNat = b := by omega
  rw [e1, e2, IntKind.wrap_u64]
  omega
theorem wrap_pow {s : Nat} (hs : s < 64) : IntKind.u64.wrap ((2 : Int) ^ s) = ((2 ^ s : Nat) : Int) := by
  have h : 2 ^ s < 2 ^ 64 := Nat.pow_lt_pow_right (by decide) hs
  have e : ((2 : Int) ^ s) = ((2 ^ s : Nat) : Int) := by simp
  rw [e, IntKind.wrap_u64]
  clear e
  generalize 2 ^ s = p at *
  omega
section
variable {w w' : World} {base wb mb now : Nat} {C : Nat → Nat → List Tm} {U : Nat → Nat}
theorem WCs.used {cs : Array Value} (h : WCs cs now mb C U) {no : Nat} (hno : no < 7) (v : Nat) : WCs (cs.setIfInBounds (898 + no) (.int .u64 (v : Int))) now mb C (updU U no v) := by
  have hsz := h.size
  refine ⟨by simp [hsz], ?_, ?_, ?_, ?_, ?_⟩
  · rw [Array.getElem?_setIfInBounds_ne (by omega)]; exact h.c0
  · rw [Array.getElem?_setIfInBounds_ne (by omega)]; exact h.c1
  · intro n s hn hs
    rw [Array.getElem?_setIfInBounds_ne (by unfold so; omega)]; exact h.fst n s hn hs
  · intro n s hn hs
    rw [Array.getElem?_setIfInBounds_ne (by unfold so; omega)]; exact h.lst n s hn hs
  · intro n hn
    unfold updU
    by_cases e : n = no
    · subst e
      rw [if_pos rfl, Array.getElem?_setIfInBounds_self_of_lt (by omega)]
    · rw [if_neg e, Array.getElem?_setIfInBounds_ne (by omega)]; exact h.usd n hn
theorem Whl.used (h : Whl w base wb mb now C U) {no : Nat} (hno : no < 7) (v : Nat) : Whl (w.setCell ⟨wb, 898 + no, none⟩ (.int .u64 (v : Int))) base wb mb now C (updU U no v) ∧ Only base Zw w (w.setCell ⟨wb, 898 + no, none⟩ (.int .u64 (v : Int))) := by
  obtain ⟨cs, hB, hC⟩ := h.blk
  refine ⟨⟨h.low, ⟨_, heap_setCell_own (k := 898 + no) hB _, hC.used hno v⟩, ?_, h.lowT, h.uniq⟩, Only.set hB h.low (.inl rfl) _⟩
  intro n s hn hs
  exact (h.chn n s hn hs).keep fun t ht => Below.heap_setCell _ _ _ _ (h.ltT hn hs ht).2
theorem Whl.drew (h : Whl w base wb mb now C U) : Whl w.drew base wb mb now C U := ⟨h.low, h.blk, h.chn, h.lowT, h.uniq⟩
theorem Whl.bas (h : Whl w base wb mb now C U) : base ≤ w.heap.size := by
  obtain ⟨cs, hB, hC⟩ := h.blk
  exact Nat.le_of_lt (Nat.lt_of_le_of_lt h.low (Array.getElem?_eq_some_iff.1 hB).1)
theorem Whl.cell (h : Whl w base wb mb now C U) : w.cell? ⟨wb, 0, none⟩ = some (.int .i64 (now : Int)) ∧ w.cell? ⟨wb, 1, none⟩ = some (.map (some mb)) := by
  obtain ⟨cs, hB, hC⟩ := h.blk
  exact ⟨(cell_of_row w wb 0 cs _ _ hB).trans hC.c0, (cell_of_row w wb 1 cs _ _ hB).trans hC.c1⟩
theorem Whl.cellU (h : Whl w base wb mb now C U) {no : Nat} (hno : no < 7) : w.cell? ⟨wb, 898 + no, none⟩ = some (.int .u64 (U no : Int)) ∧ w.frozen? ⟨wb, 898 + no, none⟩ = false := by
  obtain ⟨cs, hB, hC⟩ := h.blk
  exact ⟨(cell_of_row w wb (898 + no) cs _ _ hB).trans (hC.usd no hno), frozen_of hB⟩
theorem Whl.cellF (h : Whl w base wb mb now C U) {no s : Nat} (hno : no < 7) (hs : s < 64) : w.cell? ⟨wb, so no s, none⟩ = some (lk (C no s).head?) := by
  obtain ⟨cs, hB, hC⟩ := h.blk
  exact (cell_of_row w wb _ cs _ _ hB).trans (hC.fst no s hno hs)
end
set_option maxHeartbeats 1000000 in
theorem put_any (w : World) (base wb mb now : Nat) (C : Nat → Nat → List Tm) (U : Nat → Nat) (h : Whl w base wb mb now C U) (hnow : now ≤ maxT) (t : Tm) (htk : t.tk ≤ maxT) (x y : Value)
    (ht : w.heap[t.blk]? = some (.cells (tmC t x y) 70 (0, 0))) (hf : ∀ n m, n < 7 → m < 64 → ∀ u ∈ C n m, u.blk ≠ t.blk) (hbt : base ≤ t.blk) (hU : ∀ no, no < 7 → U no < 2 ^ 64) (no s : Nat) (hpl : plc now t.tk = (no, s)) :
    Calls Tryd.prog 24 #[.pointer (some ⟨wb, 0, none⟩), .pointer (some ⟨t.blk, 0, none⟩)] w fun e w' => e = .returned (.tuple #[]) ∧ Whl w' base wb mb now (upd C no s (C no s ++ [t])) (updU U no (U no ||| 2 ^ s)) ∧ Only base Zw w w' ∧ ∀ b, b ≠ wb → b ≠ t.blk → (∀ u ∈ C no s, b ≠ u.blk) → w'.heap[b]? = w.heap[b]? := by
  have hp := plc_lt hnow htk
  have c0 := place_any wb now t.tk hnow htk w h.cell.1
  rw [hpl] at hp c0
  obtain ⟨hno, hs⟩ : no < 7 ∧ s < 64 := hp
  have c1 := sadd_any w base wb mb now C U h no s hno hs t x y ht hf hbt
  have a0 : w.cell? ⟨t.blk, 1, none⟩ = some (.int .i64 (t.tk : Int)) := (cell_of_row w t.blk 1 _ _ _ ht).trans rfl
  have i1 : (no : Int) < 7 := by omega
  have i2 : (s : Int) < 64 := by omega
  have e1 : so no s = 2 + no * 128 + s * 2 := by unfold so; omega
  rw [e1] at c1
  have hp2 : 2 ^ s < 2 ^ 64 := Nat.pow_lt_pow_right (by decide) hs
  have q1 : bits .or .u64 (U no : Int) (IntKind.u64.wrap (2 ^ s)) = ((U no ||| 2 ^ s : Nat) : Int) := by
    rw [wrap_pow hs]
    exact or_64 (U no) (2 ^ s) (hU no hno) hp2
  have Q1 := Lib.hid q1
  -- behind the call
  have F2 : Hid (∀ w2, Whl w2 base wb mb now (upd C no s (C no s ++ [t])) U → Only base Zw w w2 → (∀ b, b ≠ wb → b ≠ t.blk → (∀ u ∈ C no s, b ≠ u.blk) → w2.heap[b]? = w.heap[b]?) → w2.drew.cell? ⟨wb, 898 + no, none⟩ = some (.int .u64 (U no : Int)) ∧ w2.drew.frozen? ⟨wb, 898 + no, none⟩ = false ∧
      Hid (Whl (w2.drew.setCell ⟨wb, 898 + no, none⟩ (.int .u64 ((U no ||| 2 ^ s : Nat) : Int))) base wb mb now (upd C no s (C no s ++ [t])) (updU U no (U no ||| 2 ^ s)) ∧ Only base Zw w (w2.drew.setCell ⟨wb, 898 + no, none⟩ (.int .u64 ((U no ||| 2 ^ s : Nat) : Int))) ∧ ∀ b, b ≠ wb → b ≠ t.blk → (∀ u ∈ C no s, b ≠ u.blk) → (w2.drew.setCell ⟨wb, 898 + no, none⟩ (.int .u64 ((U no ||| 2 ^ s : Nat) : Int))).heap[b]? = w.heap[b]?)) := by
    intro w2 h2 o2 k2
    obtain ⟨b1, b2⟩ := h2.drew.cellU hno
    obtain ⟨b3, b4⟩ := h2.drew.used hno (U no ||| 2 ^ s)
    refine ⟨b1, b2, b3, (o2.trans (Only.grow (Grow.drew w2) h2.bas Zw)).trans b4, fun b c1 c2 c3 => ?_⟩
    rw [Below.heap_setCell _ _ _ _ c1]
    exact k2 b c1 c2 c3
  clear hpl htk ht hf hbt hU h hnow hno hs e1 hp2 q1
  go_enter Tryd.func24, Tryd.ntmps24
  go_wp2_with fail
  refine c0.mono ?_
  rintro e w' ⟨rfl, rfl⟩
  go_wp2_with fail
  refine c1.mono ?_
  rintro e w2 ⟨rfl, h2, o2, k2⟩
  obtain ⟨b1, b2, HX⟩ := F2.out w2 h2 o2 k2
  clear c0 c1 a0 h2 o2 k2 F2
  go_upto_region 2 with fail
  obtain ⟨wD, hwD⟩ : ∃ wD, wD = w2.drew := ⟨_, rfl⟩
  rw [← hwD] at b1 b2 HX
  refine wp_region_still_tail 12 (by kernel_rfl) (by kernel_rfl) ?_
  simp only [List.take_succ_cons, List.take_zero, List.drop_succ_cons, List.drop_zero]
  change wpStill _ _ w2.drew (fun a' => wpList _ _ _ _ a' w2.drew) _ _
  rw [← hwD]
  have HD := Lib.hid hwD
  clear hwD
  repeat still_step
  refine wpStill_nil ?_
  go_wp2_with fail
  refine bodyPost_end (results_none rfl _ _ _) rfl ?_
  refine ⟨rfl, ?_⟩
  rw [Q1.out]
  exact HX.out

theorem andNot_64 (a b : Nat) (ha : a < 2 ^ 64) (hb : b < 2 ^ 64) : bits .andNot .u64 (a : Int) (b : Int) = ((a &&& (2 ^ 64 - (b + 1)) : Nat) : Int) := by
  have h : a &&& (2 ^ 64 - (b + 1)) < 2 ^ 64 := Nat.and_lt_two_pow _ (by omega)
  show IntKind.u64.wrap (BitVec.toNat (BitVec.ofInt 64 (a : Int) &&& ~~~ BitVec.ofInt 64 (b : Int))) = _
  rw [BitVec.toNat_and, BitVec.toNat_not, BitVec.toNat_ofInt, BitVec.toNat_ofInt]
  have e1 : ((a : Int) % ((2 ^ 64 : Nat) : Int)).toNat = a := by omega
  have e2 : ((b : Int) % ((2 ^ 64 : Nat) : Int)).toNat = b := by omega
  have e3 : 2 ^ 64 - 1 - b = 2 ^ 64 - (b + 1) := by omega
  rw [e1, e2, e3, IntKind.wrap_u64]
  clear e3
  generalize a &&& (2 ^ 64 - (b + 1)) = p at *
  omega
def clr (u s : Nat) : Nat := u &&& (2 ^ 64 - (2 ^ s + 1))
set_option maxHeartbeats 1000000 in
theorem take_any (w : World) (base wb mb now : Nat) (C : Nat → Nat → List Tm) (U : Nat → Nat) (h : Whl w base wb mb now C U) (hnow : now ≤ maxT) (t : Tm) (htk : t.tk ≤ maxT) (hU : ∀ no, no < 7 → U no < 2 ^ 64)
    (no s j : Nat) (hpl : plc now t.tk = (no, s)) (hj : (C no s)[j]? = some t) :
    Calls Tryd.prog 26 #[.pointer (some ⟨wb, 0, none⟩), .pointer (some ⟨t.blk, 0, none⟩)] w fun e w' => e = .returned (.tuple #[]) ∧
      Whl w' base wb mb now (upd C no s ((C no s).eraseIdx j)) (if (C no s).eraseIdx j = [] then updU U no (clr (U no) s) else U) ∧ Only base Zw w w' := by
  have hp := plc_lt hnow htk
  have c0 := place_any wb now t.tk hnow htk w h.cell.1
  rw [hpl] at hp c0
  obtain ⟨hno, hs⟩ : no < 7 ∧ s < 64 := hp
  have c1 := srem_any w base wb mb now C U h no s j hno hs t hj
  have ht := h.chn no s hno hs j t hj
  have a0 : w.cell? ⟨t.blk, 1, none⟩ = some (.int .i64 (t.tk : Int)) := (cell_of_row w t.blk 1 _ _ _ ht).trans rfl
  have i1 : (no : Int) < 7 := by omega
  have i2 : (s : Int) < 64 := by omega
  have e1 : so no s = 2 + no * 128 + s * 2 := by unfold so; omega
  have hp2 : 2 ^ s < 2 ^ 64 := Nat.pow_lt_pow_right (by decide) hs
  have q1 : bits .andNot .u64 (U no : Int) (IntKind.u64.wrap (2 ^ s)) = ((clr (U no) s : Nat) : Int) := by
    rw [wrap_pow hs]
    exact andNot_64 (U no) (2 ^ s) (hU no hno) hp2
  have Q1 := Lib.hid q1
  generalize hl : (C no s).eraseIdx j = l at *
  -- behind the call
  have F2 : Hid (∀ w2, Whl w2 base wb mb now (upd C no s l) U → Only base Zw w w2 → w2.cell? ⟨wb, so no s, none⟩ = some (lk l.head?) ∧ Hid (Whl w2 base wb mb now (upd C no s l) U ∧ Only base Zw w w2) ∧ w2.drew.cell? ⟨wb, 898 + no, none⟩ = some (.int .u64 (U no : Int)) ∧ w2.drew.frozen? ⟨wb, 898 + no, none⟩ = false ∧
      Hid (Whl (w2.drew.setCell ⟨wb, 898 + no, none⟩ (.int .u64 ((clr (U no) s : Nat) : Int))) base wb mb now (upd C no s l) (updU U no (clr (U no) s)) ∧ Only base Zw w (w2.drew.setCell ⟨wb, 898 + no, none⟩ (.int .u64 ((clr (U no) s : Nat) : Int))))) := by
    intro w2 h2 o2
    obtain ⟨b1, b2⟩ := h2.drew.cellU hno
    obtain ⟨b3, b4⟩ := h2.drew.used hno (clr (U no) s)
    have b0 := h2.cellF hno hs
    rw [upd_same] at b0
    exact ⟨b0, ⟨h2, o2⟩, b1, b2, b3, (o2.trans (Only.grow (Grow.drew w2) h2.bas Zw)).trans b4⟩
  rw [e1] at c1 F2
  clear hpl htk ht hU h hnow hno hs e1 hp2 q1 hj hl
  go_enter Tryd.func26, Tryd.ntmps26
  go_wp2_with fail
  refine c0.mono ?_
  rintro e w' ⟨rfl, rfl⟩
  go_wp2_with fail
  refine c1.mono ?_
  rintro e w2 ⟨rfl, h2, o2⟩
  obtain ⟨b0, HY, b1, b2, HX⟩ := F2.out w2 h2 o2
  clear c0 c1 a0 h2 o2 F2
  cases l with
  | cons x l =>
    simp only [List.head?_cons, lk] at b0
    go_wp2_with fail
    refine bodyPost_end (results_none rfl _ _ _) rfl ?_
    exact ⟨rfl, HY.out⟩
  | nil =>
    simp only [List.head?_nil, lk] at b0
    go_upto_region 4 with fail
    obtain ⟨wD, hwD⟩ : ∃ wD, wD = w2.drew := ⟨_, rfl⟩
    rw [← hwD] at b1 b2 HX
    refine wp_region_still_tail 12 (by kernel_rfl) (by kernel_rfl) ?_
    simp only [List.take_succ_cons, List.take_zero, List.drop_succ_cons, List.drop_zero]
    change wpStill _ _ w2.drew (fun a' => wpList _ _ _ _ a' w2.drew) _ _
    rw [← hwD]
    have HD := Lib.hid hwD
    clear hwD
    repeat still_step
    refine wpStill_nil ?_
    go_wp2_with fail
    refine bodyPost_end (results_none rfl _ _ _) rfl ?_
    refine ⟨rfl, ?_⟩
    rw [Q1.out]
    exact HX.out
end Go.Proofs.YtnoglbceaibjeaaDoor
/- A wheel between calls; Now, Len, Due; calls of none. -/
namespace Go.Proofs.YtnoglbceaibjeaaDoor
set_option linter.unusedVariables false
set_option linter.unusedSimpArgs false
open Go.ChangeShapes Go.WideShapes Go.ChangeAt Go.RowKit

def pairW (t : Tm) : Int × Nat := (t.id, t.blk)
/-- The wheel wb holds the timers L, in the order in which they were set. -/
structure Wst (w : World) (base wb mb now : Nat) (L : List Tm) (U : Nat → Nat) : Prop where
  whl : Whl w base wb mb now (chn now L) U
  uLt : ∀ no, no < 7 → U no < 2 ^ 64
  uBit : ∀ no s, no < 7 → s < 64 → ((U no).testBit s = true ↔ chn now L no s ≠ [])
  map : IMap w mb (L.map pairW)
  lowM : base ≤ mb
  nod : (L.map Tm.id).Nodup
  tks : ∀ t ∈ L, t.tk ≤ maxT
  nowM : now ≤ maxT
section
variable {w w' : World} {base wb mb now : Nat} {L : List Tm} {U : Nat → Nat}
theorem Wst.nodM (h : Wst w base wb mb now L U) : ((L.map pairW).map Prod.fst).Nodup := by
  rw [List.map_map]
  exact h.nod
theorem Wst.absent (h : Wst w base wb mb now L U) {x : Int} (hx : ∀ t ∈ L, t.id ≠ x) : ∀ y ∈ L.map pairW, y.1 ≠ x := by
  intro y hy
  obtain ⟨t, ht, rfl⟩ := List.mem_map.1 hy
  exact hx t ht
/-- Where a timer lies: in its chain. -/
theorem Wst.inChn (h : Wst w base wb mb now L U) {t : Tm} (ht : t ∈ L) : t ∈ chn now L (plc now t.tk).1 (plc now t.tk).2 := List.mem_filter.2 ⟨ht, by simp⟩
theorem Wst.tmAt (h : Wst w base wb mb now L U) {t : Tm} (ht : t ∈ L) : ∃ x y, w.heap[t.blk]? = some (.cells (tmC t x y) 70 (0, 0)) := by
  have hp := plc_lt h.nowM (h.tks t ht)
  obtain ⟨i, hi⟩ := List.getElem?_of_mem (h.inChn ht)
  exact ⟨_, _, h.whl.chn _ _ hp.1 hp.2 i t hi⟩
end

set_option maxHeartbeats 400000 in
theorem wNow_any (w : World) (base wb mb now : Nat) (L : List Tm) (U : Nat → Nat) (h : Wst w base wb mb now L U) : Calls Tryd.prog 22 #[.pointer (some ⟨wb, 0, none⟩)] w fun e w' => e = .returned (.int .i64 (now : Int)) ∧ w' = w := by
  have a0 := h.whl.cell.1
  clear h
  go_enter Tryd.func22, Tryd.ntmps22
  go_wp2_with fail
  go_ret
  exact ⟨rfl, rfl⟩
set_option maxHeartbeats 400000 in
theorem wNow_nil (w : World) : Calls Tryd.prog 22 #[.pointer none] w fun e w' => e = .returned (.int .i64 0) ∧ w' = w := by
  go_enter Tryd.func22, Tryd.ntmps22
  go_wp2_with fail
  go_ret
  exact ⟨rfl, rfl⟩
set_option maxHeartbeats 400000 in
theorem wLen_any (w : World) (base wb mb now : Nat) (L : List Tm) (U : Nat → Nat) (h : Wst w base wb mb now L U) : Calls Tryd.prog 23 #[.pointer (some ⟨wb, 0, none⟩)] w fun e w' => e = .returned (.int .i64 (L.length : Int)) ∧ w' = w := by
  have a0 := h.whl.cell.2
  have a1 := h.map.len 3
  rw [List.length_map] at a1
  clear h
  go_enter Tryd.func23, Tryd.ntmps23
  go_wp2_with fail
  go_ret
  exact ⟨rfl, rfl⟩
set_option maxHeartbeats 400000 in
theorem wLen_nil (w : World) : Calls Tryd.prog 23 #[.pointer none] w fun e w' => e = .returned (.int .i64 0) ∧ w' = w := by
  go_enter Tryd.func23, Tryd.ntmps23
  go_wp2_with fail
  go_ret
  exact ⟨rfl, rfl⟩
set_option maxHeartbeats 400000 in
theorem wDue_some (w : World) (base wb mb now : Nat) (L : List Tm) (U : Nat → Nat) (h : Wst w base wb mb now L U) (t : Tm) (ht : t ∈ L) : Calls Tryd.prog 20 #[.pointer (some ⟨wb, 0, none⟩), .int .i64 t.id] w fun e w' => e = .returned (.tuple #[.int .i64 (t.tk : Int), .bool true]) ∧ w' = w := by
  obtain ⟨j, hj⟩ := List.getElem?_of_mem ht
  have a0 := h.whl.cell.2
  have a1 := h.map.look_some h.nodM (x := t.id) (b := t.blk) (j := j) (by rw [List.getElem?_map, hj]; rfl)
  obtain ⟨x, y, hb⟩ := h.tmAt ht
  have a2 : w.cell? ⟨t.blk, 1, none⟩ = some (.int .i64 (t.tk : Int)) := (cell_of_row w t.blk 1 _ _ _ hb).trans rfl
  clear h hj ht hb
  go_enter Tryd.func20, Tryd.ntmps20
  go_wp2_with fail
  go_ret2
  exact ⟨rfl, rfl⟩
set_option maxHeartbeats 400000 in
theorem wDue_none (w : World) (base wb mb now : Nat) (L : List Tm) (U : Nat → Nat) (h : Wst w base wb mb now L U) (x : Int) (hx : ∀ t ∈ L, t.id ≠ x) : Calls Tryd.prog 20 #[.pointer (some ⟨wb, 0, none⟩), .int .i64 x] w fun e w' => e = .returned (.tuple #[.int .i64 0, .bool false]) ∧ w' = w := by
  have a0 := h.whl.cell.2
  have a1 := h.map.look_none (h.absent hx)
  clear h hx
  go_enter Tryd.func20, Tryd.ntmps20
  go_wp2_with fail
  go_ret2
  exact ⟨rfl, rfl⟩
set_option maxHeartbeats 400000 in
theorem wDue_nil (w : World) (x : Int) : Calls Tryd.prog 20 #[.pointer none, .int .i64 x] w fun e w' => e = .returned (.tuple #[.int .i64 0, .bool false]) ∧ w' = w := by
  go_enter Tryd.func20, Tryd.ntmps20
  go_wp2_with fail
  go_ret2
  exact ⟨rfl, rfl⟩
set_option maxHeartbeats 400000 in
theorem wSet_nil (w : World) (x y : Int) : Calls Tryd.prog 11 #[.pointer none, .int .i64 x, .int .i64 y] w fun e w' => e = .returned (.int .i64 7) ∧ w' = w := by
  go_enter Tryd.func11, Tryd.ntmps11
  go_wp2_with fail
  go_ret
  exact ⟨rfl, rfl⟩
set_option maxHeartbeats 400000 in
theorem wStop_nil (w : World) (x : Int) : Calls Tryd.prog 13 #[.pointer none, .int .i64 x] w fun e w' => e = .returned (.bool false) ∧ w' = w := by
  go_enter Tryd.func13, Tryd.ntmps13
  go_wp2_with fail
  go_ret
  exact ⟨rfl, rfl⟩
set_option maxHeartbeats 400000 in
theorem wTick_nil (w : World) (x : Int) : Calls Tryd.prog 15 #[.pointer none, .int .i64 x] w fun e w' => e = .returned (.tuple #[.slice none 0 0, .int .i64 7]) ∧ w' = w := by
  go_enter Tryd.func15, Tryd.ntmps15
  go_wp2_with fail
  go_ret2
  exact ⟨rfl, rfl⟩
set_option maxHeartbeats 400000 in
theorem wNext_nil (w : World) : Calls Tryd.prog 18 #[.pointer none] w fun e w' => e = .returned (.tuple #[.int .i64 0, .bool false]) ∧ w' = w := by
  go_enter Tryd.func18, Tryd.ntmps18
  go_wp2_with fail
  go_ret2
  exact ⟨rfl, rfl⟩
set_option maxHeartbeats 400000 in
theorem wStop_none (w : World) (base wb mb now : Nat) (L : List Tm) (U : Nat → Nat) (h : Wst w base wb mb now L U) (x : Int) (hx : ∀ t ∈ L, t.id ≠ x) : Calls Tryd.prog 13 #[.pointer (some ⟨wb, 0, none⟩), .int .i64 x] w fun e w' => e = .returned (.bool false) ∧ w' = w := by
  have a0 := h.whl.cell.2
  have a1 := h.map.look_none (h.absent hx)
  clear h hx
  go_enter Tryd.func13, Tryd.ntmps13
  go_wp2_with fail
  go_ret
  exact ⟨rfl, rfl⟩
end Go.Proofs.YtnoglbceaibjeaaDoor
