/- Reassembly in numbers: the bytes that are present, as rows and as a list of bytes that are there or not. No walk. -/
import Derived.Test.YtmnemkeieaflhaaC02
import Derived.Test.YtmnemkeieaflhaaC03
import Derived.Test.YtmnemkeieaflhaaC04
import Derived.Laws.StructEq
import Derived.Deep.AppendSrc
import Derived.Deep.RegionLaw
namespace Go.Proofs.Ytmnemkeieaflhaa
set_option linter.unusedVariables false
set_option linter.unusedSimpArgs false

abbrev Cont := List (Option UInt8)
abbrev RowN := Nat × List UInt8

def look (c : Cont) (k : Nat) : Option UInt8 := (c[k]?).join
def paint (c : Cont) (p : Nat) (d : List UInt8) : Cont :=
  if d = [] then c else (List.range (max c.length (p + d.length))).map fun k => (look c k).or (if p ≤ k then d[k - p]? else none)
def cnt (c : Cont) : Nat := (c.filter Option.isSome).length

theorem cont_ext {a b : Cont} (hl : a.length = b.length) (h : ∀ k, k < a.length → look a k = look b k) : a = b := by
  apply List.ext_getElem hl
  intro k h1 h2
  have := h k h1
  unfold look at this
  rw [List.getElem?_eq_getElem h1, List.getElem?_eq_getElem h2] at this
  simpa using this
theorem look_past {c : Cont} {k : Nat} (h : c.length ≤ k) : look c k = none := by
  unfold look
  rw [List.getElem?_eq_none h]
  rfl
theorem look_append_left {a b : Cont} {k : Nat} (h : k < a.length) : look (a ++ b) k = look a k := by
  unfold look
  rw [List.getElem?_append_left h]
theorem look_append_right {a b : Cont} {k : Nat} (h : a.length ≤ k) : look (a ++ b) k = look b (k - a.length) := by
  unfold look
  rw [List.getElem?_append_right h]
theorem look_none {m k : Nat} : look (List.replicate m none) k = none := by
  unfold look
  rw [List.getElem?_replicate]
  split <;> rfl
theorem look_some {d : List UInt8} {k : Nat} : look (d.map some) k = d[k]? := by
  unfold look
  rw [List.getElem?_map]
  cases d[k]? <;> rfl
theorem paint_nil (c : Cont) (p : Nat) : paint c p [] = c := by unfold paint; rw [if_pos rfl]
theorem paint_length (c : Cont) (p : Nat) {d : List UInt8} (hd : d ≠ []) : (paint c p d).length = max c.length (p + d.length) := by
  unfold paint
  rw [if_neg hd]
  simp
theorem paint_look (c : Cont) (p : Nat) (d : List UInt8) (k : Nat) : look (paint c p d) k = (look c k).or (if p ≤ k then d[k - p]? else none) := by
  unfold paint
  split
  · rename_i h
    subst h
    simp
  · by_cases hk : k < max c.length (p + d.length)
    · unfold look
      rw [List.getElem?_map, List.getElem?_range hk]
      rfl
    · rw [look_past (by simp; omega), look_past (c := c) (by omega)]
      split
      · rw [List.getElem?_eq_none (by omega)]; rfl
      · rfl
theorem paint_step (c : Cont) (p : Nat) (d : List UInt8) (k n : Nat) (hk : k + n ≤ d.length) : paint (paint c p (d.take k)) (p + k) ((d.drop k).take n) = paint c p (d.take (k + n)) := by
  rcases Nat.eq_zero_or_pos n with rfl | hn
  · simp [paint_nil]
  have e1 : (d.drop k).take n ≠ [] := by
    intro e
    have := congrArg List.length e
    simp only [List.length_take, List.length_drop, List.length_nil] at this
    omega
  have e2 : d.take (k + n) ≠ [] := by
    intro e
    have := congrArg List.length e
    simp only [List.length_take, List.length_drop, List.length_nil] at this
    omega
  apply cont_ext
  · rw [paint_length _ _ e1, paint_length _ _ e2]
    rcases Nat.eq_zero_or_pos k with rfl | hk0
    · simp [paint_nil]
    · have e3 : d.take k ≠ [] := by
        intro e
        have := congrArg List.length e
        simp only [List.length_take, List.length_drop, List.length_nil] at this
        omega
      rw [paint_length _ _ e3]
      simp only [List.length_take, List.length_drop]
      omega
  · intro i hi
    rw [paint_look, paint_look, paint_look]
    rw [Option.or_assoc]
    congr 1
    by_cases h1 : p ≤ i
    · rw [if_pos h1, if_pos h1]
      by_cases h2 : p + k ≤ i
      · rw [if_pos h2, List.getElem?_take, if_neg (by omega), List.getElem?_take, List.getElem?_take, List.getElem?_drop]
        rw [Option.none_or, show k + (i - (p + k)) = i - p from by omega]
        by_cases h3 : i - p < k + n
        · rw [if_pos (by omega), if_pos h3]
        · rw [if_neg (by omega), if_neg h3]
      · rw [if_neg h2, List.getElem?_take, if_pos (by omega), List.getElem?_take, if_pos (by omega)]
        simp
    · rw [if_neg h1, if_neg h1, if_neg (by omega)]
      rfl
theorem paint_append (b c : Cont) (p : Nat) (d : List UInt8) (h : b.length ≤ p) : paint (b ++ c) p d = b ++ paint c (p - b.length) d := by
  by_cases hd : d = []
  · subst hd; rw [paint_nil, paint_nil]
  apply cont_ext
  · rw [paint_length _ _ hd, List.length_append, List.length_append, paint_length _ _ hd]
    omega
  · intro k _
    rw [paint_look]
    rcases Nat.lt_or_ge k b.length with hk | hk
    · rw [look_append_left hk, look_append_left hk, if_neg (by omega)]
      simp
    · rw [look_append_right hk, look_append_right hk, paint_look]
      congr 1
      by_cases h1 : p ≤ k
      · rw [if_pos h1, if_pos (by omega), show k - b.length - (p - b.length) = k - p from by omega]
      · rw [if_neg h1, if_neg (by omega)]
theorem paint_end (p : Nat) (d : List UInt8) (hd : d ≠ []) : paint [] p d = List.replicate p none ++ d.map some := by
  apply cont_ext
  · rw [paint_length _ _ hd]
    simp
  · intro k _
    rw [paint_look, look_past (c := []) (Nat.zero_le _)]
    rcases Nat.lt_or_ge k p with hk | hk
    · rw [if_neg (by omega), look_append_left (by simpa using hk), look_none]
      rfl
    · rw [if_pos hk, look_append_right (by simpa using hk), look_some]
      simp
theorem paint_gap (m p : Nat) (d : List UInt8) (X : Cont) (h : p + d.length ≤ m) : paint (List.replicate m none ++ X) p d = List.replicate p none ++ d.map some ++ List.replicate (m - p - d.length) none ++ X := by
  by_cases hd : d = []
  · subst hd
    rw [paint_nil]
    simp only [List.map_nil, List.append_nil, List.length_nil, Nat.sub_zero]
    rw [List.replicate_append_replicate, show p + (m - p) = m from by simp at h; omega]
  apply cont_ext
  · rw [paint_length _ _ hd]
    simp
    omega
  · intro k _
    rw [paint_look]
    rcases Nat.lt_or_ge k p with hk | hk
    · rw [if_neg (by omega), look_append_left (by simp; omega), look_none, List.append_assoc, List.append_assoc, look_append_left (by simpa using hk), look_none]
      rfl
    · rw [if_pos hk]
      rcases Nat.lt_or_ge k (p + d.length) with h2 | h2
      · rw [look_append_left (by simp; omega), look_none, List.append_assoc, List.append_assoc, look_append_right (by simpa using hk), look_append_left (by simp; omega), look_some]
        simp
      · rw [List.getElem?_eq_none (by omega), Option.or_none]
        rcases Nat.lt_or_ge k m with h3 | h3
        · rw [look_append_left (by simp; omega), look_none, look_append_left (by simp; omega), look_append_right (by simp; omega), look_none]
        · rw [look_append_right (by simp; omega), look_append_right (by simp; omega)]
          congr 1
          simp
          omega
theorem paint_same (c : Cont) (p : Nat) (d : List UInt8) (h : ∀ k, p ≤ k → k < p + d.length → ∃ b, look c k = some b) : paint c p d = c := by
  by_cases hd : d = []
  · subst hd; rw [paint_nil]
  have hpos : 0 < d.length := List.length_pos_iff.2 hd
  apply cont_ext
  · rw [paint_length _ _ hd]
    obtain ⟨b, hb⟩ := h (p + d.length - 1) (by omega) (by omega)
    have : p + d.length - 1 < c.length := by
      rcases Nat.lt_or_ge (p + d.length - 1) c.length with h' | h'
      · exact h'
      · rw [look_past h'] at hb; cases hb
    omega
  · intro k _
    rw [paint_look]
    by_cases h1 : p ≤ k
    · rcases Nat.lt_or_ge k (p + d.length) with h2 | h2
      · obtain ⟨b, hb⟩ := h k h1 h2
        rw [hb]
        rfl
      · rw [if_pos h1, List.getElem?_eq_none (by omega)]
        simp
    · rw [if_neg h1]
      simp

/-! ### rows -/
def cont (p : Nat) : List RowN → Cont
  | [] => []
  | (a, d) :: r => List.replicate (a - p) none ++ d.map some ++ cont (a + d.length) r
def Laid (p : Nat) : List RowN → Prop
  | [] => True
  | (a, d) :: r => p ≤ a ∧ d ≠ [] ∧ Laid (a + d.length) r
def reach (p : Nat) : List RowN → Nat
  | [] => p
  | (a, d) :: r => reach (a + d.length) r
def heldN (l : List RowN) : Nat := (l.map fun r => r.2.length).sum
def flat (l : List RowN) : List UInt8 := (l.map fun r => r.2).flatten

theorem Laid.mono {p q : Nat} {l : List RowN} (h : Laid p l) (hq : q ≤ p) : Laid q l := by
  cases l with
  | nil => trivial
  | cons x r => obtain ⟨a, d⟩ := x; exact ⟨Nat.le_trans hq h.1, h.2⟩
theorem reach_ge : ∀ (l : List RowN) (p : Nat), Laid p l → p ≤ reach p l
  | [], p, _ => Nat.le_refl _
  | (a, d) :: r, p, h => by
    have := reach_ge r _ h.2.2
    have h1 := h.1
    show p ≤ reach (a + d.length) r
    omega
theorem cont_length : ∀ (l : List RowN) (p : Nat), Laid p l → (cont p l).length = reach p l - p
  | [], p, _ => by simp [cont, reach]
  | (a, d) :: r, p, h => by
    have h1 := cont_length r _ h.2.2
    have h2 := reach_ge r _ h.2.2
    have h3 := h.1
    simp only [cont, reach, List.length_append, List.length_replicate, List.length_map, h1]
    omega
theorem cnt_append (a b : Cont) : cnt (a ++ b) = cnt a + cnt b := by simp [cnt]
theorem cnt_none (m : Nat) : cnt (List.replicate m none) = 0 := by simp [cnt]
theorem cnt_some (d : List UInt8) : cnt (d.map some) = d.length := by
  unfold cnt
  rw [List.filter_eq_self.2, List.length_map]
  intro x hx
  obtain ⟨u, _, rfl⟩ := List.mem_map.1 hx
  rfl
theorem held_cnt : ∀ (l : List RowN) (p : Nat), heldN l = cnt (cont p l)
  | [], p => rfl
  | (a, d) :: r, p => by
    have ih := held_cnt r (a + d.length)
    simp only [cont, cnt_append, cnt_none, cnt_some, ← ih]
    simp [heldN]
theorem cnt_le : ∀ (c : Cont), cnt c ≤ c.length := fun c => List.length_filter_le _ _
theorem cnt_all {c : Cont} (h : cnt c = c.length) (k : Nat) (hk : k < c.length) : ∃ b, look c k = some b := by
  unfold cnt at h
  have := List.length_filter_eq_length_iff.1 h c[k] (List.getElem_mem hk)
  unfold look
  rw [List.getElem?_eq_getElem hk]
  cases hc : c[k] with
  | none => rw [hc] at this; cases this
  | some b => exact ⟨b, rfl⟩
theorem cnt_of_all {c : Cont} (h : ∀ k, k < c.length → ∃ b, look c k = some b) : cnt c = c.length := by
  unfold cnt
  rw [List.length_filter_eq_length_iff]
  intro x hx
  obtain ⟨k, hk, rfl⟩ := List.getElem_of_mem hx
  obtain ⟨b, hb⟩ := h k hk
  unfold look at hb
  rw [List.getElem?_eq_getElem hk] at hb
  cases hc : c[k] with
  | none => rw [hc] at hb; cases hb
  | some b => rfl
theorem flat_cont : ∀ (l : List RowN) (p : Nat), Laid p l → (∀ k, k < (cont p l).length → ∃ b, look (cont p l) k = some b) → cont p l = (flat l).map some
  | [], p, _, _ => rfl
  | (a, d) :: r, p, h, hall => by
    have hd : 0 < d.length := List.length_pos_iff.2 h.2.1
    have h0 : a - p = 0 := by
      rcases Nat.eq_zero_or_pos (a - p) with h' | h'
      · exact h'
      · obtain ⟨b, hb⟩ := hall 0 (by simp [cont]; omega)
        have : look (cont p ((a, d) :: r)) 0 = none := by
          show look (List.replicate (a - p) none ++ d.map some ++ cont (a + d.length) r) 0 = none
          rw [List.append_assoc, look_append_left (by simpa using h'), look_none]
        rw [this] at hb
        cases hb
    have ih := flat_cont r (a + d.length) h.2.2 (fun k hk => by
      obtain ⟨b, hb⟩ := hall (d.length + k) (by simp only [cont, List.length_append, List.length_replicate, List.length_map]; omega)
      refine ⟨b, ?_⟩
      rw [← hb]
      show _ = look (List.replicate (a - p) none ++ d.map some ++ cont (a + d.length) r) (d.length + k)
      rw [look_append_right (by simp; omega)]
      congr 1
      simp
      omega)
    show List.replicate (a - p) none ++ d.map some ++ cont (a + d.length) r = _
    rw [h0, ih]
    simp [flat]

/-- The rows ahead of place p. -/
def Ahead (p : Nat) (l : List RowN) : Prop := ∀ r ∈ l, r.1 + r.2.length ≤ p
theorem add_end : ∀ (l : List RowN) (q p : Nat) (d : List UInt8), Laid q l → Ahead p l → q ≤ p → d ≠ [] → Laid q (l ++ [(p, d)]) ∧ cont q (l ++ [(p, d)]) = paint (cont q l) (p - q) d
  | [], q, p, d, _, _, hq, hd => ⟨⟨hq, hd, trivial⟩, by
    show List.replicate (p - q) none ++ d.map some ++ [] = paint [] (p - q) d
    rw [List.append_nil, paint_end _ _ hd]⟩
  | (a, e) :: r, q, p, d, h, ha, hq, hd => by
    have h1 := ha (a, e) (by simp)
    obtain ⟨i1, i2⟩ := add_end r (a + e.length) p d h.2.2 (fun x hx => ha x (by simp [hx])) h1 hd
    refine ⟨⟨h.1, h.2.1, i1⟩, ?_⟩
    have h3 := h.1
    simp only at h1
    show List.replicate (a - q) none ++ e.map some ++ cont (a + e.length) (r ++ [(p, d)]) = paint (List.replicate (a - q) none ++ e.map some ++ cont (a + e.length) r) (p - q) d
    rw [i2, paint_append _ _ _ _ (by simp; omega)]
    congr 2
    simp
    omega
theorem add_mid : ∀ (l : List RowN) (q p : Nat) (d : List UInt8) (a : Nat) (e : List UInt8) (s : List RowN), Laid q (l ++ (a, e) :: s) → Ahead p l → q ≤ p → d ≠ [] → p + d.length ≤ a →
    Laid q (l ++ (p, d) :: (a, e) :: s) ∧ cont q (l ++ (p, d) :: (a, e) :: s) = paint (cont q (l ++ (a, e) :: s)) (p - q) d
  | [], q, p, d, a, e, s, h, _, hq, hd, hpa => ⟨⟨hq, hd, hpa, h.2⟩, by
    show List.replicate (p - q) none ++ d.map some ++ (List.replicate (a - (p + d.length)) none ++ e.map some ++ cont (a + e.length) s) = paint (List.replicate (a - q) none ++ e.map some ++ cont (a + e.length) s) (p - q) d
    rw [List.append_assoc (List.replicate (a - q) none), paint_gap _ _ _ _ (by omega), show a - q - (p - q) - d.length = a - (p + d.length) from by omega]
    simp only [List.append_assoc]⟩
  | (b, f) :: r, q, p, d, a, e, s, h, ha, hq, hd, hpa => by
    have h1 := ha (b, f) (by simp)
    obtain ⟨i1, i2⟩ := add_mid r (b + f.length) p d a e s h.2.2 (fun x hx => ha x (by simp [hx])) h1 hd hpa
    refine ⟨⟨h.1, h.2.1, i1⟩, ?_⟩
    have h3 := h.1
    simp only at h1
    show List.replicate (b - q) none ++ f.map some ++ cont (b + f.length) (r ++ (p, d) :: (a, e) :: s) = paint (List.replicate (b - q) none ++ f.map some ++ cont (b + f.length) (r ++ (a, e) :: s)) (p - q) d
    rw [i2, paint_append _ _ _ _ (by simp; omega)]
    congr 2
    simp
    omega
theorem add_in : ∀ (l : List RowN) (q p : Nat) (d : List UInt8) (a : Nat) (e : List UInt8) (s : List RowN), Laid q (l ++ (a, e) :: s) → Ahead p l → a ≤ p → p + d.length ≤ a + e.length → paint (cont q (l ++ (a, e) :: s)) (p - q) d = cont q (l ++ (a, e) :: s)
  | [], q, p, d, a, e, s, h, _, hap, hpe => by
    have h1 := h.1
    refine paint_same _ _ _ fun k hk1 hk2 => ?_
    show ∃ b, look (List.replicate (a - q) none ++ e.map some ++ cont (a + e.length) s) k = some b
    rw [look_append_left (by simp; omega), look_append_right (by simp; omega), look_some, List.getElem?_eq_getElem (by simp; omega)]
    exact ⟨_, rfl⟩
  | (b, f) :: r, q, p, d, a, e, s, h, ha, hap, hpe => by
    have h1 := ha (b, f) (by simp)
    have i2 := add_in r (b + f.length) p d a e s h.2.2 (fun x hx => ha x (by simp [hx])) hap hpe
    have h3 := h.1
    simp only at h1
    show paint (List.replicate (b - q) none ++ f.map some ++ cont (b + f.length) (r ++ (a, e) :: s)) (p - q) d = List.replicate (b - q) none ++ f.map some ++ cont (b + f.length) (r ++ (a, e) :: s)
    rw [paint_append _ _ _ _ (by simp; omega)]
    congr 1
    rw [← i2]
    congr 1
    simp
    omega
end Go.Proofs.Ytmnemkeieaflhaa
/- Are two packets the same: as the program asks it, and as the document's own answer does. -/
namespace Go.Proofs.Ytmnemkeieaflhaa
set_option linter.unusedVariables false
set_option linter.unusedSimpArgs false
open Go.ChangeShapes Go.WideShapes Go.ChangeAt Go.RowKit

def Pkt.same (k q : Pkt) : Bool := ((k.tos : Int) == (q.tos : Int)) && ((k.ident : Int) == (q.ident : Int)) && (k.whole == q.whole) && (k.more == q.more) && (k.off == q.off) && ((k.ttl : Int) == (q.ttl : Int)) && ((k.proto : Int) == (q.proto : Int)) && ((k.src : Int) == (q.src : Int)) && ((k.dst : Int) == (q.dst : Int)) && (k.opts == q.opts) && (k.data == q.data)
theorem same_iff (k q : Pkt) : k.same q = true ↔ k = q := by
  obtain ⟨a1, a2, a3, a4, a5, a6, a7, a8, a9, a10, a11⟩ := k
  obtain ⟨b1, b2, b3, b4, b5, b6, b7, b8, b9, b10, b11⟩ := q
  simp only [Pkt.same, Bool.and_eq_true, beq_iff_eq, Pkt.mk.injEq, Int.natCast_inj, and_assoc]
end Go.Proofs.Ytmnemkeieaflhaa
/- Two packets that are the same: both walks. -/
namespace Go.Proofs.Ytmnemkeieaflhaa
set_option linter.unusedVariables false
set_option linter.unusedSimpArgs false
open Go.ChangeShapes Go.WideShapes Go.ChangeAt Go.RowKit

set_option maxHeartbeats 2000000 in
theorem RSame_11 (a0 b0 : Int) (a1 b1 : Int) (a2 b2 : Bool) (a3 b3 : Bool) (a4 b4 : Int) (a5 b5 : Int) (a6 b6 : Int) (a7 b7 : Int) (a8 b8 : Int) (a9 b9 : List UInt8) (a10 b10 : List UInt8) (A B C D : Option Addr) (ca da cb db : Nat) (w : World) (bo1 : Byt ((w.alloc (.cells #[.int .u8 a0, .int .u16 a1, .bool a2, .bool a3, .int .i64 a4, .int .u8 a5, .int .u8 a6, .int .u32 a7, .int .u32 a8, .slice A a9.length ca, .slice B a10.length da] 38)).alloc (.cells #[.int .u8 b0, .int .u16 b1, .bool b2, .bool b3, .int .i64 b4, .int .u8 b5, .int .u8 b6, .int .u32 b7, .int .u32 b8, .slice C b9.length cb, .slice D b10.length db] 38)) (.slice A a9.length ca) a9) (bd1 : Byt ((w.alloc (.cells #[.int .u8 a0, .int .u16 a1, .bool a2, .bool a3, .int .i64 a4, .int .u8 a5, .int .u8 a6, .int .u32 a7, .int .u32 a8, .slice A a9.length ca, .slice B a10.length da] 38)).alloc (.cells #[.int .u8 b0, .int .u16 b1, .bool b2, .bool b3, .int .i64 b4, .int .u8 b5, .int .u8 b6, .int .u32 b7, .int .u32 b8, .slice C b9.length cb, .slice D b10.length db] 38)) (.slice B a10.length da) a10) (bo2 : Byt ((w.alloc (.cells #[.int .u8 a0, .int .u16 a1, .bool a2, .bool a3, .int .i64 a4, .int .u8 a5, .int .u8 a6, .int .u32 a7, .int .u32 a8, .slice A a9.length ca, .slice B a10.length da] 38)).alloc (.cells #[.int .u8 b0, .int .u16 b1, .bool b2, .bool b3, .int .i64 b4, .int .u8 b5, .int .u8 b6, .int .u32 b7, .int .u32 b8, .slice C b9.length cb, .slice D b10.length db] 38)) (.slice C b9.length cb) b9) (bd2 : Byt ((w.alloc (.cells #[.int .u8 a0, .int .u16 a1, .bool a2, .bool a3, .int .i64 a4, .int .u8 a5, .int .u8 a6, .int .u32 a7, .int .u32 a8, .slice A a9.length ca, .slice B a10.length da] 38)).alloc (.cells #[.int .u8 b0, .int .u16 b1, .bool b2, .bool b3, .int .i64 b4, .int .u8 b5, .int .u8 b6, .int .u32 b7, .int .u32 b8, .slice C b9.length cb, .slice D b10.length db] 38)) (.slice D b10.length db) b10)
    (hg2 : Grow w ((w.alloc (.cells #[.int .u8 a0, .int .u16 a1, .bool a2, .bool a3, .int .i64 a4, .int .u8 a5, .int .u8 a6, .int .u32 a7, .int .u32 a8, .slice A a9.length ca, .slice B a10.length da] 38)).alloc (.cells #[.int .u8 b0, .int .u16 b1, .bool b2, .bool b3, .int .i64 b4, .int .u8 b5, .int .u8 b6, .int .u32 b7, .int .u32 b8, .slice C b9.length cb, .slice D b10.length db] 38))) (h0 : (a0 == b0) = true) (h1 : (a1 == b1) = true) (h2 : (a2 == b2) = true) (h3 : (a3 == b3) = true) (h4 : (a4 == b4) = true) (h5 : (a5 == b5) = true) (h6 : (a6 == b6) = true) (h7 : (a7 == b7) = true) (h8 : (a8 == b8) = true) (h9 : (a9 == b9) = true) (h10 : (a10 == b10) = true) :
    Calls Try.prog 16 #[(.agg #[.int .u8 a0, .int .u16 a1, .bool a2, .bool a3, .int .i64 a4, .int .u8 a5, .int .u8 a6, .int .u32 a7, .int .u32 a8, .slice A a9.length ca, .slice B a10.length da]), (.agg #[.int .u8 b0, .int .u16 b1, .bool b2, .bool b3, .int .i64 b4, .int .u8 b5, .int .u8 b6, .int .u32 b7, .int .u32 b8, .slice C b9.length cb, .slice D b10.length db])] w fun e w' => e = .returned (.bool true) ∧ Grow w w' := by
  have c1 := str1 bo1
  have c3 := str1 bo2
  have c2 := str1 bd1
  have c4 := str1 bd2
  unfold strV at *
  clear bo1 bo2 bd1 bd2
  go_enter Try.func16, Try.ntmps16
  go_wp2_with fail
  go_ret
  exact ⟨rfl, hg2⟩

end Go.Proofs.Ytmnemkeieaflhaa
/- Two packets that are the same: both say so. -/
namespace Go.Proofs.Ytmnemkeieaflhaa
set_option linter.unusedVariables false
set_option linter.unusedSimpArgs false
open Go.ChangeShapes Go.WideShapes Go.ChangeAt Go.RowKit

theorem RSame_yes (u v : Value) (k q : Pkt) (w : World) (hu : Ip w u k) (hv : Ip w v q) (he : k = q) :
    Calls Try.prog 16 #[u, v] w fun e w' => e = .returned (.bool true) ∧ Grow w w' := by
  obtain ⟨A, ca, B, da, rfl, ho1, hd1, hk⟩ := hu.form
  subst he
  obtain ⟨C, cb, D, db, rfl, ho2, hd2, hq⟩ := hv.form
  have hg2 := (Grow.alloc w (.cells #[.int .u8 (k.tos : Int), .int .u16 (k.ident : Int), .bool k.whole, .bool k.more, .int .i64 k.off, .int .u8 (k.ttl : Int), .int .u8 (k.proto : Int), .int .u32 (k.src : Int), .int .u32 (k.dst : Int), .slice A k.opts.length ca, .slice B k.data.length da] 38)).trans (Grow.alloc _ (.cells #[.int .u8 (k.tos : Int), .int .u16 (k.ident : Int), .bool k.whole, .bool k.more, .int .i64 k.off, .int .u8 (k.ttl : Int), .int .u8 (k.proto : Int), .int .u32 (k.src : Int), .int .u32 (k.dst : Int), .slice C k.opts.length cb, .slice D k.data.length db] 38))
  exact RSame_11 (k.tos : Int) (k.tos : Int) (k.ident : Int) (k.ident : Int) k.whole k.whole k.more k.more k.off k.off (k.ttl : Int) (k.ttl : Int) (k.proto : Int) (k.proto : Int) (k.src : Int) (k.src : Int) (k.dst : Int) (k.dst : Int) k.opts k.opts k.data k.data  A B C D ca da cb db w (ho1.grow hg2) (hd1.grow hg2) (ho2.grow hg2) (hd2.grow hg2) hg2 (beq_self_eq_true _) (beq_self_eq_true _) (beq_self_eq_true _) (beq_self_eq_true _) (beq_self_eq_true _) (beq_self_eq_true _) (beq_self_eq_true _) (beq_self_eq_true _) (beq_self_eq_true _) (beq_self_eq_true _) (beq_self_eq_true _)

end Go.Proofs.Ytmnemkeieaflhaa
/- Slices of packets in memory: read as lists ('Ips'), rows of the call's own ('Iprow'); append. -/
namespace Go.Proofs.Ytmnemkeieaflhaa
set_option linter.unusedVariables false
set_option maxRecDepth 8000
set_option linter.unusedSimpArgs false
open Go.ChangeShapes Go.WideShapes Go.ChangeAt Go.RowKit

/-- A packet with the values of its two slices. -/
structure Pk where
  k : Pkt
  vo : Value
  vd : Value
/-- The eleven cells of a packet. -/
def pc (q : Pk) : List Value := [.int .u8 (q.k.tos : Int), .int .u16 (q.k.ident : Int), .bool q.k.whole, .bool q.k.more, .int .i64 q.k.off, .int .u8 (q.k.ttl : Int), .int .u8 (q.k.proto : Int), .int .u32 (q.k.src : Int), .int .u32 (q.k.dst : Int), q.vo, q.vd]
def cells11 (l : List Pk) : List Value := l.flatMap pc
theorem cells11_length (l : List Pk) : (cells11 l).length = l.length * 11 := by
  unfold cells11
  induction l with
  | nil => rfl
  | cons p r ih => simp only [List.flatMap_cons, List.length_append, ih, List.length_cons]; simp [pc]; omega
theorem cells11_append (l m : List Pk) : cells11 (l ++ m) = cells11 l ++ cells11 m := by simp [cells11]
/-- Slices, and nothing else, in the two last cells. -/
def Pk.One (q : Pk) : Prop := q.vo.oneCell' = true ∧ q.vd.oneCell' = true
theorem cells11_one (l : List Pk) (hl : ∀ q ∈ l, q.One) : ∀ y ∈ cells11 l, y.oneCell' = true := by
  intro y hy
  unfold cells11 at hy
  obtain ⟨p, hp0, hp⟩ := List.mem_flatMap.1 hy
  simp [pc] at hp
  have h := hl p hp0
  rcases hp with rfl | rfl | rfl | rfl | rfl | rfl | rfl | rfl | rfl | rfl | rfl <;> first | rfl | exact h.1 | exact h.2
theorem cells11_at : ∀ (l : List Pk) (j i : Nat) (h : j < l.length) (hi : i < 11), (cells11 l)[j * 11 + i]? = (pc l[j])[i]?
  | [], _, _, h, _ => absurd h (by simp)
  | p :: r, 0, i, _, hi => by
    have e : cells11 (p :: r) = pc p ++ cells11 r := by simp [cells11]
    rw [e, List.getElem?_append_left (by simp [pc]; omega), Nat.zero_mul, Nat.zero_add]
    rfl
  | p :: r, j + 1, i, h, hi => by
    have ih := cells11_at r j i (by simpa using h) hi
    have e : cells11 (p :: r) = pc p ++ cells11 r := by simp [cells11]
    have e11 : (pc p).length = 11 := rfl
    rw [e, List.getElem?_append_right (by rw [e11]; omega), e11, show (j + 1) * 11 + i - 11 = j * 11 + i by omega]
    simpa using ih

/-- Eleven cells hold a packet. -/
def PkAt (w : World) (b o : Nat) (q : Pk) : Prop :=
  w.cell? ⟨b, o, none⟩ = some (.int .u8 (q.k.tos : Int)) ∧ w.cell? ⟨b, o + 1, none⟩ = some (.int .u16 (q.k.ident : Int)) ∧ w.cell? ⟨b, o + 2, none⟩ = some (.bool q.k.whole) ∧ w.cell? ⟨b, o + 3, none⟩ = some (.bool q.k.more) ∧
  w.cell? ⟨b, o + 4, none⟩ = some (.int .i64 q.k.off) ∧ w.cell? ⟨b, o + 5, none⟩ = some (.int .u8 (q.k.ttl : Int)) ∧ w.cell? ⟨b, o + 6, none⟩ = some (.int .u8 (q.k.proto : Int)) ∧ w.cell? ⟨b, o + 7, none⟩ = some (.int .u32 (q.k.src : Int)) ∧
  w.cell? ⟨b, o + 8, none⟩ = some (.int .u32 (q.k.dst : Int)) ∧ w.cell? ⟨b, o + 9, none⟩ = some q.vo ∧ w.cell? ⟨b, o + 10, none⟩ = some q.vd

/-- The slice v holds these packets. -/
def Ips (w : World) (v : Value) (l : List Pk) : Prop :=
  ∃ A c, v = .slice A l.length c ∧ l.length ≤ c ∧ c ≤ maxLen ∧
    (0 < l.length → ∃ b off, A = some ⟨b, off, none⟩ ∧ b < w.heap.size ∧ ∀ j u, (cells11 l)[j]? = some u → w.cell? ⟨b, off + j, none⟩ = some u)

section
variable {w w' : World} {v : Value} {l : List Pk}
theorem Ips.nil (w : World) : Ips w (.slice none 0 0) [] := ⟨none, 0, rfl, Nat.le_refl _, Nat.zero_le _, fun h => absurd h (by simp)⟩
theorem Ips.len {A : Option Addr} {n c : Nat} (h : Ips w (.slice A n c) l) : n = l.length ∧ n ≤ c ∧ c ≤ maxLen := by
  obtain ⟨A', c', e, h1, h2, _⟩ := h
  cases e
  exact ⟨rfl, h1, h2⟩
theorem Ips.form (h : Ips w v l) : ∃ A c, v = .slice A l.length c ∧ l.length ≤ c ∧ c ≤ maxLen := by
  obtain ⟨A, c, rfl, h1, h2, _⟩ := h
  exact ⟨A, c, rfl, h1, h2⟩
theorem Ips.raw {A : Option Addr} {n c : Nat} (h : Ips w (.slice A n c) l) (hp : 0 < n) : ∃ b off, A = some ⟨b, off, none⟩ ∧ b < w.heap.size ∧ ∀ j u, (cells11 l)[j]? = some u → w.cell? ⟨b, off + j, none⟩ = some u := by
  obtain ⟨A', c', e, h1, h2, h3⟩ := h
  cases e
  exact h3 hp
theorem pkAt_of {b off : Nat} (h : ∀ j u, (cells11 l)[j]? = some u → w.cell? ⟨b, off + j, none⟩ = some u) (j : Nat) (hj : j < l.length) : PkAt w b (off + j * 11) l[j] := by
  have e : ∀ i (hi : i < 11) u, (pc l[j])[i]? = some u → w.cell? ⟨b, off + j * 11 + i, none⟩ = some u := fun i hi u hu => by
    rw [Nat.add_assoc]
    exact h _ _ (by rw [cells11_at l j i hj hi]; exact hu)
  exact ⟨e 0 (by decide) _ rfl, e 1 (by decide) _ rfl, e 2 (by decide) _ rfl, e 3 (by decide) _ rfl, e 4 (by decide) _ rfl, e 5 (by decide) _ rfl, e 6 (by decide) _ rfl, e 7 (by decide) _ rfl, e 8 (by decide) _ rfl, e 9 (by decide) _ rfl, e 10 (by decide) _ rfl⟩
theorem Ips.at_ {A : Option Addr} {n c : Nat} (h : Ips w (.slice A n c) l) (hp : 0 < n) : ∃ b off, A = some ⟨b, off, none⟩ ∧ b < w.heap.size ∧ ∀ j (hj : j < l.length), PkAt w b (off + j * 11) l[j] := by
  obtain ⟨b, off, e, hb, hc⟩ := h.raw hp
  exact ⟨b, off, e, hb, pkAt_of hc⟩
theorem Ips.other (h : Ips w v l) (hs : w.heap.size ≤ w'.heap.size) (hb : ∀ b, v.ownBlock = some b → b < w.heap.size → w'.heap[b]? = w.heap[b]?) : Ips w' v l := by
  obtain ⟨A, c, rfl, h1, h2, h3⟩ := h
  refine ⟨A, c, rfl, h1, h2, fun hp => ?_⟩
  obtain ⟨b, off, rfl, hlt, hc⟩ := h3 hp
  exact ⟨b, off, rfl, Nat.lt_of_lt_of_le hlt hs, fun j u hj => (World.cell?_of_block (w := w) (a := ⟨b, off + j, none⟩) (hb b rfl hlt)).trans (hc j u hj)⟩
theorem Ips.grow (h : Ips w v l) (g : Grow w w') : Ips w' v l := h.other g.size fun b _ hlt => g.block b hlt
theorem PkAt.grow {b o : Nat} {q : Pk} (h : PkAt w b o q) (g : Grow w w') (hb : b < w.heap.size) : PkAt w' b o q := by
  obtain ⟨h0, h1, h2, h3, h4, h5, h6, h7, h8, h9, h10⟩ := h
  have e : ∀ i u, w.cell? ⟨b, i, none⟩ = some u → w'.cell? ⟨b, i, none⟩ = some u := fun i u hu => (g.cell (p := ⟨b, i, none⟩) hb).trans hu
  exact ⟨e _ _ h0, e _ _ h1, e _ _ h2, e _ _ h3, e _ _ h4, e _ _ h5, e _ _ h6, e _ _ h7, e _ _ h8, e _ _ h9, e _ _ h10⟩
end

/-- The slices of each read as its bytes. -/
def Pk.Good (w : World) (q : Pk) : Prop := Byt w q.vo q.k.opts ∧ Byt w q.vd q.k.data ∧ q.k.Ok
theorem Pk.Good.grow {w w' : World} {q : Pk} (h : q.Good w) (g : Grow w w') : q.Good w' := ⟨h.1.grow g, h.2.1.grow g, h.2.2⟩
theorem Pk.Good.one {w : World} {q : Pk} (h : q.Good w) : q.One := ⟨h.1.one, h.2.1.one⟩
theorem Pk.Good.ip {w : World} {q : Pk} (h : q.Good w) : Ip w (ipV q.k q.vo q.vd) q.k := ⟨_, _, rfl, h.1, h.2.1, h.2.2⟩
/-- The slice v reads as these packets. -/
def Psl (w : World) (v : Value) (ks : List Pkt) : Prop := ∃ l : List Pk, l.map Pk.k = ks ∧ Ips w v l ∧ ∀ q ∈ l, q.Good w
theorem Psl.grow {w w' : World} {v : Value} {ks : List Pkt} (h : Psl w v ks) (g : Grow w w') : Psl w' v ks := by
  obtain ⟨l, h1, h2, h3⟩ := h
  exact ⟨l, h1, h2.grow g, fun q hq => (h3 q hq).grow g⟩
theorem Psl.nil (w : World) : Psl w (.slice none 0 0) [] := ⟨[], rfl, Ips.nil w, fun q hq => by simp at hq⟩
theorem Psl.form {w : World} {v : Value} {ks : List Pkt} (h : Psl w v ks) : ∃ A c, v = .slice A ks.length c ∧ ks.length ≤ c ∧ c ≤ maxLen := by
  obtain ⟨l, h1, h2, _⟩ := h
  have := h2.form
  rwa [← h1, List.length_map]

/-- A row of packets of the call's own. -/
def Iprow (w : World) (base : Nat) (v : Value) (l : List Pk) : Prop := w.ownsRow base 38 11 v l.length (cells11 l)
section
variable {w w' : World} {v : Value} {l : List Pk} {base : Nat}
theorem Iprow.nil (w : World) (base : Nat) : Iprow w base (.slice none 0 0) [] := World.ownsRow_nil w base 38 11
theorem Iprow.ips (h : Iprow w base v l) : Ips w v l := by
  obtain ⟨h1, h2⟩ := id h
  rcases h2 with ⟨rfl, h0⟩ | ⟨g, cap, cur, rfl, hbg, hh, hnc, hcm, hcs, ht⟩
  · have : l = [] := List.eq_nil_of_length_eq_zero h0
    subst this
    exact Ips.nil w
  · refine ⟨some ⟨g, 0, none⟩, cap, rfl, hnc, hcm, fun hp => ⟨g, 0, rfl, (Array.getElem?_eq_some_iff.1 hh).1, fun j u hj => ?_⟩⟩
    have := World.ownsRow.cells h (g := g) rfl j u hj
    have e : (⟨g, 0, none⟩ : Addr).add j = ⟨g, 0 + j, none⟩ := by unfold Addr.add; split <;> simp_all
    rwa [e] at this
theorem Iprow.other (h : Iprow w base v l) (hb : ∀ b, v.ownBlock = some b → b < w.heap.size → w'.heap[b]? = w.heap[b]?) : Iprow w' base v l := by
  obtain ⟨h1, h2⟩ := h
  refine ⟨h1, ?_⟩
  rcases h2 with h2 | ⟨g, cap, cur, rfl, e2, hh, r⟩
  · exact .inl h2
  · exact .inr ⟨g, cap, cur, rfl, e2, (hb g rfl (Array.getElem?_eq_some_iff.1 hh).1).trans hh, r⟩
theorem Iprow.grow (h : Iprow w base v l) (g : Grow w w') : Iprow w' base v l := h.other fun b _ hlt => g.block b hlt
theorem Iprow.lt (h : Iprow w base v l) : ∀ k, v.ownBlock = some k → base ≤ k ∧ k < w.heap.size := World.ownsRow.lt h
theorem Iprow.base_ {b' : Nat} (h : Iprow w base v l) (hb : b' ≤ base) : Iprow w b' v l := by
  obtain ⟨h1, h2⟩ := h
  refine ⟨h1, ?_⟩
  rcases h2 with h2 | ⟨g, cap, cur, e1, e2, r⟩
  · exact .inl h2
  · exact .inr ⟨g, cap, cur, e1, by omega, r⟩
theorem Iprow.lit (w : World) (q : Pk) (cs : Array Value) (hc : cs.toList = pc q) (g : Nat) (hg : g = w.heap.size) : Iprow (w.alloc (.cells cs 38)) w.heap.size (.slice (some ⟨g, 0, none⟩) 1 1) [q] := by
  subst hg
  have h := World.ownsRow_lit (base := w.heap.size) (e := 38) (size := 11) w cs 1 (Nat.le_refl _) (by unfold maxLen; decide) (by rw [← Array.length_toList, hc]; rfl)
  rw [hc] at h
  have e1 : pc q = cells11 [q] := by simp [cells11]
  rw [e1] at h
  exact h
end

theorem infoIP : (Try.prog.info? 38).map (fun i => (i.zero, i.size, i.bytes)) = some (some (.agg #[.int .u8 0, .int .u16 0, .bool false, .bool false, .int .i64 0, .int .u8 0, .int .u8 0, .int .u32 0, .int .u32 0, .slice none 0 0, .slice none 0 0]), 11, 80) := by kernel_rfl

/-- append(s, x...) onto a row of packets of the call's own, whatever the source. -/
theorem run_app11 (w : World) (base : Nat) (ty : TypeId)
    (v : Value) (l : List Pk) (hown : Iprow w base v l) (u : Value) (m : List Pk) (hr : Ips w u m) (hm1 : ∀ q ∈ m, q.One) (hlen : l.length + m.length ≤ 100000000) (hbase : base ≤ w.heap.size) :
    ∃ v' w', (Builtin.append_ #[41, 41] ty #[v, u]).run Try.prog w = .ok v' w' ∧ Iprow w' base v' (l ++ m) ∧ w.grownBy w' v.ownBlock ∧ (v'.ownBlock = v.ownBlock ∨ v'.ownBlock = some w.heap.size) := by
  have ht := Try.underlying41
  obtain ⟨i, hi0, hz0, hz1, hz2⟩ := info_parts infoIP
  obtain ⟨A, c, rfl, hlc, hcm, hcell⟩ := hr
  cases A with
  | none =>
    have hm : m = [] := by
      rcases Nat.eq_zero_or_pos m.length with h0 | h0
      · exact List.eq_nil_of_length_eq_zero h0
      · obtain ⟨b, off, e', _⟩ := hcell h0
        cases e'
    subst hm
    refine ⟨v, w, ?_, by simpa using hown, ⟨rfl, rfl, rfl, Nat.le_refl _, fun _ _ _ => rfl⟩, .inl rfl⟩
    rcases hown.2 with ⟨rfl, hx⟩ | ⟨g, cap, cur, rfl, _, _, hnc, _⟩
    · simp [Builtin.append_, run_underlying ht, sizeOf, typeInfo, hi0, Builtin.lenOf, Builtin.firstCells]
    · simp [Builtin.append_, run_underlying ht, sizeOf, typeInfo, hi0, Builtin.lenOf, Builtin.firstCells, hnc, storeCells]
  | some ad =>
    have hnews : ∀ j y, (cells11 m)[j]? = some y → w.cell? (ad.add j) = some y := by
      intro j y hy
      have hj : 0 < m.length := by
        rcases Nat.eq_zero_or_pos m.length with h0 | h0
        · rw [List.eq_nil_of_length_eq_zero h0] at hy; simp [cells11] at hy
        · exact h0
      obtain ⟨b, off, e', _, hc⟩ := hcell hj
      injection e' with e'
      subst e'
      have e : (⟨b, off, none⟩ : Addr).add j = ⟨b, off + j, none⟩ := by unfold Addr.add; split <;> simp_all
      rw [e]
      exact hc j y hy
    obtain ⟨v', w', hrun, h2, h3, _, h5⟩ := run_append_own_at (P := Try.prog) w base 41 ty 38 i _ 11 80 ht hi0 hz0 hz1 hz2 (by rfl) (by decide) v l.length (cells11 l) hown ad m.length c (cells11 m) (cells11_length m) hnews (cells11_one m hm1) (by unfold maxLen; omega) (by omega) hbase
    refine ⟨v', w', hrun, ?_, h3, h5⟩
    unfold Iprow
    rw [List.length_append, cells11_append]
    exact h2

theorem wpList_app11 (w : World) {ops : Array Oper} {rest : List Oper} {o : Oper} {a : Act} {Q : Exit → Act → World → Prop} (hgd : o.guard = none) (s x : Operand)
    (ho : o.op = .call { callee := .builtin .append, args := #[s, x], argTypes := #[41, 41] })
    (base : Nat) (v u : Value) (l m : List Pk) (hs : a.eval s = v) (hx : a.eval x = u) (hown : Iprow w base v l) (hr : Ips w u m) (hm1 : ∀ q ∈ m, q.One) (hlen : l.length + m.length ≤ 100000000) (hbase : base ≤ w.heap.size)
    (h : ∀ v' w', Iprow w' base v' (l ++ m) → w.grownBy w' v.ownBlock → (v'.ownBlock = v.ownBlock ∨ v'.ownBlock = some w.heap.size) → wpList Try.prog ops Q rest (a.put o.dst v') w') : wpList Try.prog ops Q (o :: rest) a w := by
  obtain ⟨v', w', hrun, h2, h3, h4⟩ := run_app11 w base o.type v l hown u m hr hm1 hlen hbase
  refine wpList_plain hgd fun K hK => ?_
  unfold Oper.wp execOp
  simp only [ho, resolve, invoke, builtin, Sem.run_bind, Sem.run_pure, Result.andThen_ok, List.map_toArray, List.map_cons, List.map_nil, hs, hx, hrun]
  exact hK _ _ (h v' w' h2 h3 h4)

theorem Grow.iprow {w₀ w w' : World} {v : Value} {l : List Pk} (g : Grow w₀ w) (h : w.grownBy w' v.ownBlock) (ho : Iprow w w₀.heap.size v l) : Grow w₀ w' :=
  g.grown h g.size fun k hk => (ho.lt k hk).1
end Go.Proofs.Ytmnemkeieaflhaa
/- The document's answers of layer 11 as functions on lists and packets: options that each piece has, pieces. -/
namespace Go.Proofs.Ytmnemkeieaflhaa
set_option linter.unusedVariables false
set_option linter.unusedSimpArgs false

/-- How many bytes the option at the beginning has; 0: none that may be. -/
def fopt (l : List UInt8) : Nat := if l.length < 2 then 0 else if byt l 1 < 2 ∨ l.length < byt l 1 then 0 else byt l 1
theorem fopt_le (l : List UInt8) : fopt l ≤ l.length := by unfold fopt; split <;> (try split) <;> omega
theorem byt_nil (l : List UInt8) (h : l.length = 0) : byt l 0 = 0 := by
  obtain rfl := List.eq_nil_of_length_eq_zero h
  rfl
theorem byt_drop (l : List UInt8) (i j : Nat) : byt (l.drop i) j = byt l (i + j) := by unfold byt; rw [List.getElem?_drop]

/-- The options of at least 128, or none: not to be read. -/
def fscan : Nat → List UInt8 → Option (List UInt8)
  | 0, _ => some []
  | n + 1, l => if byt l 0 = 0 then some [] else if byt l 0 = 1 then fscan n (l.drop 1) else if fopt l = 0 then none else
      (fscan n (l.drop (fopt l))).map fun m => (if 128 ≤ byt l 0 then l.take (fopt l) else []) ++ m
theorem fscan_length : ∀ (n : Nat) (l m : List UInt8), fscan n l = some m → m.length ≤ l.length
  | 0, l, m, h => by unfold fscan at h; cases h; simp
  | n + 1, l, m, h => by
    unfold fscan at h
    split at h
    · cases h; simp
    · split at h
      · have := fscan_length n _ m h
        simp at this
        omega
      · split at h
        · cases h
        · cases hq : fscan n (l.drop (fopt l)) with
          | none => rw [hq] at h; cases h
          | some r =>
            rw [hq] at h
            simp only [Option.map_some, Option.some.injEq] at h
            have h2 := fscan_length n _ r hq
            have h3 := fopt_le l
            rw [List.length_drop] at h2
            subst h
            rw [List.length_append]
            split
            · rw [List.length_take]; omega
            · simp; omega

/-- Zeros up to a multiple of four. -/
def pad4 (l : List UInt8) : List UInt8 := l ++ List.replicate ((4 - l.length % 4) % 4) 0
theorem pad4_length (l : List UInt8) : (pad4 l).length % 4 = 0 ∧ l.length ≤ (pad4 l).length ∧ (pad4 l).length ≤ l.length + 3 := by
  unfold pad4
  rw [List.length_append, List.length_replicate]
  omega
def fcode (l : List UInt8) : Int := if 40 < l.length then 1 else if (fscan l.length l).isNone then 3 else 0
def fcar (l : List UInt8) : List UInt8 := if 40 < l.length then [] else match fscan l.length l with | none => [] | some m => pad4 m
theorem fcar_length (l : List UInt8) : (fcar l).length ≤ 40 ∧ (fcar l).length % 4 = 0 := by
  unfold fcar
  split
  · simp
  · cases h : fscan l.length l with
    | none => simp
    | some m =>
      have h1 := fscan_length _ _ _ h
      have h2 := pad4_length m
      exact ⟨show (pad4 m).length ≤ 40 by omega, h2.1⟩
theorem fcode_cases (l : List UInt8) : (fcode l = 1 ∧ 40 < l.length ∧ fcar l = []) ∨ (fcode l = 3 ∧ l.length ≤ 40 ∧ fscan l.length l = none ∧ fcar l = []) ∨ (fcode l = 0 ∧ l.length ≤ 40 ∧ ∃ m, fscan l.length l = some m ∧ fcar l = pad4 m) := by
  unfold fcode fcar
  by_cases h : 40 < l.length
  · rw [if_pos h, if_pos h]; exact .inl ⟨rfl, h, rfl⟩
  · rw [if_neg h, if_neg h]
    cases hs : fscan l.length l with
    | none => exact .inr (.inl ⟨by simp, by omega, rfl, rfl⟩)
    | some m => exact .inr (.inr ⟨by simp, by omega, m, rfl, rfl⟩)
end Go.Proofs.Ytmnemkeieaflhaa
/- Contracts: option, the laws' code, a packet with memory of its own. -/
namespace Go.Proofs.Ytmnemkeieaflhaa
set_option linter.unusedVariables false
set_option linter.unusedSimpArgs false
open Go.ChangeShapes Go.WideShapes Go.ChangeAt Go.RowKit

def zeroPk : Pkt := ⟨0, 0, false, false, 0, 0, 0, 0, 0, [], []⟩

set_option maxHeartbeats 400000 in
/-- A packet, handed back alone out of its block. -/
theorem results1_ip {fn : Func} (j : Nat) (h : fn.results = #[.cell j 38]) (tmps : Array Value) (w : World) (g : Nat) (k : Pkt) (vo vd : Value) (ht : tmps.getD j undef = .pointer (some ⟨g, 0, none⟩)) (hb : Blk w g k vo vd) :
    (results fn tmps).run Try.prog w = .ok (ipV k vo vd) w := by
  obtain ⟨b0, b1, b2, b3, b4, b5, b6, b7, b8, b9, b10⟩ := hb.boxd
  have ht' : tmps[j]?.getD undef = .pointer (some ⟨g, 0, none⟩) := by simpa using ht
  simp only [results, h, go_sem]
  simp [ht', b0, b1, b2, b3, b4, b5, b6, b7, b8, b9, b10, go_sem]

/-- Two blocks laid ahead: a packet and the zero packet. -/
theorem two_blk (w : World) (k : Pkt) (vo vd : Value) {W : World} (hW : W = (w.alloc (.cells #[.int .u8 (k.tos : Int), .int .u16 (k.ident : Int), .bool k.whole, .bool k.more, .int .i64 k.off, .int .u8 (k.ttl : Int), .int .u8 (k.proto : Int), .int .u32 (k.src : Int), .int .u32 (k.dst : Int), vo, vd] 38)).alloc (.cells #[.int .u8 0, .int .u16 0, .bool false, .bool false, .int .i64 0, .int .u8 0, .int .u8 0, .int .u32 0, .int .u32 0, .slice none 0 0, .slice none 0 0] 38)) :
    Grow w W ∧ W.heap.size = w.heap.size + 2 ∧ Blk W w.heap.size k vo vd ∧ Blk W (w.heap.size + 1) zeroPk (.slice none 0 0) (.slice none 0 0) := by
  subst hW
  refine ⟨(Grow.alloc _ _).trans (Grow.alloc _ _), by simp, (Blk.new _ _ _ _).grow (Grow.alloc _ _), ?_⟩
  have := Blk.new (w.alloc (.cells #[.int .u8 (k.tos : Int), .int .u16 (k.ident : Int), .bool k.whole, .bool k.more, .int .i64 k.off, .int .u8 (k.ttl : Int), .int .u8 (k.proto : Int), .int .u32 (k.src : Int), .int .u32 (k.dst : Int), vo, vd] 38)) zeroPk (.slice none 0 0) (.slice none 0 0)
  rw [World.size_alloc] at this
  exact this
theorem Blk.but {w w' : World} {g h : Nat} {k : Pkt} {vo vd : Value} (hk : Blk w h k vo vd) (hb : But g w w') (hne : h ≠ g) : Blk w' h k vo vd := (hb.2 h hne).trans hk

end Go.Proofs.Ytmnemkeieaflhaa
/- Contract: Carried. -/
namespace Go.Proofs.Ytmnemkeieaflhaa
set_option linter.unusedVariables false
set_option linter.unusedSimpArgs false
open Go.ChangeShapes Go.WideShapes Go.ChangeAt Go.RowKit

theorem leftOn {w : World} {b off c k : Nat} {l : List UInt8} (h : Byt w (.slice (some ⟨b, off, none⟩) l.length c) l) (hk : k ≤ l.length) :
    (c = k → Byt w (.slice (some ⟨b, off, none⟩) (l.drop k).length (c - k)) (l.drop k)) ∧ (¬ c = k → Byt w (.slice (some ⟨b, off + k, none⟩) (l.drop k).length (c - k)) (l.drop k)) := by
  rw [List.length_drop]
  refine ⟨fun e => h.back0 hk e, fun e => ?_⟩
  have := h.back hk e
  have e2 : (⟨b, off, none⟩ : Addr).add k = ⟨b, off + k, none⟩ := by unfold Addr.add; split <;> simp_all
  simpa [e2] using this
theorem sliceEq {A A' : Option Addr} {n n' c c' : Nat} (h1 : A = A') (h2 : n = n') (h3 : c = c') : Value.slice A n c = .slice A' n' c' := by
  rw [h1, h2, h3]

/-- Where the scan stands. -/
structure Car (w : World) (m0 : Option (List UInt8)) (v : Value) (acc l : List UInt8) (A : Option Addr) (c f : Nat) (wr : World) : Prop where
  left : Byt w (.slice A l.length c) l
  small : l.length ≤ f
  room : acc.length + l.length ≤ 40
  goes : m0 = (fscan f l).map (acc ++ ·)
  row : Own wr w.heap.size v acc
  grow : Grow w wr

theorem fcar_done {L acc : List UInt8} (hL : L.length ≤ 40) (h : fscan L.length L = some acc) : fcode L = 0 ∧ fcar L = acc ++ List.replicate ((4 - acc.length % 4) % 4) 0 := by
  unfold fcode fcar
  rw [if_neg (show ¬ 40 < L.length by omega), h, if_neg (show ¬ 40 < L.length by omega)]
  exact ⟨rfl, rfl⟩
theorem fcar_fail {L : List UInt8} (hL : L.length ≤ 40) (h : fscan L.length L = none) : fcode L = 3 ∧ fcar L = [] := by
  unfold fcode fcar
  rw [if_neg (show ¬ 40 < L.length by omega), h, if_neg (show ¬ 40 < L.length by omega)]
  exact ⟨rfl, rfl⟩
theorem fcar_much {L : List UInt8} (hL : 40 < L.length) : fcode L = 1 ∧ fcar L = [] := by
  unfold fcode fcar
  rw [if_pos hL, if_pos hL]
  exact ⟨rfl, rfl⟩

end Go.Proofs.Ytmnemkeieaflhaa
