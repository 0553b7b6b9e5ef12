/- Boxes of datagrams as lists: what the document says of their calls. Pure. -/
import Derived.Test.YtkblgigpgpjjlaaPoNum
namespace Go.Proofs.Ytkblgigpgpjjlaa
set_option linter.unusedVariables false
set_option linter.unusedSimpArgs false

/-- A datagram: whence, its bytes. -/
structure Ml where
  f : Ed
  d : List UInt8
  deriving DecidableEq
instance : Inhabited Ml := ⟨⟨default, []⟩⟩
/-- A box: how many, how many bytes, who is let in, who wait, how many were lost, what was told. -/
structure Ub where
  most : Int
  room : Int
  pe : Ed
  L : List Ml
  lost : Int
  told : Int
def noE : Ed := ⟨0, 0⟩
def noneU (most room : Int) : Ub := ⟨most, room, noE, [], 0, 0⟩
/-- How many bytes wait. -/
def heldL (L : List Ml) : Nat := (L.map fun m => m.d.length).sum
theorem heldL_nil : heldL [] = 0 := rfl
theorem heldL_cons (m : Ml) (L : List Ml) : heldL (m :: L) = m.d.length + heldL L := by simp [heldL]
theorem heldL_append (a b : List Ml) : heldL (a ++ b) = heldL a + heldL b := by simp [heldL]
theorem heldL_take : ∀ (L : List Ml) (k : Nat) (m : Ml), L[k]? = some m → heldL (L.take (k + 1)) = heldL (L.take k) + m.d.length
  | [], k, m, h => by simp at h
  | x :: l, 0, m, h => by
    have e : x = m := by simpa using h
    subst e
    simp [heldL]
  | x :: l, k + 1, m, h => by
    have h' : l[k]? = some m := by simpa using h
    have := heldL_take l k m h'
    rw [List.take_succ_cons, List.take_succ_cons, heldL_cons, heldL_cons, this]
    omega
/-- Is somebody let in? -/
def letsS (pe e : Ed) : Prop := pe = noE ∨ pe = e
instance (pe e : Ed) : Decidable (letsS pe e) := inferInstanceAs (Decidable (_ ∨ _))
/-- Meet. -/
def badE (e : Ed) : Prop := e.po = 0 ∧ e.ad ≠ 0
instance (e : Ed) : Decidable (badE e) := inferInstanceAs (Decidable (_ ∧ _))
def meE (e : Ed) : Int := if badE e then 8 else 0
def letL (e : Ed) (L : List Ml) : List Ml := L.filter fun m => decide (letsS e m.f)
def meU (u : Ub) (e : Ed) : Ub := if badE e then u else { u with pe := e, L := letL e u.L, lost := u.lost + ((u.L.length - (letL e u.L).length : Nat) : Int) }
/-- Put. -/
def fullU (u : Ub) (m : Ml) : Prop := u.most ≤ (u.L.length : Int) ∨ u.room < ((heldL u.L + m.d.length : Nat) : Int)
instance (u : Ub) (m : Ml) : Decidable (fullU u m) := inferInstanceAs (Decidable (_ ∨ _))
def puE (u : Ub) (m : Ml) : Int := if ¬ letsS u.pe m.f then 6 else if fullU u m then 5 else 0
def puU (u : Ub) (m : Ml) : Ub := if ¬ letsS u.pe m.f then u else if fullU u m then { u with lost := u.lost + 1 } else { u with L := u.L ++ [m] }
/-- Take: the error, the datagram, how long it was, the box. -/
def noM : Ml := ⟨noE, []⟩
def cutM (m : Ml) (n : Int) : Ml := ⟨m.f, m.d.take n.toNat⟩
def tkuE (u : Ub) (n : Int) : Int := if u.told ≠ 0 then u.told else if u.L = [] then 6 else if n < 0 then 1 else 0
def tkuM (u : Ub) (n : Int) : Ml := if tkuE u n = 0 ∧ u.told = 0 then cutM (u.L.headD noM) n else noM
def tkuN (u : Ub) (n : Int) : Int := if tkuE u n = 0 ∧ u.told = 0 then ((u.L.headD noM).d.length : Int) else 0
def tkuU (u : Ub) (n : Int) : Ub := if u.told ≠ 0 then { u with told := 0 } else if tkuE u n = 0 then { u with L := u.L.tail } else u
/-- Tell. -/
def teU (u : Ub) (e : Int) : Ub := if u.told = 0 then { u with told := e } else u
def readyU (u : Ub) : Bool := decide (0 < u.L.length) || decide (u.told ≠ 0)
/-- What always holds of a box. -/
structure UOk (u : Ub) : Prop where
  most : 1 ≤ u.most ∧ u.most ≤ 64
  room : 1 ≤ u.room ∧ u.room ≤ 1048576
  len : (u.L.length : Int) ≤ u.most
  held : (heldL u.L : Int) ≤ u.room
  lets : ∀ m ∈ u.L, letsS u.pe m.f
theorem heldL_filter (P : Ml → Bool) : ∀ L : List Ml, heldL (L.filter P) ≤ heldL L
  | [] => Nat.le_refl _
  | m :: l => by
    have := heldL_filter P l
    rw [List.filter_cons]
    split
    · rw [heldL_cons, heldL_cons]; omega
    · rw [heldL_cons]; omega
theorem uok_none {most room : Int} (h1 : 1 ≤ most ∧ most ≤ 64) (h2 : 1 ≤ room ∧ room ≤ 1048576) : UOk (noneU most room) := ⟨h1, h2, by show (0 : Int) ≤ most; omega, by show (0 : Int) ≤ room; omega, fun m hm => by cases hm⟩
theorem UOk.me {u : Ub} (h : UOk u) (e : Ed) : UOk (meU u e) := by
  unfold meU
  by_cases q : badE e
  · rw [if_pos q]; exact h
  · rw [if_neg q]
    have h1 := List.length_filter_le (fun m => decide (letsS e m.f)) u.L
    have h2 := heldL_filter (fun m => decide (letsS e m.f)) u.L
    refine ⟨h.most, h.room, ?_, ?_, fun m hm => ?_⟩
    · show ((letL e u.L).length : Int) ≤ u.most
      have := h.len
      unfold letL
      omega
    · show (heldL (letL e u.L) : Int) ≤ u.room
      have := h.held
      unfold letL
      omega
    · exact of_decide_eq_true (List.mem_filter.1 hm).2
theorem UOk.pu {u : Ub} (h : UOk u) (m : Ml) : UOk (puU u m) := by
  unfold puU
  by_cases q : letsS u.pe m.f
  · rw [if_neg (fun k => k q)]
    by_cases q2 : fullU u m
    · rw [if_pos q2]
      exact ⟨h.most, h.room, h.len, h.held, h.lets⟩
    · rw [if_neg q2]
      have q3 : ¬ (u.most ≤ (u.L.length : Int) ∨ u.room < ((heldL u.L + m.d.length : Nat) : Int)) := q2
      refine ⟨h.most, h.room, ?_, ?_, fun x hx => ?_⟩
      · show ((u.L ++ [m]).length : Int) ≤ u.most
        rw [List.length_append, List.length_singleton]
        omega
      · show (heldL (u.L ++ [m]) : Int) ≤ u.room
        rw [heldL_append, heldL_cons, heldL_nil]
        omega
      · rcases List.mem_append.1 hx with hx | hx
        · exact h.lets x hx
        · rw [List.mem_singleton.1 hx]
          exact q
  · rw [if_pos q]
    exact h
theorem UOk.tk {u : Ub} (h : UOk u) (n : Int) : UOk (tkuU u n) := by
  unfold tkuU
  by_cases q : u.told ≠ 0
  · rw [if_pos q]
    exact ⟨h.most, h.room, h.len, h.held, h.lets⟩
  · rw [if_neg q]
    by_cases q2 : tkuE u n = 0
    · rw [if_pos q2]
      have e1 : u.L.tail.length ≤ u.L.length := by rw [List.length_tail]; omega
      have e2 : heldL u.L.tail ≤ heldL u.L := by
        cases u.L with
        | nil => exact Nat.le_refl _
        | cons a l => rw [List.tail_cons, heldL_cons]; omega
      refine ⟨h.most, h.room, ?_, ?_, fun m hm => h.lets m (List.mem_of_mem_tail hm)⟩
      · show (u.L.tail.length : Int) ≤ u.most
        have := h.len; omega
      · show (heldL u.L.tail : Int) ≤ u.room
        have := h.held; omega
    · rw [if_neg q2]
      exact h
theorem UOk.te {u : Ub} (h : UOk u) (e : Int) : UOk (teU u e) := by
  unfold teU
  by_cases q : u.told = 0
  · rw [if_pos q]
    exact ⟨h.most, h.room, h.len, h.held, h.lets⟩
  · rw [if_neg q]
    exact h
end Go.Proofs.Ytkblgigpgpjjlaa
