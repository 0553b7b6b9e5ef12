/- The reference's rows of timers; its place and Due. -/
import Derived.Test.YtnoglbceaibjeaaDoorC04
import Derived.Test.YtnoglbceaibjeaaDoorC02
import Derived.BigRegion
namespace Go.Proofs.YtnoglbceaibjeaaDoor
set_option linter.unusedVariables false
set_option linter.unusedSimpArgs false
open Go.ChangeShapes Go.WideShapes Go.ChangeAt Go.RowKit Go.Shelf

def cT (l : List Tm) : List Value := l.flatMap fun t => [.int .i64 t.id, .int .i64 (t.tk : Int)]
theorem cT_len : ∀ l : List Tm, (cT l).length = l.length * 2
  | [] => rfl
  | t :: l => by
    have := cT_len l
    unfold cT at *
    rw [List.flatMap_cons, List.length_append, this, List.length_cons]
    simp
    omega
theorem cT_at : ∀ (l : List Tm) (i : Nat) (t : Tm), l[i]? = some t → (cT l)[i * 2]? = some (.int .i64 t.id) ∧ (cT l)[i * 2 + 1]? = some (.int .i64 (t.tk : Int))
  | [], i, t, h => by simp at h
  | x :: l, 0, t, h => by
    simp at h
    subst h
    exact ⟨rfl, rfl⟩
  | x :: l, i + 1, t, h => by
    have := cT_at l i t (by simpa using h)
    unfold cT at *
    rw [List.flatMap_cons, show (i + 1) * 2 = i * 2 + 1 + 1 from by omega, show i * 2 + 1 + 1 + 1 = i * 2 + 1 + 1 + 1 from rfl]
    exact ⟨by simpa using this.1, by simpa using this.2⟩
/-- The slice v reads as these timers. -/
def RdT (w : World) (v : Value) (l : List Tm) : Prop := RdK w 2 v l.length (cT l)
theorem RdT.parts {w : World} {v : Value} {l : List Tm} (h : RdT w v l) : ∃ A c, v = .slice A l.length c ∧ (0 < l.length → ∃ b off, A = some ⟨b, off, none⟩ ∧ b < w.heap.size ∧ ∀ (i : Nat) (t : Tm), l[i]? = some t → w.cell? ⟨b, off + i * 2, none⟩ = some (.int .i64 t.id) ∧ w.cell? ⟨b, off + i * 2 + 1, none⟩ = some (.int .i64 (t.tk : Int))) := by
  obtain ⟨A, c, rfl, h1, h2, h3, h4⟩ := h
  refine ⟨A, c, rfl, fun h0 => ?_⟩
  obtain ⟨b, off, rfl, hb, hc⟩ := h4 h0
  refine ⟨b, off, rfl, hb, fun i t ht => ?_⟩
  obtain ⟨q1, q2⟩ := cT_at l i t ht
  exact ⟨hc _ _ q1, by rw [Nat.add_assoc]; exact hc _ _ q2⟩
set_option maxHeartbeats 1000000 in
theorem rplace_nil (w : World) (A : Option Addr) (c : Nat) (x : Int) : Calls Tryd.prog 25 #[.slice A 0 c, .int .i64 x] w fun e w' => e = .returned (.int .i64 (-1)) ∧ w' = w := by
  go_enter Tryd.func25, Tryd.ntmps25
  go_wp2_with fail
  go_loopg [5] 0 (fun g s5 wr => s5 = .int .i64 0 ∧ wr = w ∧ g = 0)
  case atStart => exact ⟨rfl, rfl, rfl⟩
  case round =>
    obtain ⟨rfl, rfl, rfl⟩ := hrel
    go_wp2_with fail
    go_ret
    exact ⟨rfl, rfl⟩
set_option maxHeartbeats 1000000 in
theorem rplace_walk (w : World) (b off c n : Nat) (l : List Tm) (hl : l.length = n) (hn : n ≤ 1000000) (x : Int) (hc : ∀ (i : Nat) (t : Tm), l[i]? = some t → w.cell? ⟨b, off + i * 2, none⟩ = some (.int .i64 t.id)) (r : Int)
    (hr : (∀ t ∈ l, t.id ≠ x) ∧ r = -1 ∨ ∃ (j : Nat) (t : Tm), l[j]? = some t ∧ t.id = x ∧ (∀ (i : Nat) (u : Tm), i < j → l[i]? = some u → u.id ≠ x) ∧ r = (j : Int)) :
    Calls Tryd.prog 25 #[.slice (some ⟨b, off, none⟩) n c, .int .i64 x] w fun e w' => e = .returned (.int .i64 r) ∧ w' = w := by
  have HC := Lib.hid hc
  have HL := Lib.hid hl
  have HR := Lib.hid hr
  clear hc hl hr
  go_enter Tryd.func25, Tryd.ntmps25
  go_wp2_with fail
  go_loopg [5] n (fun g s5 wr => ∃ k : Nat, k ≤ n ∧ g = n - k ∧ s5 = .int .i64 (k : Int) ∧ wr = w ∧ Hid (∀ (i : Nat) (u : Tm), i < k → l[i]? = some u → u.id ≠ x))
  case atStart => exact ⟨0, Nat.zero_le _, rfl, rfl, rfl, fun i u h => absurd h (Nat.not_lt_zero _)⟩
  case round =>
    obtain ⟨k, hk, rfl, rfl, rfl, HN⟩ := hrel
    rcases Nat.lt_or_ge k n with hlt | hge
    · obtain ⟨t, ht⟩ : ∃ t, l[k]? = some t := ⟨_, List.getElem?_eq_getElem (by have := HL.out; omega)⟩
      have c0 := HC.out k t ht
      have i0 : (k : Int) < (n : Int) := by omega
      have HT := Lib.hid ht
      clear ht
      by_cases e : t.id = x
      · have e1 : r = (k : Int) := by
          rcases HR.out with ⟨h1, _⟩ | ⟨j, u, h1, h2, h3, h4⟩
          · exact absurd e (h1 t (List.mem_of_getElem? HT.out))
          · rcases Nat.lt_trichotomy j k with a | a | a
            · exact absurd h2 (HN.out j u a h1)
            · subst a; exact h4
            · exact absurd e (h3 k t a HT.out)
        subst e1
        rw [e] at c0
        clear e
        go_wp2_with fail
        go_ret
        exact ⟨rfl, rfl⟩
      · have HE := Lib.hid e
        generalize t.id = y at c0 e
        go_wp2_with fail
        go_roundg (n - (k + 1))
        case measure => omega
        case rel =>
          refine ⟨k + 1, by omega, rfl, by go_num, rfl, ?_⟩
          intro i u hi hu
          rcases Nat.lt_or_ge i k with a | a
          · exact HN.out i u a hu
          · obtain rfl : i = k := by omega
            rw [HT.out] at hu
            cases hu
            exact HE.out
    · obtain rfl : k = n := by omega
      have e1 : r = -1 := by
        rcases HR.out with ⟨_, h⟩ | ⟨j, u, h1, h2, h3, h4⟩
        · exact h
        · exact absurd h2 (HN.out j u (by have := HL.out; have := (List.getElem?_eq_some_iff.1 h1).1; omega) h1)
      subst e1
      go_wp2_with fail
      go_ret
      exact ⟨rfl, rfl⟩
def Pos (l : List Tm) (x r : Int) : Prop := (∀ t ∈ l, t.id ≠ x) ∧ r = -1 ∨ ∃ (j : Nat) (t : Tm), l[j]? = some t ∧ t.id = x ∧ (∀ (i : Nat) (u : Tm), i < j → l[i]? = some u → u.id ≠ x) ∧ r = (j : Int)
theorem rplace_any (w : World) (v : Value) (l : List Tm) (h : RdT w v l) (hn : l.length ≤ 1000000) (x r : Int) (hr : Pos l x r) : Calls Tryd.prog 25 #[v, .int .i64 x] w fun e w' => e = .returned (.int .i64 r) ∧ w' = w := by
  obtain ⟨A, c, rfl, h1⟩ := h.parts
  rcases Nat.eq_zero_or_pos l.length with h0 | h0
  · obtain rfl : l = [] := List.eq_nil_of_length_eq_zero h0
    have e : r = -1 := by
      rcases hr with ⟨_, h⟩ | ⟨j, u, h1, _⟩
      · exact h
      · simp at h1
    subst e
    exact rplace_nil w A c x
  · obtain ⟨b, off, rfl, _, hc⟩ := h1 h0
    exact rplace_walk w b off c l.length l rfl hn x (fun i t ht => (hc i t ht).1) r hr
set_option maxHeartbeats 1000000 in
theorem rDue_none (w : World) (v : Value) (l : List Tm) (h : RdT w v l) (hn : l.length ≤ 1000000) (x : Int) (hx : ∀ t ∈ l, t.id ≠ x) : Calls Tryd.prog 21 #[v, .int .i64 x] w fun e w' => e = .returned (.tuple #[.int .i64 0, .bool false]) ∧ w' = w := by
  have c0 := rplace_any w v l h hn x (-1) (.inl ⟨hx, rfl⟩)
  obtain ⟨A, c, rfl, _⟩ := h.parts
  clear h hn hx
  go_enter Tryd.func21, Tryd.ntmps21
  go_wp2_with fail
  refine c0.mono ?_
  rintro e w' ⟨rfl, rfl⟩
  go_wp2_with fail
  go_ret2
  exact ⟨rfl, rfl⟩
set_option maxHeartbeats 1000000 in
theorem rDue_some (w : World) (v : Value) (l : List Tm) (h : RdT w v l) (hn : l.length ≤ 1000000) (j : Nat) (t : Tm) (hj : l[j]? = some t) (hf : ∀ (i : Nat) (u : Tm), i < j → l[i]? = some u → u.id ≠ t.id) : Calls Tryd.prog 21 #[v, .int .i64 t.id] w fun e w' => e = .returned (.tuple #[.int .i64 (t.tk : Int), .bool true]) ∧ w' = w := by
  have c0 := rplace_any w v l h hn t.id (j : Int) (.inr ⟨j, t, hj, rfl, hf, rfl⟩)
  have hjl := (List.getElem?_eq_some_iff.1 hj).1
  obtain ⟨A, c, rfl, h1⟩ := h.parts
  obtain ⟨b, off, rfl, _, hc⟩ := h1 (by omega)
  have c1 := (hc j t hj).2
  have i0 : ¬ ((j : Int) < 0) := by omega
  have i1 : (j : Int) < (l.length : Int) := by omega
  clear h hj hf h1 hc
  generalize l.length = n at *
  go_enter Tryd.func21, Tryd.ntmps21
  go_wp2_with fail
  refine c0.mono ?_
  rintro e w' ⟨rfl, rfl⟩
  go_wp2_with fail
  go_ret2
  exact ⟨rfl, rfl⟩
end Go.Proofs.YtnoglbceaibjeaaDoor
/- The reference's Next. -/
namespace Go.Proofs.YtnoglbceaibjeaaDoor
set_option linter.unusedVariables false
set_option linter.unusedSimpArgs false
open Go.ChangeShapes Go.WideShapes Go.ChangeAt Go.RowKit Go.Shelf

set_option maxHeartbeats 1000000 in
theorem rNext_nil (w : World) (A : Option Addr) (c : Nat) : Calls Tryd.prog 19 #[.slice A 0 c] w fun e w' => e = .returned (.tuple #[.int .i64 0, .bool false]) ∧ w' = w := by
  go_enter Tryd.func19, Tryd.ntmps19
  go_wp2_with fail
  go_ret2
  exact ⟨rfl, rfl⟩
set_option maxHeartbeats 1000000 in
theorem rNext_walk (w : World) (b off c n : Nat) (t0 : Tm) (r : List Tm) (hl : r.length + 1 = n) (hn : n ≤ 1000000) (hc : ∀ (i : Nat) (t : Tm), (t0 :: r)[i]? = some t → w.cell? ⟨b, off + i * 2 + 1, none⟩ = some (.int .i64 (t.tk : Int))) :
    Calls Tryd.prog 19 #[.slice (some ⟨b, off, none⟩) n c] w fun e w' => e = .returned (.tuple #[.int .i64 (lmin (t0 :: r) : Int), .bool true]) ∧ w' = w := by
  have c0 := hc 0 t0 rfl
  rw [Nat.zero_mul, Nat.add_zero] at c0
  have i1 : ¬ ((n : Int) = 0) := by omega
  have i2 : (0 : Int) < (n : Int) := by omega
  have i3 : ((n : Int) == 0) = false := by rw [beq_eq_false_iff_ne]; exact i1
  have HC : Hid (∀ (i : Nat) (t : Tm), r[i]? = some t → w.cell? ⟨b, off + (i + 1) * 2 + 1, none⟩ = some (.int .i64 (t.tk : Int))) := fun i t h => hc (i + 1) t (by simpa using h)
  have HL := Lib.hid hl
  clear hc hl
  go_enter Tryd.func19, Tryd.ntmps19
  go_wp2_with fail
  go_loopg [4, 5] (n - 1) (fun g s4 s5 wr => ∃ i : Nat, i + 1 ≤ n ∧ g = n - (i + 1) ∧ s4 = .int .i64 (((r.take i).foldl (fun a u => min a u.tk) t0.tk : Nat) : Int) ∧ s5 = .int .i64 ((i + 1 : Nat) : Int) ∧ wr = w)
  case atStart => exact ⟨0, by omega, rfl, rfl, rfl, rfl⟩
  case round =>
    obtain ⟨i, hi, rfl, hs4, rfl, rfl⟩ := hrel
    rcases Nat.lt_or_ge (i + 1) n with hlt | hge
    · obtain ⟨u, hu⟩ : ∃ u, r[i]? = some u := ⟨_, List.getElem?_eq_getElem (by have := HL.out; omega)⟩
      have d0 := HC.out i u hu
      have hf := Lib.hid (foldl_take hu t0.tk)
      have i0 : ((i + 1 : Nat) : Int) < (n : Int) := by omega
      generalize (r.take i).foldl (fun a u => min a u.tk) t0.tk = a at *
      subst hs4
      clear hu
      obtain ⟨k, hk⟩ : ∃ k, k = i + 1 := ⟨_, rfl⟩
      rw [← hk] at d0 i0 ⊢
      have HK := Lib.hid hk
      clear hk
      by_cases e : u.tk < a
      · have e1 : (u.tk : Int) < (a : Int) := by omega
        go_wp2_with fail
        go_roundg (n - (k + 1))
        case measure => have := HK.out; omega
        case rel => exact ⟨i + 1, by have := HK.out; omega, by have := HK.out; omega, by rw [hf.out]; exact congrArg (Value.int .i64) (by omega), by have := HK.out; subst this; go_num, rfl⟩
      · have e1 : ¬ ((u.tk : Int) < (a : Int)) := by omega
        go_wp2_with fail
        go_roundg (n - (k + 1))
        case measure => have := HK.out; omega
        case rel => exact ⟨i + 1, by have := HK.out; omega, by have := HK.out; omega, by rw [hf.out]; exact congrArg (Value.int .i64) (by omega), by have := HK.out; subst this; go_num, rfl⟩
    · obtain rfl : n = i + 1 := by omega
      have e6 : r.take i = r := List.take_of_length_le (by have := HL.out; omega)
      rw [e6] at hs4
      have e5 : lmin (t0 :: r) = r.foldl (fun a u => min a u.tk) t0.tk := rfl
      rw [← e5] at hs4
      generalize hm : lmin (t0 :: r) = m at hs4
      have HM := Lib.hid hm
      clear hm e5 e6
      subst hs4
      go_wp2_with fail
      go_ret2
      exact ⟨by rw [HM.out]; rfl, rfl⟩
theorem rNext_any (w : World) (v : Value) (l : List Tm) (h : RdT w v l) (hn : l.length ≤ 1000000) (hl : l ≠ []) : Calls Tryd.prog 19 #[v] w fun e w' => e = .returned (.tuple #[.int .i64 (lmin l : Int), .bool true]) ∧ w' = w := by
  obtain ⟨A, c, rfl, h1⟩ := h.parts
  cases l with
  | nil => exact absurd rfl hl
  | cons t0 r =>
    obtain ⟨b, off, rfl, _, hc⟩ := h1 (by simp)
    exact rNext_walk w b off c _ t0 r rfl hn (fun i t ht => (hc i t ht).2)
end Go.Proofs.YtnoglbceaibjeaaDoor
/- Exchanging, rotating and merging parts of a list: on lists alone. -/
namespace Go.Proofs.YtnoglbceaibjeaaDoor
set_option linter.unusedVariables false
set_option linter.unusedSimpArgs false

section
variable {α : Type}
theorem get_mid (u v : List α) (a : α) : (u ++ a :: v)[u.length]? = some a := by
  rw [List.getElem?_append_right (Nat.le_refl _), Nat.sub_self]
  rfl
theorem set_mid (u v : List α) (a b : α) : (u ++ a :: v).set u.length b = u ++ b :: v := by
  rw [List.set_append_right _ _ (Nat.le_refl _), Nat.sub_self]
  rfl
/-- Two elements, i and j, exchanged. -/
def swp (l : List α) (i j : Nat) (a b : α) : List α := (l.set i b).set j a
theorem swp_len (l : List α) (i j : Nat) (a b : α) : (swp l i j a b).length = l.length := by simp [swp]
theorem swp_mid (u v w : List α) (a b : α) : swp (u ++ a :: (v ++ b :: w)) u.length (u.length + 1 + v.length) a b = u ++ b :: (v ++ a :: w) := by
  unfold swp
  rw [set_mid]
  have e : u ++ b :: (v ++ b :: w) = (u ++ b :: v) ++ b :: w := by simp
  have e1 : u.length + 1 + v.length = (u ++ b :: v).length := by simp; omega
  rw [e, e1, set_mid]
  simp
theorem swp_comm (l : List α) (i j : Nat) (a b : α) (h : i ≠ j) : swp l i j a b = swp l j i b a := by
  unfold swp
  exact List.set_comm _ _ h
theorem get_two (u v w : List α) (a b : α) : (u ++ a :: (v ++ b :: w))[u.length + 1 + v.length]? = some b := by
  have e : u ++ a :: (v ++ b :: w) = (u ++ a :: v) ++ b :: w := by simp
  have e1 : u.length + 1 + v.length = (u ++ a :: v).length := by simp; omega
  rw [e, e1, get_mid]
/-- The element behind the first n, and the others. -/
theorem split_at {l : List α} {n : Nat} (h : n < l.length) : ∃ a, l[n]? = some a ∧ l = l.take n ++ a :: l.drop (n + 1) := by
  refine ⟨l[n], List.getElem?_eq_getElem h, ?_⟩
  rw [List.getElem_cons_drop, List.take_append_drop]
end
section
variable {α : Type} {key : α → Int}
theorem srt_nil : Srt key ([] : List α) := List.Pairwise.nil
theorem srt_one (a : α) : Srt key [a] := List.pairwise_singleton _ _
/-- The last of a sorted list is its greatest. -/
theorem srt_last {u : List α} {a : α} (h : Srt key (u ++ [a])) : ∀ x ∈ u ++ [a], key x ≤ key a := by
  intro x hx
  rcases List.mem_append.1 hx with h1 | h1
  · exact (srt_app.1 h).2.2 x h1 a (by simp)
  · rw [List.mem_singleton.1 h1]; exact Int.le_refl _
theorem srt_head {u : List α} {a : α} (h : Srt key (a :: u)) : ∀ x ∈ a :: u, key a ≤ key x := by
  intro x hx
  rcases List.mem_cons.1 hx with rfl | h1
  · exact Int.le_refl _
  · exact (List.pairwise_cons.1 h).1 x h1
/-- One element in its place among sorted ones, behind its equals. -/
theorem ins_back {u v : List α} {x : α} (h : Srt key (u ++ v)) (hu : ∀ a ∈ u, key a ≤ key x) (hv : ∀ b ∈ v, key x < key b) : Srt key (u ++ x :: v) ∧ Stb key (u ++ x :: v) ((u ++ v) ++ [x]) := by
  obtain ⟨h1, h2, h3⟩ := srt_app.1 h
  refine ⟨srt_app.2 ⟨h1, List.pairwise_cons.2 ⟨fun b hb => by have := hv b hb; omega, h2⟩, ?_⟩, ?_⟩
  · intro a ha b hb
    rcases List.mem_cons.1 hb with rfl | hb
    · exact hu a ha
    · exact h3 a ha b hb
  · have e1 : u ++ x :: v = u ++ ([x] ++ v) := by simp
    have e2 : (u ++ v) ++ [x] = u ++ (v ++ [x]) := by simp
    rw [e1, e2]
    refine (Stb.refl u).app (Stb.comm ?_)
    intro a ha b hb
    rw [List.mem_singleton.1 ha]
    have := hv b hb
    omega
/-- One element in its place among sorted ones, ahead of its equals. -/
theorem ins_front {u v : List α} {x : α} (h : Srt key (u ++ v)) (hu : ∀ a ∈ u, key a < key x) (hv : ∀ b ∈ v, key x ≤ key b) : Srt key (u ++ x :: v) ∧ Stb key (u ++ x :: v) (x :: (u ++ v)) := by
  obtain ⟨h1, h2, h3⟩ := srt_app.1 h
  refine ⟨srt_app.2 ⟨h1, List.pairwise_cons.2 ⟨hv, h2⟩, ?_⟩, ?_⟩
  · intro a ha b hb
    rcases List.mem_cons.1 hb with rfl | hb
    · have := hu a ha; omega
    · exact h3 a ha b hb
  · have e1 : u ++ x :: v = (u ++ [x]) ++ v := by simp
    have e2 : x :: (u ++ v) = ([x] ++ u) ++ v := by simp
    rw [e1, e2]
    refine Stb.app (Stb.comm ?_) (Stb.refl v)
    intro a ha b hb
    rw [List.mem_singleton.1 hb]
    have := hu a ha
    omega
theorem Stb.len {l l' : List α} (h : Stb key l l') : l.length = l'.length := by
  induction l generalizing l' with
  | nil =>
    cases l' with
    | nil => rfl
    | cons b r => have := h.symm.mem (a := b) (by simp); cases this
  | cons a r ih =>
    have hm := h.mem (a := a) (by simp)
    -- the first of a's key in l'
    have h0 := h (key a)
    rw [List.filter_cons, if_pos (by simp)] at h0
    obtain ⟨p, q, e, hp⟩ : ∃ p q, l' = p ++ a :: q ∧ ∀ x ∈ p, key x ≠ key a := by
      clear ih hm
      have : ∀ (m : List α) (s : List α), a :: s = m.filter (fun b => decide (key b = key a)) → ∃ p q, m = p ++ a :: q ∧ ∀ x ∈ p, key x ≠ key a := by
        intro m
        induction m with
        | nil => intro s hs; simp at hs
        | cons b m im =>
          intro s hs
          by_cases e : key b = key a
          · rw [List.filter_cons, if_pos (by simp [e])] at hs
            injection hs with e1 e2
            subst e1
            exact ⟨[], m, rfl, by simp⟩
          · rw [List.filter_cons, if_neg (by simp [e])] at hs
            obtain ⟨p, q, e1, e2⟩ := im s hs
            refine ⟨b :: p, q, by rw [e1]; rfl, ?_⟩
            intro x hx
            rcases List.mem_cons.1 hx with rfl | hx
            · exact e
            · exact e2 x hx
      exact this l' _ h0
    subst e
    have h2 : Stb key r (p ++ q) := by
      intro k
      have h3 := h k
      rw [List.filter_append, List.filter_cons, List.filter_cons] at h3
      rw [List.filter_append]
      by_cases e : key a = k
      · have hpk : p.filter (fun b => decide (key b = k)) = [] := by
          rw [List.filter_eq_nil_iff]
          intro x hx
          simp only [decide_eq_true_eq]
          rw [← e]
          exact hp x hx
        rw [if_pos (by simp [e]), if_pos (by simp [e]), hpk] at h3
        rw [hpk]
        injection h3
      · rw [if_neg (by simp [e]), if_neg (by simp [e])] at h3
        exact h3
    have := ih h2
    simp only [List.length_append, List.length_cons] at this ⊢
    omega
/-- Two sorted lists, cut in two each: how symMerge cuts them. -/
theorem sym_cut {u1 u2 v1 v2 : List α} (hu : Srt key (u1 ++ u2)) (hv : Srt key (v1 ++ v2))
    (hlo : u1 = [] ∨ v2 = [] ∨ ∃ p a b q, u1 = p ++ [a] ∧ v2 = b :: q ∧ key a ≤ key b)
    (hhi : u2 = [] ∨ v1 = [] ∨ ∃ a p q b, u2 = a :: p ∧ v1 = q ++ [b] ∧ key b < key a) :
    (∀ a ∈ u1, ∀ b ∈ v2, key a ≤ key b) ∧ (∀ b ∈ v1, ∀ a ∈ u2, key b < key a) := by
  constructor
  · intro a ha b hb
    rcases hlo with rfl | rfl | ⟨p, a', b', q, rfl, rfl, h⟩
    · cases ha
    · cases hb
    · have h1 := srt_last (srt_app.1 hu).1 a ha
      have h2 := srt_head (srt_app.1 hv).2.1 b hb
      omega
  · intro b hb a ha
    rcases hhi with rfl | rfl | ⟨a', p, q, b', rfl, rfl, h⟩
    · cases ha
    · cases hb
    · have h1 := srt_last (srt_app.1 hv).1 b hb
      have h2 := srt_head (srt_app.1 hu).2.1 a ha
      omega
end
end Go.Proofs.YtnoglbceaibjeaaDoor
/- What a step meets, and what it leaves while those that are not due yet are laid anew: on lists alone. -/
namespace Go.Proofs.YtnoglbceaibjeaaDoor
set_option linter.unusedVariables false
set_option linter.unusedSimpArgs false

section
variable {now now' : Nat} {L : List Tm}
/-- A test that only timers of one slot meet. -/
theorem metL_pred (now now' : Nat) (L : List Tm) {p : Tm → Bool} {n0 s0 : Nat} (h7 : n0 < 7) (h64 : s0 < 64) (hp : ∀ t ∈ L, p t = true → plc now t.tk = (n0, s0)) : (metL now now' L).filter p = if metB now now' n0 s0 = true then L.filter p else [] := by
  have key : ∀ no s, (if metB now now' no s then chn now L no s else []).filter p = if (no, s) = (n0, s0) then (if metB now now' n0 s0 = true then L.filter p else []) else [] := by
    intro no s
    by_cases e : (no, s) = (n0, s0)
    · cases e
      rw [if_pos rfl]
      by_cases hm : metB now now' n0 s0 = true
      · rw [if_pos hm, if_pos hm]
        unfold chn
        rw [List.filter_filter]
        refine List.filter_congr fun t ht => ?_
        cases hq : p t with
        | false => rfl
        | true => rw [hp t ht hq]; simp
      · rw [if_neg hm, if_neg hm]
        rfl
    · rw [if_neg e]
      split
      · unfold chn
        rw [List.filter_filter, List.filter_eq_nil_iff]
        intro t ht q
        simp only [Bool.and_eq_true, decide_eq_true_eq] at q
        exact e (by rw [← hp t ht q.1, q.2])
      · rfl
  unfold metL
  rw [filter_flat]
  have e1 : ∀ no, ((List.range 64).flatMap fun s => if metB now now' no s then chn now L no s else []).filter p = if no = n0 then (if metB now now' n0 s0 = true then L.filter p else []) else [] := by
    intro no
    rw [filter_flat]
    simp only [key]
    by_cases e : no = n0
    · rw [if_pos e, flat_one 64 s0 h64]
      · rw [if_pos (by rw [e])]
      · intro i hi
        rw [if_neg (fun q => hi (by cases q; rfl))]
    · rw [if_neg e, List.flatMap_eq_nil_iff]
      intro i _
      rw [if_neg (fun q => e (by cases q; rfl))]
  simp only [e1]
  rw [flat_one 7 n0 h7 _ (fun i hi => by rw [if_neg hi]), if_pos rfl]
theorem metL_mem {t : Tm} (ht : t ∈ metL now now' L) : t ∈ L ∧ metB now now' (plc now t.tk).1 (plc now t.tk).2 = true := by
  unfold metL at ht
  obtain ⟨no, _, h2⟩ := List.mem_flatMap.1 ht
  obtain ⟨s, _, h4⟩ := List.mem_flatMap.1 h2
  split at h4
  · rename_i hm
    obtain ⟨h5, h6⟩ := List.mem_filter.1 h4
    have e : plc now t.tk = (no, s) := of_decide_eq_true h6
    rw [e]
    exact ⟨h5, hm⟩
  · cases h4
variable (h : now ≤ now') (h1 : now' ≤ maxT) (hL : ∀ t ∈ L, t.tk ≤ maxT)
include h h1 hL
theorem mem_metL {t : Tm} (ht : t ∈ L) (hm : metB now now' (plc now t.tk).1 (plc now t.tk).2 = true) : t ∈ metL now now' L := by
  have hp := plc_lt (Nat.le_trans h h1) (hL t ht)
  have := metL_pred now now' L (p := fun u => decide (u = t)) hp.1 hp.2 (fun u _ hu => by rw [of_decide_eq_true hu])
  rw [if_pos hm] at this
  have h2 : t ∈ L.filter fun u => decide (u = t) := List.mem_filter.2 ⟨ht, by simp⟩
  rw [← this] at h2
  exact (List.mem_filter.1 h2).1
theorem metL_nodup (hn : L.Nodup) : (metL now now' L).Nodup := by
  rw [List.nodup_iff_count]
  intro t
  by_cases ht : t ∈ L
  · have hp := plc_lt (Nat.le_trans h h1) (hL t ht)
    have := metL_pred now now' L (p := fun u => u == t) hp.1 hp.2 (fun u _ hu => by rw [eq_of_beq hu])
    rw [List.count_eq_length_filter, this]
    split
    · rw [← List.count_eq_length_filter]
      exact List.nodup_iff_count.1 hn t
    · exact Nat.zero_le _
  · rw [List.count_eq_zero.2 fun hm => ht (metL_mem hm).1]
    exact Nat.zero_le _
/-- Those that are met and not due lie in one slot, in their order. -/
theorem left_metL : left now' (metL now now' L) = left now' (chn now L (difS now now') (dig now' (difS now now'))) := by
  have hT := (difS_spec (maxT_lt (Nat.le_trans h h1)) (maxT_lt h1)).2.1
  have e0 : left now' (metL now now' L) = (metL now now' L).filter fun t => decide (now' < t.tk) && decide (plc now t.tk = (difS now now', dig now' (difS now now'))) := by
    unfold left
    refine List.filter_congr fun t ht => ?_
    obtain ⟨q1, q2⟩ := metL_mem ht
    by_cases hl : now' < t.tk
    · rw [(met_late h h1 (hL t q1) q2 hl).1]
      simp
    · simp [hl]
  rw [e0, metL_pred now now' L (n0 := difS now now') (s0 := dig now' (difS now now')) (by omega) (dig_lt _ _) (fun t _ hq => by
    simp only [Bool.and_eq_true, decide_eq_true_eq] at hq
    exact hq.2)]
  rw [if_pos (by unfold metB; simp)]
  unfold left chn
  rw [List.filter_filter]
end

/-- The chains when k of those met have been looked at. -/
def midC (now now' : Nat) (L M : List Tm) (no s : Nat) : List Tm :=
  (if metB now now' no s then [] else chn now L no s) ++ M.filter fun t => decide (now' < t.tk) && decide (plc now' t.tk = (no, s))
theorem midC_nil (now now' : Nat) (L : List Tm) : midC now now' L [] = fun no s => if metB now now' no s then [] else chn now L no s := by
  funext no s
  unfold midC
  simp
theorem midC_due {now now' : Nat} {L M : List Tm} {t : Tm} (ht : ¬ now' < t.tk) : midC now now' L (M ++ [t]) = midC now now' L M := by
  funext no s
  unfold midC
  rw [List.filter_append]
  simp [ht]
theorem midC_late {now now' : Nat} {L M : List Tm} {t : Tm} (ht : now' < t.tk) {no s : Nat} (hp : plc now' t.tk = (no, s)) : ∀ n m, midC now now' L (M ++ [t]) n m = if n = no ∧ m = s then midC now now' L M no s ++ [t] else midC now now' L M n m := by
  intro n m
  unfold midC
  rw [List.filter_append]
  by_cases e : n = no ∧ m = s
  · obtain ⟨rfl, rfl⟩ := e
    rw [if_pos (show n = n ∧ m = m from ⟨rfl, rfl⟩)]
    simp [ht, hp]
  · rw [if_neg e]
    have : ([t].filter fun t => decide (now' < t.tk) && decide (plc now' t.tk = (n, m))) = [] := by
      rw [List.filter_cons_of_neg]
      · rfl
      · rw [hp]
        simp
        intro _ a b
        exact e ⟨a.symm, b.symm⟩
    rw [this, List.append_nil]
/-- When all have been looked at, the wheel is that of what is left. -/
theorem midC_all {now now' : Nat} {L : List Tm} (h : now ≤ now') (h1 : now' ≤ maxT) (hL : ∀ t ∈ L, t.tk ≤ maxT) : midC now now' L (metL now now' L) = chn now' (left now' L) := by
  funext no s
  have e0 : (metL now now' L).filter (fun t => decide (now' < t.tk) && decide (plc now' t.tk = (no, s))) = (left now' (metL now now' L)).filter fun t => decide (plc now' t.tk = (no, s)) := by
    unfold left
    rw [List.filter_filter]
    refine List.filter_congr fun t _ => ?_
    exact Bool.and_comm _ _
  unfold midC
  rw [e0]
  cases hm : metB now now' no s with
  | true => rw [if_pos rfl, List.nil_append, left_metL h h1 hL, chn_met h h1 hL hm]
  | false =>
    rw [if_neg (by decide), chn_unmet h h1 hL hm]
    have : (left now' (metL now now' L)).filter (fun t => decide (plc now' t.tk = (no, s))) = [] := by
      rw [List.filter_eq_nil_iff]
      intro t ht q
      obtain ⟨q1, q2⟩ := List.mem_filter.1 ht
      obtain ⟨q3, q4⟩ := metL_mem q1
      have q5 := (met_late h h1 (hL t q3) q4 (of_decide_eq_true q2)).2
      rw [of_decide_eq_true q] at q5
      unfold metB at hm
      simp at hm
      simp only at q5
      omega
    rw [this, List.append_nil]
/-- What is in a chain on the way. -/
theorem midC_mem {now now' : Nat} {L M : List Tm} {no s : Nat} {u : Tm} (hu : u ∈ midC now now' L M no s) : (u ∈ L ∧ plc now u.tk = (no, s) ∧ metB now now' no s = false) ∨ u ∈ M := by
  unfold midC at hu
  rcases List.mem_append.1 hu with h | h
  · left
    split at h
    · cases h
    · rename_i hm
      obtain ⟨h1, h2⟩ := List.mem_filter.1 h
      exact ⟨h1, of_decide_eq_true h2, by simpa using hm⟩
  · exact .inr (List.mem_filter.1 h).1
/-- Those that are due, of the timers looked at. -/
def dueL (now' : Nat) (M : List Tm) : List Tm := M.filter fun t => decide (t.tk ≤ now')
theorem dueL_late {now' : Nat} {M : List Tm} {t : Tm} (ht : now' < t.tk) : dueL now' (M ++ [t]) = dueL now' M := by
  unfold dueL
  rw [List.filter_append]
  have : ¬ t.tk ≤ now' := by omega
  simp [this]
theorem dueL_due {now' : Nat} {M : List Tm} {t : Tm} (ht : ¬ now' < t.tk) : dueL now' (M ++ [t]) = dueL now' M ++ [t] := by
  unfold dueL
  rw [List.filter_append]
  have : t.tk ≤ now' := by omega
  simp [this]
/-- The timers that are still in the map. -/
def inM (now' : Nat) (L M : List Tm) : List Tm := L.filter fun t => decide (t ∉ dueL now' M)
theorem inM_nil (now' : Nat) (L : List Tm) : inM now' L [] = L := List.filter_eq_self.2 fun t _ => by simp [dueL]
theorem inM_all {now now' : Nat} {L : List Tm} (h : now ≤ now') (h1 : now' ≤ maxT) (hL : ∀ t ∈ L, t.tk ≤ maxT) : inM now' L (metL now now' L) = left now' L := by
  unfold inM left
  refine List.filter_congr fun t ht => ?_
  rw [decide_eq_decide]
  unfold dueL
  constructor
  · intro hn
    rcases Nat.lt_or_ge now' t.tk with a | a
    · exact a
    · exact absurd (List.mem_filter.2 ⟨mem_metL h h1 hL ht (met_of_due h h1 (hL t ht) a), decide_eq_true a⟩) hn
  · intro hl hm
    have := of_decide_eq_true (List.mem_filter.1 hm).2
    omega
theorem ids_inj {L : List Tm} (hn : (L.map Tm.id).Nodup) {a b : Tm} (ha : a ∈ L) (hb : b ∈ L) (e : a.id = b.id) : a = b := by
  obtain ⟨i, hi⟩ := List.getElem?_of_mem ha
  obtain ⟨j, hj⟩ := List.getElem?_of_mem hb
  have e1 : (L.map Tm.id)[i]? = some a.id := by rw [List.getElem?_map, hi]; rfl
  have e2 : (L.map Tm.id)[j]? = some a.id := by rw [List.getElem?_map, hj, e]; rfl
  obtain rfl := (List.getElem?_inj (List.getElem?_eq_some_iff.1 e1).1 hn).1 (e1.trans e2.symm)
  rw [hi] at hj
  exact Option.some.inj hj
theorem ids_nodup {L : List Tm} (hn : (L.map Tm.id).Nodup) : L.Nodup := by
  induction L with
  | nil => exact List.nodup_nil
  | cons a l ih =>
    simp only [List.map_cons, List.nodup_cons] at hn
    exact List.nodup_cons.2 ⟨fun hm => hn.1 (List.mem_map_of_mem hm), ih hn.2⟩
theorem inM_due {now' : Nat} {L M : List Tm} (hn : (L.map Tm.id).Nodup) {t : Tm} (htL : t ∈ L) (ht : ¬ now' < t.tk) : inM now' L (M ++ [t]) = (inM now' L M).filter fun u => decide (u.id ≠ t.id) := by
  unfold inM
  rw [List.filter_filter, dueL_due ht]
  refine List.filter_congr fun u hu => ?_
  rw [Bool.eq_iff_iff]
  simp only [Bool.and_eq_true, decide_eq_true_eq, List.mem_append, List.mem_singleton, not_or]
  constructor
  · rintro ⟨a, b⟩
    exact ⟨fun e => b (ids_inj hn hu htL e), a⟩
  · rintro ⟨a, b⟩
    exact ⟨b, fun e => a (by rw [e])⟩
/-- A bound on how many a step meets. -/
theorem flat_len {α : Type} (n k : Nat) (f : Nat → List α) (hf : ∀ i, (f i).length ≤ k) : ((List.range n).flatMap f).length ≤ n * k := by
  induction n with
  | zero => simp
  | succ n ih =>
    rw [List.range_succ, List.flatMap_append, List.length_append, Nat.succ_mul]
    simp only [List.flatMap_cons, List.flatMap_nil, List.append_nil]
    have := hf n
    omega
end Go.Proofs.YtnoglbceaibjeaaDoor
/- A row of timers that is changed in place: two of its elements exchanged. -/
namespace Go.Proofs.YtnoglbceaibjeaaDoor
set_option linter.unusedVariables false
set_option linter.unusedSimpArgs false
open Go.ChangeShapes Go.WideShapes Go.ChangeAt Go.RowKit

/-- The row in block g, of the call's own, holds l; the timers lie in memory. -/
structure Arow (w : World) (base g c n : Nat) (l : List Tm) : Prop where
  row : w.ownsRow base 60 1 (.slice (some ⟨g, 0, none⟩) n c) n (l.map tpV)
  len : l.length = n
  low : base ≤ g
  tms : ∀ t ∈ l, ∃ x y, w.heap[t.blk]? = some (.cells (tmC t x y) 70 (0, 0))
section
variable {w w' : World} {base g c n : Nat} {l : List Tm}
theorem Arow.cell (h : Arow w base g c n l) {i : Nat} {t : Tm} (hi : l[i]? = some t) : w.cell? ⟨g, i, none⟩ = some (.pointer (some ⟨t.blk, 0, none⟩)) := by
  have hl : i < n := by rw [← h.len]; exact (List.getElem?_eq_some_iff.1 hi).1
  rw [h.row.cellAt i (by omega), List.getElem?_map, hi]
  rfl
theorem Arow.froz (h : Arow w base g c n l) (i : Nat) : w.frozen? ⟨g, i, none⟩ = false := h.row.frozenAt i
theorem Arow.tick (h : Arow w base g c n l) {t : Tm} (ht : t ∈ l) : w.cell? ⟨t.blk, 1, none⟩ = some (.int .i64 (t.tk : Int)) ∧ t.blk < w.heap.size := by
  obtain ⟨x, y, hb⟩ := h.tms t ht
  exact ⟨(cell_of_row w t.blk 1 _ _ _ hb).trans rfl, (Array.getElem?_eq_some_iff.1 hb).1⟩
theorem Arow.grow (h : Arow w base g c n l) (k : Grow w w') : Arow w' base g c n l :=
  ⟨ownsRow_other h.row fun b cs _ hh => k.block b (Array.getElem?_eq_some_iff.1 hh).1, h.len, h.low, fun t ht => by
    obtain ⟨x, y, hb⟩ := h.tms t ht
    exact ⟨x, y, (k.block _ (Array.getElem?_eq_some_iff.1 hb).1).trans hb⟩⟩
theorem Arow.bas (h : Arow w base g c n l) : base ≤ w.heap.size := by
  rcases h.row.2 with ⟨e, _⟩ | ⟨g', cap, cur, e, e2, hh, _⟩
  · cases e
  · exact Nat.le_trans e2 (Nat.le_of_lt (Array.getElem?_eq_some_iff.1 hh).1)
/-- One element stored. -/
theorem Arow.set (h : Arow w base g c n l) (i : Nat) {t : Tm} (ht : ∃ x y, w.heap[t.blk]? = some (.cells (tmC t x y) 70 (0, 0))) : Arow (w.setCell ⟨g, i, none⟩ (.pointer (some ⟨t.blk, 0, none⟩))) base g c n (l.set i t) ∧ Only base Zr w (w.setCell ⟨g, i, none⟩ (.pointer (some ⟨t.blk, 0, none⟩))) := by
  obtain ⟨h1, h2⟩ := h.row.stored i (.pointer (some ⟨t.blk, 0, none⟩))
  have hO : Only base Zr w (w.setCell ⟨g, i, none⟩ (.pointer (some ⟨t.blk, 0, none⟩))) := by
    refine Only.grown h2 (fun g' e => ?_) h.bas
    cases e
    refine ⟨h.low, fun o T ho hT => ?_⟩
    rcases h.row.2 with ⟨e, _⟩ | ⟨g', cap, cur, e, e2, hh, _⟩
    · cases e
    · cases e
      rw [hh] at ho
      cases ho
      cases hT
      rfl
  refine ⟨⟨?_, by rw [List.length_set]; exact h.len, h.low, ?_⟩, hO⟩
  · rw [List.map_set]
    exact h1
  · intro u hu
    have hu' : ∃ x y, w.heap[u.blk]? = some (.cells (tmC u x y) 70 (0, 0)) := by
      rcases List.mem_or_eq_of_mem_set hu with e | e
      · exact h.tms u e
      · rw [e]; exact ht
    obtain ⟨x, y, hb⟩ := hu'
    exact ⟨x, y, hO.cells hb (fun e => absurd (show 70 = 60 from e) (by decide))⟩
/-- Two elements exchanged: what the two stores need, and what they leave. -/
theorem Arow.swap (h : Arow w base g c n l) {i j : Nat} {a b : Tm} (hi : l[i]? = some a) (hj : l[j]? = some b) :
    (w.setCell ⟨g, i, none⟩ (.pointer (some ⟨b.blk, 0, none⟩))).frozen? ⟨g, j, none⟩ = false ∧ (∃ v, (w.setCell ⟨g, i, none⟩ (.pointer (some ⟨b.blk, 0, none⟩))).cell? ⟨g, j, none⟩ = some v) ∧
    Arow ((w.setCell ⟨g, i, none⟩ (.pointer (some ⟨b.blk, 0, none⟩))).setCell ⟨g, j, none⟩ (.pointer (some ⟨a.blk, 0, none⟩))) base g c n (swp l i j a b) ∧
    Only base Zr w ((w.setCell ⟨g, i, none⟩ (.pointer (some ⟨b.blk, 0, none⟩))).setCell ⟨g, j, none⟩ (.pointer (some ⟨a.blk, 0, none⟩))) := by
  have ha := List.mem_of_getElem? hi
  have hb := List.mem_of_getElem? hj
  obtain ⟨h1, o1⟩ := h.set i (h.tms b hb)
  have hjl := (List.getElem?_eq_some_iff.1 hj).1
  obtain ⟨x, hx⟩ : ∃ x, (l.set i b)[j]? = some x := ⟨_, List.getElem?_eq_getElem (by rw [List.length_set]; exact hjl)⟩
  have hta : ∃ x y, (w.setCell ⟨g, i, none⟩ (.pointer (some ⟨b.blk, 0, none⟩))).heap[a.blk]? = some (.cells (tmC a x y) 70 (0, 0)) := by
    obtain ⟨x, y, hab⟩ := h.tms a ha
    exact ⟨x, y, o1.cells hab (fun e => absurd (show 70 = 60 from e) (by decide))⟩
  obtain ⟨h2, o2⟩ := h1.set j hta
  exact ⟨h1.froz j, ⟨_, h1.cell hx⟩, h2, o1.trans o2⟩
end
end Go.Proofs.YtnoglbceaibjeaaDoor
/- Contract: slices' swapRange on a row of timers. -/
namespace Go.Proofs.YtnoglbceaibjeaaDoor
set_option linter.unusedVariables false
set_option linter.unusedSimpArgs false
open Go.ChangeShapes Go.WideShapes Go.ChangeAt Go.RowKit Go.Shelf

def mixL (p x q y s : List Tm) (i : Nat) : List Tm := p ++ (y.take i ++ (x.drop i ++ (q ++ (x.take i ++ (y.drop i ++ s)))))
theorem mix_zero (p x q y s : List Tm) : mixL p x q y s 0 = p ++ (x ++ (q ++ (y ++ s))) := by simp [mixL]
theorem mix_all {p x q y s : List Tm} (h : x.length = y.length) : mixL p x q y s x.length = p ++ (y ++ (q ++ (x ++ s))) := by
  unfold mixL
  rw [List.take_of_length_le (by omega), List.drop_of_length_le (Nat.le_refl _), List.take_of_length_le (Nat.le_refl _), List.drop_of_length_le (by omega)]
  rfl
theorem mix_step {p x q y s : List Tm} (h : x.length = y.length) {i : Nat} (hi : i < x.length) : ∃ (u v t : List Tm) (a b : Tm), mixL p x q y s i = u ++ a :: (v ++ b :: t) ∧ mixL p x q y s (i + 1) = u ++ b :: (v ++ a :: t) ∧ u.length = p.length + i ∧ u.length + 1 + v.length = p.length + x.length + q.length + i := by
  refine ⟨p ++ y.take i, x.drop (i + 1) ++ (q ++ x.take i), y.drop (i + 1) ++ s, x[i], y[i]'(by omega), ?_, ?_, ?_, ?_⟩
  · unfold mixL
    rw [List.drop_eq_getElem_cons hi, List.drop_eq_getElem_cons (show i < y.length by omega)]
    simp only [List.append_assoc, List.cons_append, List.nil_append]
  · unfold mixL
    rw [List.take_succ_eq_append_getElem (show i < y.length by omega), List.take_succ_eq_append_getElem hi]
    simp only [List.append_assoc, List.cons_append, List.nil_append]
  · simp; omega
  · simp; omega
/-- What the exchange of two elements needs and leaves. -/
theorem Arow.swap_at {w : World} {base g c n : Nat} {l u v t : List Tm} {a b : Tm} {I J : Nat} (h : Arow w base g c n l) (hl : l = u ++ a :: (v ++ b :: t)) (hI : I = u.length) (hJ : J = u.length + 1 + v.length) :
    I < n ∧ J < n ∧ w.cell? ⟨g, I, none⟩ = some (.pointer (some ⟨a.blk, 0, none⟩)) ∧ w.cell? ⟨g, J, none⟩ = some (.pointer (some ⟨b.blk, 0, none⟩)) ∧ w.frozen? ⟨g, I, none⟩ = false ∧ w.frozen? ⟨g, J, none⟩ = false ∧
    (w.setCell ⟨g, I, none⟩ (.pointer (some ⟨b.blk, 0, none⟩))).frozen? ⟨g, J, none⟩ = false ∧ (w.setCell ⟨g, I, none⟩ (.pointer (some ⟨b.blk, 0, none⟩))).cell? ⟨g, J, none⟩ = some (.pointer (some ⟨b.blk, 0, none⟩)) ∧
    (Arow ((w.setCell ⟨g, I, none⟩ (.pointer (some ⟨b.blk, 0, none⟩))).setCell ⟨g, J, none⟩ (.pointer (some ⟨a.blk, 0, none⟩))) base g c n (u ++ b :: (v ++ a :: t)) ∧
      Only base Zr w ((w.setCell ⟨g, I, none⟩ (.pointer (some ⟨b.blk, 0, none⟩))).setCell ⟨g, J, none⟩ (.pointer (some ⟨a.blk, 0, none⟩)))) ∧
    (w.setCell ⟨g, J, none⟩ (.pointer (some ⟨a.blk, 0, none⟩))).frozen? ⟨g, I, none⟩ = false ∧ (w.setCell ⟨g, J, none⟩ (.pointer (some ⟨a.blk, 0, none⟩))).cell? ⟨g, I, none⟩ = some (.pointer (some ⟨a.blk, 0, none⟩)) ∧
    (Arow ((w.setCell ⟨g, J, none⟩ (.pointer (some ⟨a.blk, 0, none⟩))).setCell ⟨g, I, none⟩ (.pointer (some ⟨b.blk, 0, none⟩))) base g c n (u ++ b :: (v ++ a :: t)) ∧
      Only base Zr w ((w.setCell ⟨g, J, none⟩ (.pointer (some ⟨a.blk, 0, none⟩))).setCell ⟨g, I, none⟩ (.pointer (some ⟨b.blk, 0, none⟩)))) := by
  subst hI hJ hl
  have hlen := h.len
  have g1 := get_mid u (v ++ b :: t) a
  have g2 := get_two u v t a b
  have hn : u.length ≠ u.length + 1 + v.length := by omega
  obtain ⟨_, _, s3, s4⟩ := h.swap g1 g2
  obtain ⟨_, _, r3, r4⟩ := h.swap g2 g1
  rw [swp_mid] at s3
  rw [← swp_comm _ _ _ _ _ hn, swp_mid] at r3
  have k1 := h.cell g1
  have k2 := h.cell g2
  simp at hlen
  refine ⟨by omega, by omega, k1, k2, h.froz _, h.froz _, (h.set _ (h.tms b (by simp))).1.froz _, ?_, ⟨s3, s4⟩, (h.set _ (h.tms a (by simp))).1.froz _, ?_, ⟨r3, r4⟩⟩
  · rw [World.cell?_setCell_other _ _ _ _ (show (⟨g, u.length, none⟩ : Addr) ≠ ⟨g, u.length + 1 + v.length, none⟩ from fun e => hn (congrArg Addr.off e))]
    exact k2
  · rw [World.cell?_setCell_other _ _ _ _ (show (⟨g, u.length + 1 + v.length, none⟩ : Addr) ≠ ⟨g, u.length, none⟩ from fun e => hn (congrArg Addr.off e).symm)]
    exact k1

set_option maxHeartbeats 2000000 in
theorem swapRange_any (w : World) (base g c n : Nat) (p x q y s : List Tm) (F : Value) (h : Arow w base g c n (p ++ (x ++ (q ++ (y ++ s))))) (hxy : x.length = y.length) (hn : n ≤ 1000000) (A B K : Nat) (hA : A = p.length) (hB : B = p.length + x.length + q.length) (hK : K = x.length) :
    Calls Tryd.prog 46 #[.slice (some ⟨g, 0, none⟩) n c, .int .i64 (A : Int), .int .i64 (B : Int), .int .i64 (K : Int), F] w fun e w' => e = .returned (.tuple #[]) ∧ Arow w' base g c n (p ++ (y ++ (q ++ (x ++ s)))) ∧ Only base Zr w w' := by
  have hlen := h.len
  simp only [List.length_append] at hlen
  have HB : Hid (A + K ≤ 1000000 ∧ B + K ≤ 1000000 ∧ A + K ≤ B) := ⟨by omega, by omega, by omega⟩
  have H0 : Hid (Arow w base g c n (mixL p x q y s 0)) := by rw [mix_zero]; exact h
  have HE : Hid (mixL p x q y s K = p ++ (y ++ (q ++ (x ++ s)))) := by rw [hK]; exact mix_all hxy
  have HS : Hid (∀ i, i < K → ∃ (u v t : List Tm) (a b : Tm), mixL p x q y s i = u ++ a :: (v ++ b :: t) ∧ mixL p x q y s (i + 1) = u ++ b :: (v ++ a :: t) ∧ A + i = u.length ∧ B + i = u.length + 1 + v.length) := by
    intro i hi
    obtain ⟨u, v, t, a, b, h1, h2, h3, h4⟩ := mix_step (p := p) (q := q) (s := s) hxy (i := i) (by omega)
    exact ⟨u, v, t, a, b, h1, h2, by omega, by omega⟩
  have HN := Lib.hid hn
  clear h hxy hlen hA hB hK hn
  go_enter Tryd.func46, Tryd.ntmps46
  go_wp2_with fail
  go_loopg [10] K (fun gk s10 wr => ∃ i : Nat, i ≤ K ∧ gk = K - i ∧ s10 = .int .i64 (i : Int) ∧ Hid (Arow wr base g c n (mixL p x q y s i) ∧ Only base Zr w wr))
  case atStart => exact ⟨0, Nat.zero_le _, rfl, rfl, H0.out, Only.refl _ _ _⟩
  case round =>
    obtain ⟨i, hi, rfl, rfl, HR⟩ := hrel
    rcases Nat.lt_or_ge i K with hlt | hge
    · obtain ⟨u, v, t, a, b, m1, m2, m3, m4⟩ := HS.out i hlt
      have i0 : (i : Int) < (K : Int) := by omega
      have hD : Arow wr.drew base g c n (mixL p x q y s i) := HR.out.1.grow (Grow.drew _)
      have oD : Only base Zr w wr.drew := HR.out.2.trans (Only.grow (Grow.drew _) HR.out.1.bas Zr)
      obtain ⟨j1, j2, k1, k2, k3, k4, _⟩ := HR.out.1.swap_at m1 m3 m4
      obtain ⟨_, _, _, _, _, _, _, _, k7, _, _, _⟩ := hD.swap_at m1 m3 m4
      have HX : Hid (Arow _ base g c n _ ∧ Only base Zr w _) := ⟨k7.1, oD.trans k7.2⟩
      have HM := Lib.hid m2
      have hb := HB.out
      obtain ⟨I, hI⟩ : ∃ I, I = A + i := ⟨_, rfl⟩
      obtain ⟨J, hJ⟩ : ∃ J, J = B + i := ⟨_, rfl⟩
      rw [← hI] at j1 k1 k3 HX
      rw [← hJ] at j2 k2 k4 HX
      have e1 : (A : Int) + (i : Int) = (I : Int) := by omega
      have e2 : (B : Int) + (i : Int) = (J : Int) := by omega
      have e3 : IntKind.i64.wrap (I : Int) = (I : Int) := IntWalk.i64_in _ (by omega)
      have e4 : IntKind.i64.wrap (J : Int) = (J : Int) := IntWalk.i64_in _ (by omega)
      have e5 : IntKind.i64.wrap ((A : Int) + (i : Int)) = (I : Int) := by rw [e1]; exact e3
      have e6 : IntKind.i64.wrap ((B : Int) + (i : Int)) = (J : Int) := by rw [e2]; exact e4
      have i1 : (I : Int) < (n : Int) := by omega
      have i2 : (J : Int) < (n : Int) := by omega
      have iK : K ≤ 1000000 := by omega
      have iIJ : I < J := by omega
      clear k7 hD oD m1 m2 m3 m4 hb hI hJ j1 j2
      go_upto_region 3 with fail
      go_region
      go_wp2_with fail
      go_roundg (K - (i + 1))
      case measure => omega
      case rel => exact ⟨i + 1, by omega, rfl, by go_num, by rw [HM.out]; exact HX.out⟩
    · obtain rfl : i = K := by omega
      rw [HE.out] at HR
      go_wp2_with fail
      refine bodyPost_end (results_none rfl _ _ _) rfl ?_
      exact ⟨rfl, HR.out⟩
end Go.Proofs.YtnoglbceaibjeaaDoor
/- Contract: slices' rotate on a row of timers. -/
namespace Go.Proofs.YtnoglbceaibjeaaDoor
set_option linter.unusedVariables false
set_option linter.unusedSimpArgs false
open Go.ChangeShapes Go.WideShapes Go.ChangeAt Go.RowKit Go.Shelf

/-- What is still to be rotated: the two parts that meet at m. -/
def RotAt (w : World) (base g c n m i j : Nat) (T : List Tm) : Prop := ∃ P U V S : List Tm, Arow w base g c n (P ++ (U ++ (V ++ S))) ∧ P ++ (V ++ (U ++ S)) = T ∧ P.length + U.length = m ∧ U.length = i ∧ V.length = j
theorem RotAt.more {w : World} {base g c n m i j : Nat} {T : List Tm} (h : RotAt w base g c n m i j T) (hij : j < i) (hn : n ≤ 1000000) (F : Value) (A : Nat) (hA : A = m - i) :
    i ≤ m ∧ m + j ≤ n ∧ Calls Tryd.prog 46 #[.slice (some ⟨g, 0, none⟩) n c, .int .i64 (A : Int), .int .i64 (m : Int), .int .i64 (j : Int), F] w fun e w' => e = .returned (.tuple #[]) ∧ RotAt w' base g c n m (i - j) j T ∧ Only base Zr w w' := by
  obtain ⟨P, U, V, S, h1, h2, h3, h4, h5⟩ := h
  have hlen := h1.len
  simp only [List.length_append] at hlen
  have e1 : P ++ (U ++ (V ++ S)) = P ++ (U.take j ++ (U.drop j ++ (V ++ S))) := by
    rw [← List.append_assoc (U.take j), List.take_append_drop]
  rw [e1] at h1
  refine ⟨by omega, by omega, (swapRange_any w base g c n P (U.take j) (U.drop j) V S F h1 (by rw [List.length_take]; omega) hn A m j (by omega) (by rw [List.length_take, List.length_drop]; omega) (by rw [List.length_take]; omega)).mono ?_⟩
  rintro e w' ⟨rfl, h6, h7⟩
  refine ⟨rfl, ⟨P ++ V, U.drop j, U.take j, S, by rw [List.append_assoc]; exact h6, ?_, ?_, ?_, ?_⟩, h7⟩
  · rw [← h2, ← List.append_assoc (U.take j), List.take_append_drop, List.append_assoc]
  · rw [List.length_append, List.length_drop]; omega
  · rw [List.length_drop]; omega
  · rw [List.length_take]; omega
theorem RotAt.less {w : World} {base g c n m i j : Nat} {T : List Tm} (h : RotAt w base g c n m i j T) (hij : i ≤ j) (hn : n ≤ 1000000) (F : Value) (A B : Nat) (hA : A = m - i) (hB : B = m + j - i) :
    i ≤ m ∧ m + j ≤ n ∧ Calls Tryd.prog 46 #[.slice (some ⟨g, 0, none⟩) n c, .int .i64 (A : Int), .int .i64 (B : Int), .int .i64 (i : Int), F] w fun e w' => e = .returned (.tuple #[]) ∧ RotAt w' base g c n m i (j - i) T ∧ Only base Zr w w' := by
  obtain ⟨P, U, V, S, h1, h2, h3, h4, h5⟩ := h
  have hlen := h1.len
  simp only [List.length_append] at hlen
  have e1 : P ++ (U ++ (V ++ S)) = P ++ (U ++ (V.take (j - i) ++ (V.drop (j - i) ++ S))) := by
    rw [← List.append_assoc (V.take (j - i)), List.take_append_drop]
  rw [e1] at h1
  refine ⟨by omega, by omega, (swapRange_any w base g c n P U (V.take (j - i)) (V.drop (j - i)) S F h1 (by rw [List.length_drop]; omega) hn A B i (by omega) (by rw [List.length_take]; omega) (by omega)).mono ?_⟩
  rintro e w' ⟨rfl, h6, h7⟩
  refine ⟨rfl, ⟨P, V.drop (j - i), V.take (j - i), U ++ S, h6, ?_, ?_, ?_, ?_⟩, h7⟩
  · rw [← h2]
    congr 1
    rw [← List.append_assoc (V.take (j - i)), List.take_append_drop]
  · rw [List.length_drop]; omega
  · rw [List.length_drop]; omega
  · rw [List.length_take]; omega
theorem RotAt.done {w : World} {base g c n m i : Nat} {T : List Tm} (h : RotAt w base g c n m i 0 T) : Arow w base g c n T := by
  obtain ⟨P, U, V, S, h1, h2, h3, h4, h5⟩ := h
  obtain rfl : V = [] := List.eq_nil_of_length_eq_zero h5
  rw [← h2]
  exact h1

set_option maxHeartbeats 2000000 in
theorem rotate_any (w : World) (base g c n : Nat) (p u v s : List Tm) (F : Value) (h : Arow w base g c n (p ++ (u ++ (v ++ s)))) (hu : u ≠ []) (hv : v ≠ []) (hn : n ≤ 1000000) (A M B : Nat) (hA : A = p.length) (hM : M = p.length + u.length) (hB : B = p.length + u.length + v.length) :
    Calls Tryd.prog 45 #[.slice (some ⟨g, 0, none⟩) n c, .int .i64 (A : Int), .int .i64 (M : Int), .int .i64 (B : Int), F] w fun e w' => e = .returned (.tuple #[]) ∧ Arow w' base g c n (p ++ (v ++ (u ++ s))) ∧ Only base Zr w w' := by
  have hlen := h.len
  simp only [List.length_append] at hlen
  have hu0 := List.length_pos_iff.2 hu
  have hv0 := List.length_pos_iff.2 hv
  obtain ⟨i0, hi0⟩ : ∃ i0, i0 = u.length := ⟨_, rfl⟩
  obtain ⟨j0, hj0⟩ : ∃ j0, j0 = v.length := ⟨_, rfl⟩
  have H0 : Hid (RotAt w base g c n M i0 j0 (p ++ (v ++ (u ++ s)))) := ⟨p, u, v, s, h, rfl, hM.symm, hi0.symm, hj0.symm⟩
  have HP : Hid (0 < i0 ∧ 0 < j0 ∧ i0 + j0 ≤ 1000000) := ⟨by omega, by omega, by omega⟩
  generalize p ++ (v ++ (u ++ s)) = T at *
  have e1 : (M : Int) - (A : Int) = (i0 : Int) := by omega
  have e2 : (B : Int) - (M : Int) = (j0 : Int) := by omega
  have e3 : IntKind.i64.wrap (i0 : Int) = (i0 : Int) := IntWalk.i64_in _ (by omega)
  have e4 : IntKind.i64.wrap (j0 : Int) = (j0 : Int) := IntWalk.i64_in _ (by omega)
  have e5 : IntKind.i64.wrap ((M : Int) - (A : Int)) = (i0 : Int) := by rw [e1]; exact e3
  have e6 : IntKind.i64.wrap ((B : Int) - (M : Int)) = (j0 : Int) := by rw [e2]; exact e4
  have HN := Lib.hid hn
  clear h hu hv hlen hA hM hB hn hu0 hv0 hi0 hj0
  go_enter Tryd.func45, Tryd.ntmps45
  go_wp2_with fail
  clear e1 e2 e3 e4 e5 e6
  go_loopg [10, 11] (i0 + j0) (fun gk s10 s11 wr => ∃ i j : Nat, gk = i + j ∧ s10 = .int .i64 (i : Int) ∧ s11 = .int .i64 (j : Int) ∧ Hid (RotAt wr base g c n M i j T ∧ Only base Zr w wr ∧ 0 < i ∧ 0 < j ∧ i + j ≤ 1000000))
  case atStart => exact ⟨i0, j0, rfl, rfl, rfl, H0.out, Only.refl _ _ _, HP.out⟩
  case round =>
    obtain ⟨i, j, rfl, rfl, rfl, HR⟩ := hrel
    rcases Nat.lt_trichotomy i j with hij | rfl | hij
    · obtain ⟨A1, hA1⟩ : ∃ A1, A1 = M - i := ⟨_, rfl⟩
      obtain ⟨B0, hB0⟩ : ∃ B0, B0 = M + j := ⟨_, rfl⟩
      obtain ⟨B1, hB1⟩ : ∃ B1, B1 = M + j - i := ⟨_, rfl⟩
      obtain ⟨J1, hJ1⟩ : ∃ J1, J1 = j - i := ⟨_, rfl⟩
      obtain ⟨q1, q2, c0⟩ := HR.out.1.less (by omega) HN.out F A1 B1 hA1 hB1
      have hn := HN.out
      have t1 : ¬ ((i : Int) = (j : Int)) := by omega
      have t2 : ¬ ((j : Int) < (i : Int)) := by omega
      have t3 : ¬ (j < i) := by omega
      have e1 : (M : Int) - (i : Int) = (A1 : Int) := by omega
      have e2 : (M : Int) + (j : Int) = (B0 : Int) := by omega
      have e3 : (B0 : Int) - (i : Int) = (B1 : Int) := by omega
      have e4 : (j : Int) - (i : Int) = (J1 : Int) := by omega
      have r1 : IntKind.i64.wrap (A1 : Int) = (A1 : Int) := IntWalk.i64_in _ (by omega)
      have r2 : IntKind.i64.wrap (B0 : Int) = (B0 : Int) := IntWalk.i64_in _ (by omega)
      have r3 : IntKind.i64.wrap (B1 : Int) = (B1 : Int) := IntWalk.i64_in _ (by omega)
      have r4 : IntKind.i64.wrap (J1 : Int) = (J1 : Int) := IntWalk.i64_in _ (by omega)
      have HJ := Lib.hid hJ1
      have HI := Lib.hid hij
      clear hA1 hB0 hB1 hJ1 hn q1 q2 hij
      go_wp2_with fail
      refine c0.mono ?_
      rintro e w2 ⟨rfl, h2, o2⟩
      have H2 := Lib.hid (And.intro h2 o2)
      clear h2 o2 c0
      go_wp2_with fail
      go_roundg (i + J1)
      case measure => have := HJ.out; have := HI.out; have := HR.out.2.2.1; omega
      case rel => exact ⟨i, J1, rfl, rfl, rfl, by rw [HJ.out]; exact H2.out.1, HR.out.2.1.trans H2.out.2, HR.out.2.2.1, by have := HJ.out; have := HI.out; omega, by have := HJ.out; have := HR.out.2.2.2.2; omega⟩
    · obtain ⟨A1, hA1⟩ : ∃ A1, A1 = M - i := ⟨_, rfl⟩
      obtain ⟨q1, q2, c0⟩ := HR.out.1.less (Nat.le_refl _) HN.out F A1 M hA1 (by omega)
      have hn := HN.out
      have e1 : (M : Int) - (i : Int) = (A1 : Int) := by omega
      have r1 : IntKind.i64.wrap (A1 : Int) = (A1 : Int) := IntWalk.i64_in _ (by omega)
      clear hA1 hn q1 q2
      go_wp2_with fail
      refine c0.mono ?_
      rintro e w2 ⟨rfl, h2, o2⟩
      have H2 := Lib.hid (And.intro h2 o2)
      clear h2 o2 c0
      go_wp2_with fail
      refine bodyPost_end (results_none rfl _ _ _) rfl ?_
      refine ⟨rfl, ?_, HR.out.2.1.trans H2.out.2⟩
      have := H2.out.1
      rw [Nat.sub_self] at this
      exact this.done
    · obtain ⟨A1, hA1⟩ : ∃ A1, A1 = M - i := ⟨_, rfl⟩
      obtain ⟨I1, hI1⟩ : ∃ I1, I1 = i - j := ⟨_, rfl⟩
      obtain ⟨q1, q2, c0⟩ := HR.out.1.more hij HN.out F A1 hA1
      have hn := HN.out
      have t1 : ¬ ((i : Int) = (j : Int)) := by omega
      have t2 : (j : Int) < (i : Int) := by omega
      have e1 : (M : Int) - (i : Int) = (A1 : Int) := by omega
      have e4 : (i : Int) - (j : Int) = (I1 : Int) := by omega
      have r1 : IntKind.i64.wrap (A1 : Int) = (A1 : Int) := IntWalk.i64_in _ (by omega)
      have r4 : IntKind.i64.wrap (I1 : Int) = (I1 : Int) := IntWalk.i64_in _ (by omega)
      have HJ := Lib.hid hI1
      have HI := Lib.hid hij
      clear hA1 hI1 hn q1 q2 hij
      go_wp2_with fail
      refine c0.mono ?_
      rintro e w2 ⟨rfl, h2, o2⟩
      have H2 := Lib.hid (And.intro h2 o2)
      clear h2 o2 c0
      go_wp2_with fail
      go_roundg (I1 + j)
      case measure => have := HJ.out; have := HI.out; have := HR.out.2.2.2.1; omega
      case rel => exact ⟨I1, j, rfl, rfl, rfl, by rw [HJ.out]; exact H2.out.1, HR.out.2.1.trans H2.out.2, by have := HJ.out; have := HI.out; omega, HR.out.2.2.2.1, by have := HJ.out; have := HR.out.2.2.2.2; omega⟩
end Go.Proofs.YtnoglbceaibjeaaDoor
