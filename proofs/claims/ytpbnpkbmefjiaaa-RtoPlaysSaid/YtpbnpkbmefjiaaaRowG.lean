/- Rows of elements of any make: their cells, fronts, tails, one more, one less: of no program. -/
import Derived.Test.YtpbnpkbmefjiaaaGen
import Derived.Lib.Hide
namespace Go.Proofs.Ytpbnpkbmefjiaaa
set_option linter.unusedVariables false
set_option linter.unusedSimpArgs false
open Go.ChangeShapes Go.WideShapes Go.ChangeAt Go.RowKit

/-- How an element lies in memory. -/
structure Cel (α : Type) where
  f : α → List Value
  K : Nat
  len : ∀ a, (f a).length = K
  one : ∀ a, ∀ y ∈ f a, y.oneCell' = true
section
variable {α : Type} (c : Cel α)
theorem Cel.flat_len : ∀ l : List α, (l.flatMap c.f).length = l.length * c.K
  | [] => by simp
  | t :: l => by
    rw [List.flatMap_cons, List.length_append, Cel.flat_len l, List.length_cons, c.len, Nat.succ_mul, Nat.add_comm]
theorem Cel.flat_at : ∀ (l : List α) (k : Nat) (x : α), l[k]? = some x → ∀ r u, (c.f x)[r]? = some u → (l.flatMap c.f)[k * c.K + r]? = some u
  | [], k, x, h, _, _, _ => by simp at h
  | t :: l, 0, x, h, r, u, hr => by
    obtain rfl : t = x := by simpa using h
    rw [List.flatMap_cons, List.getElem?_append_left (by have := (List.getElem?_eq_some_iff.1 hr).1; omega)]
    simpa using hr
  | t :: l, k + 1, x, h, r, u, hr => by
    have ih := Cel.flat_at l k x (by simpa using h) r u hr
    have h2 := c.len t
    rw [List.flatMap_cons, List.getElem?_append_right (by rw [h2, Nat.succ_mul]; omega), h2, show (k + 1) * c.K + r - c.K = k * c.K + r from by rw [Nat.succ_mul]; omega]
    exact ih
theorem Cel.take : ∀ (l : List α) (k : Nat), (l.take k).flatMap c.f = (l.flatMap c.f).take (k * c.K)
  | [], k => by simp
  | t :: l, 0 => by simp
  | t :: l, k + 1 => by
    have h2 := c.len t
    rw [List.take_succ_cons, List.flatMap_cons, List.flatMap_cons, Cel.take l k, List.take_append, List.take_of_length_le (l := c.f t) (i := (k + 1) * c.K) (by rw [h2, Nat.succ_mul]; omega), h2, show (k + 1) * c.K - c.K = k * c.K from by rw [Nat.succ_mul]; omega]
theorem Cel.drop : ∀ (l : List α) (k : Nat), (l.drop k).flatMap c.f = (l.flatMap c.f).drop (k * c.K)
  | [], k => by simp
  | t :: l, 0 => by simp
  | t :: l, k + 1 => by
    have h2 := c.len t
    rw [List.drop_succ_cons, List.flatMap_cons, Cel.drop l k, List.drop_append, List.drop_eq_nil_of_le (as := c.f t) (i := (k + 1) * c.K) (by rw [h2, Nat.succ_mul]; omega), h2, show (k + 1) * c.K - c.K = k * c.K from by rw [Nat.succ_mul]; omega, List.nil_append]
theorem Cel.ones (l : List α) : ∀ y ∈ l.flatMap c.f, y.oneCell' = true := by
  intro y hy
  obtain ⟨t, _, h⟩ := List.mem_flatMap.1 hy
  exact c.one t y h
/-- A slice that reads as these; a row of them of the call's own. -/
def RdG (w : World) (v : Value) (l : List α) : Prop := RdK w c.K v l.length (l.flatMap c.f)
def OwG (T : TypeId) (w : World) (base : Nat) (v : Value) (l : List α) : Prop := w.ownsRow base T c.K v l.length (l.flatMap c.f)
end
section
variable {α : Type} {c : Cel α} {T : TypeId} {w w' : World} {base b' : Nat} {v : Value} {l l' : List α}
theorem OwG.rd (h : OwG c T w base v l) : RdG c w v l := RdK.of_own h
theorem RdG.grow (h : RdG c w v l) (g : Grow w w') : RdG c w' v l := RdK.grow h g
theorem OwG.grow (h : OwG c T w base v l) (g : Grow w w') : OwG c T w' base v l := ownsRow_other h fun b cs _ hh => g.block b (Array.getElem?_eq_some_iff.1 hh).1
theorem OwG.base_ (h : OwG c T w base v l) (hb : b' ≤ base) : OwG c T w b' v l := ownsRow_base h hb
theorem OwG.only {b0 : Nat} {Z : Nat → TypeId → Prop} (h : OwG c T w base v l) (o : Only b0 Z w w') (hz : ∀ b, ¬ Z b T) : OwG c T w' base v l := o.row h fun g _ => hz g
theorem OwG.one (h : OwG c T w base v l) : v.oneCell' = true := ownsRow_one h
theorem owg_none (w : World) (base : Nat) : OwG c T w base (.slice none 0 0) [] := ⟨by simp, .inl ⟨rfl, rfl⟩⟩
theorem RdG.form (h : RdG c w v l) : ∃ A cp, v = .slice A l.length cp ∧ l.length ≤ cp ∧ cp ≤ maxLen := RdK.form h
/-- Another block written over. -/
theorem OwG.other (h : OwG c T w base v l) (hb : ∀ (b : Nat) (cs : Array Value), w.heap[b]? = some (.cells cs T (0, 0)) → w'.heap[b]? = w.heap[b]?) : OwG c T w' base v l := ownsRow_other h fun b cs _ hh => hb b cs hh
theorem RdG.at_ (h : RdG c w v l) (hp : 0 < l.length) : ∃ b off cp, v = .slice (some ⟨b, off, none⟩) l.length cp ∧ b < w.heap.size ∧
    ∀ k x, l[k]? = some x → ∀ r u, (c.f x)[r]? = some u → w.cell? ⟨b, off + k * c.K + r, none⟩ = some u := by
  obtain ⟨A, cp, rfl, h0, h1, h2, h3⟩ := h
  obtain ⟨b, off, rfl, hb, hc⟩ := h3 hp
  refine ⟨b, off, cp, rfl, hb, fun k x hx r u hr => ?_⟩
  have := hc (k * c.K + r) u (c.flat_at l k x hx r u hr)
  rwa [← Nat.add_assoc] at this
theorem RdG.front {A : Option Addr} {n cp k : Nat} (h : RdG c w (.slice A n cp) l) (hk : k ≤ n) : RdG c w (.slice A k cp) (l.take k) := by
  obtain ⟨A', c', e, h0, h1, h2, h3⟩ := h
  cases e
  have hl : (l.take k).length = k := by rw [List.length_take]; omega
  refine ⟨A, cp, by rw [hl], c.flat_len _, by omega, h2, fun hp => ?_⟩
  rw [hl] at hp
  obtain ⟨b, off, rfl, hb, hc⟩ := h3 (by omega)
  refine ⟨b, off, rfl, hb, fun j u hj => hc j u ?_⟩
  rw [c.take] at hj
  have hlt : j < k * c.K := by
    have := (List.getElem?_eq_some_iff.1 hj).1
    rw [List.length_take] at this
    omega
  rwa [List.getElem?_take_of_lt hlt] at hj
theorem RdG.tail {b off n cp k : Nat} (h : RdG c w (.slice (some ⟨b, off, none⟩) n cp) l) (hk : k ≤ n) : ∃ B : Addr, (if cp = k then some (⟨b, off, none⟩ : Addr) else some ⟨b, off + k * c.K, none⟩) = some B ∧ Hid (RdG c w (.slice (some B) (n - k) (cp - k)) (l.drop k)) := by
  obtain ⟨A', c', e, h0, h1, h2, h3⟩ := h
  cases e
  have hl : (l.drop k).length = l.length - k := List.length_drop
  by_cases hc : cp = k
  · refine ⟨⟨b, off, none⟩, by simp [hc], ?_⟩
    have e0 : l.length - k = 0 := by omega
    have e1 : l.drop k = [] := List.eq_nil_of_length_eq_zero (by rw [hl]; exact e0)
    rw [e1]
    exact ⟨_, _, by rw [e0]; rfl, by simp, by simp, by omega, fun h => absurd h (by simp)⟩
  · refine ⟨⟨b, off + k * c.K, none⟩, by simp [hc], ?_⟩
    refine ⟨_, _, by rw [hl], c.flat_len _, by omega, by omega, fun hp => ?_⟩
    obtain ⟨b', off', e, hb, hcl⟩ := h3 (by omega)
    cases e
    refine ⟨b, off + k * c.K, rfl, hb, fun j u hj => ?_⟩
    rw [c.drop, List.getElem?_drop] at hj
    have := hcl _ u hj
    rwa [← Nat.add_assoc] at this
theorem owg_lit0 (w : World) : OwG c T (w.alloc (.cells #[] T)) w.heap.size (.slice (some ⟨w.heap.size, 0, none⟩) 0 0) [] := World.ownsRow_lit w #[] 0 (Nat.le_refl _) (Nat.zero_le _) (by simp)
theorem owg_lit1 (w : World) (x : α) (cs : Array Value) (hcs : cs.toList = c.f x) (n : Nat) (hn : n = w.heap.size) : OwG c T (w.alloc (.cells cs T)) n (.slice (some ⟨n, 0, none⟩) 1 1) [x] := by
  subst hn
  have := World.ownsRow_lit (base := w.heap.size) (e := T) (size := c.K) w cs 1 (Nat.le_refl _) (by decide) (by rw [← Array.length_toList, hcs, c.len, Nat.one_mul])
  unfold OwG
  rw [List.flatMap_cons, List.flatMap_nil, List.append_nil, ← hcs]
  exact this
theorem owg_app {n : Nat} (h : w.ownsRow base T c.K v n (l.flatMap c.f ++ l'.flatMap c.f)) (hn : n = l.length + l'.length) : OwG c T w base v (l ++ l') := by
  unfold OwG
  rw [List.flatMap_append, List.length_append, ← hn]
  exact h
end
/-- All blocks but those of a row of another type. -/
theorem block_ty {w : World} {g : Nat} {cs : Array Value} {T : TypeId} {o : Obj} {T' : TypeId} (h : w.heap[g]? = some (.cells cs T (0, 0))) (h' : w.heap[g]? = some o) (ho : objT o = some T') : T = T' := by
  rw [h] at h'
  cases h'
  cases ho
  rfl
end Go.Proofs.Ytpbnpkbmefjiaaa
