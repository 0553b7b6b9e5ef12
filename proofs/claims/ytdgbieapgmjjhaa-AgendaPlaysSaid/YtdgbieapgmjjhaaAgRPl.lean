/- The reference's Place and Same. -/
import Derived.Test.YtdgbieapgmjjhaaAgLive
namespace Go.Proofs.Ytdgbieapgmjjhaa
set_option linter.unusedVariables false
set_option linter.unusedSimpArgs false
open Go.ChangeShapes Go.WideShapes Go.ChangeAt Go.RowKit

set_option maxHeartbeats 1000000 in
theorem rPlaceE_nil (w : World) (A : Option Addr) (c : Nat) (x : Int) : Calls Try.prog 22 #[.slice A 0 c, .int .i64 x] w fun e w' => e = .returned (.int .i64 (-1)) ∧ w' = w := by
  go_enter Try.func22, Try.ntmps22
  go_wp2_with fail
  go_loopg [5] 0 (fun g s5 wr => s5 = .int .i64 0 ∧ wr = w ∧ g = 0)
  case atStart => exact ⟨rfl, rfl, rfl⟩
  case round =>
    obtain ⟨rfl, rfl, rfl⟩ := hrel
    go_wp2_with fail
    go_ret
    exact ⟨rfl, rfl⟩
/-- Where the first with this number lies. -/
def PosE (l : List En) (x r : Int) : Prop := (∀ t ∈ l, t.id ≠ x) ∧ r = -1 ∨ ∃ j : Nat, j < l.length ∧ (pt l j).id = x ∧ (∀ i, i < j → (pt l i).id ≠ x) ∧ r = (j : Int)
set_option maxHeartbeats 1000000 in
theorem rPlaceE_walk (w : World) (b off c n : Nat) (l : List En) (hl : l.length = n) (hn : n ≤ 1000000) (x : Int) (hc : ∀ k, k < n → w.cell? ⟨b, off + k * 3, none⟩ = some (.int .i64 (pt l k).id)) (r : Int) (hr : PosE l x r) :
    Calls Try.prog 22 #[.slice (some ⟨b, off, none⟩) n c, .int .i64 x] w fun e w' => e = .returned (.int .i64 r) ∧ w' = w := by
  have HC := Lib.hid hc
  have HL := Lib.hid hl
  have HR := Lib.hid hr
  clear hc hl hr
  go_enter Try.func22, Try.ntmps22
  go_wp2_with fail
  go_loopg [5] n (fun g s5 wr => ∃ k : Nat, k ≤ n ∧ g = n - k ∧ s5 = .int .i64 (k : Int) ∧ wr = w ∧ Hid (∀ i, i < k → (pt l i).id ≠ x))
  case atStart => exact ⟨0, Nat.zero_le _, rfl, rfl, rfl, fun i h => absurd h (Nat.not_lt_zero _)⟩
  case round =>
    obtain ⟨k, hk, rfl, rfl, rfl, HN⟩ := hrel
    rcases Nat.lt_or_ge k n with hlt | hge
    · have c0 := HC.out k hlt
      have i0 : (k : Int) < (n : Int) := by omega
      by_cases e : (pt l k).id = x
      · have e1 : r = (k : Int) := by
          rcases HR.out with ⟨h1, _⟩ | ⟨j, h1, h2, h3, h4⟩
          · have := List.mem_iff_getElem?.2 ⟨k, pt_get (show k < l.length by have := HL.out; omega)⟩
            exact absurd e (h1 _ this)
          · rcases Nat.lt_trichotomy j k with a | a | a
            · exact absurd h2 (HN.out j a)
            · subst a; exact h4
            · exact absurd e (h3 k a)
        subst e1
        rw [e] at c0
        clear e
        go_wp2_with fail
        go_ret
        exact ⟨rfl, rfl⟩
      · have HE := Lib.hid e
        generalize (pt l k).id = y at c0 e
        go_wp2_with fail
        go_roundg (n - (k + 1))
        case measure => omega
        case rel =>
          refine ⟨k + 1, by omega, rfl, by go_num, rfl, ?_⟩
          intro i hi
          rcases Nat.lt_or_ge i k with a | a
          · exact HN.out i a
          · obtain rfl : i = k := by omega
            exact HE.out
    · obtain rfl : k = n := by omega
      have e1 : r = -1 := by
        rcases HR.out with ⟨_, h⟩ | ⟨j, h1, h2, h3, h4⟩
        · exact h
        · exact absurd h2 (HN.out j (by have := HL.out; omega))
      subst e1
      go_wp2_with fail
      go_ret
      exact ⟨rfl, rfl⟩
theorem rPlaceE_any (w : World) (v : Value) (l : List En) (h : RdIt w v l) (hn : l.length ≤ 1000000) (x r : Int) (hr : PosE l x r) : Calls Try.prog 22 #[v, .int .i64 x] w fun e w' => e = .returned (.int .i64 r) ∧ w' = w := by
  rcases Nat.eq_zero_or_pos l.length with h0 | h0
  · obtain rfl : l = [] := List.eq_nil_of_length_eq_zero h0
    obtain ⟨A, c, rfl, _⟩ := h.form
    have e : r = -1 := by
      rcases hr with ⟨_, h⟩ | ⟨j, h1, _⟩
      · exact h
      · simp at h1
    subst e
    exact rPlaceE_nil w A c x
  · obtain ⟨b, off, c, rfl, _, hc⟩ := h.cell h0
    exact rPlaceE_walk w b off c l.length l rfl hn x (fun k hk => (hc k hk).1) r hr
set_option maxHeartbeats 2000000 in
theorem rSameE_walk (w : World) (b off c b' off' c' n : Nat) (l : List En) (hl : l.length = n) (hn : n ≤ 1000000) 
    (h1 : ∀ k, k < n → w.cell? ⟨b, off + k * 3, none⟩ = some (.int .i64 (pt l k).id) ∧ w.cell? ⟨b, off + k * 3 + 1, none⟩ = some (.int .i64 (pt l k).at_) ∧ w.cell? ⟨b, off + k * 3 + 2, none⟩ = some (.int .i64 (pt l k).rk))
    (h2 : ∀ k, k < n → w.cell? ⟨b', off' + k * 3, none⟩ = some (.int .i64 (pt l k).id) ∧ w.cell? ⟨b', off' + k * 3 + 1, none⟩ = some (.int .i64 (pt l k).at_) ∧ w.cell? ⟨b', off' + k * 3 + 2, none⟩ = some (.int .i64 (pt l k).rk)) (hb : b < w.heap.size) (hb' : b' < w.heap.size) :
    Calls Try.prog 17 #[.slice (some ⟨b, off, none⟩) n c, .slice (some ⟨b', off', none⟩) n c'] w fun e w' => e = .returned (.bool true) ∧ Grow w w' := by
  have H1 := Lib.hid (And.intro h1 (And.intro h2 (And.intro hb hb')))
  clear h1 h2 hb hb' hl
  go_enter Try.func17, Try.ntmps17
  go_wp2_with fail
  go_loopg [5] n (fun g s5 wr => ∃ k : Nat, k ≤ n ∧ g = n - k ∧ s5 = .int .i64 (k : Int) ∧ Hid (Grow w wr))
  case atStart => exact ⟨0, Nat.zero_le _, rfl, rfl, Grow.refl _⟩
  case round =>
    obtain ⟨k, hk, rfl, rfl, HG⟩ := hrel
    rename World => wr
    rcases Nat.lt_or_ge k n with hlt | hge
    · obtain ⟨x0, x1, x2⟩ := H1.out.1 k hlt
      obtain ⟨y0, y1, y2⟩ := H1.out.2.1 k hlt
      generalize pt l k = z at *
      have hb := H1.out.2.2.1
      have hb' := H1.out.2.2.2
      have g := HG.out
      have u0 := (g.cell (p := ⟨b, off + k * 3, none⟩) hb).trans x0
      have u1 := (g.cell (p := ⟨b, off + k * 3 + 1, none⟩) hb).trans x1
      have u2 := (g.cell (p := ⟨b, off + k * 3 + 2, none⟩) hb).trans x2
      have v0 := (g.cell (p := ⟨b', off' + k * 3, none⟩) hb').trans y0
      have v1 := (g.cell (p := ⟨b', off' + k * 3 + 1, none⟩) hb').trans y1
      have v2 := (g.cell (p := ⟨b', off' + k * 3 + 2, none⟩) hb').trans y2
      have i0 : (k : Int) < (n : Int) := by omega
      clear x0 x1 x2 y0 y1 y2 hb hb' g
      go_wp2_with fail
      go_quiet (fail)
      go_wp2_with fail
      go_roundg (n - (k + 1))
      case measure => omega
      case rel => exact ⟨k + 1, by omega, rfl, by go_num, Grow.trans HG.out ⟨rfl, rfl, rfl, Nat.le_refl _, fun _ _ => rfl⟩⟩
    · obtain rfl : k = n := by omega
      go_wp2_with fail
      go_ret
      exact ⟨rfl, HG.out⟩
set_option maxHeartbeats 1000000 in
theorem rSameE_nil (w : World) (A A' : Option Addr) (c c' : Nat) : Calls Try.prog 17 #[.slice A 0 c, .slice A' 0 c'] w fun e w' => e = .returned (.bool true) ∧ Grow w w' := by
  go_enter Try.func17, Try.ntmps17
  go_wp2_with fail
  go_loopg [5] 0 (fun g s5 wr => s5 = .int .i64 0 ∧ wr = w ∧ g = 0)
  case atStart => exact ⟨rfl, rfl, rfl⟩
  case round =>
    obtain ⟨rfl, rfl, rfl⟩ := hrel
    go_wp2_with fail
    go_ret
    exact ⟨rfl, Grow.refl _⟩
theorem rSameE_any (w : World) (v v' : Value) (l : List En) (h : RdIt w v l) (h' : RdIt w v' l) (hn : l.length ≤ 1000000) : Calls Try.prog 17 #[v, v'] w fun e w' => e = .returned (.bool true) ∧ Grow w w' := by
  rcases Nat.eq_zero_or_pos l.length with h0 | h0
  · obtain rfl : l = [] := List.eq_nil_of_length_eq_zero h0
    obtain ⟨A, c, rfl, _⟩ := h.form
    obtain ⟨A', c', rfl, _⟩ := h'.form
    exact rSameE_nil w A A' c c'
  · obtain ⟨b, off, c, rfl, hb, hc⟩ := h.cell h0
    obtain ⟨b', off', c', rfl, hb', hc'⟩ := h'.cell h0
    exact rSameE_walk w b off c b' off' c' l.length l rfl hn hc hc' hb hb'
end Go.Proofs.Ytdgbieapgmjjhaa
