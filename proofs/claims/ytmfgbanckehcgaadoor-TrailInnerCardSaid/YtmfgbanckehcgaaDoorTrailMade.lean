/- Slices of places that read as lists; contracts: made, long. -/
import Derived.Test.YtmfgbanckehcgaaDoorTrailIs
import Derived.Deep.SlicePairs
namespace Go.Proofs.YtmfgbanckehcgaaDoor
set_option linter.unusedVariables false
set_option linter.unusedSimpArgs false
open Go.ChangeShapes Go.WideShapes Go.ChangeAt Go.RowKit

abbrev PL := List (ByteArray × Int)

/-- The slice v reads as these places. -/
def Plc (w : World) (v : Value) (l : PL) : Prop :=
  ∃ A c, v = .slice A l.length c ∧ l.length ≤ c ∧ c ≤ maxLen ∧
    (0 < l.length → ∃ b off, A = some ⟨b, off, none⟩ ∧ b < w.heap.size ∧ ∀ j (h : j < l.length), w.cell? ⟨b, off + j * 2, none⟩ = some (.string l[j].1) ∧ w.cell? ⟨b, off + j * 2 + 1, none⟩ = some (.int .i64 l[j].2))

section
variable {w w' : World} {v : Value} {l : PL}
theorem Plc.grow (h : Plc w v l) (g : Grow w w') : Plc w' v l := by
  obtain ⟨A, c, rfl, h1, h2, h3⟩ := h
  refine ⟨A, c, rfl, h1, h2, fun hp => ?_⟩
  obtain ⟨b, off, rfl, hb, hc⟩ := h3 hp
  exact ⟨b, off, rfl, Nat.lt_of_lt_of_le hb g.size, fun j hj => ⟨(g.cell (p := ⟨b, off + j * 2, none⟩) hb).trans (hc j hj).1, (g.cell (p := ⟨b, off + j * 2 + 1, none⟩) hb).trans (hc j hj).2⟩⟩
theorem Plc.nil (w : World) : Plc w (.slice none 0 0) [] := ⟨none, 0, rfl, Nat.le_refl _, Nat.zero_le _, fun h => absurd h (by simp)⟩
theorem Plc.len {A : Option Addr} {n c : Nat} (h : Plc w (.slice A n c) l) : n = l.length ∧ n ≤ c ∧ c ≤ maxLen := by
  obtain ⟨A', c', e, h1, h2, _⟩ := h
  cases e
  exact ⟨rfl, h1, h2⟩
theorem Plc.at_ {A : Option Addr} {n c : Nat} (h : Plc w (.slice A n c) l) (hp : 0 < n) : ∃ b off, A = some ⟨b, off, none⟩ ∧ b < w.heap.size ∧
    ∀ j (h : j < l.length), w.cell? ⟨b, off + j * 2, none⟩ = some (.string l[j].1) ∧ w.cell? ⟨b, off + j * 2 + 1, none⟩ = some (.int .i64 l[j].2) := by
  obtain ⟨A', c', e, h1, h2, h3⟩ := h
  cases e
  exact h3 hp
theorem Plc.form (h : Plc w v l) : ∃ A m c, v = .slice A m c ∧ Hid (m = l.length) := by
  obtain ⟨A, c, rfl, _, _⟩ := h
  exact ⟨A, _, c, rfl, rfl⟩
/-- Places as cells. -/
def flat (l : PL) : List Value := l.flatMap fun p => [.string p.1, .int .i64 p.2]
theorem flat_length (l : PL) : (flat l).length = l.length * 2 := by
  unfold flat
  induction l with
  | nil => rfl
  | cons p r ih => simp only [List.flatMap_cons, List.length_append, ih, List.length_cons]; simp; omega
theorem flat_append (l m : PL) : flat (l ++ m) = flat l ++ flat m := by simp [flat]
theorem flat_at : ∀ (l : PL) (j : Nat) (h : j < l.length), (flat l)[j * 2]? = some (.string l[j].1) ∧ (flat l)[j * 2 + 1]? = some (.int .i64 l[j].2)
  | [], _, h => absurd h (by simp)
  | p :: r, 0, _ => by simp [flat]
  | p :: r, j + 1, h => by
    have ih := flat_at r j (by simpa using h)
    have e : flat (p :: r) = .string p.1 :: .int .i64 p.2 :: flat r := by simp [flat]
    rw [e, show (j + 1) * 2 = j * 2 + 1 + 1 from by omega]
    simpa using ih
theorem flat_one (l : PL) : ∀ y ∈ flat l, y.oneCell' = true := by
  intro y hy
  unfold flat at hy
  obtain ⟨p, _, hp⟩ := List.mem_flatMap.1 hy
  simp at hp
  rcases hp with rfl | rfl <;> rfl
theorem Plc.of_own {base : Nat} {e : TypeId} {n : Nat} (h : w.ownsRow base e 2 v n (flat l)) : Plc w v l := by
  have hl : l.length = n := by have := h.1; rw [flat_length] at this; omega
  subst hl
  rcases h.2 with ⟨rfl, h0⟩ | ⟨g, cap, cur, rfl, hbg, hh, hnc, hcm, hcs, ht⟩
  · have : l = [] := List.eq_nil_of_length_eq_zero h0
    subst this
    exact Plc.nil w
  · refine ⟨some ⟨g, 0, none⟩, cap, rfl, hnc, hcm, fun hp => ⟨g, 0, rfl, ?_, fun j hj => ?_⟩⟩
    · rcases Nat.lt_or_ge g w.heap.size with h' | h'
      · exact h'
      · rw [Array.getElem?_eq_none h'] at hh; cases hh
    · have hf := flat_at l j hj
      have c0 := h.cells (g := g) rfl (j * 2) _ hf.1
      have c1 := h.cells (g := g) rfl (j * 2 + 1) _ hf.2
      rw [Nat.zero_add]
      constructor
      · by_cases h0 : j * 2 = 0
        · rw [h0] at c0 ⊢; simpa [Addr.add] using c0
        · simpa [Addr.add, h0] using c0
      · simpa [Addr.add] using c1
end

theorem leaves_world {P : Program} {f : FuncId} {args : Array Value} {w : World} {n : Nat} {v : Value}
    (h : Calls P f args (w.drewN n) fun e w' => e = .returned v ∧ w.drewN n = w') :
    Calls P f args (w.drewN n) fun e w'' => e = .returned v ∧ ∃ m, w'' = w.drewN m :=
  h.mono fun _ _ ⟨he, hm⟩ => ⟨he, n, hm.symm⟩

theorem Grow.drewN (w : World) (n : Nat) : Grow w (w.drewN n) := ⟨rfl, rfl, rfl, Nat.le_refl _, fun _ _ => rfl⟩

set_option maxHeartbeats 1600000 in
theorem made_any (l : PL) (n : Int) (v : Value) (w : World) (hv : Plc w v l) :
    Calls Tryd.prog 9 #[v, .int .i64 n] w fun e w' => e = .returned (madeV l n) ∧ Grow w w' := by
  obtain ⟨A, c, rfl, hlc, hcm, hcell⟩ := id hv
  have hm : l.length ≤ 9223372036854775807 := Nat.le_trans hlc hcm
  go_enter Tryd.func9, Tryd.ntmps9
  go_wp2_with (go_at_call 20; refine (New_any n _).mono ?_; rintro e w' ⟨rfl, rfl⟩)
  go_loopg [5, 6] l.length (fun g s5 s6 wr => ∃ k : Nat, k ≤ l.length ∧ g = k ∧ s6 = .int .i64 ((k : Int) - 1) ∧ s5 = madeV (l.drop k) n ∧ Grow w wr)
  case atStart =>
    refine ⟨l.length, Nat.le_refl _, rfl, ?_, ?_, Grow.refl _⟩
    · go_num
    · rw [List.drop_length]; rfl
  case round =>
    obtain ⟨k, hk, rfl, rfl, hs5, hgr⟩ := hrel
    rcases gk with _ | m
    · subst hs5
      have A1 : Aside (Grow w wr) := hgr
      clear hgr
      go_wp2_with fail
      go_ret
      exact ⟨rfl, A1.out⟩
    · obtain ⟨b, off, rfl, hb, hc⟩ := hcell (by omega)
      have hcm0 := (hc m (by omega)).1
      have hcm1 := (hc m (by omega)).2
      rw [← hgr.cell (p := ⟨b, off + m * 2, none⟩) hb] at hcm0
      rw [← hgr.cell (p := ⟨b, off + m * 2 + 1, none⟩) hb] at hcm1
      have hd : madeV (l.drop m) n = madeV (l[m]'(by omega) :: l.drop (m + 1)) n := by rw [← List.drop_eq_getElem_cons]
      generalize l.drop (m + 1) = r at *
      generalize l[m]'(by omega) = p at *
      subst hs5
      have A1 : Aside (Grow w wr ∧ madeV (l.drop m) n = madeV (p :: r) n) := ⟨hgr, hd⟩
      clear hgr hd hc
      have hi : ((m + 1 : Nat) : Int) - 1 = (m : Int) := by omega
      rw [hi]
      go_wp2_with fail
      go_quiet ((go_at_call 21; exact leaves_world (At_made p r n _)))
      go_wp2_with fail
      go_roundg m
      case measure => omega
      case rel => exact ⟨m, by omega, rfl, by go_num, A1.out.2.symm, A1.out.1.trans (Grow.drewN _ _)⟩

/-- Longer than is asked? -/
def isLong (l : PL) : Bool := decide (80 < l.length) || l.any fun p => decide (200 < p.1.size)
theorem isLong_all {l : PL} (h : isLong l = false) : l.length ≤ 80 ∧ ∀ p ∈ l, p.1.size ≤ 200 := by
  unfold isLong at h
  simp only [Bool.or_eq_false_iff, decide_eq_false_iff_not, List.any_eq_false, decide_eq_true_eq] at h
  exact ⟨by omega, fun p hp => by have := h.2 p hp; omega⟩

set_option maxHeartbeats 1600000 in
theorem long_any (l : PL) (v : Value) (w : World) (hv : Plc w v l) :
    Calls Tryd.prog 7 #[v] w fun e w' => e = .returned (.bool (isLong l)) ∧ w = w' := by
  obtain ⟨A, c, rfl, hlc, hcm, hcell⟩ := id hv
  have hm : l.length ≤ 9223372036854775807 := Nat.le_trans hlc hcm
  by_cases h80 : 80 < l.length
  · have e : isLong l = true := by unfold isLong; rw [decide_eq_true h80]; rfl
    rw [e]
    go_enter Tryd.func7, Tryd.ntmps7
    go_wp2_with fail
    go_ret
    exact ⟨rfl, rfl⟩
  · have h80' : decide (80 < (l.length : Int)) = false := decide_eq_false (by omega)
    have hle : l.length ≤ 80 := by omega
    go_enter Tryd.func7, Tryd.ntmps7
    go_wp2_with fail
    go_loopg [3] l.length (fun g s3 wr => w = wr ∧ ∃ k : Nat, k ≤ l.length ∧ g = l.length - k ∧ s3 = .int .i64 (k : Int) ∧ (l.take k).any (fun p => decide (200 < p.1.size)) = false)
    case atStart => exact ⟨rfl, 0, Nat.zero_le _, rfl, rfl, rfl⟩
    case round =>
      obtain ⟨rfl, k, hk, rfl, rfl, hno⟩ := hrel
      have A2 : Aside ((l.take k).any (fun p => decide (200 < p.1.size)) = false) := hno
      clear hno
      rcases Nat.lt_or_ge k l.length with hlt | hge
      · obtain ⟨b, off, rfl, hb, hc⟩ := hcell (by omega)
        have hcm0 := (hc k hlt).1
        have hp : (l.take (k + 1)).any (fun p => decide (200 < p.1.size)) = decide (200 < (l[k]'hlt).1.size) := by
          rw [List.take_succ_eq_append_getElem hlt, List.any_append, A2.out]
          simp
        have hin : (l[k]'hlt).1 = (l[k]'hlt).1 → l[k]'hlt ∈ l := fun _ => List.getElem_mem hlt
        have hin := hin rfl
        generalize l[k]'hlt = p at *
        clear hc hcell
        rcases Nat.lt_or_ge 200 p.1.size with h2 | h2
        · have e : isLong l = true := by
            unfold isLong
            rw [decide_eq_false h80, Bool.false_or, List.any_eq_true]
            exact ⟨p, hin, decide_eq_true h2⟩
          have A3 : Aside (isLong l = true) := e
          clear e hp
          go_wp2_with fail
          go_ret
          exact ⟨by rw [A3.out]; rfl, rfl⟩
        · rw [decide_eq_false (by omega)] at hp
          have A3 : Aside ((l.take (k + 1)).any (fun p => decide (200 < p.1.size)) = false) := hp
          clear hp
          have h2' : decide (200 < (p.1.size : Int)) = false := decide_eq_false (by omega)
          go_wp2_with fail
          go_roundg (l.length - (k + 1))
          case measure => omega
          case rel => exact ⟨rfl, k + 1, by omega, rfl, by go_num, A3.out⟩
      · have e : isLong l = false := by
          have h3 := A2.out
          rw [List.take_of_length_le hge] at h3
          unfold isLong
          rw [decide_eq_false h80, h3]
          rfl
        have A3 : Aside (isLong l = false) := e
        have hkk : k = l.length := by omega
        subst hkk
        clear e
        go_wp2_with fail
        go_ret
        exact ⟨by rw [A3.out]; rfl, rfl⟩
end Go.Proofs.YtmfgbanckehcgaaDoor
