/- Joined, written, cut, filled up: the contracts of the functions that make memory. -/
import Derived.Test.YtkofmbnolaiecaaWit
import Derived.Deep.DeepFit
namespace Go.Proofs.Ytkofmbnolaiecaa
set_option linter.unusedVariables false
open Go.ChangeShapes Go.WideShapes Go.ChangeAt Go.RowKit

theorem infoByte : (Try.prog.info? 5).map (fun i => (i.zero, i.size, i.bytes)) = some (some (.int .u8 0), 1, 1) := by kernel_rfl

/-- A row of bytes of the call's own. -/
def Own (w : World) (base : Nat) (v : Value) (l : List UInt8) : Prop := w.ownsRow base 5 1 v l.length (l.map bv)
theorem Own.byt {w : World} {base : Nat} {v : Value} {l : List UInt8} (h : Own w base v l) : Byt w v l := Byt.of_own h

theorem Own.lit (w : World) (cs : Array Value) (l : List UInt8) (h : cs.toList = l.map bv) (hm : l.length ≤ maxLen) : Own (w.alloc (.cells cs 5)) w.heap.size (.slice (some ⟨w.heap.size, 0, none⟩) l.length l.length) l := by
  have hs : cs.size = l.length := by rw [← Array.length_toList, h, List.length_map]
  refine ⟨by simp, .inr ⟨w.heap.size, l.length, cs, rfl, Nat.le_refl _, heap_alloc_new w _, Nat.le_refl _, hm, by omega, ?_⟩⟩
  rw [h, Nat.mul_one]
  exact List.take_of_length_le (by simp)
theorem ownsRow_grow {w w' : World} {base : Nat} {e : TypeId} {size : Nat} {v : Value} {n : Nat} {xs : List Value} (h : w.ownsRow base e size v n xs) (g : Grow w w') : w'.ownsRow base e size v n xs := by
  refine ⟨h.1, ?_⟩
  rcases h.2 with h2 | ⟨b, cap, cur, hv, hb, hh, r⟩
  · exact .inl h2
  · have hlt : b < w.heap.size := by
      rcases Nat.lt_or_ge b w.heap.size with h' | h'
      · exact h'
      · rw [Array.getElem?_eq_none h'] at hh; cases hh
    exact .inr ⟨b, cap, cur, hv, hb, (Below.block g b hlt).trans hh, r⟩
theorem Own.grow {w w' : World} {base : Nat} {v : Value} {l : List UInt8} (h : Own w base v l) (g : Grow w w') : Own w' base v l := ownsRow_grow h g
theorem own_block {w : World} {base : Nat} {e : TypeId} {size : Nat} {v : Value} {n : Nat} {xs : List Value} (h : w.ownsRow base e size v n xs) : ∀ k, v.ownBlock = some k → base ≤ k := by
  intro k hk
  rcases h.2 with ⟨rfl, _⟩ | ⟨g, cap, cur, rfl, hb, _⟩
  · simp [Value.ownBlock] at hk
  · simp [Value.ownBlock] at hk; omega
theorem u64_of (n : Int) : 0 ≤ IntKind.u64.wrap n ∧ IntKind.u64.wrap n % 65536 = n % 65536 := by
  have h : IntKind.u64.wrap n = n % 18446744073709551616 := by simp [IntKind.wrap, IntKind.signed, IntKind.bits]
  rw [h]
  constructor <;> omega

/-- The length of all of them. -/
def lens (ls : List (List UInt8)) : Nat := (ls.map List.length).sum
theorem lens_snoc (ls : List (List UInt8)) (j : Nat) (h : j < ls.length) : lens (ls.take (j + 1)) = lens (ls.take j) + ls[j].length := by
  rw [List.take_succ_eq_append_getElem h]
  simp only [lens, List.map_append, List.map_cons, List.map_nil, List.sum_append, List.sum_cons, List.sum_nil, Nat.add_zero]
theorem lens_le (ls : List (List UInt8)) (j : Nat) : lens (ls.take j) ≤ lens ls := by
  have h := congrArg lens (List.take_append_drop j ls)
  simp only [lens, List.map_append, List.sum_append] at h ⊢
  omega
theorem lens_flatten (ls : List (List UInt8)) : ls.flatten.length = lens ls := by simp [lens, List.length_flatten]

set_option maxHeartbeats 1000000 in
theorem Join_some (b off n c : Nat) (ls : List (List UInt8)) (w : World) (h : Byts w (.slice (some ⟨b, off, none⟩) n c) ls) (h0 : 0 < n) (hl : lens ls ≤ 281474976710656) :
    Calls Try.prog 25 #[.slice (some ⟨b, off, none⟩) n c] w fun e w' => ∃ v, e = .returned v ∧ Own w' w.heap.size v ls.flatten ∧ Grow w w' := by
  obtain ⟨rfl, hc, hcm⟩ := h.len
  unfold maxLen at hcm
  obtain ⟨b', off', e, hb, hcell⟩ := h.at_ h0
  cases e
  obtain ⟨i0, hi, hz0, hz1, hz2⟩ := info_parts infoByte
  have f1 : i0.bytes * lens ls ≤ 281474976710656 := by rw [hz2]; omega
  have f2 : lens ls ≤ maxLen := by unfold maxLen; omega
  go_enter Try.func25, Try.ntmps25
  go_wp2
  go_loop [3, 11] (fun t i => ∃ j : Nat, j ≤ ls.length ∧ i = .int .i64 (j : Int) ∧ t = .int .i64 (lens (ls.take j) : Nat)) (fun _ i => ls.length - (intOf i).toNat)
  case atStart => exact ⟨0, Nat.zero_le _, rfl, rfl⟩
  case round =>
    obtain ⟨j, hj, rfl, rfl⟩ := hrel
    by_cases hlt : j < ls.length
    · obtain ⟨u, hu, hbu⟩ := hcell j hlt
      obtain ⟨A, c', rfl, h1, h2⟩ := hbu.form
      unfold maxLen at h2
      have e1 := lens_le ls (j + 1)
      have e2 := lens_snoc ls j hlt
      have e3 : lens (ls.take j) + ls[j].length ≤ 281474976710656 := by omega
      have E := Lib.hid e2
      clear e1 e2 hcell
      go_wp2
      go_round
      case rel => exact ⟨j + 1, by omega, by go_num, by rw [E.out]; go_num⟩
      case measure => simp [intOf]; omega
    · have : j = ls.length := by omega
      subst this
      rw [List.take_length]
      go_wp2_with (at_make; go_loud (refine wpList_make_own _ rfl _ _ 25 rfl w.heap.size 5 i0 (.int .u8 0) 1 Try.underlying25 hi hz0 hz1 .i64 .i64 _ (lens ls) rfl rfl rfl f1 f2 (Nat.le_refl _) ?_); intro w1 hown hg)
      have hg1 : Grow w w1 := (Below.refl _ _).grown hg (Nat.le_refl _) (by simp)
      go_loopw [6, 24] (fun v i wr => ∃ j : Nat, j ≤ ls.length ∧ i = .int .i64 (j : Int) ∧ v = .slice (some ⟨w.heap.size, 0, none⟩) (lens (ls.take j)) (lens ls) ∧ wr.ownsRow w.heap.size 5 1 (.slice (some ⟨w.heap.size, 0, none⟩) (lens (ls.take j)) (lens ls)) (lens (ls.take j)) ((ls.take j).flatten.map bv) ∧ Grow w wr) (fun _ i _ => ls.length - (intOf i).toNat)
      case atStart => exact ⟨0, Nat.zero_le _, rfl, rfl, hown, hg1⟩
      case round =>
        obtain ⟨j, hj, rfl, rfl, hown, hgr⟩ := hrel
        by_cases hlt : j < ls.length
        · obtain ⟨u, hu, hbu⟩ := hcell j hlt
          have hu' := (hgr.cell (p := ⟨b, off + j, none⟩) hb).trans hu
          have hbr := hbu.grow hgr
          have e1 := lens_le ls (j + 1)
          have e2 := lens_snoc ls j hlt
          have f3 : lens (ls.take j) + ls[j].length ≤ lens ls := by omega
          have f4 : Hid ((ls[j].map bv).length = ls[j].length) := List.length_map ..
          have E := Lib.hid e2
          have B := Lib.hid (bv_one ls[j])
          clear e1 e2 hcell
          go_wp2_with (at_builtin; go_loud (refine wpList_append_fits_rd _ rfl _ _ 25 rfl w.heap.size 5 (.int .u8 0) 1 Try.underlying25 infoByte w.heap.size (lens ls) (lens (ls.take j)) ls[j].length _ rfl hown u _ rfl hbr f4 B.out f3 ?_); intro w2 hown2 hg2)
          refine ⟨⟨j + 1, by omega, by go_num, by rw [E.out], ?_, Below.grown hgr hg2 hgr.size (by simp)⟩, by simp [intOf]; omega⟩
          rw [List.take_succ_eq_append_getElem hlt, List.flatten_append, List.map_append, ← List.take_succ_eq_append_getElem hlt, E.out]
          simpa using hown2
        · have : j = ls.length := by omega
          subst this
          rw [List.take_length] at hown ⊢
          go_wp2
          go_ret
          refine ⟨_, rfl, ?_, hgr⟩
          unfold Own
          rw [lens_flatten]
          exact hown

/-- Join of a literal of one, two or three. -/
theorem Join_lit (w₀ w : World) (hg : Grow w₀ w) (cs : Array Value) (k : Nat) (ls : List (List UInt8)) (hk : k = ls.length) (h : cs.size = ls.length) (h0 : 0 < ls.length) (hm : ls.length ≤ maxLen) (hl : lens ls ≤ 281474976710656)
    (hs : ∀ (i : Nat) (u : Value) (l : List UInt8), cs[i]? = some u → ls[i]? = some l → Byt w u l) :
    Calls Try.prog 25 #[.slice (some ⟨w.heap.size, 0, none⟩) k k] (w.alloc (.cells cs 25)) fun e w' => ∃ v, e = .returned v ∧ Own w' w₀.heap.size v ls.flatten ∧ Grow w₀ w' := by
  refine (Join_some _ _ _ _ ls _ (Byts.lit w cs 25 ls k hk h hm hs) (by omega) hl).mono ?_
  rintro e w' ⟨v, rfl, ho, hg'⟩
  refine ⟨v, rfl, ?_, (hg.trans (Grow.alloc _ _)).trans hg'⟩
  obtain ⟨h1, h2⟩ := ho
  refine ⟨h1, ?_⟩
  have := hg.size
  rcases h2 with h2 | ⟨g, cap, cur, e1, e2, r⟩
  · exact .inl h2
  · exact .inr ⟨g, cap, cur, e1, by simp at e2; omega, r⟩

/-- The same, its block named by another. -/
theorem Join_lit_at (w₀ w : World) (hg : Grow w₀ w) (cs : Array Value) (k b : Nat) (hb : b = w.heap.size) (ls : List (List UInt8)) (hk : k = ls.length) (h : cs.size = ls.length) (h0 : 0 < ls.length) (hm : ls.length ≤ maxLen) (hl : lens ls ≤ 281474976710656)
    (hs : ∀ (i : Nat) (u : Value) (l : List UInt8), cs[i]? = some u → ls[i]? = some l → Byt w u l) :
    Calls Try.prog 25 #[.slice (some ⟨b, 0, none⟩) k k] (w.alloc (.cells cs 25)) fun e w' => ∃ v, e = .returned v ∧ Own w' w₀.heap.size v ls.flatten ∧ Grow w₀ w' := by
  subst hb
  exact Join_lit w₀ w hg cs k ls hk h h0 hm hl hs

/-- What is cut out: the bytes, and the error. -/
def cutAt (l : List UInt8) (at_ n : Int) : List UInt8 := if withinCode l.length at_ n = 0 then (l.take (at_ + n).toNat).drop at_.toNat else []

theorem padAt_len (l : List UInt8) (k : Nat) : (l ++ List.replicate k (0 : UInt8)).length = l.length + k := by simp

set_option maxHeartbeats 400000 in
theorem Pad_bad (v : Value) (l : List UInt8) (unit : Int) (w : World) (h : Byt w v l) (hu : unit < 1 ∨ 64 < unit) :
    Calls Try.prog 23 #[v, .int .i64 unit] w fun e w' => e = .returned (.tuple #[.slice none 0 0, .int .i64 1]) ∧ w = w' := by
  obtain ⟨A, c, rfl, hc, hcm⟩ := h.form
  by_cases h1 : unit < 1
  · go_enter Try.func23, Try.ntmps23
    go_wp2
    go_ret2
    exact ⟨rfl, rfl⟩
  · have h2 : 64 < unit := by omega
    go_enter Try.func23, Try.ntmps23
    go_wp2
    go_ret2
    exact ⟨rfl, rfl⟩

set_option maxHeartbeats 400000 in
theorem Pad_ok (v : Value) (l : List UInt8) (u : Nat) (w : World) (h : Byt w v l) (hl : l.length ≤ 281474976710000) (h1 : 1 ≤ u) (h2 : u ≤ 64) :
    Calls Try.prog 23 #[v, .int .i64 (u : Int)] w fun e w' => ∃ x, e = .returned (.tuple #[x, .int .i64 0]) ∧ Own w' w.heap.size x (l ++ List.replicate ((u - l.length % u) % u) 0) ∧ Grow w w' := by
  obtain ⟨A, c, rfl, hc, hcm⟩ := h.form
  unfold maxLen at hcm
  have hlt := Nat.mod_lt l.length (show 0 < u by omega)
  by_cases hz : l.length % u = 0
  · rw [hz, Nat.sub_zero, Nat.mod_self]
    have hb : ((l.length : Int) % (u : Int) == 0) = true := by rw [beq_iff_eq]; omega
    have hb2 : (l.length : Int) % (u : Int) = 0 := by omega
    clear hz hlt
    have B := Lib.hid hb2
    clear hb2
    go_enter Try.func23, Try.ntmps23
    go_wp2_with fail
    refine (Join_lit w w (Grow.refl w) _ 1 [l] rfl rfl (by simp) (by simp [maxLen]) (by simp [lens]; omega) (byt_one h)).mono ?_
    rintro e w2 ⟨v2, rfl, ho2, hg2⟩
    go_wp2_with fail
    go_ret2
    exact ⟨v2, rfl, by simpa using ho2, hg2⟩
  · have hb : ((l.length : Int) % (u : Int) == 0) = false := by rw [beq_eq_false_iff_ne]; omega
    rw [Nat.mod_eq_of_lt (show u - l.length % u < u by omega)]
    have e1 : ((u - l.length % u : Nat) : Int) = (u : Int) - (l.length : Int) % (u : Int) := by omega
    have hr : (l.length : Int) % (u : Int) < u := by omega
    have hr0 : 0 ≤ (l.length : Int) % (u : Int) := by omega
    have E := Lib.hid e1
    have Z := Lib.hid hz
    clear e1 hz hlt
    go_enter Try.func23, Try.ntmps23
    obtain ⟨i0, hi, hz0, hz1, hz2⟩ := info_parts infoByte
    have f1 : i0.bytes * (u - l.length % u) ≤ 281474976710656 := by rw [hz2]; omega
    have f2 : u - l.length % u ≤ maxLen := by unfold maxLen; omega
    go_wp2_with (at_make; refine wpList_make_full _ rfl _ _ 25 rfl w.heap.size 5 i0 (.int .u8 0) 1 Try.underlying25 hi hz0 hz1 .i64 .i64 _ _ (u - l.length % u) rfl rfl E.out.symm E.out.symm f1 f2 (Nat.le_refl _) ?_; intro w1 hown hg)
    rw [show (Value.int IntKind.u8 0).cells = #[Value.int IntKind.u8 0] from rfl, Nat.mul_one, toList_madeCells_one] at hown
    have hg1 : Grow w w1 := (Below.refl _ _).grown hg (Nat.le_refl _) (by simp)
    have hr1 : Byt w1 (.slice (some ⟨w.heap.size, 0, none⟩) (u - l.length % u) (u - l.length % u)) (List.replicate (u - l.length % u) 0) := Byt.of_own (base := w.heap.size) (e := 5) (n := u - l.length % u) (by simpa [bv] using hown)
    go_wp2_with fail
    refine (Join_lit w w1 hg1 _ 2 [l, List.replicate (u - l.length % u) 0] rfl rfl (by simp) (by simp [maxLen]) (by simp [lens]; omega) (byt_two (h.grow hg1) hr1)).mono ?_
    rintro e w2 ⟨v2, rfl, ho2, hg2⟩
    go_wp2_with fail
    go_ret2
    exact ⟨v2, rfl, by simpa using ho2, hg2⟩

def padOf (l : List UInt8) (unit : Int) : List UInt8 := if unit < 1 ∨ 64 < unit then [] else l ++ List.replicate ((unit.toNat - l.length % unit.toNat) % unit.toNat) 0
def padCode (unit : Int) : Int := if unit < 1 ∨ 64 < unit then 1 else 0

theorem Pad_any (v : Value) (l : List UInt8) (unit : Int) (w : World) (h : Byt w v l) (hl : l.length ≤ 281474976710000) :
    Calls Try.prog 23 #[v, .int .i64 unit] w fun e w' => ∃ x, e = .returned (.tuple #[x, .int .i64 (padCode unit)]) ∧ Own w' w.heap.size x (padOf l unit) ∧ Grow w w' := by
  unfold padOf padCode
  by_cases hb : unit < 1 ∨ 64 < unit
  · rw [if_pos hb, if_pos hb]
    refine (Pad_bad v l unit w h hb).mono ?_
    rintro e w' ⟨rfl, rfl⟩
    exact ⟨_, rfl, World.ownsRow_nil _ _ _ _, Grow.refl _⟩
  · rw [if_neg hb, if_neg hb]
    obtain ⟨u, rfl⟩ := Int.eq_ofNat_of_zero_le (by omega : 0 ≤ unit)
    exact Pad_ok v l u w h hl (by omega) (by omega)
end Go.Proofs.Ytkofmbnolaiecaa
