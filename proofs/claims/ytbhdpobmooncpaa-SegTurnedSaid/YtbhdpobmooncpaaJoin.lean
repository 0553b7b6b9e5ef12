/- Joined, written, cut, filled up: the contracts of the functions that make memory. -/
import Derived.Test.YtbhdpobmooncpaaWit
import Derived.Deep.DeepFit
namespace Go.Proofs.Ytbhdpobmooncpaa
set_option linter.unusedVariables false
open Go.ChangeShapes Go.WideShapes Go.ChangeAt Go.RowKit

theorem infoByte : (Try.prog.info? 5).map (fun i => (i.zero, i.size, i.bytes)) = some (some (.int .u8 0), 1, 1) := by kernel_rfl

/-- A row of bytes of the call's own. -/
def Own (w : World) (base : Nat) (v : Value) (l : List UInt8) : Prop := w.ownsRow base 5 1 v l.length (l.map bv)
theorem Own.byt {w : World} {base : Nat} {v : Value} {l : List UInt8} (h : Own w base v l) : Byt w v l := Byt.of_own h

theorem Own.lit (w : World) (cs : Array Value) (l : List UInt8) (h : cs.toList = l.map bv) (hm : l.length ≤ maxLen) : Own (w.alloc (.cells cs 5)) w.heap.size (.slice (some ⟨w.heap.size, 0, none⟩) l.length l.length) l := by
  have hs : cs.size = l.length := by rw [← Array.length_toList, h, List.length_map]
  refine ⟨by simp, .inr ⟨w.heap.size, l.length, cs, rfl, Nat.le_refl _, heap_alloc_new w _, Nat.le_refl _, hm, by omega, ?_⟩⟩
  rw [h, Nat.mul_one]
  exact List.take_of_length_le (by simp)
theorem ownsRow_grow {w w' : World} {base : Nat} {e : TypeId} {size : Nat} {v : Value} {n : Nat} {xs : List Value} (h : w.ownsRow base e size v n xs) (g : Grow w w') : w'.ownsRow base e size v n xs := by
  refine ⟨h.1, ?_⟩
  rcases h.2 with h2 | ⟨b, cap, cur, hv, hb, hh, r⟩
  · exact .inl h2
  · have hlt : b < w.heap.size := by
      rcases Nat.lt_or_ge b w.heap.size with h' | h'
      · exact h'
      · rw [Array.getElem?_eq_none h'] at hh; cases hh
    exact .inr ⟨b, cap, cur, hv, hb, (Below.block g b hlt).trans hh, r⟩
theorem Own.grow {w w' : World} {base : Nat} {v : Value} {l : List UInt8} (h : Own w base v l) (g : Grow w w') : Own w' base v l := ownsRow_grow h g
theorem own_block {w : World} {base : Nat} {e : TypeId} {size : Nat} {v : Value} {n : Nat} {xs : List Value} (h : w.ownsRow base e size v n xs) : ∀ k, v.ownBlock = some k → base ≤ k := by
  intro k hk
  rcases h.2 with ⟨rfl, _⟩ | ⟨g, cap, cur, rfl, hb, _⟩
  · simp [Value.ownBlock] at hk
  · simp [Value.ownBlock] at hk; omega
theorem u64_of (n : Int) : 0 ≤ IntKind.u64.wrap n ∧ IntKind.u64.wrap n % 65536 = n % 65536 := by
  have h : IntKind.u64.wrap n = n % 18446744073709551616 := by simp [IntKind.wrap, IntKind.signed, IntKind.bits]
  rw [h]
  constructor <;> omega

set_option maxHeartbeats 400000 in
theorem Two_any (n : Int) (w : World) (h1 : -9223372036854775808 ≤ n) (h2 : n ≤ 9223372036854775807) :
    Calls Try.prog 31 #[.int .i64 n] w fun e w' => ∃ v, e = .returned v ∧ Own w' w.heap.size v (two n) ∧ Grow w w' := by
  obtain ⟨hu, hn⟩ := u64_of n
  have H := Lib.hid hn
  clear hn
  go_enter Try.func31, Try.ntmps31
  go_wp2
  go_ret
  refine ⟨_, rfl, Own.lit w _ (two n) ?_ (by rw [two_length]; decide), Grow.alloc _ _⟩
  have hn := H.out
  simp only [two, bv, List.map_cons, List.map_nil, UInt8.toNat_ofNat', List.cons.injEq, Value.int.injEq, true_and, and_true]
  constructor <;> omega

set_option maxHeartbeats 400000 in
theorem Four_any (n : Nat) (w : World) (h : n < 4294967296) :
    Calls Try.prog 32 #[.int .u32 (n : Int)] w fun e w' => ∃ v, e = .returned v ∧ Own w' w.heap.size v (dig n 4) ∧ Grow w w' := by
  rw [dig_four n h]
  go_enter Try.func32, Try.ntmps32
  go_wp2_with fail
  refine (Two_any _ _ (by omega) (by omega)).mono ?_
  rintro e w1 ⟨v1, rfl, ho1, hg1⟩
  go_wp2_with fail
  refine (Two_any _ _ (by omega) (by omega)).mono ?_
  rintro e w2 ⟨v2, rfl, ho2, hg2⟩
  have ho3 := ho1.grow hg2
  have hr := ho2.byt
  have hs := hg1.size
  have hs2 := hg2.size
  have f1 : w2.ownsRow w.heap.size 5 1 v1 2 ((two ((n / 65536 : Nat) : Int)).map bv) := ho3
  have f2 : Hid (((two ((n % 65536 : Nat) : Int)).map bv).length = 2) := rfl
  have f3 : (2 : Nat) + 2 ≤ maxLen := by simp [maxLen]
  have f4 : w.heap.size ≤ w2.heap.size := by omega
  go_wp2_with (at_builtin; go_loud (refine wpList_append_rd _ rfl _ _ 24 rfl w.heap.size 5 (.int .u8 0) 1 Try.underlying24 infoByte rfl v1 2 2 _ rfl f1 v2 _ rfl hr f2 (bv_one _) (by omega) f3 f4 ?_); intro v3 w3 hown hgr hat)
  go_ret
  refine ⟨v3, rfl, ?_, ((hg1.trans hg2).grown hgr (by omega) fun k hk => own_block ho3 k hk)⟩
  unfold Own
  rw [← List.map_append] at hown
  exact hown

set_option maxHeartbeats 400000 in
theorem digits_any (n m : Nat) (w : World) (_h : n < 4294967296) (hm : m ≤ 4) :
    Calls Try.prog 40 #[.int .u32 (n : Int), .int .i64 (m : Int)] w fun e w' => ∃ v, e = .returned v ∧ Own w' w.heap.size v (dig n m) ∧ Grow w w' := by
  obtain ⟨i0, hi, hz0, hz1, hz2⟩ := info_parts infoByte
  have f1 : i0.bytes * m ≤ 281474976710656 := by rw [hz2]; omega
  have f2 : m ≤ maxLen := by unfold maxLen; omega
  go_enter Try.func40, Try.ntmps40
  go_wp2_with (at_make; refine wpList_make_full _ rfl _ _ 24 rfl w.heap.size 5 i0 (.int .u8 0) 1 Try.underlying24 hi hz0 hz1 .i64 .i64 _ _ m rfl rfl rfl rfl f1 f2 (Nat.le_refl _) ?_; intro w1 hown hg)
  rw [show (Value.int IntKind.u8 0).cells = #[Value.int IntKind.u8 0] from rfl, Nat.mul_one, toList_madeCells_one] at hown
  go_loopw [10] (fun i wr => ∃ j : Nat, j ≤ m ∧ i = .int .i64 (j : Int) ∧ wr.ownsRow w.heap.size 5 1 (.slice (some ⟨w.heap.size, 0, none⟩) m m) m ((List.replicate (m - j) (0 : UInt8) ++ dig n j).map bv) ∧ Below w.heap.size w wr) (fun i _ => m - (intOf i).toNat)
  case atStart => exact ⟨0, Nat.zero_le _, rfl, by simpa [bv, dig] using hown, (Below.refl _ _).grown hg (Nat.le_refl _) (by simp)⟩
  case round =>
    obtain ⟨j, hj, rfl, hown, hb⟩ := hrel
    by_cases hlt : j < m
    · have hc := hown.cellAt (m - 1 - j) (by omega)
      have hfz := hown.frozenAt (m - 1 - j)
      rw [List.getElem?_eq_getElem (by simp [dig_length]; omega)] at hc
      have hst := hown.stored (m - 1 - j) (bv (UInt8.ofNat (n / 256 ^ j)))
      rw [← List.map_set, set_dig n m j hlt] at hst
      have HS := Lib.hid hst
      clear hst
      go_wp2
      refine ⟨⟨j + 1, by omega, by go_num, ?_, ?_⟩, by simp [intOf]; omega⟩
      · rw [shr_byte]
        exact HS.out.1
      · exact hb.setCell (Nat.le_refl _) _
    · go_wp2
      have : j = m := by omega
      subst this
      go_ret
      refine ⟨_, rfl, ?_, hb⟩
      unfold Own
      rw [dig_length]
      simpa using hown

/-- The length of all of them. -/
def lens (ls : List (List UInt8)) : Nat := (ls.map List.length).sum
theorem lens_snoc (ls : List (List UInt8)) (j : Nat) (h : j < ls.length) : lens (ls.take (j + 1)) = lens (ls.take j) + ls[j].length := by
  rw [List.take_succ_eq_append_getElem h]
  simp only [lens, List.map_append, List.map_cons, List.map_nil, List.sum_append, List.sum_cons, List.sum_nil, Nat.add_zero]
theorem lens_le (ls : List (List UInt8)) (j : Nat) : lens (ls.take j) ≤ lens ls := by
  have h := congrArg lens (List.take_append_drop j ls)
  simp only [lens, List.map_append, List.sum_append] at h ⊢
  omega
theorem lens_flatten (ls : List (List UInt8)) : ls.flatten.length = lens ls := by simp [lens, List.length_flatten]

set_option maxHeartbeats 1000000 in
theorem Join_some (b off n c : Nat) (ls : List (List UInt8)) (w : World) (h : Byts w (.slice (some ⟨b, off, none⟩) n c) ls) (h0 : 0 < n) (hl : lens ls ≤ 281474976710656) :
    Calls Try.prog 24 #[.slice (some ⟨b, off, none⟩) n c] w fun e w' => ∃ v, e = .returned v ∧ Own w' w.heap.size v ls.flatten ∧ Grow w w' := by
  obtain ⟨rfl, hc, hcm⟩ := h.len
  unfold maxLen at hcm
  obtain ⟨b', off', e, hb, hcell⟩ := h.at_ h0
  cases e
  obtain ⟨i0, hi, hz0, hz1, hz2⟩ := info_parts infoByte
  have f1 : i0.bytes * lens ls ≤ 281474976710656 := by rw [hz2]; omega
  have f2 : lens ls ≤ maxLen := by unfold maxLen; omega
  go_enter Try.func24, Try.ntmps24
  go_wp2
  go_loop [3, 11] (fun t i => ∃ j : Nat, j ≤ ls.length ∧ i = .int .i64 (j : Int) ∧ t = .int .i64 (lens (ls.take j) : Nat)) (fun _ i => ls.length - (intOf i).toNat)
  case atStart => exact ⟨0, Nat.zero_le _, rfl, rfl⟩
  case round =>
    obtain ⟨j, hj, rfl, rfl⟩ := hrel
    by_cases hlt : j < ls.length
    · obtain ⟨u, hu, hbu⟩ := hcell j hlt
      obtain ⟨A, c', rfl, h1, h2⟩ := hbu.form
      unfold maxLen at h2
      have e1 := lens_le ls (j + 1)
      have e2 := lens_snoc ls j hlt
      have e3 : lens (ls.take j) + ls[j].length ≤ 281474976710656 := by omega
      have E := Lib.hid e2
      clear e1 e2 hcell
      go_wp2
      go_round
      case rel => exact ⟨j + 1, by omega, by go_num, by rw [E.out]; go_num⟩
      case measure => simp [intOf]; omega
    · have : j = ls.length := by omega
      subst this
      rw [List.take_length]
      go_wp2_with (at_make; go_loud (refine wpList_make_own _ rfl _ _ 24 rfl w.heap.size 5 i0 (.int .u8 0) 1 Try.underlying24 hi hz0 hz1 .i64 .i64 _ (lens ls) rfl rfl rfl f1 f2 (Nat.le_refl _) ?_); intro w1 hown hg)
      have hg1 : Grow w w1 := (Below.refl _ _).grown hg (Nat.le_refl _) (by simp)
      go_loopw [6, 24] (fun v i wr => ∃ j : Nat, j ≤ ls.length ∧ i = .int .i64 (j : Int) ∧ v = .slice (some ⟨w.heap.size, 0, none⟩) (lens (ls.take j)) (lens ls) ∧ wr.ownsRow w.heap.size 5 1 (.slice (some ⟨w.heap.size, 0, none⟩) (lens (ls.take j)) (lens ls)) (lens (ls.take j)) ((ls.take j).flatten.map bv) ∧ Grow w wr) (fun _ i _ => ls.length - (intOf i).toNat)
      case atStart => exact ⟨0, Nat.zero_le _, rfl, rfl, hown, hg1⟩
      case round =>
        obtain ⟨j, hj, rfl, rfl, hown, hgr⟩ := hrel
        by_cases hlt : j < ls.length
        · obtain ⟨u, hu, hbu⟩ := hcell j hlt
          have hu' := (hgr.cell (p := ⟨b, off + j, none⟩) hb).trans hu
          have hbr := hbu.grow hgr
          have e1 := lens_le ls (j + 1)
          have e2 := lens_snoc ls j hlt
          have f3 : lens (ls.take j) + ls[j].length ≤ lens ls := by omega
          have f4 : Hid ((ls[j].map bv).length = ls[j].length) := List.length_map ..
          have E := Lib.hid e2
          have B := Lib.hid (bv_one ls[j])
          clear e1 e2 hcell
          go_wp2_with (at_builtin; go_loud (refine wpList_append_fits_rd _ rfl _ _ 24 rfl w.heap.size 5 (.int .u8 0) 1 Try.underlying24 infoByte w.heap.size (lens ls) (lens (ls.take j)) ls[j].length _ rfl hown u _ rfl hbr f4 B.out f3 ?_); intro w2 hown2 hg2)
          refine ⟨⟨j + 1, by omega, by go_num, by rw [E.out], ?_, Below.grown hgr hg2 hgr.size (by simp)⟩, by simp [intOf]; omega⟩
          rw [List.take_succ_eq_append_getElem hlt, List.flatten_append, List.map_append, ← List.take_succ_eq_append_getElem hlt, E.out]
          simpa using hown2
        · have : j = ls.length := by omega
          subst this
          rw [List.take_length] at hown ⊢
          go_wp2
          go_ret
          refine ⟨_, rfl, ?_, hgr⟩
          unfold Own
          rw [lens_flatten]
          exact hown

/-- Join of a literal of one, two or three. -/
theorem Join_lit (w₀ w : World) (hg : Grow w₀ w) (cs : Array Value) (k : Nat) (ls : List (List UInt8)) (hk : k = ls.length) (h : cs.size = ls.length) (h0 : 0 < ls.length) (hm : ls.length ≤ maxLen) (hl : lens ls ≤ 281474976710656)
    (hs : ∀ (i : Nat) (u : Value) (l : List UInt8), cs[i]? = some u → ls[i]? = some l → Byt w u l) :
    Calls Try.prog 24 #[.slice (some ⟨w.heap.size, 0, none⟩) k k] (w.alloc (.cells cs 24)) fun e w' => ∃ v, e = .returned v ∧ Own w' w₀.heap.size v ls.flatten ∧ Grow w₀ w' := by
  refine (Join_some _ _ _ _ ls _ (Byts.lit w cs 24 ls k hk h hm hs) (by omega) hl).mono ?_
  rintro e w' ⟨v, rfl, ho, hg'⟩
  refine ⟨v, rfl, ?_, (hg.trans (Grow.alloc _ _)).trans hg'⟩
  obtain ⟨h1, h2⟩ := ho
  refine ⟨h1, ?_⟩
  have := hg.size
  rcases h2 with h2 | ⟨g, cap, cur, e1, e2, r⟩
  · exact .inl h2
  · exact .inr ⟨g, cap, cur, e1, by simp at e2; omega, r⟩

/-- The same, its block named by another. -/
theorem Join_lit_at (w₀ w : World) (hg : Grow w₀ w) (cs : Array Value) (k b : Nat) (hb : b = w.heap.size) (ls : List (List UInt8)) (hk : k = ls.length) (h : cs.size = ls.length) (h0 : 0 < ls.length) (hm : ls.length ≤ maxLen) (hl : lens ls ≤ 281474976710656)
    (hs : ∀ (i : Nat) (u : Value) (l : List UInt8), cs[i]? = some u → ls[i]? = some l → Byt w u l) :
    Calls Try.prog 24 #[.slice (some ⟨b, 0, none⟩) k k] (w.alloc (.cells cs 24)) fun e w' => ∃ v, e = .returned v ∧ Own w' w₀.heap.size v ls.flatten ∧ Grow w₀ w' := by
  subst hb
  exact Join_lit w₀ w hg cs k ls hk h h0 hm hl hs

set_option maxHeartbeats 400000 in
theorem Put32_any (v : Value) (l : List UInt8) (n : Nat) (w : World) (h : Byt w v l) (hl : l.length ≤ 281474976710652) (hn : n < 4294967296) :
    Calls Try.prog 39 #[v, .int .u32 (n : Int)] w fun e w' => ∃ u, e = .returned u ∧ Own w' w.heap.size u (l ++ dig n 4) ∧ Grow w w' := by
  obtain ⟨A, c, rfl, hc, hcm⟩ := h.form
  go_enter Try.func39, Try.ntmps39
  go_wp2_with fail
  refine (digits_any n 4 _ hn (by omega)).mono ?_
  rintro e w1 ⟨v1, rfl, ho1, hg1⟩
  obtain ⟨A1, c1, rfl, h1, h2⟩ := ho1.byt.form
  go_wp2_with fail
  refine (Join_lit w w1 hg1 _ 2 [l, dig n 4] rfl rfl (by simp) (by simp [maxLen]) (by simp [lens, dig_length]; omega) (byt_two (h.grow hg1) ho1.byt)).mono ?_
  rintro e w2 ⟨v2, rfl, ho2, hg2⟩
  go_wp2_with fail
  go_ret
  exact ⟨v2, rfl, by simpa using ho2, hg2⟩

set_option maxHeartbeats 400000 in
theorem Put16_any (v : Value) (l : List UInt8) (n : Int) (w : World) (h : Byt w v l) (hl : l.length ≤ 281474976710652) :
    Calls Try.prog 26 #[v, .int .i64 n] w fun e w' => ∃ u, e = .returned u ∧ Own w' w.heap.size u (l ++ two n) ∧ Grow w w' := by
  obtain ⟨A, c, rfl, hc, hcm⟩ := h.form
  go_enter Try.func26, Try.ntmps26
  go_wp2_with fail
  rw [show n % 4294967296 = ((n % 4294967296).toNat : Int) from by omega]
  refine (digits_any (n % 4294967296).toNat 2 _ (by omega) (by omega)).mono ?_
  rintro e w1 ⟨v1, rfl, ho1, hg1⟩
  rw [dig_two] at ho1
  obtain ⟨A1, c1, rfl, h1, h2⟩ := ho1.byt.form
  go_wp2_with fail
  refine (Join_lit w w1 hg1 _ 2 [l, two n] rfl rfl (by simp) (by simp [maxLen]) (by simp [lens, two_length]; omega) (byt_two (h.grow hg1) ho1.byt)).mono ?_
  rintro e w2 ⟨v2, rfl, ho2, hg2⟩
  go_wp2_with fail
  go_ret
  exact ⟨v2, rfl, by simpa using ho2, hg2⟩

/-- What is cut out: the bytes, and the error. -/
def cutAt (l : List UInt8) (at_ n : Int) : List UInt8 := if withinCode l.length at_ n = 0 then (l.take (at_ + n).toNat).drop at_.toNat else []

theorem padAt_len (l : List UInt8) (k : Nat) : (l ++ List.replicate k (0 : UInt8)).length = l.length + k := by simp

def padOf (l : List UInt8) (unit : Int) : List UInt8 := if unit < 1 ∨ 64 < unit then [] else l ++ List.replicate ((unit.toNat - l.length % unit.toNat) % unit.toNat) 0
def padCode (unit : Int) : Int := if unit < 1 ∨ 64 < unit then 1 else 0

end Go.Proofs.Ytbhdpobmooncpaa
