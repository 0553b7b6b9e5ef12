/- Joined, written, cut, filled up: the contracts of the functions that make memory. -/
import Derived.Test.YteheacblcnamhaaWit
import Derived.Deep.DeepFit
namespace Go.Proofs.Yteheacblcnamhaa
set_option linter.unusedVariables false
open Go.ChangeShapes Go.WideShapes Go.ChangeAt Go.RowKit

theorem infoByte : (Try.prog.info? 5).map (fun i => (i.zero, i.size, i.bytes)) = some (some (.int .u8 0), 1, 1) := by kernel_rfl

/-- A row of bytes of the call's own. -/
def Own (w : World) (base : Nat) (v : Value) (l : List UInt8) : Prop := w.ownsRow base 5 1 v l.length (l.map bv)
theorem Own.byt {w : World} {base : Nat} {v : Value} {l : List UInt8} (h : Own w base v l) : Byt w v l := Byt.of_own h

theorem Own.lit (w : World) (cs : Array Value) (l : List UInt8) (h : cs.toList = l.map bv) (hm : l.length ≤ maxLen) : Own (w.alloc (.cells cs 5)) w.heap.size (.slice (some ⟨w.heap.size, 0, none⟩) l.length l.length) l := by
  have hs : cs.size = l.length := by rw [← Array.length_toList, h, List.length_map]
  refine ⟨by simp, .inr ⟨w.heap.size, l.length, cs, rfl, Nat.le_refl _, heap_alloc_new w _, Nat.le_refl _, hm, by omega, ?_⟩⟩
  rw [h, Nat.mul_one]
  exact List.take_of_length_le (by simp)
theorem ownsRow_grow {w w' : World} {base : Nat} {e : TypeId} {size : Nat} {v : Value} {n : Nat} {xs : List Value} (h : w.ownsRow base e size v n xs) (g : Grow w w') : w'.ownsRow base e size v n xs := by
  refine ⟨h.1, ?_⟩
  rcases h.2 with h2 | ⟨b, cap, cur, hv, hb, hh, r⟩
  · exact .inl h2
  · have hlt : b < w.heap.size := by
      rcases Nat.lt_or_ge b w.heap.size with h' | h'
      · exact h'
      · rw [Array.getElem?_eq_none h'] at hh; cases hh
    exact .inr ⟨b, cap, cur, hv, hb, (Below.block g b hlt).trans hh, r⟩
theorem Own.grow {w w' : World} {base : Nat} {v : Value} {l : List UInt8} (h : Own w base v l) (g : Grow w w') : Own w' base v l := ownsRow_grow h g
theorem own_block {w : World} {base : Nat} {e : TypeId} {size : Nat} {v : Value} {n : Nat} {xs : List Value} (h : w.ownsRow base e size v n xs) : ∀ k, v.ownBlock = some k → base ≤ k := by
  intro k hk
  rcases h.2 with ⟨rfl, _⟩ | ⟨g, cap, cur, rfl, hb, _⟩
  · simp [Value.ownBlock] at hk
  · simp [Value.ownBlock] at hk; omega
theorem u64_of (n : Int) : 0 ≤ IntKind.u64.wrap n ∧ IntKind.u64.wrap n % 65536 = n % 65536 := by
  have h : IntKind.u64.wrap n = n % 18446744073709551616 := by simp [IntKind.wrap, IntKind.signed, IntKind.bits]
  rw [h]
  constructor <;> omega

set_option maxHeartbeats 400000 in
theorem Two_any (n : Int) (w : World) (h1 : -9223372036854775808 ≤ n) (h2 : n ≤ 9223372036854775807) :
    Calls Try.prog 10 #[.int .i64 n] w fun e w' => ∃ v, e = .returned v ∧ Own w' w.heap.size v (two n) ∧ Grow w w' := by
  obtain ⟨hu, hn⟩ := u64_of n
  have H := Lib.hid hn
  clear hn
  go_enter Try.func10, Try.ntmps10
  go_wp2
  go_ret
  refine ⟨_, rfl, Own.lit w _ (two n) ?_ (by rw [two_length]; decide), Grow.alloc _ _⟩
  have hn := H.out
  simp only [two, bv, List.map_cons, List.map_nil, UInt8.toNat_ofNat', List.cons.injEq, Value.int.injEq, true_and, and_true]
  constructor <;> omega

set_option maxHeartbeats 400000 in
theorem Zeros_any (n : Int) (w : World) (h1 : -9223372036854775808 ≤ n) (h2 : n ≤ 9223372036854775807) :
    Calls Try.prog 21 #[.int .i64 n] w fun e w' => ∃ v, e = .returned (.tuple #[v, .int .i64 (if n < 0 then 1 else if 65535 < n then 9 else 0)]) ∧ Byt w' v (if n < 0 then [] else if 65535 < n then [] else List.replicate n.toNat 0) ∧ Grow w w' := by
  by_cases ha : n < 0
  · rw [if_pos ha, if_pos ha]
    go_enter Try.func21, Try.ntmps21
    go_wp2
    go_ret2
    exact ⟨_, rfl, Byt.nil _, Grow.refl _⟩
  · rw [if_neg ha, if_neg ha]
    by_cases hb : 65535 < n
    · rw [if_pos hb, if_pos hb]
      go_enter Try.func21, Try.ntmps21
      go_wp2
      go_ret2
      exact ⟨_, rfl, Byt.nil _, Grow.refl _⟩
    · rw [if_neg hb, if_neg hb]
      obtain ⟨m, rfl⟩ := Int.eq_ofNat_of_zero_le (by omega : 0 ≤ n)
      obtain ⟨i0, hi, hz0, hz1, hz2⟩ := info_parts infoByte
      go_enter Try.func21, Try.ntmps21
      go_wp2_with (at_make; refine wpList_make_full _ rfl _ _ 22 rfl w.heap.size 5 i0 (.int .u8 0) 1 Try.underlying22 hi hz0 hz1 .i64 .i64 _ _ m rfl rfl rfl rfl (by rw [hz2]; omega) (by unfold maxLen; omega) (Nat.le_refl _) ?_; intro w1 hown hg)
      go_ret2
      refine ⟨_, rfl, ?_, (Below.refl _ _).grown hg (Nat.le_refl _) (by simp)⟩
      refine Byt.of_own (base := w.heap.size) (e := 5) (n := m) ?_
      rw [show (Value.int IntKind.u8 0).cells = #[Value.int IntKind.u8 0] from rfl, Nat.mul_one, toList_madeCells_one] at hown
      simpa [bv] using hown

set_option maxHeartbeats 400000 in
theorem Four_any (n : Nat) (w : World) (h : n < 4294967296) :
    Calls Try.prog 12 #[.int .u32 (n : Int)] w fun e w' => ∃ v, e = .returned v ∧ Own w' w.heap.size v (dig n 4) ∧ Grow w w' := by
  rw [dig_four n h]
  go_enter Try.func12, Try.ntmps12
  go_wp2_with fail
  refine (Two_any _ _ (by omega) (by omega)).mono ?_
  rintro e w1 ⟨v1, rfl, ho1, hg1⟩
  go_wp2_with fail
  refine (Two_any _ _ (by omega) (by omega)).mono ?_
  rintro e w2 ⟨v2, rfl, ho2, hg2⟩
  have ho3 := ho1.grow hg2
  have hr := ho2.byt
  have hs := hg1.size
  have hs2 := hg2.size
  have f1 : w2.ownsRow w.heap.size 5 1 v1 2 ((two ((n / 65536 : Nat) : Int)).map bv) := ho3
  have f2 : Hid (((two ((n % 65536 : Nat) : Int)).map bv).length = 2) := rfl
  have f3 : (2 : Nat) + 2 ≤ maxLen := by simp [maxLen]
  have f4 : w.heap.size ≤ w2.heap.size := by omega
  go_wp2_with (at_builtin; go_loud (refine wpList_append_rd _ rfl _ _ 22 rfl w.heap.size 5 (.int .u8 0) 1 Try.underlying22 infoByte rfl v1 2 2 _ rfl f1 v2 _ rfl hr f2 (bv_one _) (by omega) f3 f4 ?_); intro v3 w3 hown hgr hat)
  go_ret
  refine ⟨v3, rfl, ?_, ((hg1.trans hg2).grown hgr (by omega) fun k hk => own_block ho3 k hk)⟩
  unfold Own
  rw [← List.map_append] at hown
  exact hown

set_option maxHeartbeats 400000 in
theorem digits_any (n m : Nat) (w : World) (_h : n < 4294967296) (hm : m ≤ 4) :
    Calls Try.prog 23 #[.int .u32 (n : Int), .int .i64 (m : Int)] w fun e w' => ∃ v, e = .returned v ∧ Own w' w.heap.size v (dig n m) ∧ Grow w w' := by
  obtain ⟨i0, hi, hz0, hz1, hz2⟩ := info_parts infoByte
  have f1 : i0.bytes * m ≤ 281474976710656 := by rw [hz2]; omega
  have f2 : m ≤ maxLen := by unfold maxLen; omega
  go_enter Try.func23, Try.ntmps23
  go_wp2_with (at_make; refine wpList_make_full _ rfl _ _ 22 rfl w.heap.size 5 i0 (.int .u8 0) 1 Try.underlying22 hi hz0 hz1 .i64 .i64 _ _ m rfl rfl rfl rfl f1 f2 (Nat.le_refl _) ?_; intro w1 hown hg)
  rw [show (Value.int IntKind.u8 0).cells = #[Value.int IntKind.u8 0] from rfl, Nat.mul_one, toList_madeCells_one] at hown
  go_loopw [10] (fun i wr => ∃ j : Nat, j ≤ m ∧ i = .int .i64 (j : Int) ∧ wr.ownsRow w.heap.size 5 1 (.slice (some ⟨w.heap.size, 0, none⟩) m m) m ((List.replicate (m - j) (0 : UInt8) ++ dig n j).map bv) ∧ Below w.heap.size w wr) (fun i _ => m - (intOf i).toNat)
  case atStart => exact ⟨0, Nat.zero_le _, rfl, by simpa [bv, dig] using hown, (Below.refl _ _).grown hg (Nat.le_refl _) (by simp)⟩
  case round =>
    obtain ⟨j, hj, rfl, hown, hb⟩ := hrel
    by_cases hlt : j < m
    · have hc := hown.cellAt (m - 1 - j) (by omega)
      have hfz := hown.frozenAt (m - 1 - j)
      rw [List.getElem?_eq_getElem (by simp [dig_length]; omega)] at hc
      have hst := hown.stored (m - 1 - j) (bv (UInt8.ofNat (n / 256 ^ j)))
      rw [← List.map_set, set_dig n m j hlt] at hst
      have HS := Lib.hid hst
      clear hst
      go_wp2
      refine ⟨⟨j + 1, by omega, by go_num, ?_, ?_⟩, by simp [intOf]; omega⟩
      · rw [shr_byte]
        exact HS.out.1
      · exact hb.setCell (Nat.le_refl _) _
    · go_wp2
      have : j = m := by omega
      subst this
      go_ret
      refine ⟨_, rfl, ?_, hb⟩
      unfold Own
      rw [dig_length]
      simpa using hown

/-- The length of all of them. -/
def lens (ls : List (List UInt8)) : Nat := (ls.map List.length).sum
theorem lens_snoc (ls : List (List UInt8)) (j : Nat) (h : j < ls.length) : lens (ls.take (j + 1)) = lens (ls.take j) + ls[j].length := by
  rw [List.take_succ_eq_append_getElem h]
  simp only [lens, List.map_append, List.map_cons, List.map_nil, List.sum_append, List.sum_cons, List.sum_nil, Nat.add_zero]
theorem lens_le (ls : List (List UInt8)) (j : Nat) : lens (ls.take j) ≤ lens ls := by
  have h := congrArg lens (List.take_append_drop j ls)
  simp only [lens, List.map_append, List.sum_append] at h ⊢
  omega
theorem lens_flatten (ls : List (List UInt8)) : ls.flatten.length = lens ls := by simp [lens, List.length_flatten]

set_option maxHeartbeats 1000000 in
theorem Join_some (b off n c : Nat) (ls : List (List UInt8)) (w : World) (h : Byts w (.slice (some ⟨b, off, none⟩) n c) ls) (h0 : 0 < n) (hl : lens ls ≤ 281474976710656) :
    Calls Try.prog 22 #[.slice (some ⟨b, off, none⟩) n c] w fun e w' => ∃ v, e = .returned v ∧ Own w' w.heap.size v ls.flatten ∧ Grow w w' := by
  obtain ⟨rfl, hc, hcm⟩ := h.len
  unfold maxLen at hcm
  obtain ⟨b', off', e, hb, hcell⟩ := h.at_ h0
  cases e
  obtain ⟨i0, hi, hz0, hz1, hz2⟩ := info_parts infoByte
  have f1 : i0.bytes * lens ls ≤ 281474976710656 := by rw [hz2]; omega
  have f2 : lens ls ≤ maxLen := by unfold maxLen; omega
  go_enter Try.func22, Try.ntmps22
  go_wp2
  go_loop [3, 11] (fun t i => ∃ j : Nat, j ≤ ls.length ∧ i = .int .i64 (j : Int) ∧ t = .int .i64 (lens (ls.take j) : Nat)) (fun _ i => ls.length - (intOf i).toNat)
  case atStart => exact ⟨0, Nat.zero_le _, rfl, rfl⟩
  case round =>
    obtain ⟨j, hj, rfl, rfl⟩ := hrel
    by_cases hlt : j < ls.length
    · obtain ⟨u, hu, hbu⟩ := hcell j hlt
      obtain ⟨A, c', rfl, h1, h2⟩ := hbu.form
      unfold maxLen at h2
      have e1 := lens_le ls (j + 1)
      have e2 := lens_snoc ls j hlt
      have e3 : lens (ls.take j) + ls[j].length ≤ 281474976710656 := by omega
      have E := Lib.hid e2
      clear e1 e2 hcell
      go_wp2
      go_round
      case rel => exact ⟨j + 1, by omega, by go_num, by rw [E.out]; go_num⟩
      case measure => simp [intOf]; omega
    · have : j = ls.length := by omega
      subst this
      rw [List.take_length]
      go_wp2_with (at_make; go_loud (refine wpList_make_own _ rfl _ _ 22 rfl w.heap.size 5 i0 (.int .u8 0) 1 Try.underlying22 hi hz0 hz1 .i64 .i64 _ (lens ls) rfl rfl rfl f1 f2 (Nat.le_refl _) ?_); intro w1 hown hg)
      have hg1 : Grow w w1 := (Below.refl _ _).grown hg (Nat.le_refl _) (by simp)
      go_loopw [6, 24] (fun v i wr => ∃ j : Nat, j ≤ ls.length ∧ i = .int .i64 (j : Int) ∧ v = .slice (some ⟨w.heap.size, 0, none⟩) (lens (ls.take j)) (lens ls) ∧ wr.ownsRow w.heap.size 5 1 (.slice (some ⟨w.heap.size, 0, none⟩) (lens (ls.take j)) (lens ls)) (lens (ls.take j)) ((ls.take j).flatten.map bv) ∧ Grow w wr) (fun _ i _ => ls.length - (intOf i).toNat)
      case atStart => exact ⟨0, Nat.zero_le _, rfl, rfl, hown, hg1⟩
      case round =>
        obtain ⟨j, hj, rfl, rfl, hown, hgr⟩ := hrel
        by_cases hlt : j < ls.length
        · obtain ⟨u, hu, hbu⟩ := hcell j hlt
          have hu' := (hgr.cell (p := ⟨b, off + j, none⟩) hb).trans hu
          have hbr := hbu.grow hgr
          have e1 := lens_le ls (j + 1)
          have e2 := lens_snoc ls j hlt
          have f3 : lens (ls.take j) + ls[j].length ≤ lens ls := by omega
          have f4 : Hid ((ls[j].map bv).length = ls[j].length) := List.length_map ..
          have E := Lib.hid e2
          have B := Lib.hid (bv_one ls[j])
          clear e1 e2 hcell
          go_wp2_with (at_builtin; go_loud (refine wpList_append_fits_rd _ rfl _ _ 22 rfl w.heap.size 5 (.int .u8 0) 1 Try.underlying22 infoByte w.heap.size (lens ls) (lens (ls.take j)) ls[j].length _ rfl hown u _ rfl hbr f4 B.out f3 ?_); intro w2 hown2 hg2)
          refine ⟨⟨j + 1, by omega, by go_num, by rw [E.out], ?_, Below.grown hgr hg2 hgr.size (by simp)⟩, by simp [intOf]; omega⟩
          rw [List.take_succ_eq_append_getElem hlt, List.flatten_append, List.map_append, ← List.take_succ_eq_append_getElem hlt, E.out]
          simpa using hown2
        · have : j = ls.length := by omega
          subst this
          rw [List.take_length] at hown ⊢
          go_wp2
          go_ret
          refine ⟨_, rfl, ?_, hgr⟩
          unfold Own
          rw [lens_flatten]
          exact hown

/-- Join of a literal of one, two or three. -/
theorem Join_lit (w₀ w : World) (hg : Grow w₀ w) (cs : Array Value) (k : Nat) (ls : List (List UInt8)) (hk : k = ls.length) (h : cs.size = ls.length) (h0 : 0 < ls.length) (hm : ls.length ≤ maxLen) (hl : lens ls ≤ 281474976710656)
    (hs : ∀ (i : Nat) (u : Value) (l : List UInt8), cs[i]? = some u → ls[i]? = some l → Byt w u l) :
    Calls Try.prog 22 #[.slice (some ⟨w.heap.size, 0, none⟩) k k] (w.alloc (.cells cs 22)) fun e w' => ∃ v, e = .returned v ∧ Own w' w₀.heap.size v ls.flatten ∧ Grow w₀ w' := by
  refine (Join_some _ _ _ _ ls _ (Byts.lit w cs 22 ls k hk h hm hs) (by omega) hl).mono ?_
  rintro e w' ⟨v, rfl, ho, hg'⟩
  refine ⟨v, rfl, ?_, (hg.trans (Grow.alloc _ _)).trans hg'⟩
  obtain ⟨h1, h2⟩ := ho
  refine ⟨h1, ?_⟩
  have := hg.size
  rcases h2 with h2 | ⟨g, cap, cur, e1, e2, r⟩
  · exact .inl h2
  · exact .inr ⟨g, cap, cur, e1, by simp at e2; omega, r⟩

set_option maxHeartbeats 400000 in
theorem Put32_any (v : Value) (l : List UInt8) (n : Nat) (w : World) (h : Byt w v l) (hl : l.length ≤ 281474976710652) (hn : n < 4294967296) :
    Calls Try.prog 11 #[v, .int .u32 (n : Int)] w fun e w' => ∃ u, e = .returned u ∧ Own w' w.heap.size u (l ++ dig n 4) ∧ Grow w w' := by
  obtain ⟨A, c, rfl, hc, hcm⟩ := h.form
  go_enter Try.func11, Try.ntmps11
  go_wp2_with fail
  refine (digits_any n 4 _ hn (by omega)).mono ?_
  rintro e w1 ⟨v1, rfl, ho1, hg1⟩
  obtain ⟨A1, c1, rfl, h1, h2⟩ := ho1.byt.form
  go_wp2_with fail
  refine (Join_lit w w1 hg1 _ 2 [l, dig n 4] rfl rfl (by simp) (by simp [maxLen]) (by simp [lens, dig_length]; omega) (byt_two (h.grow hg1) ho1.byt)).mono ?_
  rintro e w2 ⟨v2, rfl, ho2, hg2⟩
  go_wp2_with fail
  go_ret
  exact ⟨v2, rfl, by simpa using ho2, hg2⟩

set_option maxHeartbeats 400000 in
theorem Put16_any (v : Value) (l : List UInt8) (n : Int) (w : World) (h : Byt w v l) (hl : l.length ≤ 281474976710652) :
    Calls Try.prog 9 #[v, .int .i64 n] w fun e w' => ∃ u, e = .returned u ∧ Own w' w.heap.size u (l ++ two n) ∧ Grow w w' := by
  obtain ⟨A, c, rfl, hc, hcm⟩ := h.form
  go_enter Try.func9, Try.ntmps9
  go_wp2_with fail
  rw [show n % 4294967296 = ((n % 4294967296).toNat : Int) from by omega]
  refine (digits_any (n % 4294967296).toNat 2 _ (by omega) (by omega)).mono ?_
  rintro e w1 ⟨v1, rfl, ho1, hg1⟩
  rw [dig_two] at ho1
  obtain ⟨A1, c1, rfl, h1, h2⟩ := ho1.byt.form
  go_wp2_with fail
  refine (Join_lit w w1 hg1 _ 2 [l, two n] rfl rfl (by simp) (by simp [maxLen]) (by simp [lens, two_length]; omega) (byt_two (h.grow hg1) ho1.byt)).mono ?_
  rintro e w2 ⟨v2, rfl, ho2, hg2⟩
  go_wp2_with fail
  go_ret
  exact ⟨v2, rfl, by simpa using ho2, hg2⟩

/-- What is cut out: the bytes, and the error. -/
def cutAt (l : List UInt8) (at_ n : Int) : List UInt8 := if withinCode l.length at_ n = 0 then (l.take (at_ + n).toNat).drop at_.toNat else []

set_option maxHeartbeats 400000 in
theorem Cut_any (v : Value) (l : List UInt8) (at_ n : Int) (w : World) (h : Byt w v l) (hl : l.length ≤ 281474976710652) (h1 : -9223372036854775808 ≤ at_) (h2 : at_ ≤ 9223372036854775807) :
    Calls Try.prog 17 #[v, .int .i64 at_, .int .i64 n] w fun e w' => ∃ u, e = .returned (.tuple #[u, .int .i64 (withinCode l.length at_ n)]) ∧ Own w' w.heap.size u (cutAt l at_ n) ∧ Grow w w' := by
  obtain ⟨A, c, rfl, hc, hcm⟩ := h.form
  unfold cutAt
  by_cases hz : withinCode l.length at_ n = 0
  · rw [if_pos hz]
    obtain ⟨h3, h4, h5⟩ := within_zero hz
    obtain ⟨k, rfl⟩ := Int.eq_ofNat_of_zero_le h3
    obtain ⟨m, rfl⟩ := Int.eq_ofNat_of_zero_le h4
    obtain ⟨cut1, cut2⟩ := h.cut2 (k := k) (m := m) (by omega)
    have hlen : ((l.take (k + m)).drop k).length = m := by rw [List.length_drop, List.length_take]; omega
    have HL := Lib.hid hlen
    clear hlen
    have Z := Lib.hid hz
    have hcm' := hcm
    unfold maxLen at hcm
    clear hz
    go_enter Try.func17, Try.ntmps17
    go_wp2_with ((go_at_call 25); (refine (within_any _ _ _ _ _ _ (by omega) h1 h2).mono ?_); (rintro e w' ⟨rfl, rfl⟩); (rw [Z.out]))
    all_goals
      first
      | (refine (Join_lit w w (Grow.refl w) _ 1 [(l.take (k + m)).drop k] rfl rfl (by simp) (by simp [maxLen]) (by simp only [lens, List.map_cons, List.map_nil, List.sum_cons, List.sum_nil]; rw [HL.out]; omega) (byt_one (cut1 ‹_›))).mono ?_)
      | (refine (Join_lit w w (Grow.refl w) _ 1 [(l.take (k + m)).drop k] rfl rfl (by simp) (by simp [maxLen]) (by simp only [lens, List.map_cons, List.map_nil, List.sum_cons, List.sum_nil]; rw [HL.out]; omega) (byt_one (cut2 ‹_›))).mono ?_)
      rintro e w2 ⟨v2, rfl, ho2, hg2⟩
      go_wp2_with fail
      go_ret2
      refine ⟨v2, by rw [Z.out]; rfl, ?_, hg2⟩
      rw [show ((k : Int) + (m : Int)).toNat = k + m from by omega, Int.toNat_natCast]
      simpa using ho2
  · rw [if_neg hz]
    have hb : (withinCode l.length at_ n == 0) = false := beq_eq_false_iff_ne.2 hz
    go_enter Try.func17, Try.ntmps17
    go_wp2_with ((go_at_call 25); (refine (within_any _ _ _ _ _ _ (by omega) h1 h2).mono ?_); (rintro e w' ⟨rfl, rfl⟩))
    go_ret2
    exact ⟨_, rfl, World.ownsRow_nil _ _ _ _, Grow.refl _⟩

set_option maxHeartbeats 400000 in
theorem RCut_any (v : Value) (l : List UInt8) (at_ n : Int) (w : World) (h : Byt w v l) (h1 : -9223372036854775808 ≤ at_) (h2 : at_ ≤ 9223372036854775807) (h3 : -9223372036854775808 ≤ n) (h4 : n ≤ 9223372036854775807) :
    Calls Try.prog 18 #[v, .int .i64 at_, .int .i64 n] w fun e w' => ∃ u, e = .returned (.tuple #[u, .int .i64 (withinCode l.length at_ n)]) ∧ Byt w' u (cutAt l at_ n) ∧ Grow w w' := by
  obtain ⟨A, c, rfl, hc, hcm⟩ := h.form
  unfold cutAt
  unfold maxLen at hcm
  by_cases hz : withinCode l.length at_ n = 0
  · rw [if_pos hz, hz]
    obtain ⟨h3, h4, h5⟩ := within_zero hz
    obtain ⟨k, rfl⟩ := Int.eq_ofNat_of_zero_le h3
    obtain ⟨m, rfl⟩ := Int.eq_ofNat_of_zero_le h4
    obtain ⟨cut1, cut2⟩ := h.cut2 (k := k) (m := m) (by omega)
    have hlen : ((l.take (k + m)).drop k).length = m := by rw [List.length_drop, List.length_take]; omega
    have HL := Lib.hid hlen
    clear hlen
    clear hz
    go_enter Try.func18, Try.ntmps18
    go_wp2
    all_goals
      go_ret2
      refine ⟨_, rfl, ?_, Grow.refl _⟩
      rw [show ((k : Int) + (m : Int)).toNat = k + m from by omega]
      first
      | exact cut1 ‹_›
      | exact cut2 ‹_›
  · rw [if_neg hz]
    unfold withinCode at hz ⊢
    by_cases ha : at_ < 0
    · rw [if_pos (.inl ha)]
      go_enter Try.func18, Try.ntmps18
      go_wp2
      go_ret2
      exact ⟨_, rfl, Byt.nil _, Grow.refl _⟩
    · by_cases hb : (l.length : Int) < at_
      · rw [if_pos (.inr hb)]
        go_enter Try.func18, Try.ntmps18
        go_wp2
        go_ret2
        exact ⟨_, rfl, Byt.nil _, Grow.refl _⟩
      · rw [if_neg (by omega)] at hz ⊢
        by_cases hn : n < 0
        · rw [if_pos hn]
          go_enter Try.func18, Try.ntmps18
          go_wp2
          go_ret2
          exact ⟨_, rfl, Byt.nil _, Grow.refl _⟩
        · rw [if_neg hn] at hz ⊢
          by_cases hd : (l.length : Int) - at_ < n
          · rw [if_pos hd]
            go_enter Try.func18, Try.ntmps18
            go_wp2
            go_ret2
            exact ⟨_, rfl, Byt.nil _, Grow.refl _⟩
          · rw [if_neg hd] at hz
            exact absurd rfl hz

theorem padAt_len (l : List UInt8) (k : Nat) : (l ++ List.replicate k (0 : UInt8)).length = l.length + k := by simp

set_option maxHeartbeats 400000 in
theorem Pad_bad (v : Value) (l : List UInt8) (unit : Int) (w : World) (h : Byt w v l) (hu : unit < 1 ∨ 64 < unit) :
    Calls Try.prog 19 #[v, .int .i64 unit] w fun e w' => e = .returned (.tuple #[.slice none 0 0, .int .i64 1]) ∧ w = w' := by
  obtain ⟨A, c, rfl, hc, hcm⟩ := h.form
  by_cases h1 : unit < 1
  · go_enter Try.func19, Try.ntmps19
    go_wp2
    go_ret2
    exact ⟨rfl, rfl⟩
  · have h2 : 64 < unit := by omega
    go_enter Try.func19, Try.ntmps19
    go_wp2
    go_ret2
    exact ⟨rfl, rfl⟩

set_option maxHeartbeats 400000 in
theorem Pad_ok (v : Value) (l : List UInt8) (u : Nat) (w : World) (h : Byt w v l) (hl : l.length ≤ 281474976710000) (h1 : 1 ≤ u) (h2 : u ≤ 64) :
    Calls Try.prog 19 #[v, .int .i64 (u : Int)] w fun e w' => ∃ x, e = .returned (.tuple #[x, .int .i64 0]) ∧ Own w' w.heap.size x (l ++ List.replicate ((u - l.length % u) % u) 0) ∧ Grow w w' := by
  obtain ⟨A, c, rfl, hc, hcm⟩ := h.form
  unfold maxLen at hcm
  have hlt := Nat.mod_lt l.length (show 0 < u by omega)
  by_cases hz : l.length % u = 0
  · rw [hz, Nat.sub_zero, Nat.mod_self]
    have hb : ((l.length : Int) % (u : Int) == 0) = true := by rw [beq_iff_eq]; omega
    have hb2 : (l.length : Int) % (u : Int) = 0 := by omega
    clear hz hlt
    have B := Lib.hid hb2
    clear hb2
    go_enter Try.func19, Try.ntmps19
    go_wp2_with fail
    refine (Join_lit w w (Grow.refl w) _ 1 [l] rfl rfl (by simp) (by simp [maxLen]) (by simp [lens]; omega) (byt_one h)).mono ?_
    rintro e w2 ⟨v2, rfl, ho2, hg2⟩
    go_wp2_with fail
    go_ret2
    exact ⟨v2, rfl, by simpa using ho2, hg2⟩
  · have hb : ((l.length : Int) % (u : Int) == 0) = false := by rw [beq_eq_false_iff_ne]; omega
    rw [Nat.mod_eq_of_lt (show u - l.length % u < u by omega)]
    have e1 : ((u - l.length % u : Nat) : Int) = (u : Int) - (l.length : Int) % (u : Int) := by omega
    have hr : (l.length : Int) % (u : Int) < u := by omega
    have hr0 : 0 ≤ (l.length : Int) % (u : Int) := by omega
    have E := Lib.hid e1
    have Z := Lib.hid hz
    clear e1 hz hlt
    go_enter Try.func19, Try.ntmps19
    obtain ⟨i0, hi, hz0, hz1, hz2⟩ := info_parts infoByte
    have f1 : i0.bytes * (u - l.length % u) ≤ 281474976710656 := by rw [hz2]; omega
    have f2 : u - l.length % u ≤ maxLen := by unfold maxLen; omega
    go_wp2_with (at_make; refine wpList_make_full _ rfl _ _ 22 rfl w.heap.size 5 i0 (.int .u8 0) 1 Try.underlying22 hi hz0 hz1 .i64 .i64 _ _ (u - l.length % u) rfl rfl E.out.symm E.out.symm f1 f2 (Nat.le_refl _) ?_; intro w1 hown hg)
    rw [show (Value.int IntKind.u8 0).cells = #[Value.int IntKind.u8 0] from rfl, Nat.mul_one, toList_madeCells_one] at hown
    have hg1 : Grow w w1 := (Below.refl _ _).grown hg (Nat.le_refl _) (by simp)
    have hr1 : Byt w1 (.slice (some ⟨w.heap.size, 0, none⟩) (u - l.length % u) (u - l.length % u)) (List.replicate (u - l.length % u) 0) := Byt.of_own (base := w.heap.size) (e := 5) (n := u - l.length % u) (by simpa [bv] using hown)
    go_wp2_with fail
    refine (Join_lit w w1 hg1 _ 2 [l, List.replicate (u - l.length % u) 0] rfl rfl (by simp) (by simp [maxLen]) (by simp [lens]; omega) (byt_two (h.grow hg1) hr1)).mono ?_
    rintro e w2 ⟨v2, rfl, ho2, hg2⟩
    go_wp2_with fail
    go_ret2
    exact ⟨v2, rfl, by simpa using ho2, hg2⟩

set_option maxHeartbeats 400000 in
theorem RPad_bad (v : Value) (l : List UInt8) (unit : Int) (w : World) (h : Byt w v l) (hu : unit < 1 ∨ 64 < unit) :
    Calls Try.prog 20 #[v, .int .i64 unit] w fun e w' => e = .returned (.tuple #[.slice none 0 0, .int .i64 1]) ∧ w = w' := by
  obtain ⟨A, c, rfl, hc, hcm⟩ := h.form
  by_cases h1 : unit < 1
  · go_enter Try.func20, Try.ntmps20
    go_wp2
    go_ret2
    exact ⟨rfl, rfl⟩
  · have h2 : 64 < unit := by omega
    go_enter Try.func20, Try.ntmps20
    go_wp2
    go_ret2
    exact ⟨rfl, rfl⟩

set_option maxHeartbeats 1000000 in
theorem RPad_ok (v : Value) (l : List UInt8) (u : Nat) (w : World) (h : Byt w v l) (hl : l.length ≤ 140737488351232) (h1 : 1 ≤ u) (h2 : u ≤ 64) :
    Calls Try.prog 20 #[v, .int .i64 (u : Int)] w fun e w' => ∃ x, e = .returned (.tuple #[x, .int .i64 0]) ∧ Own w' w.heap.size x (l ++ List.replicate ((u - l.length % u) % u) 0) ∧ Grow w w' := by
  obtain ⟨A, c, rfl, hc, hcm⟩ := h.form
  unfold maxLen at hcm
  have hlt := Nat.mod_lt l.length (show 0 < u by omega)
  have hlt2 := Nat.mod_lt (u - l.length % u) (show 0 < u by omega)
  have hr : (l.length : Int) % (u : Int) < u := by omega
  have hr0 : 0 ≤ (l.length : Int) % (u : Int) := by omega
  have e1 : (((u - l.length % u) % u : Nat) : Int) = ((u : Int) - (l.length : Int) % (u : Int)) % (u : Int) := by
    rw [Int.natCast_emod]
    congr 1
    omega
  generalize (u - l.length % u) % u = p at *
  have hown0 := Own.lit w #[] [] rfl (by simp [maxLen])
  have g1 := Grow.alloc w (.cells #[] 5)
  have hr1 := h.grow g1
  have f0 : Hid ((l.map bv).length = l.length) := List.length_map ..
  have f1 : (0 + l.length) * 1 ≤ 140737488355328 := by omega
  have f2 : 0 + l.length ≤ maxLen := by simp [maxLen]; omega
  have f3 : w.heap.size ≤ (w.alloc (.cells #[] 5)).heap.size := by simp
  have E := Lib.hid e1.symm
  have B := Lib.hid (bv_one l)
  clear e1 hlt
  go_enter Try.func20, Try.ntmps20
  go_wp2_with (at_builtin; go_loud (refine wpList_append_rd _ rfl _ _ 22 rfl w.heap.size 5 (.int .u8 0) 1 Try.underlying22 infoByte rfl _ 0 l.length [] rfl hown0 _ _ rfl hr1 f0 B.out f1 f2 f3 ?_); intro v1 w1 hown hgr hat)
  have hg1 : Grow w w1 := Below.grown g1 hgr (by simp) (own_block hown0)
  rw [List.nil_append, Nat.zero_add] at hown
  have e3 := E.out
  go_loopw [6, 7] (fun v i wr => ∃ j : Nat, j ≤ p ∧ i = .int .i64 (j : Int) ∧ wr.ownsRow w.heap.size 5 1 v (l.length + j) ((l ++ List.replicate j 0).map bv) ∧ Grow w wr) (fun _ i _ => p - (intOf i).toNat)
  case atStart => exact ⟨0, Nat.zero_le _, rfl, by simpa using hown, hg1⟩
  case round =>
    obtain ⟨j, hj, rfl, hown, hgr⟩ := hrel
    by_cases hlt : j < p
    · have hs := hgr.size
      have g2 := Grow.alloc wr (.cells #[.int .u8 0] 5)
      have hown1 := ownsRow_grow hown g2
      have hr2 : Rd (wr.alloc (.cells #[.int .u8 0] 5)) (.slice (some ⟨wr.heap.size, 0, none⟩) 1 1) [.int .u8 0] := Rd.block (cs := #[.int .u8 0]) (heap_alloc_new wr _) (by simp) (by omega) (by decide)
      have f6 : Hid (([.int .u8 0] : List Value).length = 1) := rfl
      have f7 : Hid (∀ y ∈ ([.int .u8 0] : List Value), y.oneCell' = true) := by intro y hy; simp at hy; subst hy; rfl
      have f8 : (l.length + j + 1) * 1 ≤ 140737488355328 := by omega
      have f9 : l.length + j + 1 ≤ maxLen := by unfold maxLen; omega
      have f10 : w.heap.size ≤ (wr.alloc (.cells #[.int .u8 0] 5)).heap.size := by simp; omega
      have hb1 : Below w.heap.size w (wr.alloc (.cells #[.int .u8 0] 5)) := hgr.trans g2
      go_wp2_with (at_builtin; go_loud (refine wpList_append_rd _ rfl _ _ 22 rfl w.heap.size 5 (.int .u8 0) 1 Try.underlying22 infoByte rfl _ (l.length + j) 1 _ rfl hown1 _ _ rfl hr2 f6 f7.out f8 f9 f10 ?_); intro v2 w2 hown2 hgr2 hat2)
      refine ⟨⟨j + 1, by omega, by go_num, ?_, Below.grown hb1 hgr2 f10 (own_block hown1)⟩, by simp [intOf]; omega⟩
      rw [List.replicate_succ', ← List.append_assoc, List.map_append]
      exact hown2
    · go_wp2
      have : j = p := by omega
      subst this
      go_ret2
      refine ⟨_, rfl, ?_, hgr⟩
      unfold Own
      rw [padAt_len]
      exact hown

def padOf (l : List UInt8) (unit : Int) : List UInt8 := if unit < 1 ∨ 64 < unit then [] else l ++ List.replicate ((unit.toNat - l.length % unit.toNat) % unit.toNat) 0
def padCode (unit : Int) : Int := if unit < 1 ∨ 64 < unit then 1 else 0

theorem Pad_any (v : Value) (l : List UInt8) (unit : Int) (w : World) (h : Byt w v l) (hl : l.length ≤ 281474976710000) :
    Calls Try.prog 19 #[v, .int .i64 unit] w fun e w' => ∃ x, e = .returned (.tuple #[x, .int .i64 (padCode unit)]) ∧ Own w' w.heap.size x (padOf l unit) ∧ Grow w w' := by
  unfold padOf padCode
  by_cases hb : unit < 1 ∨ 64 < unit
  · rw [if_pos hb, if_pos hb]
    refine (Pad_bad v l unit w h hb).mono ?_
    rintro e w' ⟨rfl, rfl⟩
    exact ⟨_, rfl, World.ownsRow_nil _ _ _ _, Grow.refl _⟩
  · rw [if_neg hb, if_neg hb]
    obtain ⟨u, rfl⟩ := Int.eq_ofNat_of_zero_le (by omega : 0 ≤ unit)
    exact Pad_ok v l u w h hl (by omega) (by omega)
theorem RPad_any (v : Value) (l : List UInt8) (unit : Int) (w : World) (h : Byt w v l) (hl : l.length ≤ 140737488351232) :
    Calls Try.prog 20 #[v, .int .i64 unit] w fun e w' => ∃ x, e = .returned (.tuple #[x, .int .i64 (padCode unit)]) ∧ Own w' w.heap.size x (padOf l unit) ∧ Grow w w' := by
  unfold padOf padCode
  by_cases hb : unit < 1 ∨ 64 < unit
  · rw [if_pos hb, if_pos hb]
    refine (RPad_bad v l unit w h hb).mono ?_
    rintro e w' ⟨rfl, rfl⟩
    exact ⟨_, rfl, World.ownsRow_nil _ _ _ _, Grow.refl _⟩
  · rw [if_neg hb, if_neg hb]
    obtain ⟨u, rfl⟩ := Int.eq_ofNat_of_zero_le (by omega : 0 ≤ unit)
    exact RPad_ok v l u w h hl (by omega) (by omega)
end Go.Proofs.Yteheacblcnamhaa
