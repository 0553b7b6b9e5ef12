/- The laws' own walks, on: what is answered is new memory. -/
import Derived.Test.YteheacblcnamhaaOctet3
import Derived.RegionTactic
import Derived.ChangeAlike
import Derived.BigRegion
namespace Go.Proofs.Yteheacblcnamhaa
set_option linter.unusedVariables false
open Go.ChangeShapes Go.WideShapes Go.ChangeAt Go.RowKit

/-- A slice of bytes of the call's own, its bytes unknown. -/
def URow (base : Nat) (w : World) (u : Value) : Prop :=
  ∃ A n c, u = .slice A n c ∧ n ≤ maxLen ∧ (0 < n → ∃ g cs, A = some ⟨g, 0, none⟩ ∧ base ≤ g ∧ w.heap[g]? = some (.cells cs 5 (0, 0)) ∧ ∀ i, i < n → ∃ y : Nat, y < 256 ∧ cs[i]? = some (.int .u8 (y : Int)))
theorem URow.of_own {base : Nat} {w : World} {v : Value} {l : List UInt8} (h : Own w base v l) : URow base w v := by
  rcases h.2 with ⟨rfl, h0⟩ | ⟨g, cap, cur, rfl, hb, hh, hn, hc, hs, ht⟩
  · exact ⟨none, 0, 0, rfl, Nat.zero_le _, fun h => absurd h (by omega)⟩
  · refine ⟨_, _, _, rfl, Nat.le_trans hn hc, fun hp => ⟨g, cur, rfl, hb, hh, fun i hi => ?_⟩⟩
    have hl : (l.map bv)[i]? = some (bv l[i]) := by simp [hi]
    rw [← ht, List.getElem?_take, if_pos (by omega)] at hl
    exact ⟨l[i].toNat, l[i].toNat_lt, by simpa [bv] using hl⟩
theorem heap_setCell_at {w : World} {g k : Nat} {cs : Array Value} {t : TypeId} (h : w.heap[g]? = some (.cells cs t (0, 0))) (u : Value) : (w.setCell ⟨g, k, none⟩ u).heap[g]? = some (.cells (cs.setIfInBounds k u) t (0, 0)) := by
  simp [World.setCell, Array.getElem?_modify, h]
theorem URow.set {base : Nat} {w : World} {u : Value} (h : URow base w u) (g k y : Nat) (hy : y < 256) : URow base (w.setCell ⟨g, k, none⟩ (.int .u8 (y : Int))) u := by
  obtain ⟨A, n, c, rfl, hm, hr⟩ := h
  refine ⟨A, n, c, rfl, hm, fun hp => ?_⟩
  obtain ⟨g', cs, rfl, hb, hh, hc⟩ := hr hp
  by_cases hg : g' = g
  · subst hg
    refine ⟨g', _, rfl, hb, heap_setCell_at hh _, fun i hi => ?_⟩
    by_cases hk : k = i
    · subst hk
      obtain ⟨y', _, he⟩ := hc k hi
      have : k < cs.size := (Array.getElem?_eq_some_iff.1 he).1
      exact ⟨y, hy, by simp [this]⟩
    · obtain ⟨y', hy', he⟩ := hc i hi
      exact ⟨y', hy', by rw [Array.getElem?_setIfInBounds_ne hk]; exact he⟩
  · exact ⟨g', cs, rfl, hb, by rw [Below.heap_setCell _ _ _ _ hg]; exact hh, hc⟩

theorem Byt.form2 {w : World} {v : Value} {l : List UInt8} (h : Byt w v l) : ∃ A m c, v = .slice A m c ∧ Hid (m = l.length) := by
  obtain ⟨A, c, rfl, _, _⟩ := h.form
  exact ⟨A, _, c, rfl, rfl⟩
theorem infoRow : (Try.prog.info? 22).map (fun i => (i.zero, i.size, i.bytes)) = some (some (.slice none 0 0), 1, 24) := by kernel_rfl

/-- What the loops keep: old memory; the table of rows; each row of the call's own. -/
structure Keeps (w0 w : World) (g : Nat) (cur : Array Value) (us : List Value) : Prop where
  old : Below w0.heap.size w0 w
  tab : w.heap[g]? = some (.cells cur 22 (0, 0))
  rows : ∀ u ∈ us, URow w0.heap.size w u
theorem Keeps.set {w0 w : World} {g : Nat} {cur : Array Value} {us : List Value} (h : Keeps w0 w g cur us) {g' : Nat} {cs : Array Value} (hh : w.heap[g']? = some (.cells cs 5 (0, 0))) (hb : w0.heap.size ≤ g') (k y : Nat) (hy : y < 256) :
    Keeps w0 (w.setCell ⟨g', k, none⟩ (.int .u8 (y : Int))) g cur us := by
  have hne : g ≠ g' := by
    rintro rfl
    have := h.tab
    rw [hh] at this
    cases this
  exact ⟨h.old.setCell hb _, by rw [Below.heap_setCell _ _ _ _ hne]; exact h.tab, fun u hu => (h.rows u hu).set g' k y hy⟩

theorem Keeps.drew {w0 w : World} {g : Nat} {cur : Array Value} {us : List Value} (h : Keeps w0 w g cur us) : Keeps w0 w.drew g cur us := ⟨h.old.drew, h.tab, h.rows⟩
theorem URow.grow {base : Nat} {w w' : World} {u : Value} (h : URow base w u) (hg : Grow w w') : URow base w' u := by
  obtain ⟨A, n, c, rfl, hm, hr⟩ := h
  refine ⟨A, n, c, rfl, hm, fun hp => ?_⟩
  obtain ⟨g, cs, rfl, hb, hh, hc⟩ := hr hp
  have hlt : g < w.heap.size := by
    rcases Nat.lt_or_ge g w.heap.size with h' | h'
    · exact h'
    · rw [Array.getElem?_eq_none h'] at hh; cases hh
  exact ⟨g, cs, rfl, hb, (Below.block hg g hlt).trans hh, hc⟩
/-- Behind an append onto a table of rows. -/
theorem URow.past {base t : Nat} {w w' : World} {u : Value} {tc : Array Value} (h : URow base w u) (hg : w.grownBy w' (some t)) (ht : w.heap[t]? = some (.cells tc 22 (0, 0))) : URow base w' u := by
  obtain ⟨A, n, c, rfl, hm, hr⟩ := h
  refine ⟨A, n, c, rfl, hm, fun hp => ?_⟩
  obtain ⟨g, cs, rfl, hb, hh, hc⟩ := hr hp
  have hlt : g < w.heap.size := by
    rcases Nat.lt_or_ge g w.heap.size with h' | h'
    · exact h'
    · rw [Array.getElem?_eq_none h'] at hh; cases hh
  have hne : some g ≠ some t := by
    intro e
    injection e with e
    subst e
    rw [hh] at ht
    cases ht
  exact ⟨g, cs, rfl, hb, (hg.block g hlt hne).trans hh, hc⟩
theorem Keeps.cell {w0 w : World} {g : Nat} {cur : Array Value} {us : List Value} (h : Keeps w0 w g cur us) (hc : cur.toList.take us.length = us) {j : Nat} (hj : j < us.length) : w.cell? ⟨g, j, none⟩ = some us[j] := by
  rw [cell_of_row w g j cur _ _ h.tab]
  have : us[j]? = some us[j] := List.getElem?_eq_getElem hj
  conv at this => lhs; rw [← hc, List.getElem?_take, if_pos hj]
  simpa using this

set_option maxRecDepth 10000 in
set_option maxHeartbeats 4000000 in
theorem octetOwn_walk (w : World) {v : Value} {l : List UInt8} (h : Byt w v l) (hl : l.length ≤ 140737488351232) (n : Int) (hn : -9223372036854775808 ≤ n ∧ n ≤ 9223372036854775807) :
    Calls Try.prog 8 #[v, .int .i64 n] w fun e w' => e = .returned (.bool true) ∧ Grow w w' := by
  obtain ⟨A, c, rfl, hc, hcm⟩ := h.form
  have c0 := str1 h
  have hb0 := h
  go_enter Try.func8, Try.ntmps8
  go_wp2_with fail
  refine (Put16_any _ _ _ _ h (by omega)).mono ?_
  rintro e w1 ⟨v1, rfl, ho1, hg1⟩
  go_wp2_with fail
  refine (Put32_any _ _ 1 _ (h.grow hg1) (by omega) (by omega)).mono ?_
  rintro e w2 ⟨v2, rfl, ho2, hg2⟩
  go_wp2_with fail
  have g2 := hg1.trans hg2
  refine (Join_lit w2 w2 (Grow.refl w2) _ 2 [l, l] rfl rfl (by simp) (by simp [maxLen]) (by simp [lens]; omega) (byt_two (h.grow g2) (h.grow g2))).mono ?_
  rintro e w3 ⟨v3, rfl, ho3, b3⟩
  have hg3 := g2.trans b3
  obtain ⟨A1, n1, k1, rfl, e1⟩ := ho1.byt.form2
  obtain ⟨A2, n2, k2, rfl, e2⟩ := ho2.byt.form2
  obtain ⟨A3, n3, k3, rfl, e3⟩ := ho3.byt.form2
  go_wp2_with fail
  have g4 := hg3.trans (Grow.alloc w3 (.cells #[Value.slice A1 n1 k1, Value.slice A2 n2 k2, Value.slice A3 n3 k3] 22))
  have hs3 := hg3.size
  refine (Cut_good _ l 0 l.length _ _ _ (h.grow g4) (by omega) (by omega) rfl rfl).mono ?_
  rintro e w5 ⟨v5, rfl, ho5, hg5⟩
  go_wp2_with fail
  refine (Pad_any _ _ 4 _ (h.grow (g4.trans hg5)) (by omega)).mono ?_
  rintro e w6 ⟨v6, rfl, ho6, hg6⟩
  obtain ⟨A5, n5, k5, rfl, e5⟩ := ho5.byt.form2
  obtain ⟨A6, n6, k6, rfl, e6⟩ := ho6.byt.form2
  have g6 := (g4.trans hg5).trans hg6
  have hs4 := g4.size
  have hs5 := (g4.trans hg5).size
  have hs6 := g6.size
  have tab0 : (w3.alloc (.cells #[Value.slice A1 n1 k1, Value.slice A2 n2 k2, Value.slice A3 n3 k3] 22)).ownsRow w.heap.size 22 1 (.slice (some ⟨w3.heap.size, 0, none⟩) 3 3) 3 [Value.slice A1 n1 k1, Value.slice A2 n2 k2, Value.slice A3 n3 k3] :=
    World.ownsRow_lit w3 #[Value.slice A1 n1 k1, Value.slice A2 n2 k2, Value.slice A3 n3 k3] 3 hs3 (by decide) rfl
  have g7 := Grow.alloc w6 (.cells #[Value.slice A5 n5 k5, Value.slice A6 n6 k6] 22)
  have tab1 := ownsRow_grow tab0 ((hg5.trans hg6).trans g7)
  have src : Rd (w6.alloc (.cells #[Value.slice A5 n5 k5, Value.slice A6 n6 k6] 22)) (.slice (some ⟨w6.heap.size, 0, none⟩) 2 2) [Value.slice A5 n5 k5, Value.slice A6 n6 k6] := Rd.block (cs := #[Value.slice A5 n5 k5, Value.slice A6 n6 k6]) (heap_alloc_new w6 _) (by simp) (by omega) (by decide)
  have q1 : Hid (([Value.slice A5 n5 k5, Value.slice A6 n6 k6] : List Value).length = 2) := rfl
  have q2 : Hid (∀ y ∈ ([Value.slice A5 n5 k5, Value.slice A6 n6 k6] : List Value), y.oneCell' = true) := by
    intro y hy
    simp at hy
    rcases hy with rfl | rfl <;> rfl
  have q3 : (3 : Nat) + 2 ≤ maxLen := by decide
  have q4 : w.heap.size ≤ (w6.alloc (.cells #[Value.slice A5 n5 k5, Value.slice A6 n6 k6] 22)).heap.size := by simp; omega
  go_wp2_with (at_builtin; go_loud (refine wpList_append_rd _ rfl _ _ 49 rfl w.heap.size 22 (.slice none 0 0) 24 Try.underlying49 infoRow rfl _ 3 2 _ rfl tab1 _ _ rfl src q1 q2.out (by omega) q3 q4 ?_); intro v7 w7 hown hgr hat)
  have e7 := hown
  obtain ⟨_, ⟨_, hz⟩ | ⟨g, cap, cur, rfl, hbg, htab, hnc, hcm7, hcs, htake⟩⟩ := e7
  · omega
  have hold : Below w.heap.size w w7 := Below.grown (g6.trans g7) hgr q4 (own_block tab1)
  have t0 : (w6.alloc (.cells #[Value.slice A5 n5 k5, Value.slice A6 n6 k6] 22)).heap[w3.heap.size]? = some (.cells #[Value.slice A1 n1 k1, Value.slice A2 n2 k2, Value.slice A3 n3 k3] 22 (0, 0)) := by
    rw [Below.block ((hg5.trans hg6).trans g7) w3.heap.size (by simp)]
    exact heap_alloc_new w3 _
  have keeps : Keeps w w7 g cur [.slice A1 n1 k1, .slice A2 n2 k2, .slice A3 n3 k3, .slice A5 n5 k5, .slice A6 n6 k6] := by
    refine ⟨hold, htab, fun u hu => ?_⟩
    have mono : ∀ {b : Nat} {W : World} {x : Value}, URow b W x → w.heap.size ≤ b → URow w.heap.size W x := by
      intro b W x ⟨A, m, c, e, hm, hr⟩ hb
      exact ⟨A, m, c, e, hm, fun hp => by obtain ⟨g, cs, e, h1, h2⟩ := hr hp; exact ⟨g, cs, e, by omega, h2⟩⟩
    have hs1 := hg1.size
    have hs2 := g2.size
    have late := (((Grow.alloc w3 (.cells #[Value.slice A1 n1 k1, Value.slice A2 n2 k2, Value.slice A3 n3 k3] 22)).trans hg5).trans hg6).trans g7
    simp only [List.mem_cons, List.not_mem_nil, or_false] at hu
    rcases hu with rfl | rfl | rfl | rfl | rfl
    · exact (URow.grow (URow.of_own ho1) ((hg2.trans b3).trans late)).past hgr t0
    · exact mono ((URow.grow (URow.of_own ho2) (b3.trans late)).past hgr t0) hs1
    · exact mono ((URow.grow (URow.of_own ho3) late).past hgr t0) hs2
    · exact mono ((URow.grow (URow.of_own ho5) (hg6.trans g7)).past hgr t0) hs4
    · exact mono ((URow.grow (URow.of_own ho6) g7).past hgr t0) hs5
  clear hown hgr hat tab0 tab1 src t0 hold
  have htk : cur.toList.take ([.slice A1 n1 k1, .slice A2 n2 k2, .slice A3 n3 k3, .slice A5 n5 k5, .slice A6 n6 k6] : List Value).length = [.slice A1 n1 k1, .slice A2 n2 k2, .slice A3 n3 k3, .slice A5 n5 k5, .slice A6 n6 k6] := htake
  have us0 : ([.slice A1 n1 k1, .slice A2 n2 k2, .slice A3 n3 k3, .slice A5 n5 k5, .slice A6 n6 k6] : List Value)[0]? = some (.slice A1 n1 k1) := rfl
  have usl : ([.slice A1 n1 k1, .slice A2 n2 k2, .slice A3 n3 k3, .slice A5 n5 k5, .slice A6 n6 k6] : List Value).length = 5 := rfl
  generalize ([.slice A1 n1 k1, .slice A2 n2 k2, .slice A3 n3 k3, .slice A5 n5 k5, .slice A6 n6 k6] : List Value) = us at *
  have HT := Lib.hid htk
  have HU := Lib.hid usl
  have HZ := Lib.hid us0
  have H1 : ((n1 : Int) == (l.length : Int) + 2) = true := by have := e1.out; simp [two_length] at this; simp; omega
  have H5 : ((n5 : Int) == (l.length : Int)) = true := by have := e5.out; simp at this; simp; omega
  clear htk usl us0 htake htab hcs e1 e2 e3 e5 e6
  go_loopw [11] (fun i wr => ∃ j : Nat, j ≤ 5 ∧ i = .int .i64 (j : Int) ∧ Keeps w wr g cur us) (fun i _ => 5 - (intOf i).toNat)
  case atStart => exact ⟨0, by omega, rfl, keeps⟩
  case round =>
    obtain ⟨j, hj, rfl, hkeep⟩ := hrel
    by_cases hlt : j < 5
    · have hju : j < us.length := by rw [HU.out]; exact hlt
      have hcell := hkeep.cell HT.out hju
      obtain ⟨A9, n9, k9, e9, hm9, _⟩ := hkeep.rows us[j] (List.getElem_mem hju)
      rw [e9] at hcell
      have E9 := Lib.hid e9
      clear e9
      unfold maxLen at hm9
      go_wp2_with fail
      obtain ⟨wo, rfl⟩ : ∃ wo : World, wo = wr := ⟨_, rfl⟩
      go_loopw [12] (fun k wx => ∃ m : Nat, m ≤ n9 ∧ k = .int .i64 (m : Int) ∧ Keeps w wx g cur us) (fun k _ => n9 - (intOf k).toNat)
      case atStart => exact ⟨0, by omega, rfl, hkeep⟩
      case round =>
        obtain ⟨m, hm, rfl, hkx⟩ := hrel
        have hcx := hkx.cell HT.out hju
        rw [E9.out] at hcx
        by_cases hmn : m < n9
        · obtain ⟨A', n', c', e', _, hr⟩ := hkx.rows us[j] (List.getElem_mem hju)
          rw [E9.out] at e'
          cases e'
          obtain ⟨gr, cs, rfl, hbr, hhr, hcr⟩ := hr (by omega)
          obtain ⟨y, hy, hcy⟩ := hcr m hmn
          have hcell2 : wr.cell? ⟨gr, m, none⟩ = some (.int .u8 (y : Int)) := by rw [cell_of_row _ gr m cs _ _ hhr]; exact hcy
          have hfz : wr.frozen? ⟨gr, m, none⟩ = false := by unfold World.frozen?; rw [hhr]; simp
          have hx := u8_xor_nat y 255 hy (by omega)
          have hlx : y ^^^ 255 < 256 := Nat.xor_lt_two_pow (n := 8) hy (by omega)
          have HK := Lib.hid (hkx.drew.set (g' := gr) (cs := cs) hhr hbr m (y ^^^ 255) hlx)
          have HX := Lib.hid hx
          clear hx hkx
          go_wp2_with fail
          go_region
          go_wp2_with fail
          refine ⟨⟨m + 1, by omega, by go_num, ?_⟩, by simp [intOf]; omega⟩
          rw [show bits BinOp.xor .u8 (y : Int) 255 = ((y ^^^ 255 : Nat) : Int) from HX.out]
          exact HK.out
        · go_wp2_with fail
          exact ⟨⟨j + 1, by omega, by go_num, hkx⟩, by simp [intOf]; omega⟩
    · have : j = 5 := by omega
      subst this
      have c1 := str1 (Byt.grow hb0 hkeep.old)
      have z0 := hkeep.cell HT.out (j := 0) (by rw [HU.out]; omega)
      have z1 : us[0]'(by rw [HU.out]; omega) = .slice A1 n1 k1 := by
        have := HZ.out
        rw [List.getElem?_eq_getElem (by rw [HU.out]; omega)] at this
        exact Option.some.inj this
      rw [z1] at z0
      clear z1
      go_wp2
      go_ret
      exact ⟨by go_simp, hkeep.old⟩
end Go.Proofs.Yteheacblcnamhaa
