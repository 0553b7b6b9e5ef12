/- Contract: trail.Text. -/
import Derived.Test.YtmfgbanckehcgaaDoorTail
import Derived.Test.YtmfgbanckehcgaaDoorTrailWrite
import Derived.Test.YtmfgbanckehcgaaDoorTrailRText
import Derived.Test.YtmfgbanckehcgaaDoorShelf
import Derived.Lib.AppendIntMem
namespace Go.Proofs.YtmfgbanckehcgaaDoor
set_option linter.unusedVariables false
set_option linter.unusedSimpArgs false
open Go.ChangeShapes Go.WideShapes Go.ChangeAt Go.RowKit

/-- A builder that holds these bytes. -/
abbrev Bld (B : Nat) (l : List UInt8) (w : World) : Prop := Lib.IsBuilderF 53 5 B B (Lib.byteCells l) w
abbrev Oth (B : Nat) (w w' : World) : Prop := Lib.OthersKept 5 (some B) w w'
theorem bldAt_grow {p : Value} {B : Nat} {bs : List Value} {w w' : World} (h : Lib.BuilderAtF 53 5 B B p bs w) (g : Grow w w') : Lib.BuilderAtF 53 5 B B p bs w' := by
  have hlt := h.lt
  obtain ⟨hB, v, hb, hown, hne⟩ := h
  refine ⟨hB, v, (g.block B hlt).trans hb, ⟨hown.1, ?_⟩, hne⟩
  rcases hown.2 with h0 | ⟨g', cap, cur, fz, hv, hbg, hh, r⟩
  · exact .inl h0
  · refine .inr ⟨g', cap, cur, fz, hv, hbg, (g.block g' ?_).trans hh, r⟩
    rcases Nat.lt_or_ge g' w.heap.size with h' | h'
    · exact h'
    · rw [Array.getElem?_eq_none h'] at hh; cases hh
theorem Bld.grow {B : Nat} {l : List UInt8} {w w' : World} (h : Bld B l w) (g : Grow w w') : Bld B l w' :=
  h.elim (fun x => .inl (bldAt_grow x g)) (fun x => .inr (bldAt_grow x g))
theorem Oth.of_grow {B : Nat} {w w' : World} (g : Grow w w') : Oth B w w' := fun k o h _ _ => by
  rw [g.block k ?_]
  · exact h
  · rcases Nat.lt_or_ge k w.heap.size with h' | h'
    · exact h'
    · rw [Array.getElem?_eq_none h'] at h; cases h

theorem Itoa_any (n : Int) (h0 : -9223372036854775808 ≤ n) (h1 : n ≤ 9223372036854775807) (w : World) (hg : Base w) :
    Calls Tryd.prog 24 #[.int .i64 n] w fun e w' => e = .returned (.string (str (Lib.itoa n))) ∧ Grow w w' := by
  refine (Tryd.strconv_Itoa n h0 h1 w hg.2).mono ?_
  rintro e w' ⟨rfl, k, os, rfl⟩
  exact ⟨rfl, Lib.below_grow _ w (Nat.le_refl _) k os⟩

theorem cells_str (l : List UInt8) (s : ByteArray) : Lib.byteCells l ++ Lib.strCells s = Lib.byteCells (l ++ s.data.toList) := by
  rw [Lib.byteCells_append]; rfl

set_option maxHeartbeats 1600000 in
theorem Text_made (l : PL) (n : Int) (hn : -9223372036854775808 ≤ n ∧ n ≤ 9223372036854775807) (hok : Okp l) (hm : l.length ≤ 9223372036854775807) (w : World) (hg : Base w) :
    Calls Tryd.prog 11 #[madeV l n] w fun e w' => e = .returned (.string (str (textOf (told l n) n))) ∧ Grow w w' := by
  have hP : Hid (∀ w, Calls Tryd.prog 10 #[madeV l n] w fun e w' => ∃ v, e = .returned v ∧ OwnP w' v (told l n) ∧ Grow w w') := Path_made l n hm
  have hC : Hid (∀ w, Base w → Calls Tryd.prog 12 #[madeV l n] w fun e w' => e = .returned (.int .i64 n) ∧ Grow w w') := Code_made l n
  have hT : Aside (Okp (told l n) ∧ (told l n).length ≤ 64) := by
    unfold told
    split
    · exact ⟨fun p hp => absurd hp (by simp), by simp⟩
    · exact ⟨fun p hp => hok p (List.mem_of_mem_take hp), by rw [List.length_take]; omega⟩
  have hX : madeV l n = .nilIface ∧ n = 0 ∨ ∃ t v, madeV l n = .iface t v ∧ n ≠ 0 := by
    by_cases h : n = 0
    · subst h; exact .inl ⟨rfl, rfl⟩
    · obtain ⟨t, v, h'⟩ := madeV_iface h l; exact .inr ⟨t, v, h', h⟩
  generalize madeV l n = X at hP hC hX ⊢
  generalize told l n = T at hP hT ⊢
  have HX : Hid (X = .nilIface ∧ n = 0 ∨ ∃ t v, X = .iface t v ∧ n ≠ 0) := hX
  clear hX
  go_enter Tryd.func11, Tryd.ntmps11
  go_wp2_with fail
  refine (hP.out _).mono ?_
  rintro e w1 ⟨v, rfl, hO, hg1⟩
  have hb0 : Bld w.heap.size [] w1 := by
    refine .inl ⟨Nat.le_refl _, .slice none 0 0, ?_, ⟨rfl, .inl ⟨rfl, rfl⟩⟩, by simp [Value.ownBlock]⟩
    rw [hg1.block _ (by simp)]
    exact heap_alloc_new w _
  obtain ⟨A, c, rfl, hOb⟩ : ∃ A c, v = .slice A T.length c ∧ (0 < T.length → ∃ g cur fz, A = some ⟨g, 0, none⟩ ∧ w1.heap[g]? = some (.cells cur 45 fz) ∧ ∀ j (h : j < T.length), cur[j * 2]? = some (.string T[j].1) ∧ cur[j * 2 + 1]? = some (.int .i64 T[j].2)) := by
    obtain ⟨base, h⟩ := hO
    rcases h.2 with ⟨rfl, h0⟩ | ⟨g, cap, cur, rfl, hbg, hh, hnc, hcm, hcs, ht⟩
    · exact ⟨none, 0, by rw [h0], fun h => absurd h (by omega)⟩
    · refine ⟨_, _, rfl, fun _ => ⟨g, cur, (0, 0), rfl, hh, fun j hj => ?_⟩⟩
      have hf := flat_at T j hj
      have hl : j * 2 + 1 < T.length * 2 := by omega
      rw [← ht] at hf
      rw [List.getElem?_take, if_pos (by omega), List.getElem?_take, if_pos (by omega)] at hf
      simpa using hf
  have hgw : Grow w w1 := (Grow.alloc w _).trans hg1
  clear hO hg1 hP
  have HO := (show Aside _ from hOb)
  clear hOb
  have hTl := hT.out.2
  go_wp2_with fail
  go_loopg [9] T.length (fun g s9 wr => ∃ k : Nat, k ≤ T.length ∧ g = T.length - k ∧ s9 = .int .i64 (k : Int) ∧ Bld w.heap.size (wayOf (T.take k)) wr ∧ Oth w.heap.size w1 wr ∧ Grow w wr)
  case atStart => exact ⟨0, Nat.zero_le _, rfl, rfl, hb0, Lib.OthersKept.refl _ _ _, hgw⟩
  case round =>
    obtain ⟨k, hk, rfl, rfl, hbl, hoth, hgr⟩ := hrel
    rcases Nat.lt_or_ge k T.length with hlt | hge
    · obtain ⟨g, cur, fz, rfl, hh, hc⟩ := HO.out (by omega)
      have hgB : some g ≠ some w.heap.size := by
        intro e
        cases e
        have h1 := hh
        rcases hb0 with h | h <;> (obtain ⟨_, _, h2, _⟩ := h; rw [h2] at h1; cases h1)
      have hh2 := hoth g _ hh hgB (by intro c fz e; cases e)
      have x0 : wr.cell? ⟨g, k * 2, none⟩ = some (.string (T[k]'hlt).1) := (Lib.cell_of_heap hh2 _).trans (hc k hlt).1
      have x1 : wr.cell? ⟨g, k * 2 + 1, none⟩ = some (.int .i64 (T[k]'hlt).2) := (Lib.cell_of_heap hh2 _).trans (hc k hlt).2
      have hst := way_step T k hlt
      have hp := hT.out.1 _ (List.getElem_mem hlt)
      have hil := Lib.itoa_length_le _ hp.2.1 hp.2.2
      have hN : Hid (∀ w, Base w → Calls Tryd.prog 24 #[.int .i64 (T[k]'hlt).2] w fun e w' => e = .returned (.string (str (Lib.itoa (T[k]'hlt).2))) ∧ Grow w w') := Itoa_any _ hp.2.1 hp.2.2
      have hp1 := hp.1
      have hwl : (wayOf (T.take k)).length ≤ 14336 := by
        have h1 := wayOf_length (T.take k) fun p hp => hT.out.1 p (List.mem_of_mem_take hp)
        rw [List.length_take] at h1
        omega
      have hsn : wayOf (T.take (k + 1)) = wayOf (T.take k) ++ ((T[k]'hlt).1.data.toList ++ [32] ++ Lib.itoa (T[k]'hlt).2 ++ [58, 32]) := by rw [List.take_succ_eq_append_getElem hlt, wayOf_snoc]
      clear hp hst
      have A1 : Aside (Bld w.heap.size (wayOf (T.take k)) wr ∧ Oth w.heap.size w1 wr ∧ Grow w wr ∧ wayOf (T.take (k + 1)) = wayOf (T.take k) ++ ((T[k]'hlt).1.data.toList ++ [32] ++ Lib.itoa (T[k]'hlt).2 ++ [58, 32]) ∧ (wayOf (T.take k)).length ≤ 14336) := ⟨hbl, hoth, hgr, hsn, hwl⟩
      clear hbl hoth hgr hh2 hh hc hsn hwl
      generalize Lib.itoa (T[k]'hlt).2 = N at hN hil A1
      generalize T[k]'hlt = p at hN hp1 x0 x1 A1
      obtain ⟨ps, pn⟩ := p
      simp only at hN hp1 x0 x1 A1
      have s1 : (⟨#[32]⟩ : ByteArray).size = 1 := rfl
      have s2 : (⟨#[58, 32]⟩ : ByteArray).size = 2 := rfl
      have hs : (str N).size ≤ 21 := by rw [str_size]; exact hil
      go_wp2_with fail
      refine wp_region_tail (A := ?frame) (inList (isV (.pointer (some ⟨wr.heap.size, 0, none⟩)) :: isV (.string ps) :: isV (.string (ps ++ ⟨#[32]⟩)) :: isV (.pointer (some ⟨wr.heap.size, 1, none⟩)) :: isV (.int .i64 pn) :: isV (.string (str N)) ::
        isV (.string (ps ++ ⟨#[32]⟩ ++ str N)) :: isV (.string (ps ++ ⟨#[32]⟩ ++ str N ++ ⟨#[58, 32]⟩)) :: [])) 8 _ (by kernel_rfl) rfl rfl (by kernel_rfl) (by kernel_rfl) (inList_stays ?_) (fun x => ?frameEq) ?_ ?_
      case frameEq => go_simp; rfl
      · intro f hf
        simp only [List.mem_cons, List.not_mem_nil, or_false] at hf
        rcases hf with rfl | rfl | rfl | rfl | rfl | rfl | rfl | rfl <;> exact isV_stays _
      · refine ⟨fun x w2 hg2 hd post hp => ?_, fun x w2 hg2 hd post hp => ?_, fun x w2 hg2 hd post hp => ?_, fun x w2 hg2 hd post hp => ?_, fun x w2 hg2 hd post hp => ?_, fun x w2 hg2 hd post hp => ?_, fun x w2 hg2 hd post hp => ?_, fun x w2 hg2 hd post hp => ?_, trivial⟩
        · clear hd
          go_simp
          exact hp _ _ (Grow.refl _) rfl
        · have h13 : x 13 = .pointer (some ⟨wr.heap.size, 0, none⟩) := hd 0 (by decide) _ rfl
          clear hd
          have c0 : w2.cell? ⟨wr.heap.size, 0, none⟩ = some (.string ps) := by rw [hg2.cell (by simp)]; simp
          go_simp
          exact hp _ _ (Grow.refl _) rfl
        · have h14 : x 14 = .string ps := hd 1 (by decide) _ rfl
          clear hd
          go_simp
          rw [if_neg (by omega)]
          exact hp _ _ (Grow.refl _) rfl
        · clear hd
          go_simp
          exact hp _ _ (Grow.refl _) rfl
        · have h16 : x 16 = .pointer (some ⟨wr.heap.size, 1, none⟩) := hd 3 (by decide) _ rfl
          clear hd
          have c0 : w2.cell? ⟨wr.heap.size, 1, none⟩ = some (.int .i64 pn) := by rw [hg2.cell (by simp)]; simp
          go_simp
          exact hp _ _ (Grow.refl _) rfl
        · have h17 : x 17 = .int .i64 pn := hd 4 (by decide) _ rfl
          clear hd
          go_simp
          refine (hN.out _ ((hg.grow (A1.out.2.2.1.trans (Grow.alloc _ _))).grow hg2)).mono ?_
          rintro e w3 ⟨rfl, hg3⟩
          exact ⟨_, rfl, hp _ _ hg3 rfl⟩
        · have h15 : x 15 = .string (ps ++ ⟨#[32]⟩) := hd 2 (by decide) _ rfl
          have h18 : x 18 = .string (str N) := hd 5 (by decide) _ rfl
          clear hd
          go_simp
          rw [if_neg (by omega)]
          exact hp _ _ (Grow.refl _) rfl
        · have h19 : x 19 = .string (ps ++ ⟨#[32]⟩ ++ str N) := hd 6 (by decide) _ rfl
          clear hd
          go_simp
          rw [if_neg (by omega)]
          exact hp _ _ (Grow.refl _) rfl
      · intro x w2 hg2 hd
        have h20 : x 20 = .string (ps ++ ⟨#[32]⟩ ++ str N ++ ⟨#[58, 32]⟩) := hd 7 _ (by decide) rfl
        clear hd
        go_simp
        have hsz : (ps ++ ⟨#[32]⟩ ++ str N ++ ⟨#[58, 32]⟩ : ByteArray).size = ps.size + 1 + (str N).size + 2 := by
          simp only [ByteArray.size_append, s1, s2]
        have hdt : (ps ++ ⟨#[32]⟩ ++ str N ++ ⟨#[58, 32]⟩ : ByteArray).data.toList = ps.data.toList ++ [32] ++ N ++ [58, 32] := by
          simp only [ByteArray.data_append, Array.toList_append, str]
        have hwr := A1.out.2.2.1.size
        have hs2 := hg2.size
        simp only [World.size_alloc] at hs2
        refine (WriteString_any w.heap.size w.heap.size _ _ w2 ((A1.out.1.grow (Grow.alloc _ _)).grow hg2) ?_ (by omega)).mono ?_
        · rw [Lib.byteCells_length, hsz]
          have := A1.out.2.2.2.2
          omega
        · rintro e w3 ⟨rfl, hb3, hbl3, hok3⟩
          refine ⟨_, rfl, ?_⟩
          have hb4 : Bld w.heap.size (wayOf (T.take (k + 1))) w3 := by
            refine .inr ?_
            rw [A1.out.2.2.2.1, ← hdt, ← cells_str]
            exact hb3
          have ho4 : Oth w.heap.size w1 w3 := (A1.out.2.1.trans ((Lib.OthersKept.refl _ _ _).alloc _)).trans ((Oth.of_grow hg2).trans hok3)
          have hg4 : Grow w w3 := Below.trans (A1.out.2.2.1.trans ((Grow.alloc _ _).trans hg2)) hbl3
          clear hb3 hbl3 hok3
          go_wp2_with fail
          go_roundg (T.length - (k + 1))
          case measure => omega
          case rel => exact ⟨k + 1, by omega, rfl, by go_num, hb4, ho4, hg4⟩
    · have hkk : k = T.length := by omega
      subst hkk
      rw [List.take_length] at hbl
      have hwl : (wayOf T).length ≤ 14336 := by
        have h1 := wayOf_length T hT.out.1
        omega
      have A1 : Aside (Bld w.heap.size (wayOf T) wr ∧ Grow w wr) := ⟨hbl, hgr⟩
      have hsz := hgr.size
      clear hbl hoth hgr
      have e0 : str (textOf T 0) = str (wayOf T ++ [111, 107]) := by unfold textOf; rw [if_pos rfl]
      have e1 : n ≠ 0 → str (textOf T n) = str (wayOf T ++ ([101, 114, 114, 111, 114, 32] ++ Lib.itoa n)) := fun h => by unfold textOf; rw [if_neg h]
      have A2 := (show Aside _ from And.intro e0 e1)
      clear e0 e1
      rcases HX.out with ⟨rfl, rfl⟩ | ⟨t', v', rfl, hn0⟩
      · go_wp2_with fail
        refine (WriteString_any w.heap.size w.heap.size _ _ wr A1.out.1 ?_ hsz).mono ?_
        · rw [Lib.byteCells_length]
          show _ + 2 ≤ _
          omega
        rintro e w3 ⟨rfl, hb3, hbl3, hok3⟩
        have hb4 : Bld w.heap.size (wayOf T ++ [111, 107]) w3 := by
          refine .inr ?_
          rw [show ([111, 107] : List UInt8) = (⟨#[111, 107]⟩ : ByteArray).data.toList from rfl, ← cells_str]
          exact hb3
        have hs3 := hbl3.size
        have A3 : Aside (Bld w.heap.size (wayOf T ++ [111, 107]) w3 ∧ Grow w w3) := ⟨hb4, Below.trans A1.out.2 hbl3⟩
        clear hb3 hbl3 hok3 hb4
        go_wp2_with fail
        refine (Tryd.Builder_String_any_k w.heap.size w.heap.size _ w3 A3.out.1 (by omega)).mono ?_
        rintro e w4 ⟨rfl, _, hbl4, _⟩
        have A4 : Aside (Grow w w4) := Below.trans A3.out.2 hbl4
        clear hbl4
        go_wp2_with fail
        go_ret
        exact ⟨by rw [A2.out.1]; rfl, A4.out⟩
      · have hil := Lib.itoa_length_le n hn.1 hn.2
        go_wp2_with fail
        refine (hC.out _ (hg.grow A1.out.2)).mono ?_
        rintro e w2 ⟨rfl, hg2⟩
        have A3 : Aside (Bld w.heap.size (wayOf T) w2 ∧ Grow w w2) := ⟨A1.out.1.grow hg2, A1.out.2.trans hg2⟩
        clear hg2
        go_wp2_with fail
        refine (Itoa_any n hn.1 hn.2 _ (hg.grow A3.out.2)).mono ?_
        rintro e w3 ⟨rfl, hg3⟩
        have A4 : Aside (Bld w.heap.size (wayOf T) w3 ∧ Grow w w3) := ⟨A3.out.1.grow hg3, A3.out.2.trans hg3⟩
        have hs3 := A4.out.2.size
        have hst : (str (Lib.itoa n)).size ≤ 21 := by rw [str_size]; exact hil
        have s1 : (⟨#[101, 114, 114, 111, 114, 32]⟩ : ByteArray).size = 6 := rfl
        clear hg3
        go_wp2_with fail
        refine (WriteString_any w.heap.size w.heap.size _ _ w3 A4.out.1 ?_ hs3).mono ?_
        · rw [Lib.byteCells_length, ByteArray.size_append, s1]
          omega
        rintro e w4 ⟨rfl, hb4, hbl4, hok4⟩
        have hb5 : Bld w.heap.size (wayOf T ++ ([101, 114, 114, 111, 114, 32] ++ Lib.itoa n)) w4 := by
          refine .inr ?_
          rw [show ([101, 114, 114, 111, 114, 32] ++ Lib.itoa n : List UInt8) = ((⟨#[101, 114, 114, 111, 114, 32]⟩ : ByteArray) ++ str (Lib.itoa n)).data.toList from by rw [ByteArray.data_append, Array.toList_append]; rfl, ← cells_str]
          exact hb4
        have hs4 := hbl4.size
        have A5 : Aside (Bld w.heap.size (wayOf T ++ ([101, 114, 114, 111, 114, 32] ++ Lib.itoa n)) w4 ∧ Grow w w4) := ⟨hb5, Below.trans A4.out.2 hbl4⟩
        clear hb4 hbl4 hok4 hb5
        go_wp2_with fail
        refine (Tryd.Builder_String_any_k w.heap.size w.heap.size _ w4 A5.out.1 (by omega)).mono ?_
        rintro e w5 ⟨rfl, _, hbl5, _⟩
        have A6 : Aside (Grow w w5) := Below.trans A5.out.2 hbl5
        clear hbl5
        go_wp2_with fail
        go_ret
        exact ⟨by rw [A2.out.2 hn0]; rfl, A6.out⟩
end Go.Proofs.YtmfgbanckehcgaaDoor
