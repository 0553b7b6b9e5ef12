/- The walks of TrailInner and TrailFirst. -/
import Derived.Test.YtmfgbanckehcgaaDoorTrailLive
import Derived.Test.YtmfgbanckehcgaaDoorInts
namespace Go.Proofs.YtmfgbanckehcgaaDoor
set_option linter.unusedVariables false
set_option linter.unusedSimpArgs false
open Go.ChangeShapes Go.WideShapes Go.ChangeAt Go.RowKit

/-- Places whose numbers are ints. -/
def Okn (l : PL) : Prop := ∀ p ∈ l, -9223372036854775808 ≤ p.2 ∧ p.2 ≤ 9223372036854775807
theorem Okn.okp {l : PL} (h : Okn l) (hl : isLong l = false) : Okp l := fun p hp => ⟨(isLong_all hl).2 p hp, h p hp⟩
theorem Plc.of_pairs {w : World} {a : Addr} {len cap : Nat} (hl : len ≤ cap) (hm : cap ≤ maxLen) (h : ∀ i, i < len → ∃ (s : ByteArray) (n : Int), w.cell? (a.add (i * 2)) = some (.string s) ∧ w.cell? (a.add (i * 2 + 1)) = some (.int .i64 n) ∧ -9223372036854775808 ≤ n ∧ n ≤ 9223372036854775807) :
    ∃ l, Plc w (.slice (some a) len cap) l ∧ Okn l := by
  have hc : ∃ f : Nat → ByteArray × Int, ∀ i, i < len → w.cell? (a.add (i * 2)) = some (.string (f i).1) ∧ w.cell? (a.add (i * 2 + 1)) = some (.int .i64 (f i).2) ∧ -9223372036854775808 ≤ (f i).2 ∧ (f i).2 ≤ 9223372036854775807 := by
    have h1 : ∀ i, ∃ p : ByteArray × Int, i < len → w.cell? (a.add (i * 2)) = some (.string p.1) ∧ w.cell? (a.add (i * 2 + 1)) = some (.int .i64 p.2) ∧ -9223372036854775808 ≤ p.2 ∧ p.2 ≤ 9223372036854775807 := fun i => by
      by_cases hi : i < len
      · obtain ⟨s, n, h2⟩ := h i hi
        exact ⟨(s, n), fun _ => h2⟩
      · exact ⟨(ByteArray.empty, 0), fun h2 => absurd h2 hi⟩
    exact ⟨fun i => Classical.choose (h1 i), fun i => Classical.choose_spec (h1 i)⟩
  obtain ⟨f, hf⟩ := hc
  refine ⟨(List.range len).map f, ⟨some a, cap, by simp, by simpa using hl, hm, fun hp => ?_⟩, fun p hp => ?_⟩
  · have hp' : 0 < len := by simpa using hp
    obtain ⟨b, off, spot⟩ := a
    have h0 := (hf 0 hp').1
    have hs : spot = none := by simpa [Addr.add] using World.cell?_spot h0
    subst hs
    refine ⟨b, off, rfl, block_of_cell h0, fun j hj => ?_⟩
    have hj' : j < len := by simpa using hj
    have h1 := hf j hj'
    rw [add_at, add_at] at h1
    simp only [List.getElem_map, List.getElem_range]
    exact ⟨h1.1, by rw [Nat.add_assoc]; exact h1.2.1⟩
  · obtain ⟨i, hi, rfl⟩ := List.mem_map.1 hp
    exact (hf i (List.mem_range.1 hi)).2.2
theorem live_here (w wx : World) (hx : Grow w wx) (hg : Base w) :
    Calls Tryd.prog 8 #[] wx fun e w' => e = .returned (.bool true) ∧ Grow w w' :=
  (live_any wx (hg.grow hx)).mono fun e w' ⟨he, h⟩ => ⟨he, hx.trans h⟩

set_option maxHeartbeats 1600000 in
theorem trailInner_walk (w : World) {l : PL} {v : Value} (hv : Plc w v l) (hok : Okn l) (e : Int) (ze : -9223372036854775808 ≤ e ∧ e ≤ 9223372036854775807) (hg : Base w) :
    Calls Tryd.prog 4 #[v, .int .i64 e] w fun ev w' => ev = .returned (.bool true) ∧ Grow w w' := by
  have hM := (show Aside _ from made_any l e v w hv)
  have hL := (show Aside _ from long_any l v w hv)
  obtain ⟨A, c, rfl, hlc, hcm, _⟩ := id hv
  have hm : l.length ≤ 9223372036854775807 := Nat.le_trans hlc hcm
  have HV := (show Aside _ from hv)
  clear hv
  cases hlong : isLong l with
  | true =>
    rw [hlong] at hL
    go_enter Tryd.func4, Tryd.ntmps4
    go_wp2_with fail
    refine Calls.mono hL.out ?_
    rintro ev w1 ⟨rfl, rfl⟩
    go_wp2_with fail
    refine (live_any _ hg).mono ?_
    rintro ev w2 ⟨rfl, hg3⟩
    have A2 := (show Aside _ from hg3)
    clear hg3
    go_wp2_with fail
    go_ret
    exact ⟨rfl, A2.out⟩
  | false =>
    rw [hlong] at hL
    have HO := (show Aside _ from And.intro (hok.okp hlong) (isLong_all hlong))
    clear hlong
    by_cases h64 : 64 < l.length
    · have hd : decide (64 < (l.length : Int)) = true := decide_eq_true (by omega)
      go_enter Tryd.func4, Tryd.ntmps4
      go_wp2_with fail
      refine Calls.mono hL.out ?_
      rintro ev w1 ⟨rfl, rfl⟩
      go_wp2_with fail
      refine (live_any _ hg).mono ?_
      rintro ev w2 ⟨rfl, hg3⟩
      have A2 := (show Aside _ from hg3)
      clear hg3
      go_wp2_with fail
      go_ret
      exact ⟨rfl, A2.out⟩
    · have hd : decide (64 < (l.length : Int)) = false := decide_eq_false (by omega)
      by_cases h0 : e = 0
      · subst h0
        go_enter Tryd.func4, Tryd.ntmps4
        go_wp2_with fail
        refine Calls.mono hL.out ?_
        rintro ev w1 ⟨rfl, rfl⟩
        go_wp2_with fail
        refine (live_any _ hg).mono ?_
        rintro ev w2 ⟨rfl, hg3⟩
        have A2 := (show Aside _ from hg3)
        clear hg3
        go_wp2_with fail
        go_ret
        exact ⟨rfl, A2.out⟩
      · have hI : ∀ wx, Calls Tryd.prog 17 #[madeV l e] wx fun ev w' => ev = .returned (.iface 30 (.int .i64 e)) ∧ Grow wx w' := by
          intro wx
          have h := Inner_made l e hm wx
          rwa [List.drop_eq_nil_of_le (by omega), madeV_nil, errV_not h0] at h
        have hP : ∀ wx, Calls Tryd.prog 10 #[.iface 30 (.int .i64 e)] wx fun ev w' => ∃ v, ev = .returned v ∧ OwnP w' v [] ∧ Grow wx w' := by
          intro wx
          have h := Path_made [] e (by decide) wx
          rwa [madeV_nil, errV_not h0, told_not _ h0] at h
        have HI := (show Aside _ from And.intro hI hP)
        clear hI hP
        have he0 : (e == 0) = false := by simpa using h0
        generalize madeV l e = X at hM HI
        go_enter Tryd.func4, Tryd.ntmps4
        go_wp2_with fail
        refine Calls.mono hL.out ?_
        rintro ev w1 ⟨rfl, rfl⟩
        go_wp2_with fail
        refine Calls.mono hM.out ?_
        rintro ev w1 ⟨rfl, hg1⟩
        have A1 := (show Aside _ from hg1)
        clear hg1
        go_wp2_with fail
        refine (HI.out.1 _).mono ?_
        rintro ev w2 ⟨rfl, hg2⟩
        have A2 := (show Aside _ from Grow.trans A1.out hg2)
        clear hg2
        go_wp2_with fail
        refine (Code_err e _ (hg.grow A2.out)).mono ?_
        rintro ev w3 ⟨rfl, hg3⟩
        have A3 := (show Aside _ from Grow.trans A2.out hg3)
        clear hg3
        go_wp2_with fail
        refine (HI.out.2 _).mono ?_
        rintro ev w4 ⟨v4, rfl, hO4, hg4⟩
        obtain ⟨A5, m5, c5, rfl, hm5⟩ := hO4.plc.form
        obtain rfl : m5 = 0 := hm5.out
        have A4 := (show Aside _ from Grow.trans A3.out hg4)
        clear hg4 hO4 hm5
        go_wp2_with fail
        refine (live_here w _ A4.out hg).mono ?_
        rintro ev w5 ⟨rfl, hg5⟩
        have A6 := (show Aside _ from hg5)
        clear hg5
        go_wp2_with fail
        go_ret
        exact ⟨rfl, A6.out⟩

theorem infoError : (Tryd.prog.info? 26).map (fun i => (i.zero, i.size, i.bytes)) = some (some .nilIface, 1, 16) := by kernel_rfl
theorem errV_one (n : Int) : (errV n).oneCell' = true := by
  by_cases h : n = 0
  · subst h; rfl
  · rw [errV_not h]; rfl

set_option maxRecDepth 10000 in
set_option maxHeartbeats 1600000 in
theorem trailFirst_walk (w : World) {ns : List Int} {v : Value} (hv : IntsAt w v ns) (z : ns.length * 8 ≤ 140737488351232) (hg : Base w) :
    Calls Tryd.prog 6 #[v] w fun ev w' => ev = .returned (.bool true) ∧ Grow w w' := by
  obtain ⟨i0, hi, hz0, hz1, hz2⟩ := info_parts infoError
  obtain ⟨A, c, hv', hlc, hcm, hcell⟩ := id hv.1
  simp only [List.length_map] at hv' hlc hcell
  subst hv'
  have HC := (show Aside _ from hcell)
  clear hcell hv
  have hm : ns.length ≤ 17592186043904 := by omega
  by_cases h60 : 60 < ns.length
  · have hd : decide (60 < (ns.length : Int)) = true := decide_eq_true (by omega)
    go_enter Tryd.func6, Tryd.ntmps6
    go_wp2_with fail
    refine (live_any _ hg).mono ?_
    rintro ev w2 ⟨rfl, hg3⟩
    have A2 := (show Aside _ from hg3)
    clear hg3
    go_wp2_with fail
    go_ret
    exact ⟨rfl, A2.out⟩
  · have hd : decide (60 < (ns.length : Int)) = false := decide_eq_false (by omega)
    go_enter Tryd.func6, Tryd.ntmps6
    go_wp2_with fail
    go_loopg [4, 5] ns.length (fun g s4 s5 wr => w = wr ∧ ∃ k : Nat, k ≤ ns.length ∧ g = k ∧ s5 = .int .i64 ((k : Int) - 1) ∧ s4 = .int .i64 (firstNot (ns.drop k)))
    case atStart => exact ⟨rfl, ns.length, Nat.le_refl _, rfl, by go_num, by rw [List.drop_length]; rfl⟩
    case round =>
      obtain ⟨rfl, k, hk, rfl, rfl, hs4⟩ := hrel
      rcases gk with _ | m
      · rw [List.drop_zero] at hs4
        subst hs4
        have HN := (show Aside _ from First_any ns)
        generalize hf : firstNot ns = f at HN ⊢
        clear hf
        go_wp2_with fail
        go_loopg [3, 6] ns.length (fun g s3 s6 wr => ∃ (k : Nat) (ao : Option Addr) (cap : Nat), k ≤ ns.length ∧ g = ns.length - k ∧ s6 = .int .i64 (k : Int) ∧ s3 = .slice ao k cap ∧ wr.ownsRow w.heap.size 26 1 s3 k ((ns.take k).map errV) ∧ Grow w wr)
        case atStart => exact ⟨0, none, 0, Nat.zero_le _, rfl, rfl, rfl, World.ownsRow_nil _ _ _ _, Grow.refl _⟩
        case round =>
          obtain ⟨k, ao, cap, hk, rfl, rfl, rfl, hown, hgr⟩ := hrel
          rcases Nat.lt_or_ge k ns.length with hlt | hge
          · obtain ⟨b, off, rfl, hb, hc⟩ := HC.out (by omega)
            have x0 := hc k hlt
            simp only [List.getElem_map, iv] at x0
            rw [← hgr.cell (p := ⟨b, off + k, none⟩) hb] at x0
            have ht : (ns.take (k + 1)).map errV = (ns.take k).map errV ++ [errV (ns[k]'hlt)] := by rw [List.take_succ_eq_append_getElem hlt, List.map_append]; rfl
            generalize ns[k]'hlt = n at x0 ht
            have A1 := (show Aside _ from And.intro hown (And.intro hgr ht))
            clear hown hgr ht hc
            go_wp2_with fail
            refine (made_none n _).mono ?_
            rintro ev w1 ⟨rfl, hg1⟩
            have hsz := A1.out.2.1.size
            have hsz1 := hg1.size
            have hown2 : (w1.alloc (.cells #[errV n] 26)).ownsRow w.heap.size 26 1 (.slice ao k cap) k ((ns.take k).map errV) := (own_grow A1.out.1 hg1).alloc _
            have h1c := errV_one n
            have A2 := (show Aside _ from And.intro (Grow.trans A1.out.2.1 hg1) h1c)
            clear hg1 h1c x0
            rcases (show errV n = .nilIface ∨ ∃ u, errV n = .iface 30 u from by
              by_cases h : n = 0
              · exact .inl (by rw [h]; rfl)
              · exact .inr ⟨_, errV_not h⟩) with hX | ⟨u, hX⟩
            · rw [hX] at A1 A2 hown2 ⊢
              clear hX
              go_wp2_with (at_builtin; refine wpList_append_own _ rfl _ _ 41 rfl w.heap.size 26 i0 .nilIface 1 16 Tryd.underlying41 hi hz0 hz1 hz2 rfl (by decide) _ _ _ rfl hown2 ⟨w1.heap.size, 0, none⟩ 1 1 [.nilIface] rfl rfl ?c1 ?c2 ?c3 ?c4 ?c5 ?_)
              case c1 =>
                intro j u hj
                match j, hj with
                | 0, hj => simp at hj; subst hj; first | rfl | (simp; done) | (simp [Addr.add]; done)
              case c2 => intro u hu; simp at hu; subst hu; exact A2.out.2
              case c3 => unfold maxLen; omega
              case c4 => omega
              case c5 => simp; omega
              intro v1 w2 hown3 hgrow3 _
              obtain ⟨ao1, cap1, rfl⟩ : ∃ ao cap, v1 = .slice ao (k + 1) cap := by
                rcases hown3.2 with ⟨hv, h0⟩ | ⟨g, cap, cur, hv, _⟩
                · exact absurd h0 (by omega)
                · exact ⟨_, _, hv⟩
              have hg3 : Grow w w2 := (Below.alloc (A2.out.1 : Below w.heap.size w w1) (by omega) _).grown hgrow3 (by simp; omega) (fun g hg => (hown2.lt g hg).1)
              have A3 := (show Aside _ from And.intro hown3 hg3)
              clear hown3 hg3 hgrow3 hown2
              go_wp2_with fail
              go_roundg (ns.length - (k + 1))
              case measure => omega
              case rel =>
                refine ⟨k + 1, ao1, cap1, by omega, rfl, by go_num, rfl, ?_, A3.out.2⟩
                rw [A1.out.2.2]
                simpa only [List.map_take] using A3.out.1
            · rw [hX] at A1 A2 hown2 ⊢
              clear hX
              go_wp2_with (at_builtin; refine wpList_append_own _ rfl _ _ 41 rfl w.heap.size 26 i0 .nilIface 1 16 Tryd.underlying41 hi hz0 hz1 hz2 rfl (by decide) _ _ _ rfl hown2 ⟨w1.heap.size, 0, none⟩ 1 1 [.iface 30 u] rfl rfl ?d1 ?d2 ?d3 ?d4 ?d5 ?_)
              case d1 =>
                intro j y hj
                match j, hj with
                | 0, hj => simp at hj; subst hj; first | rfl | (simp; done) | (simp [Addr.add]; done)
              case d2 => intro y hy; simp at hy; subst hy; exact A2.out.2
              case d3 => unfold maxLen; omega
              case d4 => omega
              case d5 => simp; omega
              intro v1 w2 hown3 hgrow3 _
              obtain ⟨ao1, cap1, rfl⟩ : ∃ ao cap, v1 = .slice ao (k + 1) cap := by
                rcases hown3.2 with ⟨hv, h0⟩ | ⟨g, cap, cur, hv, _⟩
                · exact absurd h0 (by omega)
                · exact ⟨_, _, hv⟩
              have hg3 : Grow w w2 := (Below.alloc (A2.out.1 : Below w.heap.size w w1) (by omega) _).grown hgrow3 (by simp; omega) (fun g hg => (hown2.lt g hg).1)
              have A3 := (show Aside _ from And.intro hown3 hg3)
              clear hown3 hg3 hgrow3 hown2
              go_wp2_with fail
              go_roundg (ns.length - (k + 1))
              case measure => omega
              case rel =>
                refine ⟨k + 1, ao1, cap1, by omega, rfl, by go_num, rfl, ?_, A3.out.2⟩
                rw [A1.out.2.2]
                simpa only [List.map_take] using A3.out.1
          · have hkk : k = ns.length := by omega
            subst hkk
            rw [List.take_length] at hown
            have A1 := (show Aside _ from And.intro (Rd.of_own hown) hgr)
            clear hown hgr
            go_wp2_with fail
            refine (HN.out _ _ A1.out.1).mono ?_
            rintro ev w1 ⟨rfl, hg1⟩
            have A2 := (show Aside _ from Grow.trans A1.out.2 hg1)
            clear hg1
            have hC := Code_made [] f w1 (hg.grow A2.out)
            rw [madeV_nil] at hC
            have HK := (show Aside _ from hC)
            clear hC
            by_cases hf : f = 0
            · subst hf
              rw [errV_zero] at HK ⊢
              go_wp2_with fail
              refine Calls.mono HK.out ?_
              rintro ev w3 ⟨rfl, hg3⟩
              have A3 := (show Aside _ from Grow.trans A2.out hg3)
              clear hg3
              go_wp2_with fail
              refine (live_here w _ A3.out hg).mono ?_
              rintro ev w5 ⟨rfl, hg5⟩
              have A6 := (show Aside _ from hg5)
              clear hg5
              go_wp2_with fail
              go_ret
              exact ⟨rfl, A6.out⟩
            · rw [errV_not hf] at HK ⊢
              have hf0 : (f == 0) = false := by simpa using hf
              go_wp2_with fail
              refine Calls.mono HK.out ?_
              rintro ev w3 ⟨rfl, hg3⟩
              have A3 := (show Aside _ from Grow.trans A2.out hg3)
              clear hg3
              go_wp2_with fail
              refine (live_here w _ A3.out hg).mono ?_
              rintro ev w5 ⟨rfl, hg5⟩
              have A6 := (show Aside _ from hg5)
              clear hg5
              go_wp2_with fail
              go_ret
              exact ⟨rfl, A6.out⟩
      · obtain ⟨b, off, rfl, hb, hc⟩ := HC.out (by omega)
        have x0 := hc m (by omega)
        simp only [List.getElem_map, iv] at x0
        have hfd := firstNot_drop (ns := ns) (k := m) (by omega)
        generalize ns[m]'(by omega) = n at x0 hfd
        generalize firstNot (ns.drop (m + 1)) = f at hs4 hfd
        subst hs4
        have hi : ((m + 1 : Nat) : Int) - 1 = (m : Int) := by omega
        rw [hi]
        by_cases hn : n = 0
        · rw [if_pos hn] at hfd
          subst hn
          have A1 := (show Aside _ from hfd)
          clear hfd hc
          go_wp2_with fail
          go_roundg m
          case measure => omega
          case rel => exact ⟨rfl, m, by omega, rfl, by go_num, by rw [A1.out]⟩
        · rw [if_neg hn] at hfd
          have A1 := (show Aside _ from hfd)
          have hn0 : (n == 0) = false := by simpa using hn
          clear hfd hc hn
          go_wp2_with fail
          go_roundg m
          case measure => omega
          case rel => exact ⟨rfl, m, by omega, rfl, by go_num, by rw [A1.out]⟩
end Go.Proofs.YtmfgbanckehcgaaDoor
