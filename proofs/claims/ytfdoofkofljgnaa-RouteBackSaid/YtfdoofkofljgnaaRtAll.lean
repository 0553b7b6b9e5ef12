/- Contracts: node.all, All, Len, New; nil tables. -/
import Derived.Test.YtfdoofkofljgnaaRtTell
namespace Go.Proofs.Ytfdoofkofljgnaa
set_option linter.unusedVariables false
set_option linter.unusedSimpArgs false
open Go.ChangeShapes Go.WideShapes Go.ChangeAt Go.RowKit Go.Shelf

theorem half0 (X0 X1 : Value) (w : World) : (Instr.index 58 (.agg #[X0, X1]) (.int .i64 0)).run Try.prog w = .ok X0 w := by kernel_rfl
theorem half1 (X0 X1 : Value) (w : World) : (Instr.index 58 (.agg #[X0, X1]) (.int .i64 1)).run Try.prog w = .ok X1 w := by kernel_rfl

set_option maxRecDepth 10000 in
set_option maxHeartbeats 2000000 in
theorem nodeall_any (base tb bt : Nat) (n : Int) (M : Net) (role : Nat → Role) (hlow : ∀ b, role b ≠ .none → b < bt) :
    ∀ (f k : Nat) (x : Int) (w : World) (v : Value) (l : List Rt), 34 ≤ k + f → Trie w base tb n M role → bt ≤ w.heap.size → Orow 32 w bt v l → l.length + (allOf M f k x).length ≤ 1000000 →
      Calls Try.prog 25 #[ptrOf (M k x), v] w fun e w' => ∃ v', e = .returned v' ∧ Orow 32 w' bt v' (l ++ allOf M f k x) ∧ Below bt w w'
  | f, k, x => by
    intro w v l hf hT hbt ho hlen
    cases hm : M k x with
    | none =>
      rw [show ptrOf none = .pointer none from rfl, allOf_none hm]
      have HO := Lib.hid ho
      clear ho hm hT hlen
      go_enter Try.func25, Try.ntmps25
      go_wp2_with fail
      go_ret
      exact ⟨v, rfl, by simpa using HO.out, Below.refl _ _⟩
    | some d =>
      have hk := (hT.node _ _ _ hm).1
      obtain ⟨f', rfl⟩ : ∃ f', f = f' + 1 := ⟨f - 1, by omega⟩
      have hn := (hT.node _ _ _ hm).2.2
      have hb := hlow d.blk (by rw [hn.blk]; simp)
      have hwlow : ∀ b, d.wv.ownBlock = some b → b < bt := fun b hb => hlow b (by rw [hn.mine b hb]; simp)
      rw [show ptrOf (some d) = .pointer (some ⟨d.blk, 0, none⟩) from rfl]
      rw [allOf_some hm] at hlen ⊢
      simp only [List.length_append] at hlen
      have cT := tell_any w d.blk bt d.wv d.ws hn.c2 hn.row.rts hbt hwlow v l ho (by omega)
      have i0 := fun wr v l h1 h2 h3 h4 => nodeall_any base tb bt n M role hlow f' (k + 1) x wr v l (by omega) h1 h2 h3 h4
      have i1 := fun wr v l h1 h2 h3 h4 => nodeall_any base tb bt n M role hlow f' (k + 1) (x + sz ((k : Int) + 1)) wr v l (by omega) h1 h2 h3 h4
      generalize hX0 : ptrOf (M (k + 1) x) = X0 at *
      generalize hX1 : ptrOf (M (k + 1) (x + sz ((k : Int) + 1))) = X1 at *
      generalize allOf M f' (k + 1) x = L0 at *
      generalize allOf M f' (k + 1) (x + sz ((k : Int) + 1)) = L1 at *
      have c0 : ∀ w1, Below bt w w1 → w1.cell? ⟨d.blk, 0, none⟩ = some X0 := fun w1 h => (h.cell (p := ⟨d.blk, 0, none⟩) hb).trans (by rw [← hX0]; exact hn.c0)
      have c1 : ∀ w1, Below bt w w1 → w1.cell? ⟨d.blk, 1, none⟩ = some X1 := fun w1 h => (h.cell (p := ⟨d.blk, 1, none⟩) hb).trans (by rw [← hX1]; exact hn.c1)
      have HC := Lib.hid (And.intro c0 c1)
      have HT := Lib.hid hT
      have HI := Lib.hid (And.intro i0 i1)
      have hh0 := half0 X0 X1
      have hh1 := half1 X0 X1
      clear hn hm hT c0 c1 i0 i1 hX0 hX1 ho hwlow
      go_enter Try.func25, Try.ntmps25
      go_wp2_with (go_at_call 29; refine cT.mono ?_; rintro e w1 ⟨v1, rfl, ho1, hb1⟩; have e0 := HC.out.1 w1 hb1; have e1 := HC.out.2 w1 hb1; have H1 := Lib.hid (And.intro ho1 hb1); clear ho1 hb1)
      go_loopg [1, 17] 2 (fun g s1 s17 wr => ∃ i : Nat, g = 2 - i ∧ s17 = .int .i64 (i : Int) ∧ ((i = 0 ∧ Orow 32 wr bt s1 (l ++ d.ws)) ∨ (i = 1 ∧ Orow 32 wr bt s1 (l ++ d.ws ++ L0)) ∨ (i = 2 ∧ Orow 32 wr bt s1 (l ++ d.ws ++ L0 ++ L1))) ∧ Below bt w wr)
      case atStart => exact ⟨0, rfl, rfl, .inl ⟨rfl, H1.out.1⟩, H1.out.2⟩
      case round =>
        obtain ⟨i, rfl, rfl, hi, hbl⟩ := hrel
        have hTr : Trie _ base tb n M role := HT.out.other hbl.size fun b hr => hbl.block b (hlow b hr)
        rcases hi with ⟨rfl, ho2⟩ | ⟨rfl, ho2⟩ | ⟨rfl, ho2⟩
        · have cI := HI.out.1 _ _ _ hTr (Nat.le_trans hbt hbl.size) ho2 (by simp; omega)
          have A1 := Lib.hid hbl
          clear ho2 hTr hbl
          go_wp2_with (go_at_call 25; refine cI.mono ?_; rintro e w2 ⟨v2, rfl, ho3, hb3⟩; have H3 := Lib.hid (And.intro ho3 hb3); clear ho3 hb3)
          go_roundg 1
          case measure => omega
          case rel => exact ⟨1, rfl, rfl, .inr (.inl ⟨rfl, H3.out.1⟩), A1.out.trans H3.out.2⟩
        · have cI := HI.out.2 _ _ _ hTr (Nat.le_trans hbt hbl.size) ho2 (by simp; omega)
          have A1 := Lib.hid hbl
          clear ho2 hTr hbl
          go_wp2_with (go_at_call 25; refine cI.mono ?_; rintro e w2 ⟨v2, rfl, ho3, hb3⟩; have H3 := Lib.hid (And.intro ho3 hb3); clear ho3 hb3)
          go_roundg 0
          case measure => omega
          case rel => exact ⟨2, rfl, rfl, .inr (.inr ⟨rfl, H3.out.1⟩), A1.out.trans H3.out.2⟩
        · have A1 := Lib.hid (And.intro ho2 hbl)
          clear ho2 hTr hbl
          go_wp2_with fail
          go_ret
          exact ⟨_, rfl, by simpa [List.append_assoc] using A1.out.1, A1.out.2⟩
  termination_by f => f

theorem Tells.up33 {w : World} {base tb : Nat} {n : Int} {M : Net} {role : Nat → Role} (h : Trie w base tb n M role) {r : List Rt} (hM : Tells M r) (hF : Fine r) : allOf M 34 0 0 = rallL r := allOf_all hM hF h.up fun x k hk => h.none33 x k hk

set_option maxHeartbeats 400000 in
theorem All_any (w : World) (base tb : Nat) (r : List Rt) (M : Net) (role : Nat → Role) (h : Trie w base tb (r.length : Int) M role) (hM : Tells M r) (hF : Fine r) :
    Calls Try.prog 12 #[.pointer (some ⟨tb, 0, none⟩)] w fun e w' => ∃ v, e = .returned v ∧ Orow 32 w' w.heap.size v (rallL r) ∧ Grow w w' := by
  have e34 := Tells.up33 h hM hF
  have hl : (rallL r).length ≤ 64 := by rw [rallL_length]; exact hF.len
  have cN := nodeall_any base tb w.heap.size _ M role h.lt 34 0 0 w (.slice none 0 0) [] (by omega) h (Nat.le_refl _) (Orow.nil _ _ _) (by rw [e34]; simp; omega)
  obtain ⟨d, hd, hdb⟩ := h.top
  rw [e34, hd, show ptrOf (some d) = .pointer (some ⟨d.blk, 0, none⟩) from rfl, hdb, List.nil_append] at cN
  clear h hM hF hd hdb e34
  go_enter Try.func12, Try.ntmps12
  go_wp2_with (go_at_call 25; refine cN.mono ?_; rintro e w1 ⟨v1, rfl, ho1, hb1⟩; have H1 := Lib.hid (And.intro ho1 hb1); clear ho1 hb1)
  go_ret
  exact ⟨_, rfl, H1.out⟩
theorem All_nil (w : World) : Calls Try.prog 12 #[.pointer none] w fun e w' => e = .returned (.slice none 0 0) ∧ w = w' := by
  go_enter Try.func12, Try.ntmps12
  go_wp2_with fail
  go_ret
  exact ⟨rfl, rfl⟩
theorem Len_any (w : World) (base tb : Nat) (n : Int) (M : Net) (role : Nat → Role) (h : Trie w base tb n M role) :
    Calls Try.prog 18 #[.pointer (some ⟨tb, 0, none⟩)] w fun e w' => e = .returned (.int .i64 n) ∧ w = w' := by
  have hc := h.cnt
  clear h
  go_enter Try.func18, Try.ntmps18
  go_wp2_with fail
  go_ret
  exact ⟨rfl, rfl⟩
theorem Len_nil (w : World) : Calls Try.prog 18 #[.pointer none] w fun e w' => e = .returned (.int .i64 0) ∧ w = w' := by
  go_enter Try.func18, Try.ntmps18
  go_wp2_with fail
  go_ret
  exact ⟨rfl, rfl⟩
theorem Remove_nil (x b c : Int) (w : World) : Calls Try.prog 17 #[.pointer none, .int .u32 x, .int .i64 b, .int .i64 c] w fun e w' => e = .returned (.int .i64 7) ∧ w = w' := by
  go_enter Try.func17, Try.ntmps17
  go_wp2_with fail
  go_ret
  exact ⟨rfl, rfl⟩
theorem Add_nil (x : Rt) (w : World) : Calls Try.prog 16 #[.pointer none, rtV x] w fun e w' => e = .returned (.int .i64 7) ∧ Grow w w' := by
  unfold rtV
  go_enter Try.func16, Try.ntmps16
  go_wp2_with fail
  go_ret
  exact ⟨rfl, Grow.alloc _ _⟩
theorem Ways_nil (a : Int) (w : World) : Calls Try.prog 14 #[.pointer none, .int .u32 a] w fun e w' => e = .returned (.slice none 0 0) ∧ w = w' := by
  go_enter Try.func14, Try.ntmps14
  go_wp2_with fail
  go_ret
  exact ⟨rfl, rfl⟩
set_option maxHeartbeats 400000 in
/-- A route and a number, handed back out of the route's block. -/
theorem results_rt {fn : Func} (h : fn.results = #[.cell 4 32, .tmp 5]) (tmps : Array Value) (w : World) (g : Nat) (r : Rt) (ht : tmps.getD 4 undef = .pointer (some ⟨g, 0, none⟩)) (hb : RtAt w g 0 r) :
    (results fn tmps).run Try.prog w = .ok (.tuple #[rtV r, tmps.getD 5 undef]) w := by
  obtain ⟨b0, b1, b2, b3, b4⟩ := hb
  simp only [Nat.zero_add] at b1 b2 b3 b4
  have ht' : tmps[4]?.getD undef = .pointer (some ⟨g, 0, none⟩) := by simpa using ht
  simp only [results, h, go_sem]
  simp [ht', b0, b1, b2, b3, b4, go_sem]
  rfl
theorem RtAt.new (w : World) (r : Rt) (t : TypeId) : RtAt (w.alloc (.cells #[.int .u32 r.net, .int .i64 r.bits, .int .u32 r.via, .int .i64 r.iface, .int .i64 r.cost] t)) w.heap.size 0 r := by
  refine ⟨?_, ?_, ?_, ?_, ?_⟩ <;> simp [World.cell?_alloc_new]
set_option maxHeartbeats 400000 in
theorem Find_nil (a : Int) (w : World) : Calls Try.prog 10 #[.pointer none, .int .u32 a] w fun e w' => e = .returned (.tuple #[rtV ⟨0, 0, 0, 0, 0⟩, .int .i64 7]) ∧ Grow w w' := by
  go_enter Try.func10, Try.ntmps10
  go_wp2_with fail
  refine bodyPost_ret (results_rt rfl _ _ w.heap.size ⟨0, 0, 0, 0, 0⟩ rfl (RtAt.new w ⟨0, 0, 0, 0, 0⟩ _)) rfl ?_
  exact ⟨rfl, Grow.alloc _ _⟩

/-- A table that is new: no nodes but the top. -/
def net0 (tb : Nat) : Net := fun k x => if k = 0 ∧ x = 0 then some ⟨tb, .slice none 0 0, []⟩ else none
theorem New_any (w : World) : Calls Try.prog 19 #[] w fun e w' => e = .returned (.pointer (some ⟨w.heap.size, 0, none⟩)) ∧
    Trie w' w.heap.size w.heap.size 0 (net0 w.heap.size) (fun b => if b = w.heap.size then .node 0 0 else .none) ∧ Grow w w' := by
  go_enter Try.func19, Try.ntmps19
  go_wp2_with fail
  go_ret
  refine ⟨rfl, ?_, Grow.alloc _ _⟩
  have hh := heap_alloc_new w (.cells #[.pointer none, .pointer none, .slice none 0 0, .int .i64 0] 63)
  refine ⟨⟨⟨w.heap.size, .slice none 0 0, []⟩, by unfold net0; rw [if_pos ⟨rfl, rfl⟩], rfl⟩, by unfold World.cell?; rw [hh]; rfl, fun k x d hd => ?_, fun k x hx => ?_, fun b hb => ?_, fun b hb => ?_⟩
  · unfold net0 at hd
    split at hd
    · rename_i hk
      obtain ⟨rfl, rfl⟩ := hk
      cases hd
      refine ⟨by omega, ⟨by omega, by omega, netOf_zero ⟨by omega, by omega⟩⟩, ⟨by show (if w.heap.size = w.heap.size then _ else _) = _; rw [if_pos rfl], ?_, ?_, ?_, fun i => ?_, Orow.nil _ _ _, fun g hg => by cases hg⟩⟩
      · unfold World.cell?; rw [hh]; rfl
      · unfold World.cell?; rw [hh]; rfl
      · unfold World.cell?; rw [hh]; rfl
      · unfold World.frozen?; rw [hh]; simp
    · cases hd
  · unfold net0 at hx
    rw [if_neg (by omega)] at hx
    exact absurd rfl hx
  · split at hb
    · omega
    · exact absurd rfl hb
  · split at hb
    · simp; omega
    · exact absurd rfl hb
theorem tells0 (tb : Nat) : Tells (net0 tb) [] := by
  refine ⟨fun k x d hd => ?_, fun k x d hd y => ?_, fun y hy => absurd hy (by simp)⟩
  · unfold net0 at hd
    split at hd
    · cases hd; exact List.Pairwise.nil
    · cases hd
  · unfold net0 at hd
    split at hd
    · cases hd; simp
    · cases hd
end Go.Proofs.Ytfdoofkofljgnaa
