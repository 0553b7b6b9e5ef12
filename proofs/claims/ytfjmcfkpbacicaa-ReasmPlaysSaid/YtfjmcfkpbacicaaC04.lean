/- Contract: slices.Insert on rows of bytes, of one row. -/
import Derived.Test.YtfjmcfkpbacicaaC03
import Derived.Lib.Overlaps
import Derived.Laws.Externs
import Derived.Shelf.RegionOpenPlain
import Derived.Laws.NewBlocks
import Derived.Test.YtfjmcfkpbacicaaC02
namespace Go.Proofs.Ytfjmcfkpbacicaa
set_option linter.unusedVariables false
set_option linter.unusedSimpArgs false
open Go.ChangeShapes Go.WideShapes Go.ChangeAt Go.RowKit Go.Shelf

theorem zero2 (n : Nat) : (Builtin.zeroCells (Value.agg #[.int .i64 0, .slice none 0 0]).cells n).toList.length = n * 2 := by
  simp [Builtin.zeroCells, Value.cells]
theorem shape_of {w : World} {g : Nat} {cs : Array Value} {t : TypeId} {fr : Nat × Nat} (h : w.heap[g]? = some (.cells cs t fr)) : w.shape? g = some (t, cs.size) := by
  unfold World.shape?
  rw [h]
theorem frozen_of {w : World} {g o : Nat} {cs : Array Value} {t : TypeId} (h : w.heap[g]? = some (.cells cs t (0, 0))) : w.frozen? ⟨g, o, none⟩ = false := by
  unfold World.frozen?
  rw [h]
  simp

theorem ins_shift {I M L : Nat} {cur xs ys c1 c2 : List Value} (hx : cur.take L = xs) (hl : xs.length = L) (hy : ys.length = M) (hI : I ≤ L) (hr : L + M ≤ cur.length)
    (h1 : c1 = cur.take (I + M) ++ xs.drop I ++ cur.drop (I + M + (xs.drop I).length)) (h2 : c2 = c1.take I ++ ys ++ c1.drop (I + ys.length)) :
    c2.take (L + M) = xs.take I ++ ys ++ xs.drop I ∧ c2.length = cur.length := by
  have e0 : (xs.drop I).length = L - I := by rw [List.length_drop, hl]
  have e1 : c1.take I = xs.take I := by
    rw [h1, List.append_assoc, List.take_append_of_le_length (by rw [List.length_take]; omega), List.take_take, Nat.min_eq_left (by omega), ← hx, List.take_take, Nat.min_eq_left hI]
  have e2 : c1.drop (I + M) = xs.drop I ++ cur.drop (L + M) := by
    have e3 : (cur.take (I + M)).length = I + M := by rw [List.length_take]; omega
    rw [h1, List.append_assoc, List.drop_append_of_le_length (by rw [e3]; exact Nat.le_refl _), List.drop_of_length_le (by rw [e3]; exact Nat.le_refl _), List.nil_append, e0, show I + M + (L - I) = L + M from by omega]
  rw [hy, e1, e2] at h2
  have e4 : (xs.take I ++ ys ++ xs.drop I).length = L + M := by
    simp only [List.length_append, List.length_take, e0, hy, hl]; omega
  rw [h2, ← List.append_assoc]
  refine ⟨?_, ?_⟩
  · rw [List.take_append_of_le_length (by rw [e4]; exact Nat.le_refl _), List.take_of_length_le (by rw [e4]; exact Nat.le_refl _)]
  · rw [List.length_append, e4, List.length_drop]; omega
theorem ins_new {I M L : Nat} {cur xs ys c1 c2 : List Value} (hx : cur.take I = xs.take I) (hl : xs.length = L) (hy : ys.length = M) (hI : I ≤ L) (hr : L + M ≤ cur.length)
    (h1 : c1 = cur.take I ++ ys ++ cur.drop (I + ys.length)) (h2 : c2 = c1.take (I + M) ++ xs.drop I ++ c1.drop (I + M + (xs.drop I).length)) :
    c2.take (L + M) = xs.take I ++ ys ++ xs.drop I ∧ c2.length = cur.length := by
  have e0 : (xs.drop I).length = L - I := by rw [List.length_drop, hl]
  have e1 : c1.length = cur.length := by rw [h1]; simp only [List.length_append, List.length_take, List.length_drop, hy]; omega
  have e2 : c1.take (I + M) = xs.take I ++ ys := by
    have e3 : (cur.take I ++ ys).length = I + M := by rw [List.length_append, List.length_take, hy]; omega
    rw [h1, List.take_append_of_le_length (by rw [e3]; exact Nat.le_refl _), List.take_of_length_le (by rw [e3]; exact Nat.le_refl _), hx]
  rw [e2] at h2
  have e4 : (xs.take I ++ ys ++ xs.drop I).length = L + M := by
    simp only [List.length_append, List.length_take, e0, hy, hl]; omega
  rw [h2]
  refine ⟨?_, ?_⟩
  · rw [List.take_append_of_le_length (by rw [e4]; exact Nat.le_refl _), List.take_of_length_le (by rw [e4]; exact Nat.le_refl _)]
  · rw [List.length_append, e4, List.length_drop, e0]; omega

theorem grownBy_undrew {w w' : World} {row : Option Nat} (h : w.drew.grownBy w' row) : w.grownBy w' row := ⟨h.os, h.tape, h.output, h.size, h.block⟩
section
variable {P : Program}
/-- copy into a row of plain memory, as one step. -/
theorem wpList_copyRow (w : World) {ops : Array Oper} {rest : List Oper} {o : Oper} {a : Act} {Q : Exit → Act → World → Prop} (hgd : o.guard = none) (d s : Operand) (t e : TypeId)
    (ho : o.op = .call { callee := .builtin .copy, args := #[d, s], argTypes := #[t, t] }) (ht : P.underlying t = some (.slice e)) (k : Nat) (hs : (P.info? e).map (·.size) = some k)
    (g oo dl dc : Nat) (A : Addr) (sl sc : Nat) (cur : Array Value) (m : Nat) (cs : List Value) (hd : a.eval d = .slice (some ⟨g, oo, none⟩) dl dc) (hx : a.eval s = .slice (some A) sl sc)
    (hg : w.heap[g]? = some (.cells cur e (0, 0))) (hm : Nat.min sl dl = m) (hn : cs.length = m * k) (hsrc : ∀ j v, cs[j]? = some v → w.cell? (A.add j) = some v) (hfit : oo + cs.length ≤ cur.size) (h1 : ∀ v ∈ cs, v.oneCell' = true)
    (h : ∀ w', w'.heap[g]? = some (.cells (cur.toList.take oo ++ cs ++ cur.toList.drop (oo + cs.length)).toArray e (0, 0)) → w.grownBy w' (some g) → wpList P ops Q rest (a.put o.dst (goInt m)) w') : wpList P ops Q (o :: rest) a w :=
  wpList_copyK w hgd d s t t ho _ _ hd hx (run_copyK w t t o.type e k g oo dl dc A sl sc cur e m cs ht hs hg hm hn hsrc hfit h1) (h _ (setRow_heap w g cur _ e _ hg) (grownBy_setRow _ _ _))
theorem step_copyRow (w : World) {ops : Array Oper} {o : Oper} {a : Act} {K : Act → World → Prop} {Q : Exit → Act → World → Prop} {E : Prop} (hgd : o.guard = none) (d s : Operand) (t e : TypeId)
    (ho : o.op = .call { callee := .builtin .copy, args := #[d, s], argTypes := #[t, t] }) (ht : P.underlying t = some (.slice e)) (k : Nat) (hs : (P.info? e).map (·.size) = some k)
    (g oo dl dc : Nat) (A : Addr) (sl sc : Nat) (cur : Array Value) (m : Nat) (cs : List Value) (hd : a.eval d = .slice (some ⟨g, oo, none⟩) dl dc) (hx : a.eval s = .slice (some A) sl sc)
    (hg : w.heap[g]? = some (.cells cur e (0, 0))) (hm : Nat.min sl dl = m) (hn : cs.length = m * k) (hsrc : ∀ j v, cs[j]? = some v → w.cell? (A.add j) = some v) (hfit : oo + cs.length ≤ cur.size) (h1 : ∀ v ∈ cs, v.oneCell' = true)
    (h : ∀ w', w'.heap[g]? = some (.cells (cur.toList.take oo ++ cs ++ cur.toList.drop (oo + cs.length)).toArray e (0, 0)) → w.grownBy w' (some g) → K (a.put o.dst (goInt m)) w') :
    if Region.wanted o (yielded ops a.tmps) = true then Oper.wp P o a w K Q else E :=
  step_copyK hgd d s t t ho _ _ hd hx (run_copyK w t t o.type e k g oo dl dc A sl sc cur e m cs ht hs hg hm hn hsrc hfit h1) (h _ (setRow_heap w g cur _ e _ hg) (grownBy_setRow _ _ _))
/-- append(s[:i], make(S, m)...), no room. -/
theorem wpList_appMake (w : World) {ops : Array Oper} {rest : List Oper} {o : Oper} {a : Act} {Q : Exit → Act → World → Prop} (hgd : o.guard = none) (s x : Operand) (t tn e : TypeId)
    (ho : o.op = .call { callee := .builtin .append, args := #[s, x], argTypes := #[t, tn] }) (ht : P.underlying t = some (.slice e)) (htn : P.underlying tn = some (.int .i64))
    (z : Value) (k bytes : Nat) (hi : (P.info? e).map (fun i => (i.zero, i.size, i.bytes)) = some (some z, k, bytes)) (hz : z.cells.size = k) (hk : 0 < k)
    (base g i cap m : Nat) (xs : List Value) (X : Int) (hX : X = (m : Int)) (hs : a.eval s = .slice (some ⟨g, 0, none⟩) i cap) (hx : a.eval x = .int .i64 X)
    (hown : w.ownsRow base e k (.slice (some ⟨g, 0, none⟩) i cap) i xs) (h0 : 0 < m) (hroom : cap < i + m) (hb : (i + m) * bytes ≤ 140737488355328) (hl : i + m ≤ 1000000000)
    (h : ∀ w' G R, w'.heap[w.heap.size]? = some (.cells R e (0, 0)) → R.toList.take (i * k) = xs → R.size = G * k → i + m ≤ G → G ≤ maxLen → w.grownBy w' none → wpList P ops Q rest (a.put o.dst (.slice (some ⟨w.heap.size, 0, none⟩) (i + m) G)) w') : wpList P ops Q (o :: rest) a w := by
  obtain ⟨j, hi0, hz0, hz1, hz2⟩ := info_parts hi
  subst hX
  have hold : (Builtin.firstCells j.size i (.slice (some ⟨g, 0, none⟩) i cap)).run P w.drew = .ok xs.toArray w.drew := by
    rw [hz1]
    exact run_firstCells_some w.drew k i ⟨g, 0, none⟩ i cap xs hown.1 (hown.cells rfl)
  have hmb : m * bytes ≤ (i + m) * bytes := Nat.mul_le_mul_right _ (Nat.le_add_left _ _)
  have hrun := Lib.run_append_grow_zeros w t tn o.type e j z .i64 .i64 ht htn hi0 hz0 (some ⟨g, 0, none⟩) i cap xs hold m h0 (by omega) hroom (by omega) (by rw [hz2]; omega) (by rw [hz2]; exact growslice_fits hroom hb)
  have hge := grownCap_ge w (i + m) cap e
  have hle := grownCap_le_maxLen w (i + m) cap e (by unfold maxLen; omega)
  generalize grownCap w (i + m) cap e = G at *
  have hxl := hown.1
  refine wpList_plain hgd fun _ hK => ?_
  unfold Oper.wp execOp
  simp only [ho, resolve, invoke, builtin, Sem.run_bind, Sem.run_pure, Result.andThen_ok, List.map_toArray, List.map_cons, List.map_nil, hs, hx, hrun]
  refine hK _ _ (h _ G _ (heap_alloc_new w.drew _) ?_ ?_ hge hle (grownBy_undrew (World.grownBy_alloc w.drew _ none)))
  · rw [Array.toList_append, Array.toList_append, List.append_assoc]
    show (xs ++ _).take (i * k) = xs
    rw [← hxl]
    exact List.take_left
  · have e1 : (G - (i + m)) * k + (i + m) * k = G * k := by rw [← Nat.add_mul]; congr 1; omega
    have e2 : (i + m) * k = i * k + m * k := Nat.add_mul _ _ _
    simp only [Array.size_append, List.size_toArray, size_zeroCells, hz, hxl]
    omega
end

/-- One row in a block of its own. -/
theorem vs_cells {w : World} {vb : Nat} {y0 y1 : Value} (hv : w.heap[vb]? = some (.cells #[y0, y1] 99 (0, 0))) : ∀ j v, [y0, y1][j]? = some v → w.cell? ((⟨vb, 0, none⟩ : Addr).add j) = some v := by
  intro j v hj
  rw [add_at, cell_of_row w vb _ _ _ _ hv]
  match j with
  | 0 => simpa using hj
  | 1 => simpa using hj
  | j + 2 => simp at hj
theorem sizeRow : (Try.prog.info? 99).map (·.size) = some 2 := by kernel_rfl

set_option maxRecDepth 10000 in
set_option maxHeartbeats 4000000 in
theorem Insert_shift (w : World) (base g n cap i vb : Nat) (xs : List Value) (y0 y1 : Value) (h : w.ownsRow base 99 2 (.slice (some ⟨g, 0, none⟩) n cap) n xs) (hx1 : ∀ v ∈ xs, v.oneCell' = true)
    (hv : w.heap[vb]? = some (.cells #[y0, y1] 99 (0, 0))) (h0 : y0.oneCell' = true) (h1 : y1.oneCell' = true) (hne : vb ≠ g) (hi : i < n) (hroom : n + 1 ≤ cap) :
    Calls Try.prog 56 #[.slice (some ⟨g, 0, none⟩) n cap, .int .i64 (i : Int), .slice (some ⟨vb, 0, none⟩) 1 1] w fun e w' => e = .returned (.slice (some ⟨g, 0, none⟩) (n + 1) cap) ∧
      w'.ownsRow base 99 2 (.slice (some ⟨g, 0, none⟩) (n + 1) cap) (n + 1) (xs.take (i * 2) ++ [y0, y1] ++ xs.drop (i * 2)) ∧ w.grownBy w' (some g) := by
  obtain ⟨hnc, hcm⟩ := ownsRow_len h
  rcases id h.2 with ⟨h', _⟩ | ⟨g', cap', cur, h', hb, hg, _, _, hcs, htake⟩
  · cases h'
  cases h'
  have hmx : cap ≤ 9223372036854775807 := hcm
  have hxl := h.1
  have hov : ∀ lb cb, (callFunc 57 #[.slice (some ⟨vb, 0, none⟩) 1 1, .slice (some ⟨g, (i + 1) * 2, none⟩) lb cb]).run Try.prog w = .ok (.value (.bool false)) w := fun lb cb => by
    rw [run_callFunc_extern Try.func57 (by kernel_rfl) (by kernel_rfl) (by kernel_rfl) (e := Extern.SlicesOverlaps.overlaps #[73, 73] #[4]) (by kernel_rfl),
      Lib.run_overlaps_apart w 73 4 99 Try.underlying73 2 (fun w => by
        obtain ⟨j, hi0, hz0, hz1, hz2⟩ := info_parts infoRow
        simp [sizeOf, typeInfo, hi0, hz1]) ⟨vb, 0, none⟩ ⟨g, (i + 1) * 2, none⟩ 1 1 lb cb hne _ _ _ _ (shape_of hv) (shape_of hg) (by rw [hcs]; omega) (frozen_of hv) (frozen_of hv)]
    rfl
  have hcl : cur.toList.length = cap * 2 := by rw [← hcs]; rfl
  have hsrc : Hid (∀ j v, (xs.drop (i * 2))[j]? = some v → w.cell? ((⟨g, i * 2, none⟩ : Addr).add j) = some v) := by
    intro j v hj
    rw [List.getElem?_drop] at hj
    have := h.cells (g := g) rfl _ v hj
    rw [add_at, Nat.zero_add] at this
    rw [add_at]
    exact this
  have hdl : (xs.drop (i * 2)).length = (n - i) * 2 := by rw [List.length_drop, hxl]; omega
  have HH := Lib.hid (And.intro hg (And.intro hcs (And.intro htake (And.intro hxl (And.intro hb (And.intro hcl hv))))))
  have HD := Lib.hid hdl
  clear h hg hcs htake hxl hb hcl hv hdl hnc hcm
  have q0 : ¬ ((i : Int) = (n : Int)) := by omega
  have q1 : ¬ ((cap : Int) < (n : Int) + 1) := by omega
  have q2 : (n : Int) + 1 ≤ (cap : Int) := by omega
  have q3 : ((n : Int) + 1).toNat = n + 1 := by omega
  have q4 : (0 : Int) ≤ (n : Int) + 1 := by omega
  have q5 : (0 : Int) ≤ (i : Int) + 1 := by omega
  have q6 : ((i : Int) + 1).toNat = i + 1 := by omega
  have q7 : (i : Int) + 1 ≤ (n : Int) + 1 := by omega
  have q8 : (i : Int) ≤ (n : Int) + 1 := by omega
  have q9 : ¬ cap = i + 1 := by omega
  have q10 : ¬ cap = i := by omega
  have q11 : (i : Int) ≤ (n : Int) := by omega
  go_enter Try.func56, Try.ntmps56
  go_wp2_with (simp only [hov])
  have qw : IntKind.i64.wrap ((i : Int) + 1) = (i : Int) + 1 := by rw [IntKind.wrap_i64]; omega
  go_region_law (refine step_copyRow _ rfl (.tmp 73) (.tmp 76) 73 99 rfl Try.underlying73 2 sizeRow g ((i + 1) * 2) (n - i) (cap - (i + 1)) ⟨g, i * 2, none⟩ (n + 1 - i) (cap - i) cur (n - i) (xs.drop (i * 2)) (by simp [Act.eval, Act.put]) (by simp [Act.eval, Act.put]) HH.out.1 (by simp only [Nat.min_def]; split <;> omega) HD.out (fun j v hj => hsrc.out j v hj) (by rw [HD.out, HH.out.2.1]; omega) (fun v hv => hx1 v (List.mem_of_mem_drop hv)) ?_; intro w1 hh1 hg1; have H1 := Lib.hid (And.intro hh1 hg1); clear hh1 hg1)
  go_wp2_with (show wpList _ _ _ (⟨some 82, _, _, _, _, _⟩ :: _) _ _; refine wpList_copyRow w1 rfl (.tmp 80) (.tmp 81) 73 99 rfl Try.underlying73 2 sizeRow g (i * 2) _ _ ⟨vb, 0, none⟩ _ _ _ 1 [y0, y1] rfl rfl H1.out.1 (by simp only [Nat.min_def]; split <;> omega) rfl (vs_cells ((H1.out.2.block vb (Array.getElem?_eq_some_iff.1 HH.out.2.2.2.2.2.2).1 (by simpa using hne)).trans HH.out.2.2.2.2.2.2)) (by simp only [List.size_toArray, List.length_append, List.length_take, List.length_drop, HD.out, HH.out.2.2.2.2.2.1, List.length_cons, List.length_nil]; omega) (fun v hv => by simp at hv; rcases hv with rfl | rfl; exact h0; exact h1) ?_; intro w2 hh2 hg2; have H2 := Lib.hid (And.intro hh2 hg2); clear hh2 hg2)
  go_ret
  obtain ⟨e1, e2⟩ := ins_shift (I := i * 2) (M := 2) (L := n * 2) (ys := [y0, y1]) HH.out.2.2.1 HH.out.2.2.2.1 rfl (by omega) (by rw [HH.out.2.2.2.2.2.1]; omega) (c1 := cur.toList.take ((i + 1) * 2) ++ xs.drop (i * 2) ++ cur.toList.drop ((i + 1) * 2 + (xs.drop (i * 2)).length)) (by rw [show (i + 1) * 2 = i * 2 + 2 from by omega]) rfl
  refine ⟨rfl, ⟨by simp only [List.length_append, List.length_take, List.length_drop, HH.out.2.2.2.1, List.length_cons, List.length_nil]; omega, .inr ⟨g, cap, _, rfl, HH.out.2.2.2.2.1, H2.out.1, hroom, hmx, ?_, ?_⟩⟩, ?_⟩
  · rw [List.size_toArray, e2, HH.out.2.2.2.2.2.1]
  · rw [show (n + 1) * 2 = n * 2 + 2 from by omega]
    exact e1.trans (by simp)
  · exact Grown.trans (grownBy_undrew H1.out.2) H2.out.2

set_option maxRecDepth 10000 in
set_option maxHeartbeats 4000000 in
theorem Insert_new (w : World) (base g n cap i vb : Nat) (xs : List Value) (y0 y1 : Value) (h : w.ownsRow base 99 2 (.slice (some ⟨g, 0, none⟩) n cap) n xs) (hx1 : ∀ v ∈ xs, v.oneCell' = true)
    (hv : w.heap[vb]? = some (.cells #[y0, y1] 99 (0, 0))) (h0 : y0.oneCell' = true) (h1 : y1.oneCell' = true) (hi : i < n) (hroom : ¬ n + 1 ≤ cap) (hn : n ≤ 1000000) (hbase : base ≤ w.heap.size) :
    Calls Try.prog 56 #[.slice (some ⟨g, 0, none⟩) n cap, .int .i64 (i : Int), .slice (some ⟨vb, 0, none⟩) 1 1] w fun e w' => ∃ G, e = .returned (.slice (some ⟨w.heap.size, 0, none⟩) (n + 1) G) ∧
      w'.ownsRow base 99 2 (.slice (some ⟨w.heap.size, 0, none⟩) (n + 1) G) (n + 1) (xs.take (i * 2) ++ [y0, y1] ++ xs.drop (i * 2)) ∧ w.grownBy w' none := by
  obtain ⟨hnc, hcm⟩ := ownsRow_len h
  have hmx : cap ≤ 9223372036854775807 := hcm
  have hxl := h.1
  have hlt := (h.lt g rfl).2
  have hvlt : vb < w.heap.size := (Array.getElem?_eq_some_iff.1 hv).1
  have hsrc : Hid (∀ j v, (xs.drop (i * 2))[j]? = some v → w.cell? ((⟨g, i * 2, none⟩ : Addr).add j) = some v) := by
    intro j v hj
    rw [List.getElem?_drop] at hj
    have := h.cells (g := g) rfl _ v hj
    rw [add_at, Nat.zero_add] at this
    rw [add_at]
    exact this
  have hdl : (xs.drop (i * 2)).length = (n - i) * 2 := by rw [List.length_drop, hxl]; omega
  have hfr := ownsRow_front h (i := i) (by omega)
  have HF := Lib.hid hfr
  have HH := Lib.hid (And.intro hv (And.intro hvlt (And.intro hlt hxl)))
  have HD := Lib.hid hdl
  clear h hxl hv hdl hvlt hlt hfr
  obtain rfl : n = cap := by omega
  have q0 : ¬ ((i : Int) = (n : Int)) := by omega
  have q1 : ((n : Int) < (n : Int) + 1) := by omega
  have q6 : ((i : Int) + 1).toNat = i + 1 := by omega
  have q5 : (0 : Int) ≤ (i : Int) + 1 := by omega
  have q8 : (i : Int) ≤ (n : Int) + 1 := by omega
  have q7 : (i : Int) + 1 ≤ (n : Int) + 1 := by omega
  have q10 : ¬ n = i := by omega
  have q11 : (i : Int) ≤ (n : Int) := by omega
  have q12 : i + (n + 1 - i) = n + 1 := by omega
  go_enter Try.func56, Try.ntmps56
  go_wp2_with (first
    | (show wpList _ _ _ (⟨some 45, _, _, _, _, _⟩ :: _) _ _; refine wpList_copyRow _ rfl (.tmp 43) (.tmp 44) 73 99 rfl Try.underlying73 2 sizeRow w.heap.size (i * 2) _ _ ⟨vb, 0, none⟩ _ _ R 1 [y0, y1] rfl rfl H1.out.1 (by simp only [Nat.min_def]; split <;> omega) rfl (vs_cells ((H1.out.2.2.2.block vb HH.out.2.1 (by simp)).trans HH.out.1)) (by simp only [List.length_cons, List.length_nil, H1.out.2.2.1]; omega) (fun v hv => by simp at hv; rcases hv with rfl | rfl; exact h0; exact h1) ?_; intro w2 hh2 hg2; have H2 := Lib.hid (And.intro hh2 hg2); clear hh2 hg2)
    | (at_builtin; (refine wpList_appMake w rfl (.tmp 34) (.tmp 39) 73 3 99 rfl Try.underlying73 Try.underlying3 _ 2 32 infoRow rfl (by decide) base g i n (n + 1 - i) (xs.take (i * 2)) _ (show (n : Int) + 1 - (i : Int) = _ by omega) rfl rfl HF.out (by omega) (by omega) (by omega) (by omega) ?_; intro w1 G R hh1 hR1 hR2 hG1 hG2 hg1; rw [q12] at hG1; rw [q12]; have H1 := Lib.hid (And.intro hh1 (And.intro hR1 (And.intro hR2 hg1))); have q13 : ¬ G = i := (by omega); have q14 : ¬ G = i + 1 := (by omega); have q15 : G ≤ 9223372036854775807 := hG2; clear hh1 hR1 hR2 hg1)))
  have qw : IntKind.i64.wrap ((i : Int) + 1) = (i : Int) + 1 := by rw [IntKind.wrap_i64]; omega
  have hRl : R.toList.length = G * 2 := by rw [← H1.out.2.2.1]; rfl
  have hc1l : Hid ((R.toList.take (i * 2) ++ [y0, y1] ++ R.toList.drop (i * 2 + [y0, y1].length)).toArray.size = G * 2) := by
    show _ = G * 2
    simp only [List.size_toArray, List.length_append, List.length_take, List.length_drop, hRl, List.length_cons, List.length_nil]
    omega
  go_region_law (refine step_copyRow _ rfl (.tmp 50) (.tmp 53) 73 99 rfl Try.underlying73 2 sizeRow w.heap.size ((i + 1) * 2) (n - i) (G - (i + 1)) ⟨g, i * 2, none⟩ (n - i) (n - i) _ (n - i) (xs.drop (i * 2)) (by simp [Act.eval, Act.put]) (by simp [Act.eval, Act.put]) H2.out.1 (by simp only [Nat.min_def]; split <;> omega) HD.out (fun j v hj => ((World.cell?_of_block (w := w) (a := (⟨g, i * 2, none⟩ : Addr).add j) (by rw [add_at]; exact (H2.out.2.block g (Nat.lt_of_lt_of_le HH.out.2.2.1 H1.out.2.2.2.size) (fun e => by have := HH.out.2.2.1; cases e; omega)).trans (H1.out.2.2.2.block g HH.out.2.2.1 (by simp)))).trans (hsrc.out j v hj))) (by rw [HD.out, hc1l.out]; omega) (fun v hv => hx1 v (List.mem_of_mem_drop hv)) ?_; intro w3 hh3 hg3; have H3 := Lib.hid (And.intro hh3 (grownBy_undrew hg3)); clear hh3 hg3)
  go_wp2_with fail
  go_ret
  obtain ⟨e1, e2⟩ := ins_new (I := i * 2) (M := 2) (L := n * 2) (ys := [y0, y1]) H1.out.2.1 HH.out.2.2.2 rfl (by omega) (by rw [hRl]; omega) rfl (c2 := (R.toList.take (i * 2) ++ [y0, y1] ++ R.toList.drop (i * 2 + [y0, y1].length)).toArray.toList.take ((i + 1) * 2) ++ xs.drop (i * 2) ++ (R.toList.take (i * 2) ++ [y0, y1] ++ R.toList.drop (i * 2 + [y0, y1].length)).toArray.toList.drop ((i + 1) * 2 + (xs.drop (i * 2)).length)) (by rw [show (i + 1) * 2 = i * 2 + 2 from by omega])
  refine ⟨G, rfl, ⟨by simp only [List.length_append, List.length_take, List.length_drop, HH.out.2.2.2, List.length_cons, List.length_nil]; omega, .inr ⟨w.heap.size, G, _, rfl, hbase, H3.out.1, hG1, hG2, ?_, ?_⟩⟩, ?_⟩
  · rw [List.size_toArray, e2, hRl]
  · rw [show (n + 1) * 2 = n * 2 + 2 from by omega]
    exact e1.trans (by simp)
  · have g1 := H1.out.2.2.2
    have g2 := H2.out.2
    have g3 := H3.out.2
    exact ⟨(g3.os.trans g2.os).trans g1.os, (g3.tape.trans g2.tape).trans g1.tape, (g3.output.trans g2.output).trans g1.output, Nat.le_trans g1.size (Nat.le_trans g2.size g3.size), fun b hb _ =>
      ((g3.block b (Nat.lt_of_lt_of_le hb (Nat.le_trans g1.size g2.size)) (fun e => by cases e; omega)).trans (g2.block b (Nat.lt_of_lt_of_le hb g1.size) (fun e => by cases e; omega))).trans (g1.block b hb (by simp))⟩
end Go.Proofs.Ytfjmcfkpbacicaa
/- Contract: slices.Insert of one row, at whatever place. -/
namespace Go.Proofs.Ytfjmcfkpbacicaa
set_option linter.unusedVariables false
set_option linter.unusedSimpArgs false
open Go.ChangeShapes Go.WideShapes Go.ChangeAt Go.RowKit Go.Shelf

theorem RdK.one_row {w : World} {vb : Nat} {y0 y1 : Value} (hv : w.heap[vb]? = some (.cells #[y0, y1] 99 (0, 0))) : RdK w 2 (.slice (some ⟨vb, 0, none⟩) 1 1) 1 [y0, y1] := by
  refine ⟨_, 1, rfl, rfl, Nat.le_refl _, by unfold maxLen; omega, fun _ => ⟨vb, 0, rfl, (Array.getElem?_eq_some_iff.1 hv).1, fun j u hj => ?_⟩⟩
  have := vs_cells hv j u hj
  rwa [add_at] at this

set_option maxRecDepth 10000 in
set_option maxHeartbeats 4000000 in
theorem Insert_end (w : World) (base n vb : Nat) (v : Value) (xs : List Value) (y0 y1 : Value) (h : w.ownsRow base 99 2 v n xs)
    (hv : w.heap[vb]? = some (.cells #[y0, y1] 99 (0, 0))) (h0 : y0.oneCell' = true) (h1 : y1.oneCell' = true) (hn : n ≤ 1000000) (hbase : base ≤ w.heap.size) :
    Calls Try.prog 56 #[v, .int .i64 (n : Int), .slice (some ⟨vb, 0, none⟩) 1 1] w fun e w' => ∃ v', e = .returned v' ∧
      w'.ownsRow base 99 2 v' (n + 1) (xs ++ [y0, y1]) ∧ w.grownBy w' v.ownBlock ∧ (v'.ownBlock = v.ownBlock ∨ v'.ownBlock = some w.heap.size) := by
  have H := Lib.hid (And.intro h hv)
  obtain ⟨A, c, rfl, hnc, hcm⟩ := (RdK.of_own h).form
  have hmx : c ≤ 9223372036854775807 := hcm
  clear h hv hcm
  by_cases hcn : c = n
  · subst hcn
    go_enter Try.func56, Try.ntmps56
    go_wp2_with (at_builtin; refine wpList_appK w rfl (.tmp 23) (.tmp 24) 73 rfl 99 _ 2 32 Try.underlying73 infoRow rfl (by decide) base (.slice A c c) _ c 1 xs [y0, y1] rfl rfl H.out.1 (RdK.one_row H.out.2) (fun v hv => by simp at hv; rcases hv with rfl | rfl; exact h0; exact h1) (by omega) (by unfold maxLen; omega) hbase ?_; intro v2 w2 ho2 hg2 hat2; have H2 := Lib.hid (And.intro ho2 (And.intro hg2 hat2)); clear ho2 hg2 hat2)
    go_ret
    exact ⟨_, rfl, H2.out.1, H2.out.2.1, H2.out.2.2⟩
  · go_enter Try.func56, Try.ntmps56
    go_wp2_with (at_builtin; refine wpList_appK w rfl (.tmp 23) (.tmp 24) 73 rfl 99 _ 2 32 Try.underlying73 infoRow rfl (by decide) base (.slice A n c) _ n 1 xs [y0, y1] rfl rfl H.out.1 (RdK.one_row H.out.2) (fun v hv => by simp at hv; rcases hv with rfl | rfl; exact h0; exact h1) (by omega) (by unfold maxLen; omega) hbase ?_; intro v2 w2 ho2 hg2 hat2; have H2 := Lib.hid (And.intro ho2 (And.intro hg2 hat2)); clear ho2 hg2 hat2)
    go_ret
    exact ⟨_, rfl, H2.out.1, H2.out.2.1, H2.out.2.2⟩

theorem Insert_any (w : World) (base n i vb : Nat) (v : Value) (xs : List Value) (y0 y1 : Value) (h : w.ownsRow base 99 2 v n xs) (hx1 : ∀ v ∈ xs, v.oneCell' = true)
    (hv : w.heap[vb]? = some (.cells #[y0, y1] 99 (0, 0))) (h0 : y0.oneCell' = true) (h1 : y1.oneCell' = true) (hne : v.ownBlock ≠ some vb) (hi : i ≤ n) (hn : n ≤ 1000000) (hbase : base ≤ w.heap.size) :
    Calls Try.prog 56 #[v, .int .i64 (i : Int), .slice (some ⟨vb, 0, none⟩) 1 1] w fun e w' => ∃ v', e = .returned v' ∧
      w'.ownsRow base 99 2 v' (n + 1) (xs.take (i * 2) ++ [y0, y1] ++ xs.drop (i * 2)) ∧ w.grownBy w' v.ownBlock ∧ (v'.ownBlock = v.ownBlock ∨ v'.ownBlock = some w.heap.size) := by
  have hxl := h.1
  rcases Nat.lt_or_ge i n with hlt | hge
  · rcases id h.2 with ⟨rfl, rfl⟩ | ⟨g, cap, cur, rfl, _⟩
    · omega
    · by_cases hr : n + 1 ≤ cap
      · refine (Insert_shift w base g n cap i vb xs y0 y1 h hx1 hv h0 h1 (fun e => hne (by rw [e]; rfl)) hlt hr).mono ?_
        rintro e w' ⟨rfl, ho, hg⟩
        exact ⟨_, rfl, ho, hg, .inl rfl⟩
      · refine (Insert_new w base g n cap i vb xs y0 y1 h hx1 hv h0 h1 hlt hr hn hbase).mono ?_
        rintro e w' ⟨G, rfl, ho, hg⟩
        exact ⟨_, rfl, ho, ⟨hg.os, hg.tape, hg.output, hg.size, fun b hb _ => hg.block b hb (by simp)⟩, .inr rfl⟩
  · obtain rfl : i = n := by omega
    refine (Insert_end w base i vb v xs y0 y1 h hv h0 h1 hn hbase).mono ?_
    rintro e w' ⟨v', rfl, ho, hg, hat⟩
    refine ⟨v', rfl, ?_, hg, hat⟩
    rw [List.take_of_length_le (by omega), List.drop_of_length_le (by omega), List.append_nil]
    exact ho
end Go.Proofs.Ytfjmcfkpbacicaa
/- Contracts: where a row ends; the first row that ends behind a place. -/
namespace Go.Proofs.Ytfjmcfkpbacicaa
set_option linter.unusedVariables false
set_option linter.unusedSimpArgs false
open Go.ChangeShapes Go.WideShapes Go.ChangeAt Go.RowKit Go.Shelf

@[reducible] def rwV (r : Rw) : Value := .agg #[.int .i64 (r.at_ : Int), r.v]
def Rw.Fit (r : Rw) : Prop := (∃ A c, r.v = .slice A r.data.length c) ∧ r.at_ + r.data.length ≤ 70000
def rE (r : Rw) : Int := (r.at_ : Int) + (r.data.length : Int)
/-- The slice reads as these rows. -/
def Rws (w : World) (v : Value) (l : List Rw) : Prop := RdK w 2 v l.length (cellsW l)
def RwAt (w : World) (b o : Nat) (r : Rw) : Prop := w.cell? ⟨b, o, none⟩ = some (.int .i64 (r.at_ : Int)) ∧ w.cell? ⟨b, o + 1, none⟩ = some r.v
theorem rwAt_of {w : World} {l : List Rw} {b off : Nat} (h : ∀ j u, (cellsW l)[j]? = some u → w.cell? ⟨b, off + j, none⟩ = some u) (j : Nat) (hj : j < l.length) : RwAt w b (off + j * 2) l[j] := by
  have e : ∀ i (hi : i < 2) u, (rwC l[j])[i]? = some u → w.cell? ⟨b, off + j * 2 + i, none⟩ = some u := fun i hi u hu => by
    rw [Nat.add_assoc]
    exact h _ _ (by rw [show cellsW l = l.flatMap rwC from rfl, flat_at rwC 2 rwC_length l j i hj hi]; exact hu)
  exact ⟨e 0 (by decide) _ rfl, e 1 (by decide) _ rfl⟩
theorem RwAt.grow {w w' : World} {b o : Nat} {r : Rw} (h : RwAt w b o r) (g : Grow w w') (hb : b < w.heap.size) : RwAt w' b o r :=
  ⟨(g.cell (p := ⟨b, o, none⟩) hb).trans h.1, (g.cell (p := ⟨b, o + 1, none⟩) hb).trans h.2⟩
theorem Rws.at_ {w : World} {A : Option Addr} {n c : Nat} {l : List Rw} (h : Rws w (.slice A n c) l) (hp : 0 < l.length) : ∃ b off, A = some ⟨b, off, none⟩ ∧ b < w.heap.size ∧ ∀ j (hj : j < l.length), RwAt w b (off + j * 2) l[j] := by
  obtain ⟨A', c', e, _, _, _, h3⟩ := h
  cases e
  obtain ⟨b, off, e, hb, hc⟩ := h3 hp
  exact ⟨b, off, e, hb, rwAt_of hc⟩
theorem Rws.grow {w w' : World} {v : Value} {l : List Rw} (h : Rws w v l) (g : Grow w w') : Rws w' v l := RdK.grow h g

set_option maxHeartbeats 1000000 in
theorem rowEnd_any (r : Rw) (hr : r.Fit) (w : World) : Calls Try.prog 53 #[rwV r] w fun e w' => e = .returned (.int .i64 (rE r)) ∧ Grow w w' := by
  obtain ⟨⟨A, c, hv⟩, hb⟩ := hr
  obtain ⟨ra, rv, rd⟩ := r
  simp only at hv hb
  subst hv
  unfold rE
  simp only
  go_enter Try.func53, Try.ntmps53
  go_wp2_with fail
  go_ret
  exact ⟨rfl, Grow.alloc _ _⟩

set_option maxHeartbeats 1000000 in
theorem cmpRow_any (r : Rw) (hr : r.Fit) (s : Int) (h0 : 0 ≤ s) (h1 : s ≤ 100000) (w : World) : Calls Try.prog 55 #[rwV r, .int .i64 s] w fun e w' => e = .returned (.int .i64 (rE r - s)) ∧ Grow w w' := by
  have cE := rowEnd_any r hr
  obtain ⟨⟨A, c, hv⟩, hb⟩ := hr
  have hE : 0 ≤ rE r ∧ rE r ≤ 70000 := by unfold rE; omega
  generalize rE r = R at *
  obtain ⟨ra, rv, rd⟩ := r
  simp only at hv hb
  subst hv
  unfold rwV at cE
  simp only at cE
  go_enter Try.func55, Try.ntmps55
  go_wp2_with (go_at_call 53; refine (cE _).mono ?_; rintro e w1 ⟨rfl, hg1⟩)
  go_ret
  exact ⟨rfl, (Grow.alloc _ _).trans hg1⟩

set_option maxRecDepth 10000 in
set_option maxHeartbeats 4000000 in
theorem BSF_any (ws : List Rw) (hs : ws.Pairwise fun a b => rE a < rE b) (hf : ∀ r ∈ ws, r.Fit) (hlen : ws.length ≤ 1000000) (v : Value) (w : World) (hv : Rws w v ws) (s : Int) (h0 : 0 ≤ s) (h1 : s ≤ 100000) :
    Calls Try.prog 54 #[v, .int .i64 s, .func (.func 55) #[] #[]] w fun e w' =>
      (∃ (p : Nat) (b : Bool), p ≤ ws.length ∧ (∀ t (h : t < ws.length), t < p → rE ws[t] < s) ∧ (∀ t (h : t < ws.length), p ≤ t → s ≤ rE ws[t]) ∧ e = .returned (.tuple #[.int .i64 (p : Int), .bool b])) ∧ Grow w w' := by
  obtain ⟨A, c, rfl, hlc, hcm⟩ := RdK.form hv
  have HB := Lib.hid (fun (x : Rw) (hx : x.Fit) w => cmpRow_any x hx s h0 h1 w)
  have HS := Lib.hid (And.intro hs hf)
  have HV := Lib.hid hv
  clear hs hv hf
  have eg : ∀ args w, (callFunc 55 args).run Try.prog w = .ok (.enter 55 args) w := enters_of Try.func55 (by kernel_rfl) rfl
  go_enter Try.func54, Try.ntmps54
  go_wp2_with fail
  go_loopg [9, 10] ws.length (fun g s9 s10 wr => ∃ i j : Nat, i ≤ j ∧ j ≤ ws.length ∧ g = j - i ∧ s9 = .int .i64 (i : Int) ∧ s10 = .int .i64 (j : Int) ∧ (∀ t (h : t < ws.length), t < i → rE ws[t] < s) ∧ (∀ t (h : t < ws.length), j ≤ t → s ≤ rE ws[t]) ∧ Grow w wr)
  case atStart => exact ⟨0, ws.length, Nat.zero_le _, Nat.le_refl _, by omega, rfl, rfl, fun t h h' => by omega, fun t h h' => by omega, Grow.refl _⟩
  case round =>
    obtain ⟨i, j, hij, hj, rfl, rfl, rfl, hlo, hhi, hgr⟩ := hrel
    rcases Nat.lt_or_ge i j with hlt | hge
    · obtain ⟨b, off, rfl, hb, hcell⟩ := HV.out.at_ (by omega)
      have hm : (i + j) / 2 < ws.length := by omega
      have RM : RwAt wr b (off + (i + j) / 2 * 2) ws[(i + j) / 2] := (hcell _ hm).grow hgr hb
      have hlt1 : b < wr.heap.size := Nat.lt_of_lt_of_le hb hgr.size
      have A1 : Aside ((∀ t (h : t < ws.length), t < i → rE ws[t] < s) ∧ (∀ t (h : t < ws.length), j ≤ t → s ≤ rE ws[t]) ∧ Grow w wr) := ⟨hlo, hhi, hgr⟩
      have hfx := HS.out.2 _ (List.getElem_mem hm)
      clear hlo hhi hgr hcell hb
      generalize hx : ws[(i + j) / 2] = x at *
      have HX := Lib.hid hx
      clear hx
      have m1 : ((i : Int) + (j : Int)) / 2 = (((i + j) / 2 : Nat) : Int) := by omega
      generalize hmm : (i + j) / 2 = m at *
      have HM := Lib.hid hmm
      clear hmm
      have hcall := HB.out x hfx
      have hE : 0 ≤ rE x ∧ rE x ≤ 70000 := by have := hfx.2; unfold rE; omega
      obtain ⟨A5, c5, hxv⟩ := hfx.1
      have HFX := Lib.hid hfx
      clear hfx
      obtain ⟨c0, c1⟩ := RM
      unfold rwV at hcall
      rw [hxv] at hcall
      rw [hxv] at c1
      generalize hxe : rE x = xe at *
      generalize x.at_ = xa at *
      generalize x.data.length = xn at *
      have HXE := Lib.hid hxe
      clear hxe hxv
      have hlt3 : decide ((i : Int) < (j : Int)) = true := decide_eq_true (by omega)
      by_cases hxt : xe < s
      · have hd : decide (xe - s < 0) = true := decide_eq_true (by omega)
        go_wp2_with (go_at_call 55; refine (hcall _).mono ?_; rintro e wq ⟨rfl, hgq⟩)
        go_roundg (j - (m + 1))
        case measure => omega
        case rel =>
          refine ⟨m + 1, j, by omega, hj, rfl, by go_num, rfl, fun t h h' => ?_, A1.out.2.1, A1.out.2.2.trans hgq⟩
          have e1 : rE ws[m] = xe := by rw [HX.out, HXE.out]
          rcases Nat.lt_or_ge t m with h1 | h1
          · have := List.pairwise_iff_getElem.1 HS.out.1 t m h hm h1
            omega
          · obtain rfl : t = m := by omega
            omega
      · have hd : decide (xe - s < 0) = false := decide_eq_false (by omega)
        go_wp2_with (go_at_call 55; refine (hcall _).mono ?_; rintro e wq ⟨rfl, hgq⟩)
        go_roundg (m - i)
        case measure => omega
        case rel =>
          refine ⟨i, m, by omega, by omega, rfl, rfl, rfl, A1.out.1, fun t h h' => ?_, A1.out.2.2.trans hgq⟩
          have e1 : rE ws[m] = xe := by rw [HX.out, HXE.out]
          rcases Nat.lt_or_ge m t with h1 | h1
          · have := List.pairwise_iff_getElem.1 HS.out.1 m t hm h h1
            omega
          · obtain rfl : t = m := by omega
            omega
    · obtain rfl : i = j := by omega
      have hlt3 : decide ((i : Int) < (i : Int)) = false := decide_eq_false (by omega)
      rcases Nat.lt_or_ge i ws.length with hin | hin
      · obtain ⟨b, off, rfl, hb, hcell⟩ := HV.out.at_ (by omega)
        have RM : RwAt wr b (off + i * 2) ws[i] := (hcell _ hin).grow hgr hb
        have hlt1 : b < wr.heap.size := Nat.lt_of_lt_of_le hb hgr.size
        have A1 : Aside ((∀ t (h : t < ws.length), t < i → rE ws[t] < s) ∧ (∀ t (h : t < ws.length), i ≤ t → s ≤ rE ws[t]) ∧ Grow w wr) := ⟨hlo, hhi, hgr⟩
        have hfx := HS.out.2 _ (List.getElem_mem hin)
        clear hlo hhi hgr hcell hb
        generalize ws[i] = x at RM hfx
        have hcall := HB.out x hfx
        have hE : 0 ≤ rE x ∧ rE x ≤ 70000 := by have := hfx.2; unfold rE; omega
        obtain ⟨A5, c5, hxv⟩ := hfx.1
        have HFX := Lib.hid hfx
        clear hfx
        obtain ⟨c0, c1⟩ := RM
        unfold rwV at hcall
        rw [hxv] at hcall
        rw [hxv] at c1
        generalize rE x = xe at *
        generalize x.at_ = xa at *
        generalize x.data.length = xn at *
        clear hxv
        have hd1 : decide ((i : Int) < (ws.length : Int)) = true := decide_eq_true (by omega)
        go_wp2_with (go_at_call 55; refine (hcall _).mono ?_; rintro e wq ⟨rfl, hgq⟩)
        go_ret2
        exact ⟨⟨i, _, hj, A1.out.1, A1.out.2.1, rfl⟩, A1.out.2.2.trans hgq⟩
      · have A1 : Aside ((∀ t (h : t < ws.length), t < i → rE ws[t] < s) ∧ (∀ t (h : t < ws.length), i ≤ t → s ≤ rE ws[t]) ∧ Grow w wr) := ⟨hlo, hhi, hgr⟩
        clear hlo hhi hgr
        obtain rfl : i = ws.length := by omega
        clear hin hj hlt3 hij
        go_wp2_with fail
        go_ret2
        exact ⟨⟨ws.length, _, Nat.le_refl _, A1.out.1, A1.out.2.1, rfl⟩, A1.out.2.2⟩
end Go.Proofs.Ytfjmcfkpbacicaa
/- Reassembly in numbers: the bytes that are present, as rows and as a list of bytes that are there or not. No walk. -/
namespace Go.Proofs.Ytfjmcfkpbacicaa
set_option linter.unusedVariables false
set_option linter.unusedSimpArgs false

abbrev Cont := List (Option UInt8)
abbrev RowN := Nat × List UInt8

def look (c : Cont) (k : Nat) : Option UInt8 := (c[k]?).join
def paint (c : Cont) (p : Nat) (d : List UInt8) : Cont :=
  if d = [] then c else (List.range (max c.length (p + d.length))).map fun k => (look c k).or (if p ≤ k then d[k - p]? else none)
def cnt (c : Cont) : Nat := (c.filter Option.isSome).length

theorem cont_ext {a b : Cont} (hl : a.length = b.length) (h : ∀ k, k < a.length → look a k = look b k) : a = b := by
  apply List.ext_getElem hl
  intro k h1 h2
  have := h k h1
  unfold look at this
  rw [List.getElem?_eq_getElem h1, List.getElem?_eq_getElem h2] at this
  simpa using this
theorem look_past {c : Cont} {k : Nat} (h : c.length ≤ k) : look c k = none := by
  unfold look
  rw [List.getElem?_eq_none h]
  rfl
theorem look_append_left {a b : Cont} {k : Nat} (h : k < a.length) : look (a ++ b) k = look a k := by
  unfold look
  rw [List.getElem?_append_left h]
theorem look_append_right {a b : Cont} {k : Nat} (h : a.length ≤ k) : look (a ++ b) k = look b (k - a.length) := by
  unfold look
  rw [List.getElem?_append_right h]
theorem look_none {m k : Nat} : look (List.replicate m none) k = none := by
  unfold look
  rw [List.getElem?_replicate]
  split <;> rfl
theorem look_some {d : List UInt8} {k : Nat} : look (d.map some) k = d[k]? := by
  unfold look
  rw [List.getElem?_map]
  cases d[k]? <;> rfl
theorem paint_nil (c : Cont) (p : Nat) : paint c p [] = c := by unfold paint; rw [if_pos rfl]
theorem paint_length (c : Cont) (p : Nat) {d : List UInt8} (hd : d ≠ []) : (paint c p d).length = max c.length (p + d.length) := by
  unfold paint
  rw [if_neg hd]
  simp
theorem paint_look (c : Cont) (p : Nat) (d : List UInt8) (k : Nat) : look (paint c p d) k = (look c k).or (if p ≤ k then d[k - p]? else none) := by
  unfold paint
  split
  · rename_i h
    subst h
    simp
  · by_cases hk : k < max c.length (p + d.length)
    · unfold look
      rw [List.getElem?_map, List.getElem?_range hk]
      rfl
    · rw [look_past (by simp; omega), look_past (c := c) (by omega)]
      split
      · rw [List.getElem?_eq_none (by omega)]; rfl
      · rfl
theorem paint_step (c : Cont) (p : Nat) (d : List UInt8) (k n : Nat) (hk : k + n ≤ d.length) : paint (paint c p (d.take k)) (p + k) ((d.drop k).take n) = paint c p (d.take (k + n)) := by
  rcases Nat.eq_zero_or_pos n with rfl | hn
  · simp [paint_nil]
  have e1 : (d.drop k).take n ≠ [] := by
    intro e
    have := congrArg List.length e
    simp only [List.length_take, List.length_drop, List.length_nil] at this
    omega
  have e2 : d.take (k + n) ≠ [] := by
    intro e
    have := congrArg List.length e
    simp only [List.length_take, List.length_drop, List.length_nil] at this
    omega
  apply cont_ext
  · rw [paint_length _ _ e1, paint_length _ _ e2]
    rcases Nat.eq_zero_or_pos k with rfl | hk0
    · simp [paint_nil]
    · have e3 : d.take k ≠ [] := by
        intro e
        have := congrArg List.length e
        simp only [List.length_take, List.length_drop, List.length_nil] at this
        omega
      rw [paint_length _ _ e3]
      simp only [List.length_take, List.length_drop]
      omega
  · intro i hi
    rw [paint_look, paint_look, paint_look]
    rw [Option.or_assoc]
    congr 1
    by_cases h1 : p ≤ i
    · rw [if_pos h1, if_pos h1]
      by_cases h2 : p + k ≤ i
      · rw [if_pos h2, List.getElem?_take, if_neg (by omega), List.getElem?_take, List.getElem?_take, List.getElem?_drop]
        rw [Option.none_or, show k + (i - (p + k)) = i - p from by omega]
        by_cases h3 : i - p < k + n
        · rw [if_pos (by omega), if_pos h3]
        · rw [if_neg (by omega), if_neg h3]
      · rw [if_neg h2, List.getElem?_take, if_pos (by omega), List.getElem?_take, if_pos (by omega)]
        simp
    · rw [if_neg h1, if_neg h1, if_neg (by omega)]
      rfl
theorem paint_append (b c : Cont) (p : Nat) (d : List UInt8) (h : b.length ≤ p) : paint (b ++ c) p d = b ++ paint c (p - b.length) d := by
  by_cases hd : d = []
  · subst hd; rw [paint_nil, paint_nil]
  apply cont_ext
  · rw [paint_length _ _ hd, List.length_append, List.length_append, paint_length _ _ hd]
    omega
  · intro k _
    rw [paint_look]
    rcases Nat.lt_or_ge k b.length with hk | hk
    · rw [look_append_left hk, look_append_left hk, if_neg (by omega)]
      simp
    · rw [look_append_right hk, look_append_right hk, paint_look]
      congr 1
      by_cases h1 : p ≤ k
      · rw [if_pos h1, if_pos (by omega), show k - b.length - (p - b.length) = k - p from by omega]
      · rw [if_neg h1, if_neg (by omega)]
theorem paint_end (p : Nat) (d : List UInt8) (hd : d ≠ []) : paint [] p d = List.replicate p none ++ d.map some := by
  apply cont_ext
  · rw [paint_length _ _ hd]
    simp
  · intro k _
    rw [paint_look, look_past (c := []) (Nat.zero_le _)]
    rcases Nat.lt_or_ge k p with hk | hk
    · rw [if_neg (by omega), look_append_left (by simpa using hk), look_none]
      rfl
    · rw [if_pos hk, look_append_right (by simpa using hk), look_some]
      simp
theorem paint_gap (m p : Nat) (d : List UInt8) (X : Cont) (h : p + d.length ≤ m) : paint (List.replicate m none ++ X) p d = List.replicate p none ++ d.map some ++ List.replicate (m - p - d.length) none ++ X := by
  by_cases hd : d = []
  · subst hd
    rw [paint_nil]
    simp only [List.map_nil, List.append_nil, List.length_nil, Nat.sub_zero]
    rw [List.replicate_append_replicate, show p + (m - p) = m from by simp at h; omega]
  apply cont_ext
  · rw [paint_length _ _ hd]
    simp
    omega
  · intro k _
    rw [paint_look]
    rcases Nat.lt_or_ge k p with hk | hk
    · rw [if_neg (by omega), look_append_left (by simp; omega), look_none, List.append_assoc, List.append_assoc, look_append_left (by simpa using hk), look_none]
      rfl
    · rw [if_pos hk]
      rcases Nat.lt_or_ge k (p + d.length) with h2 | h2
      · rw [look_append_left (by simp; omega), look_none, List.append_assoc, List.append_assoc, look_append_right (by simpa using hk), look_append_left (by simp; omega), look_some]
        simp
      · rw [List.getElem?_eq_none (by omega), Option.or_none]
        rcases Nat.lt_or_ge k m with h3 | h3
        · rw [look_append_left (by simp; omega), look_none, look_append_left (by simp; omega), look_append_right (by simp; omega), look_none]
        · rw [look_append_right (by simp; omega), look_append_right (by simp; omega)]
          congr 1
          simp
          omega
theorem paint_same (c : Cont) (p : Nat) (d : List UInt8) (h : ∀ k, p ≤ k → k < p + d.length → ∃ b, look c k = some b) : paint c p d = c := by
  by_cases hd : d = []
  · subst hd; rw [paint_nil]
  have hpos : 0 < d.length := List.length_pos_iff.2 hd
  apply cont_ext
  · rw [paint_length _ _ hd]
    obtain ⟨b, hb⟩ := h (p + d.length - 1) (by omega) (by omega)
    have : p + d.length - 1 < c.length := by
      rcases Nat.lt_or_ge (p + d.length - 1) c.length with h' | h'
      · exact h'
      · rw [look_past h'] at hb; cases hb
    omega
  · intro k _
    rw [paint_look]
    by_cases h1 : p ≤ k
    · rcases Nat.lt_or_ge k (p + d.length) with h2 | h2
      · obtain ⟨b, hb⟩ := h k h1 h2
        rw [hb]
        rfl
      · rw [if_pos h1, List.getElem?_eq_none (by omega)]
        simp
    · rw [if_neg h1]
      simp

/-! ### rows -/
def cont (p : Nat) : List RowN → Cont
  | [] => []
  | (a, d) :: r => List.replicate (a - p) none ++ d.map some ++ cont (a + d.length) r
def Laid (p : Nat) : List RowN → Prop
  | [] => True
  | (a, d) :: r => p ≤ a ∧ d ≠ [] ∧ Laid (a + d.length) r
def reach (p : Nat) : List RowN → Nat
  | [] => p
  | (a, d) :: r => reach (a + d.length) r
def heldN (l : List RowN) : Nat := (l.map fun r => r.2.length).sum
def flat (l : List RowN) : List UInt8 := (l.map fun r => r.2).flatten

theorem Laid.mono {p q : Nat} {l : List RowN} (h : Laid p l) (hq : q ≤ p) : Laid q l := by
  cases l with
  | nil => trivial
  | cons x r => obtain ⟨a, d⟩ := x; exact ⟨Nat.le_trans hq h.1, h.2⟩
theorem reach_ge : ∀ (l : List RowN) (p : Nat), Laid p l → p ≤ reach p l
  | [], p, _ => Nat.le_refl _
  | (a, d) :: r, p, h => by
    have := reach_ge r _ h.2.2
    have h1 := h.1
    show p ≤ reach (a + d.length) r
    omega
theorem cont_length : ∀ (l : List RowN) (p : Nat), Laid p l → (cont p l).length = reach p l - p
  | [], p, _ => by simp [cont, reach]
  | (a, d) :: r, p, h => by
    have h1 := cont_length r _ h.2.2
    have h2 := reach_ge r _ h.2.2
    have h3 := h.1
    simp only [cont, reach, List.length_append, List.length_replicate, List.length_map, h1]
    omega
theorem cnt_append (a b : Cont) : cnt (a ++ b) = cnt a + cnt b := by simp [cnt]
theorem cnt_none (m : Nat) : cnt (List.replicate m none) = 0 := by simp [cnt]
theorem cnt_some (d : List UInt8) : cnt (d.map some) = d.length := by
  unfold cnt
  rw [List.filter_eq_self.2, List.length_map]
  intro x hx
  obtain ⟨u, _, rfl⟩ := List.mem_map.1 hx
  rfl
theorem held_cnt : ∀ (l : List RowN) (p : Nat), heldN l = cnt (cont p l)
  | [], p => rfl
  | (a, d) :: r, p => by
    have ih := held_cnt r (a + d.length)
    simp only [cont, cnt_append, cnt_none, cnt_some, ← ih]
    simp [heldN]
theorem cnt_le : ∀ (c : Cont), cnt c ≤ c.length := fun c => List.length_filter_le _ _
theorem cnt_all {c : Cont} (h : cnt c = c.length) (k : Nat) (hk : k < c.length) : ∃ b, look c k = some b := by
  unfold cnt at h
  have := List.length_filter_eq_length_iff.1 h c[k] (List.getElem_mem hk)
  unfold look
  rw [List.getElem?_eq_getElem hk]
  cases hc : c[k] with
  | none => rw [hc] at this; cases this
  | some b => exact ⟨b, rfl⟩
theorem cnt_of_all {c : Cont} (h : ∀ k, k < c.length → ∃ b, look c k = some b) : cnt c = c.length := by
  unfold cnt
  rw [List.length_filter_eq_length_iff]
  intro x hx
  obtain ⟨k, hk, rfl⟩ := List.getElem_of_mem hx
  obtain ⟨b, hb⟩ := h k hk
  unfold look at hb
  rw [List.getElem?_eq_getElem hk] at hb
  cases hc : c[k] with
  | none => rw [hc] at hb; cases hb
  | some b => rfl
theorem flat_cont : ∀ (l : List RowN) (p : Nat), Laid p l → (∀ k, k < (cont p l).length → ∃ b, look (cont p l) k = some b) → cont p l = (flat l).map some
  | [], p, _, _ => rfl
  | (a, d) :: r, p, h, hall => by
    have hd : 0 < d.length := List.length_pos_iff.2 h.2.1
    have h0 : a - p = 0 := by
      rcases Nat.eq_zero_or_pos (a - p) with h' | h'
      · exact h'
      · obtain ⟨b, hb⟩ := hall 0 (by simp [cont]; omega)
        have : look (cont p ((a, d) :: r)) 0 = none := by
          show look (List.replicate (a - p) none ++ d.map some ++ cont (a + d.length) r) 0 = none
          rw [List.append_assoc, look_append_left (by simpa using h'), look_none]
        rw [this] at hb
        cases hb
    have ih := flat_cont r (a + d.length) h.2.2 (fun k hk => by
      obtain ⟨b, hb⟩ := hall (d.length + k) (by simp only [cont, List.length_append, List.length_replicate, List.length_map]; omega)
      refine ⟨b, ?_⟩
      rw [← hb]
      show _ = look (List.replicate (a - p) none ++ d.map some ++ cont (a + d.length) r) (d.length + k)
      rw [look_append_right (by simp; omega)]
      congr 1
      simp
      omega)
    show List.replicate (a - p) none ++ d.map some ++ cont (a + d.length) r = _
    rw [h0, ih]
    simp [flat]

/-- The rows ahead of place p. -/
def Ahead (p : Nat) (l : List RowN) : Prop := ∀ r ∈ l, r.1 + r.2.length ≤ p
theorem add_end : ∀ (l : List RowN) (q p : Nat) (d : List UInt8), Laid q l → Ahead p l → q ≤ p → d ≠ [] → Laid q (l ++ [(p, d)]) ∧ cont q (l ++ [(p, d)]) = paint (cont q l) (p - q) d
  | [], q, p, d, _, _, hq, hd => ⟨⟨hq, hd, trivial⟩, by
    show List.replicate (p - q) none ++ d.map some ++ [] = paint [] (p - q) d
    rw [List.append_nil, paint_end _ _ hd]⟩
  | (a, e) :: r, q, p, d, h, ha, hq, hd => by
    have h1 := ha (a, e) (by simp)
    obtain ⟨i1, i2⟩ := add_end r (a + e.length) p d h.2.2 (fun x hx => ha x (by simp [hx])) h1 hd
    refine ⟨⟨h.1, h.2.1, i1⟩, ?_⟩
    have h3 := h.1
    simp only at h1
    show List.replicate (a - q) none ++ e.map some ++ cont (a + e.length) (r ++ [(p, d)]) = paint (List.replicate (a - q) none ++ e.map some ++ cont (a + e.length) r) (p - q) d
    rw [i2, paint_append _ _ _ _ (by simp; omega)]
    congr 2
    simp
    omega
theorem add_mid : ∀ (l : List RowN) (q p : Nat) (d : List UInt8) (a : Nat) (e : List UInt8) (s : List RowN), Laid q (l ++ (a, e) :: s) → Ahead p l → q ≤ p → d ≠ [] → p + d.length ≤ a →
    Laid q (l ++ (p, d) :: (a, e) :: s) ∧ cont q (l ++ (p, d) :: (a, e) :: s) = paint (cont q (l ++ (a, e) :: s)) (p - q) d
  | [], q, p, d, a, e, s, h, _, hq, hd, hpa => ⟨⟨hq, hd, hpa, h.2⟩, by
    show List.replicate (p - q) none ++ d.map some ++ (List.replicate (a - (p + d.length)) none ++ e.map some ++ cont (a + e.length) s) = paint (List.replicate (a - q) none ++ e.map some ++ cont (a + e.length) s) (p - q) d
    rw [List.append_assoc (List.replicate (a - q) none), paint_gap _ _ _ _ (by omega), show a - q - (p - q) - d.length = a - (p + d.length) from by omega]
    simp only [List.append_assoc]⟩
  | (b, f) :: r, q, p, d, a, e, s, h, ha, hq, hd, hpa => by
    have h1 := ha (b, f) (by simp)
    obtain ⟨i1, i2⟩ := add_mid r (b + f.length) p d a e s h.2.2 (fun x hx => ha x (by simp [hx])) h1 hd hpa
    refine ⟨⟨h.1, h.2.1, i1⟩, ?_⟩
    have h3 := h.1
    simp only at h1
    show List.replicate (b - q) none ++ f.map some ++ cont (b + f.length) (r ++ (p, d) :: (a, e) :: s) = paint (List.replicate (b - q) none ++ f.map some ++ cont (b + f.length) (r ++ (a, e) :: s)) (p - q) d
    rw [i2, paint_append _ _ _ _ (by simp; omega)]
    congr 2
    simp
    omega
theorem add_in : ∀ (l : List RowN) (q p : Nat) (d : List UInt8) (a : Nat) (e : List UInt8) (s : List RowN), Laid q (l ++ (a, e) :: s) → Ahead p l → a ≤ p → p + d.length ≤ a + e.length → paint (cont q (l ++ (a, e) :: s)) (p - q) d = cont q (l ++ (a, e) :: s)
  | [], q, p, d, a, e, s, h, _, hap, hpe => by
    have h1 := h.1
    refine paint_same _ _ _ fun k hk1 hk2 => ?_
    show ∃ b, look (List.replicate (a - q) none ++ e.map some ++ cont (a + e.length) s) k = some b
    rw [look_append_left (by simp; omega), look_append_right (by simp; omega), look_some, List.getElem?_eq_getElem (by simp; omega)]
    exact ⟨_, rfl⟩
  | (b, f) :: r, q, p, d, a, e, s, h, ha, hap, hpe => by
    have h1 := ha (b, f) (by simp)
    have i2 := add_in r (b + f.length) p d a e s h.2.2 (fun x hx => ha x (by simp [hx])) hap hpe
    have h3 := h.1
    simp only at h1
    show paint (List.replicate (b - q) none ++ f.map some ++ cont (b + f.length) (r ++ (a, e) :: s)) (p - q) d = List.replicate (b - q) none ++ f.map some ++ cont (b + f.length) (r ++ (a, e) :: s)
    rw [paint_append _ _ _ _ (by simp; omega)]
    congr 1
    rw [← i2]
    congr 1
    simp
    omega
end Go.Proofs.Ytfjmcfkpbacicaa
/- Are two packets the same: as the program asks it, and as the document's own answer does. -/
namespace Go.Proofs.Ytfjmcfkpbacicaa
set_option linter.unusedVariables false
set_option linter.unusedSimpArgs false
open Go.ChangeShapes Go.WideShapes Go.ChangeAt Go.RowKit

def Pkt.same (k q : Pkt) : Bool := ((k.tos : Int) == (q.tos : Int)) && ((k.ident : Int) == (q.ident : Int)) && (k.whole == q.whole) && (k.more == q.more) && (k.off == q.off) && ((k.ttl : Int) == (q.ttl : Int)) && ((k.proto : Int) == (q.proto : Int)) && ((k.src : Int) == (q.src : Int)) && ((k.dst : Int) == (q.dst : Int)) && (k.opts == q.opts) && (k.data == q.data)
theorem same_iff (k q : Pkt) : k.same q = true ↔ k = q := by
  obtain ⟨a1, a2, a3, a4, a5, a6, a7, a8, a9, a10, a11⟩ := k
  obtain ⟨b1, b2, b3, b4, b5, b6, b7, b8, b9, b10, b11⟩ := q
  simp only [Pkt.same, Bool.and_eq_true, beq_iff_eq, Pkt.mk.injEq, Int.natCast_inj, and_assoc]
end Go.Proofs.Ytfjmcfkpbacicaa
/- Two packets that are the same: both walks. -/
namespace Go.Proofs.Ytfjmcfkpbacicaa
set_option linter.unusedVariables false
set_option linter.unusedSimpArgs false
open Go.ChangeShapes Go.WideShapes Go.ChangeAt Go.RowKit

set_option maxHeartbeats 2000000 in
theorem RSame_11 (a0 b0 : Int) (a1 b1 : Int) (a2 b2 : Bool) (a3 b3 : Bool) (a4 b4 : Int) (a5 b5 : Int) (a6 b6 : Int) (a7 b7 : Int) (a8 b8 : Int) (a9 b9 : List UInt8) (a10 b10 : List UInt8) (A B C D : Option Addr) (ca da cb db : Nat) (w : World) (bo1 : Byt ((w.alloc (.cells #[.int .u8 a0, .int .u16 a1, .bool a2, .bool a3, .int .i64 a4, .int .u8 a5, .int .u8 a6, .int .u32 a7, .int .u32 a8, .slice A a9.length ca, .slice B a10.length da] 38)).alloc (.cells #[.int .u8 b0, .int .u16 b1, .bool b2, .bool b3, .int .i64 b4, .int .u8 b5, .int .u8 b6, .int .u32 b7, .int .u32 b8, .slice C b9.length cb, .slice D b10.length db] 38)) (.slice A a9.length ca) a9) (bd1 : Byt ((w.alloc (.cells #[.int .u8 a0, .int .u16 a1, .bool a2, .bool a3, .int .i64 a4, .int .u8 a5, .int .u8 a6, .int .u32 a7, .int .u32 a8, .slice A a9.length ca, .slice B a10.length da] 38)).alloc (.cells #[.int .u8 b0, .int .u16 b1, .bool b2, .bool b3, .int .i64 b4, .int .u8 b5, .int .u8 b6, .int .u32 b7, .int .u32 b8, .slice C b9.length cb, .slice D b10.length db] 38)) (.slice B a10.length da) a10) (bo2 : Byt ((w.alloc (.cells #[.int .u8 a0, .int .u16 a1, .bool a2, .bool a3, .int .i64 a4, .int .u8 a5, .int .u8 a6, .int .u32 a7, .int .u32 a8, .slice A a9.length ca, .slice B a10.length da] 38)).alloc (.cells #[.int .u8 b0, .int .u16 b1, .bool b2, .bool b3, .int .i64 b4, .int .u8 b5, .int .u8 b6, .int .u32 b7, .int .u32 b8, .slice C b9.length cb, .slice D b10.length db] 38)) (.slice C b9.length cb) b9) (bd2 : Byt ((w.alloc (.cells #[.int .u8 a0, .int .u16 a1, .bool a2, .bool a3, .int .i64 a4, .int .u8 a5, .int .u8 a6, .int .u32 a7, .int .u32 a8, .slice A a9.length ca, .slice B a10.length da] 38)).alloc (.cells #[.int .u8 b0, .int .u16 b1, .bool b2, .bool b3, .int .i64 b4, .int .u8 b5, .int .u8 b6, .int .u32 b7, .int .u32 b8, .slice C b9.length cb, .slice D b10.length db] 38)) (.slice D b10.length db) b10)
    (hg2 : Grow w ((w.alloc (.cells #[.int .u8 a0, .int .u16 a1, .bool a2, .bool a3, .int .i64 a4, .int .u8 a5, .int .u8 a6, .int .u32 a7, .int .u32 a8, .slice A a9.length ca, .slice B a10.length da] 38)).alloc (.cells #[.int .u8 b0, .int .u16 b1, .bool b2, .bool b3, .int .i64 b4, .int .u8 b5, .int .u8 b6, .int .u32 b7, .int .u32 b8, .slice C b9.length cb, .slice D b10.length db] 38))) (h0 : (a0 == b0) = true) (h1 : (a1 == b1) = true) (h2 : (a2 == b2) = true) (h3 : (a3 == b3) = true) (h4 : (a4 == b4) = true) (h5 : (a5 == b5) = true) (h6 : (a6 == b6) = true) (h7 : (a7 == b7) = true) (h8 : (a8 == b8) = true) (h9 : (a9 == b9) = true) (h10 : (a10 == b10) = true) :
    Calls Try.prog 16 #[(.agg #[.int .u8 a0, .int .u16 a1, .bool a2, .bool a3, .int .i64 a4, .int .u8 a5, .int .u8 a6, .int .u32 a7, .int .u32 a8, .slice A a9.length ca, .slice B a10.length da]), (.agg #[.int .u8 b0, .int .u16 b1, .bool b2, .bool b3, .int .i64 b4, .int .u8 b5, .int .u8 b6, .int .u32 b7, .int .u32 b8, .slice C b9.length cb, .slice D b10.length db])] w fun e w' => e = .returned (.bool true) ∧ Grow w w' := by
  have c1 := str1 bo1
  have c3 := str1 bo2
  have c2 := str1 bd1
  have c4 := str1 bd2
  unfold strV at *
  clear bo1 bo2 bd1 bd2
  go_enter Try.func16, Try.ntmps16
  go_wp2_with fail
  go_ret
  exact ⟨rfl, hg2⟩

end Go.Proofs.Ytfjmcfkpbacicaa
/- Two packets that are the same: both say so. -/
namespace Go.Proofs.Ytfjmcfkpbacicaa
set_option linter.unusedVariables false
set_option linter.unusedSimpArgs false
open Go.ChangeShapes Go.WideShapes Go.ChangeAt Go.RowKit

theorem RSame_yes (u v : Value) (k q : Pkt) (w : World) (hu : Ip w u k) (hv : Ip w v q) (he : k = q) :
    Calls Try.prog 16 #[u, v] w fun e w' => e = .returned (.bool true) ∧ Grow w w' := by
  obtain ⟨A, ca, B, da, rfl, ho1, hd1, hk⟩ := hu.form
  subst he
  obtain ⟨C, cb, D, db, rfl, ho2, hd2, hq⟩ := hv.form
  have hg2 := (Grow.alloc w (.cells #[.int .u8 (k.tos : Int), .int .u16 (k.ident : Int), .bool k.whole, .bool k.more, .int .i64 k.off, .int .u8 (k.ttl : Int), .int .u8 (k.proto : Int), .int .u32 (k.src : Int), .int .u32 (k.dst : Int), .slice A k.opts.length ca, .slice B k.data.length da] 38)).trans (Grow.alloc _ (.cells #[.int .u8 (k.tos : Int), .int .u16 (k.ident : Int), .bool k.whole, .bool k.more, .int .i64 k.off, .int .u8 (k.ttl : Int), .int .u8 (k.proto : Int), .int .u32 (k.src : Int), .int .u32 (k.dst : Int), .slice C k.opts.length cb, .slice D k.data.length db] 38))
  exact RSame_11 (k.tos : Int) (k.tos : Int) (k.ident : Int) (k.ident : Int) k.whole k.whole k.more k.more k.off k.off (k.ttl : Int) (k.ttl : Int) (k.proto : Int) (k.proto : Int) (k.src : Int) (k.src : Int) (k.dst : Int) (k.dst : Int) k.opts k.opts k.data k.data  A B C D ca da cb db w (ho1.grow hg2) (hd1.grow hg2) (ho2.grow hg2) (hd2.grow hg2) hg2 (beq_self_eq_true _) (beq_self_eq_true _) (beq_self_eq_true _) (beq_self_eq_true _) (beq_self_eq_true _) (beq_self_eq_true _) (beq_self_eq_true _) (beq_self_eq_true _) (beq_self_eq_true _) (beq_self_eq_true _) (beq_self_eq_true _)

end Go.Proofs.Ytfjmcfkpbacicaa
