/- Contracts: Clone of bytes, Put of the program's box of datagrams. -/
import Derived.Test.YtkblgigpgpjjlaaUpWr
import Derived.Test.YtkblgigpgpjjlaaState
namespace Go.Proofs.Ytkblgigpgpjjlaa
set_option linter.unusedVariables false
set_option linter.unusedSimpArgs false
open Go.ChangeShapes Go.WideShapes Go.ChangeAt Go.RowKit

theorem nil_eqB (w : World) (c : Nat) : (Go.binOp .eql 38 (.slice none 0 c) (.slice none 0 0)).run Try.prog w = .ok (.bool true) w := by kernel_rfl
theorem nil_neB (w : World) (a : Addr) (n c : Nat) : (Go.binOp .eql 38 (.slice (some a) n c) (.slice none 0 0)).run Try.prog w = .ok (.bool false) w := by kernel_rfl
set_option maxRecDepth 100000 in
set_option maxHeartbeats 1000000 in
theorem cloneB (w : World) (A : Option Addr) (n c : Nat) (d : List UInt8) (h : Byt w (.slice A n c) d) (hl : d.length ≤ 1000000) :
    Calls Try.prog 25 #[.slice A n c] w fun e w' => ∃ v', e = .returned v' ∧ Own w' 0 v' d ∧ (∀ b, v'.ownBlock = some b → w.heap.size ≤ b) ∧ Grow w w' := by
  cases A with
  | none =>
    obtain ⟨h1, h2, h3⟩ := h.len
    have h0 : n = 0 := by
      rcases Nat.eq_zero_or_pos n with q | q
      · exact q
      · obtain ⟨b, off, e, _⟩ := h.at_ q
        cases e
    subst h0
    have e0 : d = [] := List.eq_nil_of_length_eq_zero h1.symm
    subst e0
    have hq := fun w => nil_eqB w c
    clear h hl h1 h2 h3
    go_enter Try.func25, Try.ntmps25
    go_wp2_with fail
    go_ret
    exact ⟨_, rfl, ⟨rfl, .inl ⟨rfl, rfl⟩⟩, fun b hb => (by cases hb), Grow.refl _⟩
  | some ad =>
    have hr := Lib.hid h
    have HL := Lib.hid hl
    have hq := fun w => nil_neB w ad n c
    clear h hl
    go_enter Try.func25, Try.ntmps25
    go_wp2_with (at_builtin; refine wpList_appO _ rfl (.tmp 5) (.tmp 6) rfl w.heap.size _ _ [] d rfl rfl (own0 w) (hr.out.grow (Grow.alloc _ _)) (show 0 + d.length ≤ 100000000 from by have := HL.out; omega) (Grow.alloc w _).size ?_; intro v1 w1 ho1 hg1 hat1; rw [List.nil_append] at ho1; have hgw : Grow w w1 := (Grow.alloc _ _).grown hg1 (by simp) (fun k hk => by cases hk; exact Nat.le_refl _); have H1 := Lib.hid (And.intro ho1 hgw); clear ho1 hg1 hat1 hgw)
    go_ret
    exact ⟨_, rfl, H1.out.1.base_ (Nat.zero_le _), fun b hb => (H1.out.1.lt hb).2, H1.out.2⟩

/-- append of rows, as an operation whose place is not known. -/
theorem upon_appK {P : Program} (w : World) {ops : Array Oper} {o : Oper} {a : Act} {post : Value → World → Prop} (hgd : o.guard = none) (s x : Operand) (t : TypeId)
    (ho : o.op = .call { callee := .builtin .append, args := #[s, x], argTypes := #[t, t] })
    (e : TypeId) (z : Value) (k bytes : Nat) (ht : P.underlying t = some (.slice e)) (hi : (P.info? e).map (fun i => (i.zero, i.size, i.bytes)) = some (some z, k, bytes)) (hz : z.cells.size = k) (hk : 0 < k)
    (base : Nat) (v u : Value) (n m : Nat) (xs ys : List Value) (hs : a.eval s = v) (hx : a.eval x = u) (hown : w.ownsRow base e k v n xs) (hr : RdK w k u m ys) (h1 : ∀ y ∈ ys, y.oneCell' = true)
    (hbytes : (n + m) * bytes ≤ 140737488355328) (hlen : n + m ≤ maxLen) (hbase : base ≤ w.heap.size)
    (h : ∀ v' w', w'.ownsRow base e k v' (n + m) (xs ++ ys) → w.grownBy w' v.ownBlock → (v'.ownBlock = v.ownBlock ∨ v'.ownBlock = some w.heap.size) → post v' w') :
    if Region.wanted o (yielded ops a.tmps) = true then looseUpon P post ((execOp a.eval o).run P w) else post undef w := by
  have hw : Region.wanted o (yielded ops a.tmps) = true := by simp [Region.wanted, hgd]
  rw [if_pos hw]
  obtain ⟨v', w', hrun, h2, h3, h4⟩ := run_appK (P := P) w base t o.type e z k bytes ht hi hz hk v n xs hown u m ys hr h1 hbytes hlen hbase
  unfold execOp
  simp only [ho, resolve, invoke, builtin, Sem.run_bind, Sem.run_pure, Result.andThen_ok, List.map_toArray, List.map_cons, List.map_nil, hs, hx, hrun, looseUpon]
  exact h v' w' h2 h3 h4

/-- The datagram whose bytes lie in the slice v. -/
def mcOf (f : Ed) (v : Value) (d : List UInt8) : Mc := match v with | .slice A n c => ⟨f, A, n, c, d⟩ | _ => ⟨f, none, 0, 0, d⟩
structure AftA (wq q : World) (pb : Nat) (vL : Value) (l : List Mc) (u : Ub) (v : Value) (m : Mc) : Prop where
  blk : UdB q pb u.most u.room vL u.pe.ad u.pe.po u.told u.lost
  row : Mcw q 0 v (l ++ [m])
  own : Owns q (l ++ [m])
  chg : ChgS (SOf pb vL l) wq q
  nb : ∀ b, v.ownBlock = some b → vL.ownBlock = some b ∨ wq.heap.size ≤ b
  nm : ∀ b, m.v.ownBlock = some b → wq.heap.size ≤ b
theorem AftA.form {wq q : World} {pb : Nat} {vL : Value} {l : List Mc} {u : Ub} {v : Value} {m : Mc} (h : AftA wq q pb vL l u v m) : ∃ A n c, v = .slice A n c := by
  obtain ⟨A, c, e, _⟩ := RdG.form (OwG.rd h.row)
  exact ⟨_, _, _, e⟩
theorem UdB.rows {q : World} {pb i : Nat} {most room pa pp told lost : Int} {vL v x : Value} {l : List Mc} (h : UdB q pb most room vL pa pp told lost) (r : Mcw q 0 v l) (o : Owns q l) : Mcw (q.setCell ⟨pb, i, none⟩ x) 0 v l ∧ Owns (q.setCell ⟨pb, i, none⟩ x) l :=
  ⟨ownsRow_other r fun b cs hb _ => Below.heap_setCell _ _ _ _ fun e => h.mcw_ne r (by
    have e : b = pb := e
    rw [← e]; exact hb),
   o.keep fun b hb => Below.heap_setCell _ _ _ _ fun e => by
    have e : b = pb := e
    obtain ⟨y, hy, hb⟩ := hb
    exact h.own_ne (o y hy) (by rw [← e]; exact hb)⟩
/-- Put's last statement: which operations are done, what they left. -/
structure PJ (wq : World) (pb bx : Nat) (vL : Value) (l : List Mc) (u : Ub) (f : Ed) (d : List UInt8) (c4 c9 c10 c11 c12 c15 : Bool) (x46 x51 x52 x53 x54 : Value) (q : World) : Prop where
  ord : c12 = true → c4 = true ∧ c11 = true
  ord1 : c11 = true → c10 = true
  ord2 : c10 = true → c9 = true
  ord3 : c15 = true → c12 = true
  par : q.heap[bx]? = wq.heap[bx]?
  early : c12 = false → UdS q pb vL l u ∧ Grow wq q
  e4 : c4 = true → x46 = vL
  e9 : c9 = true → ∃ A n c, x51 = .slice A n c
  e9o : c9 = true → c12 = false → Own q 0 x51 d ∧ ∀ b, x51.ownBlock = some b → wq.heap.size ≤ b
  e10 : c10 = true → x52 = .agg #[.int .u32 f.ad, .int .u16 f.po, x51]
  e11 : c11 = true → c12 = false → RdG mcC q x53 [mcOf f x51 d]
  e12 : c12 = true → c15 = false → AftA wq q pb vL l u x54 (mcOf f x51 d)
  e15 : c15 = true → UdP wq q pb vL l { u with L := u.L ++ [⟨f, d⟩] }
section
variable {wq q w' : World} {pb bx : Nat} {vL : Value} {l : List Mc} {u : Ub} {f : Ed} {d : List UInt8} {c4 c9 c10 c11 c12 c15 : Bool} {x46 x51 x52 x53 x54 v : Value}
theorem nob {c : Bool} {p : Prop} (h : c = false) (k : c = true) : p := by rw [h] at k; cases k
theorem ftr {p : Prop} (k : false = true) : p := by cases k
theorem off_of {c c' : Bool} (h : c = false) (k : c' = true → c = true) : c' = false := by
  cases e : c' with
  | false => rfl
  | true => exact absurd (k e) (by rw [h]; decide)
theorem PJ.start (h : UdS q pb vL l u) (g : Grow wq q) (h4 : c4 = false) (h9 : c9 = false) (h10 : c10 = false) (h11 : c11 = false) (h12 : c12 = false) (h15 : c15 = false) (hbx : bx < wq.heap.size) : PJ wq pb bx vL l u f d c4 c9 c10 c11 c12 c15 x46 x51 x52 x53 x54 q :=
  ⟨nob h12, nob h11, nob h10, nob h15, g.block bx hbx, fun _ => ⟨h, g⟩, nob h4, nob h9, nob h9, nob h10, nob h11, nob h12, nob h15⟩
theorem PJ.n4 (h : PJ wq pb bx vL l u f d c4 c9 c10 c11 c12 c15 x46 x51 x52 x53 x54 q) (h4 : c4 = false) : UdS q pb vL l u ∧ Grow wq q := h.early (off_of h4 fun k => (h.ord k).1)
theorem PJ.n9 (h : PJ wq pb bx vL l u f d c4 c9 c10 c11 c12 c15 x46 x51 x52 x53 x54 q) (h9 : c9 = false) : UdS q pb vL l u ∧ Grow wq q := h.early (off_of (off_of (off_of h9 h.ord2) h.ord1) fun k => (h.ord k).2)
theorem PJ.l4 (h : PJ wq pb bx vL l u f d c4 c9 c10 c11 c12 c15 x46 x51 x52 x53 x54 q) (h4 : c4 = false) : PJ wq pb bx vL l u f d true c9 c10 c11 c12 c15 vL x51 x52 x53 x54 q := by
  have n12 : c12 = false := off_of h4 fun k => (h.ord k).1
  exact ⟨nob n12, h.ord1, h.ord2, h.ord3, h.par, h.early, fun _ => rfl, h.e9, h.e9o, h.e10, h.e11, h.e12, h.e15⟩
theorem PJ.l9 (h : PJ wq pb bx vL l u f d c4 c9 c10 c11 c12 c15 x46 x51 x52 x53 x54 q) (h9 : c9 = false) (hbx : bx < wq.heap.size) (ho : Own w' 0 v d) (hs : ∀ b, v.ownBlock = some b → q.heap.size ≤ b) (g : Grow q w') : PJ wq pb bx vL l u f d c4 true c10 c11 c12 c15 x46 v x52 x53 x54 w' := by
  have n10 := off_of h9 h.ord2
  have n11 := off_of n10 h.ord1
  have n12 : c12 = false := off_of n11 fun k => (h.ord k).2
  have n15 := off_of n12 h.ord3
  obtain ⟨e1, e2⟩ := h.early n12
  obtain ⟨A, c, hv, _⟩ := (Own.byt ho).form
  exact ⟨nob n12, nob n11, fun _ => rfl, nob n15, (g.block bx (Nat.lt_of_lt_of_le hbx e2.size)).trans h.par, fun _ => ⟨e1.grow g, e2.trans g⟩, h.e4, fun _ => ⟨_, _, _, hv⟩, fun _ _ => ⟨ho, fun b hb => Nat.le_trans e2.size (hs b hb)⟩, nob n10, nob n11, nob n12, nob n15⟩
theorem PJ.l10 (h : PJ wq pb bx vL l u f d c4 c9 c10 c11 c12 c15 x46 x51 x52 x53 x54 q) (h10 : c10 = false) (h9 : c9 = true) {A : Option Addr} {n c : Nat} (e : x51 = .slice A n c) : PJ wq pb bx vL l u f d c4 c9 true c11 c12 c15 x46 x51 (.agg #[.int .u32 f.ad, .int .u16 f.po, .slice A n c]) x53 x54 q := by
  have n11 := off_of h10 h.ord1
  exact ⟨h.ord, fun _ => rfl, fun _ => h9, h.ord3, h.par, h.early, h.e4, h.e9, h.e9o, fun _ => by rw [e], h.e11, h.e12, h.e15⟩
theorem PJ.w52 (h : PJ wq pb bx vL l u f d c4 c9 c10 c11 c12 c15 x46 x51 x52 x53 x54 q) (h10 : c10 = true) : ∃ A n c, x51 = .slice A n c ∧ x52 = .agg #[.int .u32 f.ad, .int .u16 f.po, .slice A n c] := by
  obtain ⟨A, n, c, e⟩ := h.e9 (h.ord2 h10)
  exact ⟨A, n, c, e, by rw [h.e10 h10, e]⟩
theorem PJ.l11 (h : PJ wq pb bx vL l u f d c4 c9 c10 c11 c12 c15 x46 x51 x52 x53 x54 q) (h11 : c11 = false) (h10 : c10 = true) (hbx : bx < wq.heap.size) {A : Option Addr} {n c : Nat} (e : x51 = .slice A n c) :
    PJ wq pb bx vL l u f d c4 c9 c10 true c12 c15 x46 x51 x52 (.slice (some ⟨q.heap.size, 0, none⟩) 1 1) x54 (q.alloc (.cells #[.int .u32 f.ad, .int .u16 f.po, .slice A n c] 40)) := by
  have n12 : c12 = false := off_of h11 fun k => (h.ord k).2
  have n15 := off_of n12 h.ord3
  obtain ⟨e1, e2⟩ := h.early n12
  have g := Grow.alloc q (.cells #[.int .u32 f.ad, .int .u16 f.po, .slice A n c] 40)
  obtain ⟨o1, o2⟩ := h.e9o (h.ord2 h10) n12
  exact ⟨nob n12, fun _ => h10, h.ord2, nob n15, (g.block bx (Nat.lt_of_lt_of_le hbx e2.size)).trans h.par, fun _ => ⟨e1.grow g, e2.trans g⟩, h.e4, h.e9, fun _ _ => ⟨o1.grow g, o2⟩, h.e10, fun _ _ => by
    subst e
    exact OwG.rd (owg_lit1 (c := mcC) q (mcOf f (.slice A n c) d) #[.int .u32 f.ad, .int .u16 f.po, .slice A n c] rfl _ rfl), nob n12, nob n15⟩
theorem PJ.l12 (h : PJ wq pb bx vL l u f d c4 c9 c10 c11 c12 c15 x46 x51 x52 x53 x54 q) (h12 : c12 = false) (h4 : c4 = true) (h11 : c11 = true) (hbx : bx < wq.heap.size ∧ ¬ SOf pb vL l bx) (hr : Mcw w' 0 v (l ++ [mcOf f x51 d])) (hg : q.grownBy w' vL.ownBlock) (hat : v.ownBlock = vL.ownBlock ∨ v.ownBlock = some q.heap.size) : PJ wq pb bx vL l u f d c4 c9 c10 c11 true c15 x46 x51 x52 x53 v w' := by
  have n15 := off_of h12 h.ord3
  have h10 := h.ord1 h11
  have h9 := h.ord2 h10
  obtain ⟨e1, e2⟩ := h.early h12
  obtain ⟨o1, o2⟩ := h.e9o h9 h12
  obtain ⟨A, n, c, e⟩ := h.e9 h9
  subst e
  have kb : ∀ b, b < q.heap.size → vL.ownBlock ≠ some b → w'.heap[b]? = q.heap[b]? := fun b hb hne => hg.block b hb fun e => hne e.symm
  have hpar : w'.heap[bx]? = q.heap[bx]? := kb bx (Nat.lt_of_lt_of_le hbx.1 e2.size) fun e => hbx.2 (.inr (.inl e))
  have ownK : ∀ {y : Value} {dd : List UInt8}, Own q 0 y dd → Own w' 0 y dd := fun {y dd} ho => ownsRow_other ho fun b cs hb hh => kb b (Array.getElem?_eq_some_iff.1 hh).1 fun e => mcw_own_ne e1.row ho e hb
  refine ⟨fun _ => ⟨h4, h11⟩, h.ord1, h.ord2, fun _ => rfl, hpar.trans h.par, fun k => ftr k.symm, h.e4, h.e9, fun _ k => ftr k.symm, h.e10, fun _ k => ftr k.symm, fun _ _ => ?_, nob n15⟩
  refine ⟨(kb pb e1.blk.lt (e1.blk.mcw_ne e1.row)).trans e1.blk, hr, fun x hx => ?_, (ChgS.of_grow e2).tr ⟨hg.os, hg.tape, hg.output, hg.size, fun i hi hs => kb i hi fun e => hs (.inr (.inl e))⟩, fun b hb => ?_, o2⟩
  · rcases List.mem_append.1 hx with hx | hx
    · exact ownK (e1.own x hx)
    · rw [List.mem_singleton.1 hx]
      exact ownK o1
  · rcases hat with e | e
    · exact .inl (e.symm.trans hb)
    · right
      have : q.heap.size = b := Option.some.inj (e.symm.trans hb)
      have := e2.size
      omega
theorem PJ.l15 (h : PJ wq pb bx vL l u f d c4 c9 c10 c11 c12 c15 x46 x51 x52 x53 x54 q) (h15 : c15 = false) (h12 : c12 = true) (hbx : bx < wq.heap.size ∧ ¬ SOf pb vL l bx) {A : Option Addr} {n c : Nat} (e : x54 = .slice A n c) (hL : l.map Mc.ml = u.L) : PJ wq pb bx vL l u f d c4 c9 c10 c11 c12 true x46 x51 x52 x53 x54 (q.setCell ⟨pb, 2, none⟩ (.slice A n c)) := by
  have k := h.e12 h12 h15
  have hne : bx ≠ pb := fun e => hbx.2 (.inl e)
  refine ⟨h.ord, h.ord1, h.ord2, fun _ => h12, (Below.heap_setCell _ _ _ _ hne).trans h.par, fun k => absurd (h12.symm.trans k) (by decide), h.e4, h.e9, fun _ k => absurd (h12.symm.trans k) (by decide), h.e10, fun _ k => absurd (h12.symm.trans k) (by decide), fun _ k => ftr k.symm, fun _ => ?_⟩
  subst e
  obtain ⟨r1, r2⟩ := k.blk.rows (i := 2) (x := .slice A n c) k.row k.own
  have hm : (mcOf f x51 d).ml = ⟨f, d⟩ := by unfold mcOf Mc.ml; split <;> rfl
  refine ⟨_, _, ⟨k.blk.set2 _, r1, by rw [List.map_append, hL, List.map_cons, List.map_nil, hm], r2⟩, k.chg.tr (ChgS.set (.inl rfl) _), fun b hb => ?_⟩
  rcases hb with rfl | hb | ⟨x, hx, hb⟩
  · exact .inl (.inl rfl)
  · rcases k.nb b hb with e | e
    · exact .inl (.inr (.inl e))
    · exact .inr e
  · rcases List.mem_append.1 hx with hx | hx
    · exact .inl (.inr (.inr ⟨x, hx, hb⟩))
    · rw [List.mem_singleton.1 hx] at hb
      exact .inr (k.nm b hb)
theorem upon_appM (q : World) {ops : Array Oper} {o : Oper} {a : Act} {post : Value → World → Prop} (hgd : o.guard = none) (s x : Operand)
    (ho : o.op = .call { callee := .builtin .append, args := #[s, x], argTypes := #[35, 35] }) (h : PJ wq pb bx vL l u f d c4 c9 c10 c11 c12 c15 x46 x51 x52 x53 x54 q) (hs : a.eval s = x46) (hx : a.eval x = x53) (h12 : c12 = false) (h4 : c4 = true) (h11 : c11 = true) (hbx : bx < wq.heap.size ∧ ¬ SOf pb vL l bx) (hlen : l.length ≤ 1000)
    (hp : ∀ v w', PJ wq pb bx vL l u f d c4 c9 c10 c11 true c15 x46 x51 x52 x53 v w' → post v w') :
    if Region.wanted o (yielded ops a.tmps) = true then looseUpon Try.prog post ((execOp a.eval o).run Try.prog q) else post undef q := by
  obtain ⟨e1, e2⟩ := h.early h12
  refine upon_appK q hgd s x 35 ho 40 _ 3 32 Try.underlying35 infoMl rfl (by decide) 0 vL x53 l.length 1 (l.flatMap mcC.f) ([mcOf f x51 d].flatMap mcC.f) (hs.trans (h.e4 h4)) hx e1.row (h.e11 h11 h12) (mcC.ones _) (by omega) (by unfold maxLen; omega) (Nat.zero_le _) fun v w' h1 h2 h3 => hp v w' ?_
  exact h.l12 h12 h4 h11 hbx (owg_app (c := mcC) h1 rfl) h2 h3
end
set_option maxRecDepth 10000 in
set_option maxHeartbeats 4000000 in
theorem putP {w : World} {pb : Nat} {vL : Value} {l : List Mc} {u : Ub} (h : UdS w pb vL l u) (ok : UOk u) (hf : FewU u) (f : Ed) (mA : Option Addr) (mn mc : Nat) (md : List UInt8) (hm : Byt w (.slice mA mn mc) md) (hl : md.length ≤ 100000) :
    Calls Try.prog 10 #[.pointer (some ⟨pb, 0, none⟩), .agg #[.int .u32 f.ad, .int .u16 f.po, .slice mA mn mc]] w fun e' w' => e' = .returned (.int .i64 (puE u ⟨f, md⟩)) ∧ UdP w w' pb vL l (puU u ⟨f, md⟩) := by
  obtain ⟨a, p⟩ := f
  obtain ⟨W, hW⟩ : ∃ W, W = w.alloc (.cells #[.int .u32 a, .int .u16 p, .slice mA mn mc] 40) := ⟨_, rfl⟩
  have hg : Grow w W := by rw [hW]; exact Grow.alloc _ _
  obtain ⟨bx, hBX⟩ : ∃ bx, bx = w.heap.size := ⟨_, rfl⟩
  have hb : W.heap[bx]? = some (.cells #[.int .u32 a, .int .u16 p, .slice mA mn mc] 40 (0, 0)) := by rw [hW, hBX]; exact heap_alloc_new w _
  have HBX0 : Hid (bx < W.heap.size ∧ ¬ SOf pb vL l bx) := ⟨(Array.getElem?_eq_some_iff.1 hb).1, fun k => by
    have := h.lt bx k
    omega⟩
  have hLe := h.eq
  obtain ⟨most, room, ⟨pa, pp⟩, L, lost, told⟩ := u
  simp only at hLe
  subst hLe
  have HG := Lib.hid hg
  have HU := Lib.hid (h.grow hg)
  have HP0 := Lib.hid hb
  have HOK := Lib.hid ok
  have HM0 := Lib.hid (hm.grow hg)
  have HLen : Hid (md.length ≤ 1000000) := Lib.hid (show md.length ≤ 1000000 by omega)
  have z0 : W.cell? ⟨bx, 0, none⟩ = some (.int .u32 a) := (cell_of_row W _ 0 _ _ _ hb).trans rfl
  have z1 : W.cell? ⟨bx, 1, none⟩ = some (.int .u16 p) := (cell_of_row W _ 1 _ _ _ hb).trans rfl
  have cT := permP HU.out.blk ⟨a, p⟩
  have hmn := hm.len.1
  have o1 := ok.len
  have o2 := ok.held
  have o3 := ok.most
  have o4 := ok.room
  have hlo := hf
  unfold FewU at hlo
  simp only [List.length_map] at o1 o2 o3 o4 hlo
  obtain ⟨A, cp, hvb, hlc, hcm⟩ := RdG.form (OwG.rd h.row)
  obtain ⟨N, hN⟩ : ∃ N, N = l.length := ⟨_, rfl⟩
  rw [← hN] at hvb hlc o1
  subst hvb
  obtain ⟨T, hT⟩ : ∃ T, T = heldL (l.map Mc.ml) := ⟨_, rfl⟩
  rw [← hT] at o2
  have HT := Lib.hid hT
  have HN := Lib.hid (And.intro hN o1)
  rcases puE_cases (⟨most, room, ⟨pa, pp⟩, l.map Mc.ml, lost, told⟩ : Ub) (⟨⟨a, p⟩, md⟩ : Ml) with ⟨q1, q2, q3⟩ | ⟨q1, q4, q2, q3⟩ | ⟨q1, q4, q5, q2, q3⟩ | ⟨q1, q4, q5, q2, q3⟩
  · have q1' : ¬ letsS ⟨pa, pp⟩ ⟨a, p⟩ := q1
    rw [decide_eq_false q1'] at cT
    have HE := Lib.hid (And.intro q2 q3)
    clear q1 q1' q2 q3 h hg hb hm o1 o2 o3 o4 ok hmn hf hlo hN hT hlc hcm hl
    go_enter Try.func10, Try.ntmps10
    go_upto_region 1 with fail
    rw [← hW, ← hBX]
    have HW := Lib.hid (And.intro hW hBX)
    clear hW hBX
    go_wp2_with fail
    refine cT.mono ?_
    rintro e w5 ⟨rfl, g5⟩
    have H9 : Hid (UdP w w5 pb (.slice A N cp) l (⟨most, room, ⟨pa, pp⟩, l.map Mc.ml, lost, told⟩ : Ub)) := UdP.same (HU.out.grow g5) (HG.out.trans g5)
    clear cT g5 z0 z1
    go_wp2_with fail
    go_ret
    exact ⟨by rw [HE.out.1]; rfl, by rw [HE.out.2]; exact H9.out⟩
  · have q1' : letsS ⟨pa, pp⟩ ⟨a, p⟩ := q1
    rw [decide_eq_true q1'] at cT
    have HE := Lib.hid (And.intro q2 q3)
    have r1 : decide (most ≤ (N : Int)) = true := decide_eq_true (by have := q4; simp only [List.length_map] at this; omega)
    have hw1 : IntKind.i64.wrap (lost + 1) = lost + 1 := IntWalk.i64_in _ (by omega)
    clear q1 q1' q2 q3 q4 h hg hb hm o1 o2 o3 o4 ok hmn hf hlo hN hT hlc hcm hl
    go_enter Try.func10, Try.ntmps10
    go_upto_region 1 with fail
    rw [← hW, ← hBX]
    have HW := Lib.hid (And.intro hW hBX)
    clear hW hBX
    go_wp2_with fail
    refine cT.mono ?_
    rintro e w5 ⟨rfl, g5⟩
    have HU5 := Lib.hid (HU.out.grow g5)
    have HP5 : Hid (w5.heap[bx]? = some (.cells #[.int .u32 a, .int .u16 p, .slice mA mn mc] 40 (0, 0))) := (g5.block bx (by have := HBX0.out; omega)).trans HP0.out
    have HG5 := Lib.hid (HG.out.trans g5)
    have g50 := Lib.hid g5
    have k0 := fun q : Gw w5 => Gw.cell (p := q) (a := ⟨pb, 0, none⟩) HU5.out.blk.lt HU5.out.blk.c0
    have k1 := fun q : Gw w5 => Gw.cell (p := q) (a := ⟨pb, 1, none⟩) HU5.out.blk.lt HU5.out.blk.c1
    have k2 := fun q : Gw w5 => Gw.cell (p := q) (a := ⟨pb, 2, none⟩) HU5.out.blk.lt HU5.out.blk.c2
    have m2 := fun q : Gw w5 => Gw.cell (p := q) (a := ⟨bx, 2, none⟩) (Array.getElem?_eq_some_iff.1 HP5.out).1 ((cell_of_row w5 bx 2 _ _ _ HP5.out).trans rfl)
    have cH0 : ∀ q : Gw w5, Calls Try.prog 20 #[.pointer (some ⟨pb, 0, none⟩)] q.v fun e w' => e = .returned (.int .i64 (T : Int)) ∧ Grow q.v w' := fun q => by
      have := heldP (HU5.out.grow q.h) HOK.out
      rwa [← HT.out] at this
    have cHeld : ∀ q : Gw w5, _ := fun q => Calls.gw (p := q) (cH0 q)
    clear cT g5 cH0 z0 z1
    go_upto_region 5 with fail
    refine wp_region_gw (by kernel_rfl) (by kernel_rfl) ?_
    repeat (go_big_quiet_step ((go_at_call 20; exact cHeld _)))
    refine wpQuiet_nil ?_
    intro _ hw'
    obtain ⟨⟨wq, hgq⟩, hw2'⟩ := hw'
    subst hw2'
    rename World => wq
    have HU6 := Lib.hid (HU5.out.grow hgq)
    have HG6 := Lib.hid (HG5.out.trans hgq)
    have HG06 := Lib.hid (g50.out.trans hgq)
    have HP : Hid (wq.heap[bx]? = some (.cells #[.int .u32 a, .int .u16 p, .slice mA mn mc] 40 (0, 0))) := (hgq.block bx (Array.getElem?_eq_some_iff.1 HP5.out).1).trans HP5.out
    clear hgq k0 k1 k2 m2 cHeld HU5 HG5 HP5
    have t6 := HU6.out.blk.c6
    have s6 := HU6.out.blk.fz 6
    have H9 : Hid (UdP w (wq.setCell ⟨pb, 6, none⟩ (.int .i64 (lost + 1))) pb (.slice A N cp) l (puU (⟨most, room, ⟨pa, pp⟩, l.map Mc.ml, lost, told⟩ : Ub) ⟨⟨a, p⟩, md⟩)) := by rw [HE.out.2]; exact UdP.cell HG6.out (HU6.out.lost _) (Grow.refl _)
    go_wp2_with fail
    go_ret
    exact ⟨by rw [HE.out.1]; rfl, H9.out⟩
  · have q1' : letsS ⟨pa, pp⟩ ⟨a, p⟩ := q1
    rw [decide_eq_true q1'] at cT
    have HE := Lib.hid (And.intro q2 q3)
    have q5' : room < ((T + mn : Nat) : Int) := by rw [hT, hmn]; exact q5
    have r1 : decide (most ≤ (N : Int)) = false := decide_eq_false (by have := q4; simp only [List.length_map] at this; omega)
    have hw2 : IntKind.i64.wrap ((T : Int) + (mn : Int)) = ((T + mn : Nat) : Int) := by
      rw [IntWalk.i64_in _ (by omega)]
      omega
    have r2 : decide (room < ((T + mn : Nat) : Int)) = true := decide_eq_true q5'
    have hw1 : IntKind.i64.wrap (lost + 1) = lost + 1 := IntWalk.i64_in _ (by omega)
    obtain ⟨X, hX⟩ : ∃ X : Int, X = ((T + mn : Nat) : Int) := ⟨_, rfl⟩
    rw [← hX] at hw2 r2
    clear q1 q1' q2 q3 q4 q5 q5' h hg hb hm o1 o2 o3 o4 ok hmn hf hlo hN hT hlc hcm hl hX
    go_enter Try.func10, Try.ntmps10
    go_upto_region 1 with fail
    rw [← hW, ← hBX]
    have HW := Lib.hid (And.intro hW hBX)
    clear hW hBX
    go_wp2_with fail
    refine cT.mono ?_
    rintro e w5 ⟨rfl, g5⟩
    have HU5 := Lib.hid (HU.out.grow g5)
    have HP5 : Hid (w5.heap[bx]? = some (.cells #[.int .u32 a, .int .u16 p, .slice mA mn mc] 40 (0, 0))) := (g5.block bx (by have := HBX0.out; omega)).trans HP0.out
    have HG5 := Lib.hid (HG.out.trans g5)
    have g50 := Lib.hid g5
    have k0 := fun q : Gw w5 => Gw.cell (p := q) (a := ⟨pb, 0, none⟩) HU5.out.blk.lt HU5.out.blk.c0
    have k1 := fun q : Gw w5 => Gw.cell (p := q) (a := ⟨pb, 1, none⟩) HU5.out.blk.lt HU5.out.blk.c1
    have k2 := fun q : Gw w5 => Gw.cell (p := q) (a := ⟨pb, 2, none⟩) HU5.out.blk.lt HU5.out.blk.c2
    have m2 := fun q : Gw w5 => Gw.cell (p := q) (a := ⟨bx, 2, none⟩) (Array.getElem?_eq_some_iff.1 HP5.out).1 ((cell_of_row w5 bx 2 _ _ _ HP5.out).trans rfl)
    have cH0 : ∀ q : Gw w5, Calls Try.prog 20 #[.pointer (some ⟨pb, 0, none⟩)] q.v fun e w' => e = .returned (.int .i64 (T : Int)) ∧ Grow q.v w' := fun q => by
      have := heldP (HU5.out.grow q.h) HOK.out
      rwa [← HT.out] at this
    have cHeld : ∀ q : Gw w5, _ := fun q => Calls.gw (p := q) (cH0 q)
    clear cT g5 cH0 z0 z1
    go_upto_region 5 with fail
    refine wp_region_gw (by kernel_rfl) (by kernel_rfl) ?_
    repeat (go_big_quiet_step ((go_at_call 20; exact cHeld _)))
    refine wpQuiet_nil ?_
    intro _ hw'
    obtain ⟨⟨wq, hgq⟩, hw2'⟩ := hw'
    subst hw2'
    rename World => wq
    have HU6 := Lib.hid (HU5.out.grow hgq)
    have HG6 := Lib.hid (HG5.out.trans hgq)
    have HG06 := Lib.hid (g50.out.trans hgq)
    have HP : Hid (wq.heap[bx]? = some (.cells #[.int .u32 a, .int .u16 p, .slice mA mn mc] 40 (0, 0))) := (hgq.block bx (Array.getElem?_eq_some_iff.1 HP5.out).1).trans HP5.out
    clear hgq k0 k1 k2 m2 cHeld HU5 HG5 HP5
    have t6 := HU6.out.blk.c6
    have s6 := HU6.out.blk.fz 6
    have H9 : Hid (UdP w (wq.setCell ⟨pb, 6, none⟩ (.int .i64 (lost + 1))) pb (.slice A N cp) l (puU (⟨most, room, ⟨pa, pp⟩, l.map Mc.ml, lost, told⟩ : Ub) ⟨⟨a, p⟩, md⟩)) := by rw [HE.out.2]; exact UdP.cell HG6.out (HU6.out.lost _) (Grow.refl _)
    go_wp2_with fail
    go_ret
    exact ⟨by rw [HE.out.1]; rfl, H9.out⟩
  · have q1' : letsS ⟨pa, pp⟩ ⟨a, p⟩ := q1
    rw [decide_eq_true q1'] at cT
    have HE := Lib.hid (And.intro q2 q3)
    have q5' : ¬ room < ((T + mn : Nat) : Int) := by rw [hT, hmn]; exact q5
    have r1 : decide (most ≤ (N : Int)) = false := decide_eq_false (by have := q4; simp only [List.length_map] at this; omega)
    have hw2 : IntKind.i64.wrap ((T : Int) + (mn : Int)) = ((T + mn : Nat) : Int) := by
      rw [IntWalk.i64_in _ (by omega)]
      omega
    have r2 : decide (room < ((T + mn : Nat) : Int)) = false := decide_eq_false q5'
    obtain ⟨X, hX⟩ : ∃ X : Int, X = ((T + mn : Nat) : Int) := ⟨_, rfl⟩
    rw [← hX] at hw2 r2
    have HLen2 : Hid (l.length ≤ 1000) := Lib.hid (by omega)
    clear q1 q1' q2 q3 q4 q5 q5' h hg hb hm o1 o2 o3 o4 ok hmn hf hlo hN hT hlc hcm hl hX
    go_enter Try.func10, Try.ntmps10
    go_upto_region 1 with fail
    rw [← hW, ← hBX]
    have HW := Lib.hid (And.intro hW hBX)
    clear hW hBX
    go_wp2_with fail
    refine cT.mono ?_
    rintro e w5 ⟨rfl, g5⟩
    have HU5 := Lib.hid (HU.out.grow g5)
    have HP5 : Hid (w5.heap[bx]? = some (.cells #[.int .u32 a, .int .u16 p, .slice mA mn mc] 40 (0, 0))) := (g5.block bx (by have := HBX0.out; omega)).trans HP0.out
    have HG5 := Lib.hid (HG.out.trans g5)
    have g50 := Lib.hid g5
    have k0 := fun q : Gw w5 => Gw.cell (p := q) (a := ⟨pb, 0, none⟩) HU5.out.blk.lt HU5.out.blk.c0
    have k1 := fun q : Gw w5 => Gw.cell (p := q) (a := ⟨pb, 1, none⟩) HU5.out.blk.lt HU5.out.blk.c1
    have k2 := fun q : Gw w5 => Gw.cell (p := q) (a := ⟨pb, 2, none⟩) HU5.out.blk.lt HU5.out.blk.c2
    have m2 := fun q : Gw w5 => Gw.cell (p := q) (a := ⟨bx, 2, none⟩) (Array.getElem?_eq_some_iff.1 HP5.out).1 ((cell_of_row w5 bx 2 _ _ _ HP5.out).trans rfl)
    have cH0 : ∀ q : Gw w5, Calls Try.prog 20 #[.pointer (some ⟨pb, 0, none⟩)] q.v fun e w' => e = .returned (.int .i64 (T : Int)) ∧ Grow q.v w' := fun q => by
      have := heldP (HU5.out.grow q.h) HOK.out
      rwa [← HT.out] at this
    have cHeld : ∀ q : Gw w5, _ := fun q => Calls.gw (p := q) (cH0 q)
    clear cT g5 cH0 z0 z1
    go_upto_region 5 with fail
    refine wp_region_gw (by kernel_rfl) (by kernel_rfl) ?_
    repeat (go_big_quiet_step ((go_at_call 20; exact cHeld _)))
    refine wpQuiet_nil ?_
    intro _ hw'
    obtain ⟨⟨wq, hgq⟩, hw2'⟩ := hw'
    subst hw2'
    rename World => wq
    have HU6 := Lib.hid (HU5.out.grow hgq)
    have HG6 := Lib.hid (HG5.out.trans hgq)
    have HG06 := Lib.hid (g50.out.trans hgq)
    have HP : Hid (wq.heap[bx]? = some (.cells #[.int .u32 a, .int .u16 p, .slice mA mn mc] 40 (0, 0))) := (hgq.block bx (Array.getElem?_eq_some_iff.1 HP5.out).1).trans HP5.out
    clear hgq k0 k1 k2 m2 cHeld HU5 HG5 HP5
    have HM := Lib.hid (HM0.out.grow HG06.out)
    have HBX : Hid (bx < wq.heap.size ∧ ¬ SOf pb (.slice A N cp) l bx) := ⟨(Array.getElem?_eq_some_iff.1 HP.out).1, HBX0.out.2⟩
    have HLq := Lib.hid HU6.out.eq
    clear HU HT HN HOK
    go_upto_region 8 with fail
    refine wp_region_state (A := ?frameS8) (inVals4 (isW4 (.pointer (some ⟨pb, 0, none⟩)) :: isW4 (.pointer (some ⟨pb, 0, none⟩)) :: isW4 (.pointer (some ⟨pb, 0, none⟩)) :: isW4 (.pointer (some ⟨pb, 2, none⟩)) :: isAll4 :: isW4 (.pointer (some ⟨bx, 0, none⟩)) :: isW4 (.agg #[.int .u32 a, .int .u16 p]) :: isW4 (.pointer (some ⟨bx, 2, none⟩)) :: isW4 (.slice mA mn mc) :: isAll4 :: isAll4 :: isAll4 :: isAll4 :: isW4 (.pointer (some ⟨pb, 0, none⟩)) :: isW4 (.pointer (some ⟨pb, 2, none⟩)) :: isAll4 :: [])) (fun L x q => PJ wq pb bx (.slice A N cp) l (⟨most, room, ⟨pa, pp⟩, l.map Mc.ml, lost, told⟩ : Ub) ⟨a, p⟩ md (L 4) (L 9) (L 10) (L 11) (L 12) (L 15) (x 46) (x 51) (x 52) (x 53) (x 54) q) (by kernel_rfl) (by kernel_rfl) (fun x => ?frameEqS8) (fun L x hL => ?_) ?_ ?_
    case frameEqS8 => go_simp; rfl
    · exact PJ.start (HU6.out.grow (Grow.drew _)) (Grow.drew _) (hL 4 (by decide)) (hL 9 (by decide)) (hL 10 (by decide)) (hL 11 (by decide)) (hL 12 (by decide)) (hL 15 (by decide)) HBX.out.1
    · refine ⟨fun L x w1 hJ hl hd post hp => ?_, fun L x w1 hJ hl hd post hp => ?_, fun L x w1 hJ hl hd post hp => ?_, fun L x w1 hJ hl hd post hp => ?_, fun L x w1 hJ hl hd post hp => ?_, fun L x w1 hJ hl hd post hp => ?_, fun L x w1 hJ hl hd post hp => ?_, fun L x w1 hJ hl hd post hp => ?_, fun L x w1 hJ hl hd post hp => ?_, fun L x w1 hJ hl hd post hp => ?_, fun L x w1 hJ hl hd post hp => ?_, fun L x w1 hJ hl hd post hp => ?_, fun L x w1 hJ hl hd post hp => ?_, fun L x w1 hJ hl hd post hp => ?_, fun L x w1 hJ hl hd post hp => ?_, fun L x w1 hJ hl hd post hp => ?_, trivial⟩
      · -- 0: slot 42: Op.move t0
        clear hd
        go_simp
        exact hp _ _ rfl hJ
      · -- 1: slot 43: Op.move t0
        clear hd
        go_simp
        exact hp _ _ rfl hJ
      · -- 2: slot 44: Op.nilCheck t43
        have h43 : x 43 = .pointer (some ⟨pb, 0, none⟩) := (hd 1 (by decide)).2 _ rfl
        clear hd
        go_simp
        exact hp _ _ rfl hJ
      · -- 3: slot 45: Op.fieldAddr 63 t44 2
        have h44 : x 44 = .pointer (some ⟨pb, 0, none⟩) := (hd 2 (by decide)).2 _ rfl
        clear hd
        go_simp
        exact hp _ _ rfl hJ
      · -- 4: slot 46: Op.load 35 t45
        have h45 : x 45 = .pointer (some ⟨pb, 2, none⟩) := (hd 3 (by decide)).2 _ rfl
        clear hd
        have d2 := (hJ.n4 hl).1.blk.c2
        go_simp
        exact hp _ _ trivial (hJ.l4 hl)
      · -- 5: slot 47: Op.fieldAddr 40 t3 0
        clear hd
        go_simp
        exact hp _ _ rfl hJ
      · -- 6: slot 48: Op.load 34 t47
        have h47 : x 47 = .pointer (some ⟨bx, 0, none⟩) := (hd 5 (by decide)).2 _ rfl
        clear hd
        have y0 := (cell_of_row w1 bx 0 _ _ _ (hJ.par.trans HP.out)).trans rfl
        have y1 := (cell_of_row w1 bx 1 _ _ _ (hJ.par.trans HP.out)).trans rfl
        go_simp
        exact hp _ _ rfl hJ
      · -- 7: slot 49: Op.fieldAddr 40 t3 1
        clear hd
        go_simp
        exact hp _ _ rfl hJ
      · -- 8: slot 50: Op.load 38 t49
        have h49 : x 49 = .pointer (some ⟨bx, 2, none⟩) := (hd 7 (by decide)).2 _ rfl
        clear hd
        have y2 := (cell_of_row w1 bx 2 _ _ _ (hJ.par.trans HP.out)).trans rfl
        go_simp
        exact hp _ _ rfl hJ
      · -- 9: slot 51: Op.call { value (Operand.func 25), args := #[t50], argTypes := #[38] }
        have h50 : x 50 = .slice mA mn mc := (hd 8 (by decide)).2 _ rfl
        clear hd
        go_simp
        refine (cloneB w1 mA mn mc md (HM.out.grow (hJ.n9 hl).2) HLen.out).mono ?_
        rintro e w2 ⟨v, rfl, ho, hs, hg⟩
        exact ⟨_, rfl, hp _ _ trivial (hJ.l9 hl HBX.out.1 ho hs hg)⟩
      · -- 10: slot 52: Op.build 40 #[(0, t48), (1, t51)]
        have h48 : x 48 = .agg #[.int .u32 a, .int .u16 p] := (hd 6 (by decide)).2 _ rfl
        have l9 : L 9 = true := (hd 9 (by decide)).1
        clear hd
        obtain ⟨A5, n5, c5, e5⟩ := hJ.e9 l9
        go_simp
        exact hp _ _ trivial (hJ.l10 hl l9 e5)
      · -- 11: slot 53: Op.buildSlice 35 1 #[(0, t52)]
        have l10 : L 10 = true := (hd 10 (by decide)).1
        clear hd
        obtain ⟨A5, n5, c5, e5, e6⟩ := hJ.w52 l10
        go_simp
        exact hp _ _ trivial (hJ.l11 hl l10 HBX.out.1 e5)
      · -- 12: slot 54: Op.call { builtin append, args := #[t46, t53], argTypes := #[35, 35] }
        have l4 : L 4 = true := (hd 4 (by decide)).1
        have l11 : L 11 = true := (hd 11 (by decide)).1
        clear hd
        exact upon_appM w1 rfl (.tmp 46) (.tmp 53) rfl hJ rfl rfl hl l4 l11 HBX.out HLen2.out (fun v w2 h => hp v w2 trivial h)
      · -- 13: slot 55: Op.nilCheck t42
        have h42 : x 42 = .pointer (some ⟨pb, 0, none⟩) := (hd 0 (by decide)).2 _ rfl
        clear hd
        go_simp
        exact hp _ _ rfl hJ
      · -- 14: slot 56: Op.fieldAddr 63 t55 2
        have h55 : x 55 = .pointer (some ⟨pb, 0, none⟩) := (hd 13 (by decide)).2 _ rfl
        clear hd
        go_simp
        exact hp _ _ rfl hJ
      · -- 15: slot none:0: Op.store 35 t56 t54
        have h56 : x 56 = .pointer (some ⟨pb, 2, none⟩) := (hd 14 (by decide)).2 _ rfl
        have l12 : L 12 = true := (hd 12 (by decide)).1
        clear hd
        obtain ⟨A5, n5, c5, e5⟩ := (hJ.e12 l12 hl).form
        have d2 := (hJ.e12 l12 hl).blk.c2
        have s2 := (hJ.e12 l12 hl).blk.fz 2
        go_simp
        exact hp _ _ trivial (hJ.l15 hl l12 HBX.out e5 HLq.out)
    · intro L x w1 hL hJ hd
      have H9 := Lib.hid (hJ.e15 (hL 15 (by decide)))
      clear hJ hL hd
      obtain ⟨vL', l', k1, k2, k3⟩ := H9.out
      have H8 : Hid (UdP w w1 pb (.slice A N cp) l (puU (⟨most, room, ⟨pa, pp⟩, l.map Mc.ml, lost, told⟩ : Ub) ⟨⟨a, p⟩, md⟩)) := by
        rw [HE.out.2]
        exact ⟨vL', l', k1, (ChgS.of_grow HG6.out).tr k2, fun b hb => (k3 b hb).imp id fun e => Nat.le_trans HG6.out.size e⟩
      clear H9 k1 k2 k3
      go_wp2_with fail
      go_ret
      exact ⟨by rw [HE.out.1]; rfl, H8.out⟩
end Go.Proofs.Ytkblgigpgpjjlaa
