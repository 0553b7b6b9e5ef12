/- The program's box of datagrams: all that the laws' walks ask of it. -/
import Derived.Test.YtkblgigpgpjjlaaUpMeet
namespace Go.Proofs.Ytkblgigpgpjjlaa
set_option linter.unusedVariables false
set_option linter.unusedSimpArgs false
open Go.ChangeShapes Go.WideShapes Go.ChangeAt Go.RowKit

/-- The box as the laws' walks see it. -/
def Upp : UbT := fun w S pb u => UOk u ∧ ∃ vL l, UdS w pb vL l u ∧ ∀ b, S b ↔ SOf pb vL l b
theorem Upp.post {w w' : World} {S : Nat → Prop} {pb : Nat} {vL : Value} {l : List Mc} {u : Ub} (hS : ∀ b, S b ↔ SOf pb vL l b) (ok : UOk u) (h : UdP w w' pb vL l u) : UPost Upp w w' S pb u := by
  obtain ⟨vL', l', h1, h2, h3⟩ := h
  refine ⟨⟨h2.os, h2.tape, h2.output, h2.size, fun i hi hs => h2.block i hi fun k => hs ((hS i).2 k)⟩, SOf pb vL' l', ⟨ok, vL', l', h1, fun b => Iff.rfl⟩, fun b hb => ?_⟩
  exact (h3 b hb).imp (hS b).2 id
theorem takeUN (w : World) (n : Int) : Calls Try.prog 12 #[.pointer none, .int .i64 n] w fun e' w' => e' = .returned (.tuple #[.agg #[.int .u32 0, .int .u16 0, .slice none 0 0], .int .i64 0, .int .i64 7]) ∧ Grow w w' := by
  have hb : MlB (w.alloc (.cells #[.int .u32 0, .int .u16 0, .slice none 0 0] 40)) w.heap.size 0 0 (.slice none 0 0) := heap_alloc_new w _
  have HG := Lib.hid (And.intro hb (Grow.alloc w (.cells #[.int .u32 0, .int .u16 0, .slice none 0 0] 40)))
  clear hb
  go_enter Try.func12, Try.ntmps12
  go_wp2_with fail
  refine bodyPost_ret (results_m3 rfl _ _ w.heap.size 0 0 (.slice none 0 0) _ _ rfl rfl rfl HG.out.1) rfl ?_
  exact ⟨rfl, HG.out.2⟩
theorem udpIf : UIf Upp where
  ok := fun h => h.1
  keep := fun {w w' S pb u} h _ hk => by
    obtain ⟨ok, vL, l, h1, h2⟩ := h
    exact ⟨ok, vL, l, h1.keep fun b hb => hk b ((h2 b).2 hb), h2⟩
  lt := fun {w S pb u} h b hb => by
    obtain ⟨ok, vL, l, h1, h2⟩ := h
    exact h1.lt b ((h2 b).1 hb)
  new := fun w most room h1 h2 => (newU w most room h1 h2).mono fun e w' ⟨he, hw⟩ => by
    have hb := heap_alloc_new w (.cells (udA most room (.slice none 0 0) 0 0 0 0) 63)
    subst hw
    refine ⟨w.heap.size, SOf w.heap.size (.slice none 0 0) [], he, ⟨uok_none h1 h2, .slice none 0 0, [], ⟨hb, owg_none _ _, rfl, fun x hx => by cases hx⟩, fun b => Iff.rfl⟩, fun b hb => ?_, Grow.alloc _ _⟩
    rcases hb with rfl | hb | ⟨x, hx, _⟩
    · exact Nat.le_refl _
    · cases hb
    · cases hx
  newNot := fun w most room _ _ h => newNotU w most room h
  meet := fun {w S pb u} h hf e _ => by
    obtain ⟨ok, vL, l, h1, h2⟩ := h
    exact (meetP h1 ok hf e).mono fun e' w' ⟨he, hp⟩ => ⟨he, Upp.post h2 (ok.me e) hp⟩
  put := fun {w S pb u} h hf f v d _ hv _ hl => by
    obtain ⟨ok, vL, l, h1, h2⟩ := h
    obtain ⟨A, c, rfl, -⟩ := hv.form
    exact (putP h1 ok hf f A _ c d hv hl).mono fun e' w' ⟨he, hp⟩ => ⟨he, Upp.post h2 (ok.pu ⟨f, d⟩) hp⟩
  take := fun {w S pb u} h n hn => by
    obtain ⟨ok, vL, l, h1, h2⟩ := h
    exact (takeP h1 ok n hn).mono fun e' w' ⟨v, he, hb, hp⟩ => ⟨v, he, hb, Upp.post h2 (ok.tk n) hp⟩
  tell := fun {w S pb u} h n _ => by
    obtain ⟨ok, vL, l, h1, h2⟩ := h
    exact (tellP h1 n).mono fun e' w' ⟨he, hp⟩ => ⟨he, Upp.post h2 (ok.te n) hp⟩
  peer := fun {w S pb u} h => by
    obtain ⟨ok, vL, l, h1, h2⟩ := h
    exact peerP h1
  len := fun {w S pb u} h => by
    obtain ⟨ok, vL, l, h1, h2⟩ := h
    exact lenP h1
  held := fun {w S pb u} h => by
    obtain ⟨ok, vL, l, h1, h2⟩ := h
    exact heldP h1 ok
  lost := fun {w S pb u} h => by
    obtain ⟨ok, vL, l, h1, h2⟩ := h
    exact lostP h1
  ready := fun {w S pb u} h => by
    obtain ⟨ok, vL, l, h1, h2⟩ := h
    exact readyP h1
  meetNil := meetN
  putNil := fun w f v d hv => by
    obtain ⟨A, c, rfl, -⟩ := hv.form
    exact putN w f A _ c
  takeNil := takeUN
  tellNil := tellN
  peerNil := peerUN
  lenNil := lenUN
  heldNil := heldUN
  lostNil := lostUN
  readyNil := readyUN
end Go.Proofs.Ytkblgigpgpjjlaa
