/- A REGION THAT DRAWS ITS ORDER, whose own operations only read, and whose callees hand back one value and leave all old memory as it was: walked once. The class of worlds: those in which all of w reads as it did. Nothing here is trusted. -/
import Derived.Test.YtpbnpkbmefjiaaaLoose
import Derived.Deep.QuietTactic
import Derived.BigQuiet
namespace Go.Proofs.Ytpbnpkbmefjiaaa
set_option linter.unusedVariables false
open Go.RowKit

/-- A world in which all that w holds reads as it did. -/
structure Gw (w : World) where
  v : World
  h : Grow w v
instance (w : World) : Inhabited (Gw w) := ⟨⟨w, Grow.refl w⟩⟩

theorem wp_region_gw {P : Program} {id : Nat} {Q : Exit → Act → World → Prop} {a : Act} {w : World} {l : List Oper} (hm : P.follows .mixedOrders = true) (hB : Region.lexB .any l.toArray = true)
    (h : wpQuiet P l.toArray (fun w' => ∃ p : Gw w, w' = p.v) (fun a' => ∀ w', (∃ p : Gw w, w' = p.v) → Q .normal a' w') l a) : (Code.region id l.toArray true).wp P Q a w :=
  wp_region_quiet (C := fun w' => ∃ p : Gw w, w' = p.v) hm hB ⟨⟨w.drew, Grow.drew w⟩, rfl⟩ (by simpa using h)

theorem Calls.gw {P : Program} {f : FuncId} {args : Array Value} {w : World} {p : Gw w} {v : Value} (h : Calls P f args p.v fun e w' => e = .returned v ∧ Grow p.v w') :
    Calls P f args p.v fun e w'' => e = .returned v ∧ ∃ q : Gw w, w'' = q.v :=
  h.mono fun _ w' ⟨he, hg⟩ => ⟨he, ⟨w', p.h.trans hg⟩, rfl⟩
theorem Calls.gw_same {P : Program} {f : FuncId} {args : Array Value} {w : World} {p : Gw w} {v : Value} (h : Calls P f args p.v fun e w' => e = .returned v ∧ p.v = w') :
    Calls P f args p.v fun e w'' => e = .returned v ∧ ∃ q : Gw w, w'' = q.v :=
  h.mono fun _ w' ⟨he, hg⟩ => ⟨he, p, hg.symm⟩
theorem Gw.cell {w : World} {a : Addr} {v : Value} (hb : a.block < w.heap.size) (h : w.cell? a = some v) (p : Gw w) : p.v.cell? a = some v := (p.h.cell hb).trans h
end Go.Proofs.Ytpbnpkbmefjiaaa
