/- The program's contracts, as the laws' walks ask for them. -/
import Derived.Test.YtkambcjinidomaaBpNw
namespace Go.Proofs.Ytkambcjinidomaa
set_option linter.unusedVariables false
set_option linter.unusedSimpArgs false
open Go.ChangeShapes Go.WideShapes Go.ChangeAt Go.RowKit

theorem poolIf : BIf Bpp where
  ok := fun h => h.1
  keep := fun h k => ⟨h.1, by obtain ⟨gs, m, v, h2⟩ := h.2; exact ⟨gs, m, v, h2.keep k⟩⟩
  new := newP
  prov := fun h hb g a n s _ ha hn _ => by obtain ⟨hp, gs, m, v, h2⟩ := h; exact provP h2 hp hb g a n s ha hn
  take := fun h hb g _ => by obtain ⟨hp, gs, m, v, h2⟩ := h; exact takeP h2 hp hb g
  give := fun h hb g x _ _ => by obtain ⟨hp, gs, m, v, h2⟩ := h; exact giveP h2 hp hb g x
  rem := fun h hb g n _ hn => by obtain ⟨hp, gs, m, v, h2⟩ := h; exact remP h2 hp hb g n hn
  state := fun h g x _ _ => by obtain ⟨hp, gs, m, v, h2⟩ := h; exact stateP h2 hp g x
  free := fun h g _ => by obtain ⟨hp, gs, m, v, h2⟩ := h; exact freeP h2 hp g
  out := fun h g _ => by obtain ⟨hp, gs, m, v, h2⟩ := h; exact outP h2 hp g
  provNil := provN
  takeNil := takeN
  giveNil := giveN
  remNil := remN
  stateNil := stateN
  freeNil := freeN
  outNil := outN
end Go.Proofs.Ytkambcjinidomaa
