/- The program's contracts, as the laws' walks ask for them. -/
import Derived.Test.YtkilfdhofbjkgaaPqNw
namespace Go.Proofs.Ytkilfdhofbjkgaa
set_option linter.unusedVariables false
set_option linter.unusedSimpArgs false
open Go.ChangeShapes Go.WideShapes Go.ChangeAt Go.RowKit

theorem portIf : OIf Ppp where
  ok := fun h => h.1
  keep := fun h k => by obtain ⟨ok, bm, jm, um, nx, h2⟩ := h; exact ⟨ok, bm, jm, um, nx, h2.keep k⟩
  new := fun w lo hi _ _ h => newP w lo hi h
  newNot := fun w lo hi _ _ h => newNotP w lo hi h
  bind := fun h hb e o _ _ => by obtain ⟨ok, bm, jm, um, nx, h2⟩ := h; exact bindP h2 ok hb e o
  unbind := fun h hb e o _ _ => by obtain ⟨ok, bm, jm, um, nx, h2⟩ := h; exact unbindP h2 ok hb e o
  pick := fun h hb a _ => by obtain ⟨ok, bm, jm, um, nx, h2⟩ := h; exact pickP h2 ok hb a
  join := fun h hb q o _ _ => by obtain ⟨ok, bm, jm, um, nx, h2⟩ := h; exact joinP h2 ok hb q o
  part := fun h hb q _ => by obtain ⟨ok, bm, jm, um, nx, h2⟩ := h; exact partP h2 ok hb q
  owner := fun h e _ => by obtain ⟨ok, bm, jm, um, nx, h2⟩ := h; exact ownerP h2 e
  talks := fun h q _ => by obtain ⟨ok, bm, jm, um, nx, h2⟩ := h; exact talksP h2 q
  find := fun h q _ => by obtain ⟨ok, bm, jm, um, nx, h2⟩ := h; exact findP h2 q
  len := fun h => by obtain ⟨ok, bm, jm, um, nx, h2⟩ := h; exact lenP h2
  bindNil := bindN
  unbindNil := unbindN
  pickNil := pickN
  joinNil := joinN
  partNil := partN
  ownerNil := ownerN
  talksNil := talksN
  findNil := findN
  lenNil := lenN
end Go.Proofs.Ytkilfdhofbjkgaa
