/-
  DERIVED. GIVEN WITH THE SEED: THE CARDS: each row of YtfefmlnlicilbaaDoorRows.lean that lists a variable, with what it lists TIED to the program's text (the seventh form; the later family's looks); each row that meets fmt, with fmt's text TOLD by the authors' own Lean function (tested against real Go, not proved from fmt's source: count such statements apart). THE CARD IS WHAT COUNTS. Prove the row's statement (the work); the ties are given (YtfefmlnlicilbaaDoorTie.lean); close each card by the builder's one call (the guide's Derived/Test/ToyasCard.lean, 'card_holds'). Laid BY PROGRAM, IN A SANDBOX (cutbox-door.mjs). By AI agents, Wed Nov 11 2026. No macro, syntax, notation, axiom, sorry.
-/
import Derived.Test.YtfefmlnlicilbaaDoorRows
import GoSem.ClaimSeven
namespace Go.Proofs.YtfefmlnlicilbaaDoor
namespace Rows

/-- THE TIED CARD OF 'isinglasslaw07.ContainerOne'. -/
def containerOneCard : Claim7 := { stood := { row := containerOneRow, standIns := [], harness := (true, "bcddc9e9522bb07e1a6d06c555376cebcf78ce77bacbd5bdf1efb46d86b44c1f"), looks := false }, kinds := [], alts := [], laidByText := true, laidKinds := [.data], laidTests := true, laidLooks := .later }
def ContainerOneCardSaid : Prop := Claim7.holds Tryd.pinned (.plain (OpenSpec.ofChange containerOneSpec)) containerOneCard

/-- THE SECOND FORM's CARD OF 'isinglasslaw07.ContainerOne'. -/
def containerOneUptoCard : Claim7 := { stood := { row := containerOneUptoRow, standIns := [], harness := (true, "bcddc9e9522bb07e1a6d06c555376cebcf78ce77bacbd5bdf1efb46d86b44c1f"), looks := false }, kinds := [], alts := [], laidByText := true, laidKinds := [.data], laidTests := true, laidLooks := .later }
def ContainerOneUptoCardSaid : Prop := Claim7.holds Tryd.pinned (.plain (OpenSpec.upto containerOneSpec)) containerOneUptoCard
end Rows
end Go.Proofs.YtfefmlnlicilbaaDoor
