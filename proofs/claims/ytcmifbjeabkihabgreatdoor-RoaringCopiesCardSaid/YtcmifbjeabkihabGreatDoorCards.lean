/-
  DERIVED. GIVEN WITH THE SEED: THE CARDS: each row of YtcmifbjeabkihabGreatDoorRows.lean that lists a variable, with what it lists TIED to the program's text (the seventh form; the later family's looks); each row that meets fmt, with fmt's text TOLD by the authors' own Lean function (tested against real Go, not proved from fmt's source: count such statements apart). THE CARD IS WHAT COUNTS. Prove the row's statement (the work); the ties are given (YtcmifbjeabkihabGreatDoorTie.lean); close each card by the builder's one call (the guide's Derived/Test/ToyasCard.lean, 'card_holds'). Laid BY PROGRAM, IN A SANDBOX (cutbox-door.mjs). By AI agents, Wed Nov 11 2026. No macro, syntax, notation, axiom, sorry.
-/
import Derived.Test.YtcmifbjeabkihabGreatDoorRows
import GoSem.ClaimSeven
namespace Go.Proofs.YtcmifbjeabkihabGreatDoor
namespace Rows

/-- THE TIED CARD OF 'isinglasslaw08.RoaringCopies'. -/
def roaringCopiesCard : Claim7 := { stood := { row := roaringCopiesRow, standIns := [], harness := (true, "62074a495c73b2a05126debecc9723eff19a59eee4f7c827060c369557ff3ff4"), looks := false }, kinds := [], alts := [], laidByText := true, laidKinds := [.data], laidTests := true, laidLooks := .later }
def RoaringCopiesCardSaid : Prop := Claim7.holds Tryz.pinned (.plain (OpenSpec.ofChange roaringCopiesSpec)) roaringCopiesCard

/-- THE SECOND FORM's CARD OF 'isinglasslaw08.RoaringCopies'. -/
def roaringCopiesUptoCard : Claim7 := { stood := { row := roaringCopiesUptoRow, standIns := [], harness := (true, "62074a495c73b2a05126debecc9723eff19a59eee4f7c827060c369557ff3ff4"), looks := false }, kinds := [], alts := [], laidByText := true, laidKinds := [.data], laidTests := true, laidLooks := .later }
def RoaringCopiesUptoCardSaid : Prop := Claim7.holds Tryz.pinned (.plain (OpenSpec.upto roaringCopiesSpec)) roaringCopiesUptoCard
end Rows
end Go.Proofs.YtcmifbjeabkihabGreatDoor
