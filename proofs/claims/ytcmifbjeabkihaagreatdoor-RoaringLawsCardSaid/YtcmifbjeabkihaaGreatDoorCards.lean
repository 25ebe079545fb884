/-
  DERIVED. GIVEN WITH THE SEED: THE CARDS: each row of YtcmifbjeabkihaaGreatDoorRows.lean that lists a variable, with what it lists TIED to the program's text (the seventh form; the later family's looks); each row that meets fmt, with fmt's text TOLD by the authors' own Lean function (tested against real Go, not proved from fmt's source: count such statements apart). THE CARD IS WHAT COUNTS. Prove the row's statement (the work); the ties are given (YtcmifbjeabkihaaGreatDoorTie.lean); close each card by the builder's one call (the guide's Derived/Test/ToyasCard.lean, 'card_holds'). Laid BY PROGRAM, IN A SANDBOX (cutbox-door.mjs). By AI agents, Wed Nov 11 2026. No macro, syntax, notation, axiom, sorry.
-/
import Derived.Test.YtcmifbjeabkihaaGreatDoorRows
import GoSem.ClaimSeven
namespace Go.Proofs.YtcmifbjeabkihaaGreatDoor
namespace Rows

/-- THE TIED CARD OF 'isinglasslaw08.RoaringPlays'. -/
def roaringPlaysCard : Claim7 := { stood := { row := roaringPlaysRow, standIns := [], harness := (true, "fe15ceb49aee6ff14b03ea0cc2f39ba425a9e05f1c9f88bfcff4f6453f3f12ca"), looks := false }, kinds := [], alts := [], laidByText := true, laidKinds := [.data], laidTests := true, laidLooks := .later }
def RoaringPlaysCardSaid : Prop := Claim7.holds Tryz.pinned (.plain (OpenSpec.ofChange roaringPlaysSpec)) roaringPlaysCard

/-- THE TIED CARD OF 'isinglasslaw08.RoaringTells'. -/
def roaringTellsCard : Claim7 := { stood := { row := roaringTellsRow, standIns := [], harness := (true, "fe15ceb49aee6ff14b03ea0cc2f39ba425a9e05f1c9f88bfcff4f6453f3f12ca"), looks := false }, kinds := [], alts := [], laidByText := true, laidKinds := [.data], laidTests := true, laidLooks := .later }
def RoaringTellsCardSaid : Prop := Claim7.holds Tryz.pinned (.plain (OpenSpec.ofChange roaringTellsSpec)) roaringTellsCard

/-- THE TIED CARD OF 'isinglasslaw08.RoaringJoins'. -/
def roaringJoinsCard : Claim7 := { stood := { row := roaringJoinsRow, standIns := [], harness := (true, "fe15ceb49aee6ff14b03ea0cc2f39ba425a9e05f1c9f88bfcff4f6453f3f12ca"), looks := false }, kinds := [], alts := [], laidByText := true, laidKinds := [.data], laidTests := true, laidLooks := .later }
def RoaringJoinsCardSaid : Prop := Claim7.holds Tryz.pinned (.plain (OpenSpec.ofChange roaringJoinsSpec)) roaringJoinsCard

/-- THE TIED CARD OF 'isinglasslaw08.RoaringLaws'. -/
def roaringLawsCard : Claim7 := { stood := { row := roaringLawsRow, standIns := [], harness := (true, "fe15ceb49aee6ff14b03ea0cc2f39ba425a9e05f1c9f88bfcff4f6453f3f12ca"), looks := false }, kinds := [], alts := [], laidByText := true, laidKinds := [.data], laidTests := true, laidLooks := .later }
def RoaringLawsCardSaid : Prop := Claim7.holds Tryz.pinned (.plain (OpenSpec.ofChange roaringLawsSpec)) roaringLawsCard

/-- THE TIED CARD OF 'isinglasslaw08.RoaringCuts'. -/
def roaringCutsCard : Claim7 := { stood := { row := roaringCutsRow, standIns := [], harness := (true, "fe15ceb49aee6ff14b03ea0cc2f39ba425a9e05f1c9f88bfcff4f6453f3f12ca"), looks := false }, kinds := [], alts := [], laidByText := true, laidKinds := [.data], laidTests := true, laidLooks := .later }
def RoaringCutsCardSaid : Prop := Claim7.holds Tryz.pinned (.plain (OpenSpec.ofChange roaringCutsSpec)) roaringCutsCard

/-- THE TIED CARD OF 'isinglasslaw08.RoaringTop'. -/
def roaringTopCard : Claim7 := { stood := { row := roaringTopRow, standIns := [], harness := (true, "fe15ceb49aee6ff14b03ea0cc2f39ba425a9e05f1c9f88bfcff4f6453f3f12ca"), looks := false }, kinds := [], alts := [], laidByText := true, laidKinds := [.data], laidTests := true, laidLooks := .later }
def RoaringTopCardSaid : Prop := Claim7.holds Tryz.pinned (.plain (OpenSpec.ofChange roaringTopSpec)) roaringTopCard

/-- THE SECOND FORM's CARD OF 'isinglasslaw08.RoaringPlays'. -/
def roaringPlaysUptoCard : Claim7 := { stood := { row := roaringPlaysUptoRow, standIns := [], harness := (true, "fe15ceb49aee6ff14b03ea0cc2f39ba425a9e05f1c9f88bfcff4f6453f3f12ca"), looks := false }, kinds := [], alts := [], laidByText := true, laidKinds := [.data], laidTests := true, laidLooks := .later }
def RoaringPlaysUptoCardSaid : Prop := Claim7.holds Tryz.pinned (.plain (OpenSpec.upto roaringPlaysSpec)) roaringPlaysUptoCard

/-- THE SECOND FORM's CARD OF 'isinglasslaw08.RoaringTells'. -/
def roaringTellsUptoCard : Claim7 := { stood := { row := roaringTellsUptoRow, standIns := [], harness := (true, "fe15ceb49aee6ff14b03ea0cc2f39ba425a9e05f1c9f88bfcff4f6453f3f12ca"), looks := false }, kinds := [], alts := [], laidByText := true, laidKinds := [.data], laidTests := true, laidLooks := .later }
def RoaringTellsUptoCardSaid : Prop := Claim7.holds Tryz.pinned (.plain (OpenSpec.upto roaringTellsSpec)) roaringTellsUptoCard

/-- THE SECOND FORM's CARD OF 'isinglasslaw08.RoaringJoins'. -/
def roaringJoinsUptoCard : Claim7 := { stood := { row := roaringJoinsUptoRow, standIns := [], harness := (true, "fe15ceb49aee6ff14b03ea0cc2f39ba425a9e05f1c9f88bfcff4f6453f3f12ca"), looks := false }, kinds := [], alts := [], laidByText := true, laidKinds := [.data], laidTests := true, laidLooks := .later }
def RoaringJoinsUptoCardSaid : Prop := Claim7.holds Tryz.pinned (.plain (OpenSpec.upto roaringJoinsSpec)) roaringJoinsUptoCard

/-- THE SECOND FORM's CARD OF 'isinglasslaw08.RoaringLaws'. -/
def roaringLawsUptoCard : Claim7 := { stood := { row := roaringLawsUptoRow, standIns := [], harness := (true, "fe15ceb49aee6ff14b03ea0cc2f39ba425a9e05f1c9f88bfcff4f6453f3f12ca"), looks := false }, kinds := [], alts := [], laidByText := true, laidKinds := [.data], laidTests := true, laidLooks := .later }
def RoaringLawsUptoCardSaid : Prop := Claim7.holds Tryz.pinned (.plain (OpenSpec.upto roaringLawsSpec)) roaringLawsUptoCard

/-- THE SECOND FORM's CARD OF 'isinglasslaw08.RoaringCuts'. -/
def roaringCutsUptoCard : Claim7 := { stood := { row := roaringCutsUptoRow, standIns := [], harness := (true, "fe15ceb49aee6ff14b03ea0cc2f39ba425a9e05f1c9f88bfcff4f6453f3f12ca"), looks := false }, kinds := [], alts := [], laidByText := true, laidKinds := [.data], laidTests := true, laidLooks := .later }
def RoaringCutsUptoCardSaid : Prop := Claim7.holds Tryz.pinned (.plain (OpenSpec.upto roaringCutsSpec)) roaringCutsUptoCard

/-- THE SECOND FORM's CARD OF 'isinglasslaw08.RoaringTop'. -/
def roaringTopUptoCard : Claim7 := { stood := { row := roaringTopUptoRow, standIns := [], harness := (true, "fe15ceb49aee6ff14b03ea0cc2f39ba425a9e05f1c9f88bfcff4f6453f3f12ca"), looks := false }, kinds := [], alts := [], laidByText := true, laidKinds := [.data], laidTests := true, laidLooks := .later }
def RoaringTopUptoCardSaid : Prop := Claim7.holds Tryz.pinned (.plain (OpenSpec.upto roaringTopSpec)) roaringTopUptoCard
end Rows
end Go.Proofs.YtcmifbjeabkihaaGreatDoor
