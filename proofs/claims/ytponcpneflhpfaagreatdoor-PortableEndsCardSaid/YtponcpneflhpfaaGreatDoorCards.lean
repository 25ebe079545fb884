/-
  DERIVED. GIVEN WITH THE SEED: THE CARDS: each row of YtponcpneflhpfaaGreatDoorRows.lean that lists a variable, with what it lists TIED to the program's text (the seventh form; the later family's looks); each row that meets fmt, with fmt's text TOLD by the authors' own Lean function (tested against real Go, not proved from fmt's source: count such statements apart). THE CARD IS WHAT COUNTS. Prove the row's statement (the work); the ties are given (YtponcpneflhpfaaGreatDoorTie.lean); close each card by the builder's one call (the guide's Derived/Test/ToyasCard.lean, 'card_holds'). Laid BY PROGRAM, IN A SANDBOX (cutbox-door.mjs). By AI agents, Wed Nov 11 2026. No macro, syntax, notation, axiom, sorry.
-/
import Derived.Test.YtponcpneflhpfaaGreatDoorRows
import GoSem.ClaimSeven
namespace Go.Proofs.YtponcpneflhpfaaGreatDoor
namespace Rows

/-- THE TIED CARD OF 'isinglasslaw08.RoaringPlays'. -/
def roaringPlaysCard : Claim7 := { stood := { row := roaringPlaysRow, standIns := [], harness := (true, "8512c2b41b4dd136368aa88e118ce99092438cc07446bf8ef05d196ebbe97bf0"), looks := false }, kinds := [], alts := [], laidByText := true, laidKinds := [.data], laidTests := true, laidLooks := .later }
def RoaringPlaysCardSaid : Prop := Claim7.holds Tryz.pinned (.plain (OpenSpec.ofChange roaringPlaysSpec)) roaringPlaysCard

/-- THE TIED CARD OF 'isinglasslaw08.RoaringTells'. -/
def roaringTellsCard : Claim7 := { stood := { row := roaringTellsRow, standIns := [], harness := (true, "8512c2b41b4dd136368aa88e118ce99092438cc07446bf8ef05d196ebbe97bf0"), looks := false }, kinds := [], alts := [], laidByText := true, laidKinds := [.data], laidTests := true, laidLooks := .later }
def RoaringTellsCardSaid : Prop := Claim7.holds Tryz.pinned (.plain (OpenSpec.ofChange roaringTellsSpec)) roaringTellsCard

/-- THE TIED CARD OF 'isinglasslaw08.RoaringJoins'. -/
def roaringJoinsCard : Claim7 := { stood := { row := roaringJoinsRow, standIns := [], harness := (true, "8512c2b41b4dd136368aa88e118ce99092438cc07446bf8ef05d196ebbe97bf0"), looks := false }, kinds := [], alts := [], laidByText := true, laidKinds := [.data], laidTests := true, laidLooks := .later }
def RoaringJoinsCardSaid : Prop := Claim7.holds Tryz.pinned (.plain (OpenSpec.ofChange roaringJoinsSpec)) roaringJoinsCard

/-- THE TIED CARD OF 'isinglasslaw09.PortableWrites'. -/
def portableWritesCard : Claim7 := { stood := { row := portableWritesRow, standIns := [], harness := (true, "8512c2b41b4dd136368aa88e118ce99092438cc07446bf8ef05d196ebbe97bf0"), looks := false }, kinds := [], alts := [], laidByText := true, laidKinds := [.data], laidTests := true, laidLooks := .later }
def PortableWritesCardSaid : Prop := Claim7.holds Tryz.pinned (.plain (OpenSpec.ofChange portableWritesSpec)) portableWritesCard

/-- THE TIED CARD OF 'isinglasslaw09.PortableSmall'. -/
def portableSmallCard : Claim7 := { stood := { row := portableSmallRow, standIns := [], harness := (true, "8512c2b41b4dd136368aa88e118ce99092438cc07446bf8ef05d196ebbe97bf0"), looks := false }, kinds := [], alts := [], laidByText := true, laidKinds := [.data], laidTests := true, laidLooks := .later }
def PortableSmallCardSaid : Prop := Claim7.holds Tryz.pinned (.plain (OpenSpec.ofChange portableSmallSpec)) portableSmallCard

/-- THE TIED CARD OF 'isinglasslaw09.PortableEnds'. -/
def portableEndsCard : Claim7 := { stood := { row := portableEndsRow, standIns := [], harness := (true, "8512c2b41b4dd136368aa88e118ce99092438cc07446bf8ef05d196ebbe97bf0"), looks := false }, kinds := [], alts := [], laidByText := true, laidKinds := [.data], laidTests := true, laidLooks := .later }
def PortableEndsCardSaid : Prop := Claim7.holds Tryz.pinned (.plain (OpenSpec.ofChange portableEndsSpec)) portableEndsCard

/-- THE TIED CARD OF 'isinglasslaw09.PortableKinds'. -/
def portableKindsCard : Claim7 := { stood := { row := portableKindsRow, standIns := [], harness := (true, "8512c2b41b4dd136368aa88e118ce99092438cc07446bf8ef05d196ebbe97bf0"), looks := false }, kinds := [], alts := [], laidByText := true, laidKinds := [.data], laidTests := true, laidLooks := .later }
def PortableKindsCardSaid : Prop := Claim7.holds Tryz.pinned (.plain (OpenSpec.ofChange portableKindsSpec)) portableKindsCard

/-- THE SECOND FORM's CARD OF 'isinglasslaw08.RoaringPlays'. -/
def roaringPlaysUptoCard : Claim7 := { stood := { row := roaringPlaysUptoRow, standIns := [], harness := (true, "8512c2b41b4dd136368aa88e118ce99092438cc07446bf8ef05d196ebbe97bf0"), looks := false }, kinds := [], alts := [], laidByText := true, laidKinds := [.data], laidTests := true, laidLooks := .later }
def RoaringPlaysUptoCardSaid : Prop := Claim7.holds Tryz.pinned (.plain (OpenSpec.upto roaringPlaysSpec)) roaringPlaysUptoCard

/-- THE SECOND FORM's CARD OF 'isinglasslaw08.RoaringTells'. -/
def roaringTellsUptoCard : Claim7 := { stood := { row := roaringTellsUptoRow, standIns := [], harness := (true, "8512c2b41b4dd136368aa88e118ce99092438cc07446bf8ef05d196ebbe97bf0"), looks := false }, kinds := [], alts := [], laidByText := true, laidKinds := [.data], laidTests := true, laidLooks := .later }
def RoaringTellsUptoCardSaid : Prop := Claim7.holds Tryz.pinned (.plain (OpenSpec.upto roaringTellsSpec)) roaringTellsUptoCard

/-- THE SECOND FORM's CARD OF 'isinglasslaw08.RoaringJoins'. -/
def roaringJoinsUptoCard : Claim7 := { stood := { row := roaringJoinsUptoRow, standIns := [], harness := (true, "8512c2b41b4dd136368aa88e118ce99092438cc07446bf8ef05d196ebbe97bf0"), looks := false }, kinds := [], alts := [], laidByText := true, laidKinds := [.data], laidTests := true, laidLooks := .later }
def RoaringJoinsUptoCardSaid : Prop := Claim7.holds Tryz.pinned (.plain (OpenSpec.upto roaringJoinsSpec)) roaringJoinsUptoCard

/-- THE SECOND FORM's CARD OF 'isinglasslaw09.PortableWrites'. -/
def portableWritesUptoCard : Claim7 := { stood := { row := portableWritesUptoRow, standIns := [], harness := (true, "8512c2b41b4dd136368aa88e118ce99092438cc07446bf8ef05d196ebbe97bf0"), looks := false }, kinds := [], alts := [], laidByText := true, laidKinds := [.data], laidTests := true, laidLooks := .later }
def PortableWritesUptoCardSaid : Prop := Claim7.holds Tryz.pinned (.plain (OpenSpec.upto portableWritesSpec)) portableWritesUptoCard

/-- THE SECOND FORM's CARD OF 'isinglasslaw09.PortableSmall'. -/
def portableSmallUptoCard : Claim7 := { stood := { row := portableSmallUptoRow, standIns := [], harness := (true, "8512c2b41b4dd136368aa88e118ce99092438cc07446bf8ef05d196ebbe97bf0"), looks := false }, kinds := [], alts := [], laidByText := true, laidKinds := [.data], laidTests := true, laidLooks := .later }
def PortableSmallUptoCardSaid : Prop := Claim7.holds Tryz.pinned (.plain (OpenSpec.upto portableSmallSpec)) portableSmallUptoCard

/-- THE SECOND FORM's CARD OF 'isinglasslaw09.PortableEnds'. -/
def portableEndsUptoCard : Claim7 := { stood := { row := portableEndsUptoRow, standIns := [], harness := (true, "8512c2b41b4dd136368aa88e118ce99092438cc07446bf8ef05d196ebbe97bf0"), looks := false }, kinds := [], alts := [], laidByText := true, laidKinds := [.data], laidTests := true, laidLooks := .later }
def PortableEndsUptoCardSaid : Prop := Claim7.holds Tryz.pinned (.plain (OpenSpec.upto portableEndsSpec)) portableEndsUptoCard

/-- THE SECOND FORM's CARD OF 'isinglasslaw09.PortableKinds'. -/
def portableKindsUptoCard : Claim7 := { stood := { row := portableKindsUptoRow, standIns := [], harness := (true, "8512c2b41b4dd136368aa88e118ce99092438cc07446bf8ef05d196ebbe97bf0"), looks := false }, kinds := [], alts := [], laidByText := true, laidKinds := [.data], laidTests := true, laidLooks := .later }
def PortableKindsUptoCardSaid : Prop := Claim7.holds Tryz.pinned (.plain (OpenSpec.upto portableKindsSpec)) portableKindsUptoCard
end Rows
end Go.Proofs.YtponcpneflhpfaaGreatDoor
