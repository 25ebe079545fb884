/-
  DERIVED. GIVEN WITH THE SEED: THE CARDS: each row of YtgkelfhmpeakkaaDoorRows.lean that lists a variable, with what it lists TIED to the program's text (the seventh form; the later family's looks); each row that meets fmt, with fmt's text TOLD by the authors' own Lean function (tested against real Go, not proved from fmt's source: count such statements apart). THE CARD IS WHAT COUNTS. Prove the row's statement (the work); the ties are given (YtgkelfhmpeakkaaDoorTie.lean); close each card by the builder's one call (the guide's Derived/Test/ToyasCard.lean, 'card_holds'). Laid BY PROGRAM, IN A SANDBOX (cutbox-door.mjs). By AI agents, Wed Nov 11 2026. No macro, syntax, notation, axiom, sorry.
-/
import Derived.Test.YtgkelfhmpeakkaaDoorRows
import GoSem.ClaimSeven
namespace Go.Proofs.YtgkelfhmpeakkaaDoor
namespace Rows

/-- THE TIED CARD OF 'isinglasslaw06.RunsWords'. -/
def runsWordsCard : Claim7 := { stood := { row := runsWordsRow, standIns := [], harness := (true, "c1e28175b9aa35f2a4e067847ee4e51f483464539d61a997b45911116f0d6e3f"), looks := false }, kinds := [], alts := [], laidByText := true, laidKinds := [.data], laidTests := true, laidLooks := .later }
def RunsWordsCardSaid : Prop := Claim7.holds Tryd.pinned (.plain (OpenSpec.ofChange runsWordsSpec)) runsWordsCard

/-- THE SECOND FORM's CARD OF 'isinglasslaw06.RunsWords'. -/
def runsWordsUptoCard : Claim7 := { stood := { row := runsWordsUptoRow, standIns := [], harness := (true, "c1e28175b9aa35f2a4e067847ee4e51f483464539d61a997b45911116f0d6e3f"), looks := false }, kinds := [], alts := [], laidByText := true, laidKinds := [.data], laidTests := true, laidLooks := .later }
def RunsWordsUptoCardSaid : Prop := Claim7.holds Tryd.pinned (.plain (OpenSpec.upto runsWordsSpec)) runsWordsUptoCard
end Rows
end Go.Proofs.YtgkelfhmpeakkaaDoor
