/-
  NARROWER THAN 'FOR EVERY INPUT', by the rows' own cells (each row's printed sentence says how): RoaringPlays: laid · RoaringTells: laid · RoaringJoins: laid · PortableWrites: laid · PortableSmall: laid · PortableEnds: laid · PortableKinds: laid.
  DERIVED. THE GIVEN ROWS OF THIS SEAT. 7 by the template 'for every input the law returns true; each argument reads behind the call as it read before'; 0 by the template 'total and deterministic' (their statements: YtponcpneflhpfaaGreatDoorTotals.lean).
  GIVEN WITH THE SEED: the statements are not yours to turn. If you find one false, say at which input.
  Laid BY PROGRAM, IN A SANDBOX (cutbox-rows.mjs): the forced cells as the released guide's own fill.sh prints them over the translation b77e7625d13442c2… (all of the seat's roots in one cut). By AI agents, Wed Nov 11 2026. No macro, syntax, notation, axiom, sorry.
-/
import Derived.Test.YtponcpneflhpfaaGreatDoorChecked
import GoSem.Claim
import GoSem.ClaimJoined
import GoSem.ClaimMapViews
import Derived.JoinedTies
import Derived.KernelRfl
namespace Go.Proofs.YtponcpneflhpfaaGreatDoor
/- THE CELL 'sum', in the pinned program and in every row, IS THE sha256 OF THE DUMP (.gsa) THAT YtponcpneflhpfaaGreatDoorProg.lean LOADS. Nothing in Lean hashes anything: it is a label: what it is worth is what the hold of that sum in a sandbox is worth. -/
noncomputable def Tryz.pinned : Pinned := { name := "ytponcpneflhpfaagreatdoor", sum := "b77e7625d13442c24f716d033eaf6b7f02bd987de8fac91b2b9e64961868b06a", checked := Tryz.checked }
namespace Rows
def none {H : Type} : Left H := { results := [], args := [] }

/- WHAT THE LISTED PACKAGE-LEVEL VARIABLES READ AS WHEN THE CALL BEGINS. Each datum BY PROGRAM (the guide's laid-datum.mjs) off the statement by which the dump's own 'gosem.cut.vars' lays the variable. In a bare row this is a premise. The card (YtponcpneflhpfaaGreatDoorCards.lean) ties it to the program's text. -/
def laid_math_bits_deBruijn64tab {H : Type} : DataW H := .agg [.lit (.int .u8 0), .lit (.int .u8 1), .lit (.int .u8 56), .lit (.int .u8 2), .lit (.int .u8 57), .lit (.int .u8 49), .lit (.int .u8 28), .lit (.int .u8 3), .lit (.int .u8 61), .lit (.int .u8 58), .lit (.int .u8 42), .lit (.int .u8 50), .lit (.int .u8 38), .lit (.int .u8 29), .lit (.int .u8 17), .lit (.int .u8 4), .lit (.int .u8 62), .lit (.int .u8 47), .lit (.int .u8 59), .lit (.int .u8 36), .lit (.int .u8 45), .lit (.int .u8 43), .lit (.int .u8 51), .lit (.int .u8 22), .lit (.int .u8 53), .lit (.int .u8 39), .lit (.int .u8 33), .lit (.int .u8 30), .lit (.int .u8 24), .lit (.int .u8 18), .lit (.int .u8 12), .lit (.int .u8 5), .lit (.int .u8 63), .lit (.int .u8 55), .lit (.int .u8 48), .lit (.int .u8 27), .lit (.int .u8 60), .lit (.int .u8 41), .lit (.int .u8 37), .lit (.int .u8 16), .lit (.int .u8 46), .lit (.int .u8 35), .lit (.int .u8 44), .lit (.int .u8 21), .lit (.int .u8 52), .lit (.int .u8 32), .lit (.int .u8 23), .lit (.int .u8 11), .lit (.int .u8 54), .lit (.int .u8 26), .lit (.int .u8 40), .lit (.int .u8 15), .lit (.int .u8 34), .lit (.int .u8 20), .lit (.int .u8 31), .lit (.int .u8 10), .lit (.int .u8 25), .lit (.int .u8 14), .lit (.int .u8 19), .lit (.int .u8 9), .lit (.int .u8 13), .lit (.int .u8 8), .lit (.int .u8 7), .lit (.int .u8 6)]

/-- 'isinglasslaw08.RoaringPlays': WHATEVER THE INPUT: true; the input reads as it did. -/
def roaringPlaysSpec : ChangeSpec := { name := "roaringPlays", fn := fun _ => fun
  | [d] => { results := [.lit (.bool true)], args := [d] }
  | _ => none }
def roaringPlaysRow : OpenClaim := { program := "ytponcpneflhpfaagreatdoor", sum := "b77e7625d13442c24f716d033eaf6b7f02bd987de8fac91b2b9e64961868b06a", func := "isinglass/isinglasslaw08.RoaringPlays", spec := "roaringPlays", inPlace := ["slices.overlaps[isinglass/roaring.entry]"], unfollowed := true, recurses := true, named := ["math/bits.deBruijn64tab"], apart := false, laid := [("math/bits.deBruijn64tab", laid_math_bits_deBruijn64tab)] }
def RoaringPlaysSaid : Prop := roaringPlaysRow.holds Tryz.pinned (OpenSpec.ofChange roaringPlaysSpec)

/-- ITS FALSE NEIGHBOUR: 'it returns false'. Refute it at one input. -/
def roaringPlaysWrong : ChangeSpec := { name := "roaringPlays", fn := fun _ => fun
  | [d] => { results := [.lit (.bool false)], args := [d] }
  | _ => none }
def RoaringPlaysWrongFalsely : Prop := roaringPlaysRow.holds Tryz.pinned (OpenSpec.ofChange roaringPlaysWrong)

/-- 'isinglasslaw08.RoaringTells': WHATEVER THE INPUT: true; the input reads as it did. -/
def roaringTellsSpec : ChangeSpec := { name := "roaringTells", fn := fun _ => fun
  | [d1, d2] => { results := [.lit (.bool true)], args := [d1, d2] }
  | _ => none }
def roaringTellsRow : OpenClaim := { program := "ytponcpneflhpfaagreatdoor", sum := "b77e7625d13442c24f716d033eaf6b7f02bd987de8fac91b2b9e64961868b06a", func := "isinglass/isinglasslaw08.RoaringTells", spec := "roaringTells", inPlace := ["slices.overlaps[isinglass/roaring.entry]"], unfollowed := true, recurses := true, named := ["math/bits.deBruijn64tab"], apart := false, laid := [("math/bits.deBruijn64tab", laid_math_bits_deBruijn64tab)] }
def RoaringTellsSaid : Prop := roaringTellsRow.holds Tryz.pinned (OpenSpec.ofChange roaringTellsSpec)

/-- ITS FALSE NEIGHBOUR: 'it returns false'. Refute it at one input. -/
def roaringTellsWrong : ChangeSpec := { name := "roaringTells", fn := fun _ => fun
  | [d1, d2] => { results := [.lit (.bool false)], args := [d1, d2] }
  | _ => none }
def RoaringTellsWrongFalsely : Prop := roaringTellsRow.holds Tryz.pinned (OpenSpec.ofChange roaringTellsWrong)

/-- 'isinglasslaw08.RoaringJoins': WHATEVER THE INPUT: true; the input reads as it did. -/
def roaringJoinsSpec : ChangeSpec := { name := "roaringJoins", fn := fun _ => fun
  | [d1, d2, d3] => { results := [.lit (.bool true)], args := [d1, d2, d3] }
  | _ => none }
def roaringJoinsRow : OpenClaim := { program := "ytponcpneflhpfaagreatdoor", sum := "b77e7625d13442c24f716d033eaf6b7f02bd987de8fac91b2b9e64961868b06a", func := "isinglass/isinglasslaw08.RoaringJoins", spec := "roaringJoins", unfollowed := true, recurses := true, named := ["math/bits.deBruijn64tab"], apart := false, laid := [("math/bits.deBruijn64tab", laid_math_bits_deBruijn64tab)] }
def RoaringJoinsSaid : Prop := roaringJoinsRow.holds Tryz.pinned (OpenSpec.ofChange roaringJoinsSpec)

/-- ITS FALSE NEIGHBOUR: 'it returns false'. Refute it at one input. -/
def roaringJoinsWrong : ChangeSpec := { name := "roaringJoins", fn := fun _ => fun
  | [d1, d2, d3] => { results := [.lit (.bool false)], args := [d1, d2, d3] }
  | _ => none }
def RoaringJoinsWrongFalsely : Prop := roaringJoinsRow.holds Tryz.pinned (OpenSpec.ofChange roaringJoinsWrong)

/-- 'isinglasslaw09.PortableWrites': WHATEVER THE INPUT: true; the input reads as it did. -/
def portableWritesSpec : ChangeSpec := { name := "portableWrites", fn := fun _ => fun
  | [d1, d2, d3] => { results := [.lit (.bool true)], args := [d1, d2, d3] }
  | _ => none }
def portableWritesRow : OpenClaim := { program := "ytponcpneflhpfaagreatdoor", sum := "b77e7625d13442c24f716d033eaf6b7f02bd987de8fac91b2b9e64961868b06a", func := "isinglass/isinglasslaw09.PortableWrites", spec := "portableWrites", unfollowed := true, recurses := true, named := ["math/bits.deBruijn64tab"], apart := false, laid := [("math/bits.deBruijn64tab", laid_math_bits_deBruijn64tab)] }
def PortableWritesSaid : Prop := portableWritesRow.holds Tryz.pinned (OpenSpec.ofChange portableWritesSpec)

/-- ITS FALSE NEIGHBOUR: 'it returns false'. Refute it at one input. -/
def portableWritesWrong : ChangeSpec := { name := "portableWrites", fn := fun _ => fun
  | [d1, d2, d3] => { results := [.lit (.bool false)], args := [d1, d2, d3] }
  | _ => none }
def PortableWritesWrongFalsely : Prop := portableWritesRow.holds Tryz.pinned (OpenSpec.ofChange portableWritesWrong)

/-- 'isinglasslaw09.PortableSmall': WHATEVER THE INPUT: true; the input reads as it did. -/
def portableSmallSpec : ChangeSpec := { name := "portableSmall", fn := fun _ => fun
  | [d1, d2] => { results := [.lit (.bool true)], args := [d1, d2] }
  | _ => none }
def portableSmallRow : OpenClaim := { program := "ytponcpneflhpfaagreatdoor", sum := "b77e7625d13442c24f716d033eaf6b7f02bd987de8fac91b2b9e64961868b06a", func := "isinglass/isinglasslaw09.PortableSmall", spec := "portableSmall", unfollowed := true, recurses := true, named := ["math/bits.deBruijn64tab"], apart := false, laid := [("math/bits.deBruijn64tab", laid_math_bits_deBruijn64tab)] }
def PortableSmallSaid : Prop := portableSmallRow.holds Tryz.pinned (OpenSpec.ofChange portableSmallSpec)

/-- ITS FALSE NEIGHBOUR: 'it returns false'. Refute it at one input. -/
def portableSmallWrong : ChangeSpec := { name := "portableSmall", fn := fun _ => fun
  | [d1, d2] => { results := [.lit (.bool false)], args := [d1, d2] }
  | _ => none }
def PortableSmallWrongFalsely : Prop := portableSmallRow.holds Tryz.pinned (OpenSpec.ofChange portableSmallWrong)

/-- 'isinglasslaw09.PortableEnds': WHATEVER THE INPUT: true; the input reads as it did. -/
def portableEndsSpec : ChangeSpec := { name := "portableEnds", fn := fun _ => fun
  | [d1, d2, d3] => { results := [.lit (.bool true)], args := [d1, d2, d3] }
  | _ => none }
def portableEndsRow : OpenClaim := { program := "ytponcpneflhpfaagreatdoor", sum := "b77e7625d13442c24f716d033eaf6b7f02bd987de8fac91b2b9e64961868b06a", func := "isinglass/isinglasslaw09.PortableEnds", spec := "portableEnds", unfollowed := true, recurses := true, named := ["math/bits.deBruijn64tab"], apart := false, laid := [("math/bits.deBruijn64tab", laid_math_bits_deBruijn64tab)] }
def PortableEndsSaid : Prop := portableEndsRow.holds Tryz.pinned (OpenSpec.ofChange portableEndsSpec)

/-- ITS FALSE NEIGHBOUR: 'it returns false'. Refute it at one input. -/
def portableEndsWrong : ChangeSpec := { name := "portableEnds", fn := fun _ => fun
  | [d1, d2, d3] => { results := [.lit (.bool false)], args := [d1, d2, d3] }
  | _ => none }
def PortableEndsWrongFalsely : Prop := portableEndsRow.holds Tryz.pinned (OpenSpec.ofChange portableEndsWrong)

/-- 'isinglasslaw09.PortableKinds': WHATEVER THE INPUT: true; the input reads as it did. -/
def portableKindsSpec : ChangeSpec := { name := "portableKinds", fn := fun _ => fun
  | [d1, d2] => { results := [.lit (.bool true)], args := [d1, d2] }
  | _ => none }
def portableKindsRow : OpenClaim := { program := "ytponcpneflhpfaagreatdoor", sum := "b77e7625d13442c24f716d033eaf6b7f02bd987de8fac91b2b9e64961868b06a", func := "isinglass/isinglasslaw09.PortableKinds", spec := "portableKinds", unfollowed := true, recurses := true, named := ["math/bits.deBruijn64tab"], apart := false, laid := [("math/bits.deBruijn64tab", laid_math_bits_deBruijn64tab)] }
def PortableKindsSaid : Prop := portableKindsRow.holds Tryz.pinned (OpenSpec.ofChange portableKindsSpec)

/-- ITS FALSE NEIGHBOUR: 'it returns false'. Refute it at one input. -/
def portableKindsWrong : ChangeSpec := { name := "portableKinds", fn := fun _ => fun
  | [d1, d2] => { results := [.lit (.bool false)], args := [d1, d2] }
  | _ => none }
def PortableKindsWrongFalsely : Prop := portableKindsRow.holds Tryz.pinned (OpenSpec.ofChange portableKindsWrong)

/- THE SECOND FORM. 'bulk': how many values and letters a reading holds, each counted each time it is reached (what is shared counts as often as it is met; a slice's spare places count too). A statement '..UptoSaid' is the law's where the arguments, and the package variables that the reading takes, are together of bulk at most 1048576: NARROWER than '..Said'. Prove '..Said' where nothing that the law and all that it calls make is longer than what came in: it says more and counts as full. Else prove '..UptoSaid'. A law counts once. -/
mutual
def uptoBulk {H : Type} : DataW H → Nat
  | .lit (.string bytes) => bytes.length + 1
  | .lit _ => 1
  | .nil => 1
  | .ptr d => uptoBulk d + 1
  | .slice elems spare => uptoBulkAll elems + uptoBulkAll spare + 1
  | .agg parts => uptoBulkAll parts + 1
  | .iface _ d => uptoBulk d + 1
  | .map entries => uptoBulkEntries entries + 1
  | .held _ => 1
def uptoBulkAll {H : Type} : List (DataW H) → Nat
  | [] => 0
  | d :: r => uptoBulk d + uptoBulkAll r
def uptoBulkEntries {H : Type} : List (Lit × DataW H) → Nat
  | [] => 0
  | x :: r => uptoBulkEntry x + uptoBulkEntries r
def uptoBulkEntry {H : Type} : Lit × DataW H → Nat
  | (.string bytes, d) => bytes.length + uptoBulk d + 1
  | (_, d) => uptoBulk d + 1
 end
def uptoSmall : (H : Type) → List (DataW H) → Bool := fun _ ds => decide (uptoBulkAll ds ≤ 1048576)
def OpenSpec.upto (s : _root_.Go.ChangeSpec) : _root_.Go.OpenSpec := { _root_.Go.OpenSpec.ofChange s with cond := some uptoSmall }

/-- 'isinglasslaw08.RoaringPlays', WHERE WHAT IT READS IS OF BULK AT MOST 1048576: true; the input reads as it did. -/
def roaringPlaysUptoRow : OpenClaim := { program := "ytponcpneflhpfaagreatdoor", sum := "b77e7625d13442c24f716d033eaf6b7f02bd987de8fac91b2b9e64961868b06a", func := "isinglass/isinglasslaw08.RoaringPlays", spec := "roaringPlays", inPlace := ["slices.overlaps[isinglass/roaring.entry]"], unfollowed := true, recurses := true, named := ["math/bits.deBruijn64tab"], apart := false, laid := [("math/bits.deBruijn64tab", laid_math_bits_deBruijn64tab)], narrowed := true }
def RoaringPlaysUptoSaid : Prop := roaringPlaysUptoRow.holds Tryz.pinned (OpenSpec.upto roaringPlaysSpec)

/-- 'isinglasslaw08.RoaringTells', WHERE WHAT IT READS IS OF BULK AT MOST 1048576: true; the input reads as it did. -/
def roaringTellsUptoRow : OpenClaim := { program := "ytponcpneflhpfaagreatdoor", sum := "b77e7625d13442c24f716d033eaf6b7f02bd987de8fac91b2b9e64961868b06a", func := "isinglass/isinglasslaw08.RoaringTells", spec := "roaringTells", inPlace := ["slices.overlaps[isinglass/roaring.entry]"], unfollowed := true, recurses := true, named := ["math/bits.deBruijn64tab"], apart := false, laid := [("math/bits.deBruijn64tab", laid_math_bits_deBruijn64tab)], narrowed := true }
def RoaringTellsUptoSaid : Prop := roaringTellsUptoRow.holds Tryz.pinned (OpenSpec.upto roaringTellsSpec)

/-- 'isinglasslaw08.RoaringJoins', WHERE WHAT IT READS IS OF BULK AT MOST 1048576: true; the input reads as it did. -/
def roaringJoinsUptoRow : OpenClaim := { program := "ytponcpneflhpfaagreatdoor", sum := "b77e7625d13442c24f716d033eaf6b7f02bd987de8fac91b2b9e64961868b06a", func := "isinglass/isinglasslaw08.RoaringJoins", spec := "roaringJoins", unfollowed := true, recurses := true, named := ["math/bits.deBruijn64tab"], apart := false, laid := [("math/bits.deBruijn64tab", laid_math_bits_deBruijn64tab)], narrowed := true }
def RoaringJoinsUptoSaid : Prop := roaringJoinsUptoRow.holds Tryz.pinned (OpenSpec.upto roaringJoinsSpec)

/-- 'isinglasslaw09.PortableWrites', WHERE WHAT IT READS IS OF BULK AT MOST 1048576: true; the input reads as it did. -/
def portableWritesUptoRow : OpenClaim := { program := "ytponcpneflhpfaagreatdoor", sum := "b77e7625d13442c24f716d033eaf6b7f02bd987de8fac91b2b9e64961868b06a", func := "isinglass/isinglasslaw09.PortableWrites", spec := "portableWrites", unfollowed := true, recurses := true, named := ["math/bits.deBruijn64tab"], apart := false, laid := [("math/bits.deBruijn64tab", laid_math_bits_deBruijn64tab)], narrowed := true }
def PortableWritesUptoSaid : Prop := portableWritesUptoRow.holds Tryz.pinned (OpenSpec.upto portableWritesSpec)

/-- 'isinglasslaw09.PortableSmall', WHERE WHAT IT READS IS OF BULK AT MOST 1048576: true; the input reads as it did. -/
def portableSmallUptoRow : OpenClaim := { program := "ytponcpneflhpfaagreatdoor", sum := "b77e7625d13442c24f716d033eaf6b7f02bd987de8fac91b2b9e64961868b06a", func := "isinglass/isinglasslaw09.PortableSmall", spec := "portableSmall", unfollowed := true, recurses := true, named := ["math/bits.deBruijn64tab"], apart := false, laid := [("math/bits.deBruijn64tab", laid_math_bits_deBruijn64tab)], narrowed := true }
def PortableSmallUptoSaid : Prop := portableSmallUptoRow.holds Tryz.pinned (OpenSpec.upto portableSmallSpec)

/-- 'isinglasslaw09.PortableEnds', WHERE WHAT IT READS IS OF BULK AT MOST 1048576: true; the input reads as it did. -/
def portableEndsUptoRow : OpenClaim := { program := "ytponcpneflhpfaagreatdoor", sum := "b77e7625d13442c24f716d033eaf6b7f02bd987de8fac91b2b9e64961868b06a", func := "isinglass/isinglasslaw09.PortableEnds", spec := "portableEnds", unfollowed := true, recurses := true, named := ["math/bits.deBruijn64tab"], apart := false, laid := [("math/bits.deBruijn64tab", laid_math_bits_deBruijn64tab)], narrowed := true }
def PortableEndsUptoSaid : Prop := portableEndsUptoRow.holds Tryz.pinned (OpenSpec.upto portableEndsSpec)

/-- 'isinglasslaw09.PortableKinds', WHERE WHAT IT READS IS OF BULK AT MOST 1048576: true; the input reads as it did. -/
def portableKindsUptoRow : OpenClaim := { program := "ytponcpneflhpfaagreatdoor", sum := "b77e7625d13442c24f716d033eaf6b7f02bd987de8fac91b2b9e64961868b06a", func := "isinglass/isinglasslaw09.PortableKinds", spec := "portableKinds", unfollowed := true, recurses := true, named := ["math/bits.deBruijn64tab"], apart := false, laid := [("math/bits.deBruijn64tab", laid_math_bits_deBruijn64tab)], narrowed := true }
def PortableKindsUptoSaid : Prop := portableKindsUptoRow.holds Tryz.pinned (OpenSpec.upto portableKindsSpec)

end Rows
end Go.Proofs.YtponcpneflhpfaaGreatDoor
