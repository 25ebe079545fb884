/-
  No cell of these rows narrows 'for every input' (looked for: loops, veiled, ifaces, maps, wideKeys, modest, calm, conditions, laid).
  DERIVED. THE GIVEN ROWS OF THIS SEAT. 4 by the template 'for every input the law returns true; each argument reads behind the call as it read before'; 0 by the template 'total and deterministic' (their statements: YtigngijpbchlaaaTotals.lean).
  GIVEN WITH THE SEED: the statements are not yours to turn. If you find one false, say at which input.
  Laid BY PROGRAM, IN A SANDBOX (cutbox-rows.mjs): the forced cells as the released guide's own fill.sh prints them over the translation 7e30b2aba7c14075… (all of the seat's roots in one cut). By AI agents, Wed Nov 11 2026. No macro, syntax, notation, axiom, sorry.
-/
import Derived.Test.YtigngijpbchlaaaChecked
import GoSem.Claim
import GoSem.ClaimJoined
import GoSem.ClaimMapViews
import Derived.JoinedTies
import Derived.KernelRfl
namespace Go.Proofs.Ytigngijpbchlaaa
/- THE CELL 'sum', in the pinned program and in every row, IS THE sha256 OF THE DUMP (.gsa) THAT YtigngijpbchlaaaProg.lean LOADS. Nothing in Lean hashes anything: it is a label: what it is worth is what the hold of that sum in a sandbox is worth. -/
noncomputable def Try.pinned : Pinned := { name := "ytigngijpbchlaaa", sum := "7e30b2aba7c14075eb8d8fe87cceb1ea93d9141317a8a521973f52f170bebd7d", checked := Try.checked }
namespace Rows
def none {H : Type} : Left H := { results := [], args := [] }

/-- 'isinglasslaw10.ValuesOrder': WHATEVER THE INPUT: true; the input reads as it did. -/
def valuesOrderSpec : ChangeSpec := { name := "valuesOrder", fn := fun _ => fun
  | [d1, d2] => { results := [.lit (.bool true)], args := [d1, d2] }
  | _ => none }
def valuesOrderRow : OpenClaim := { program := "ytigngijpbchlaaa", sum := "7e30b2aba7c14075eb8d8fe87cceb1ea93d9141317a8a521973f52f170bebd7d", func := "isinglass/isinglasslaw10.ValuesOrder", spec := "valuesOrder", inPlace := ["internal/bytealg.abigen_runtime_cmpstring"], apart := false }
def ValuesOrderSaid : Prop := valuesOrderRow.holds Try.pinned (OpenSpec.ofChange valuesOrderSpec)

/-- ITS FALSE NEIGHBOUR: 'it returns false'. Refute it at one input. -/
def valuesOrderWrong : ChangeSpec := { name := "valuesOrder", fn := fun _ => fun
  | [d1, d2] => { results := [.lit (.bool false)], args := [d1, d2] }
  | _ => none }
def ValuesOrderWrongFalsely : Prop := valuesOrderRow.holds Try.pinned (OpenSpec.ofChange valuesOrderWrong)

/-- 'isinglasslaw10.ValuesBytes': WHATEVER THE INPUT: true; the input reads as it did. -/
def valuesBytesSpec : ChangeSpec := { name := "valuesBytes", fn := fun _ => fun
  | [d1, d2, d3] => { results := [.lit (.bool true)], args := [d1, d2, d3] }
  | _ => none }
def valuesBytesRow : OpenClaim := { program := "ytigngijpbchlaaa", sum := "7e30b2aba7c14075eb8d8fe87cceb1ea93d9141317a8a521973f52f170bebd7d", func := "isinglass/isinglasslaw10.ValuesBytes", spec := "valuesBytes", inPlace := ["internal/bytealg.abigen_runtime_cmpstring"], unfollowed := true, recurses := true, apart := false }
def ValuesBytesSaid : Prop := valuesBytesRow.holds Try.pinned (OpenSpec.ofChange valuesBytesSpec)

/-- ITS FALSE NEIGHBOUR: 'it returns false'. Refute it at one input. -/
def valuesBytesWrong : ChangeSpec := { name := "valuesBytes", fn := fun _ => fun
  | [d1, d2, d3] => { results := [.lit (.bool false)], args := [d1, d2, d3] }
  | _ => none }
def ValuesBytesWrongFalsely : Prop := valuesBytesRow.holds Try.pinned (OpenSpec.ofChange valuesBytesWrong)

/-- 'isinglasslaw10.ValuesThree': WHATEVER THE INPUT: true; the input reads as it did. -/
def valuesThreeSpec : ChangeSpec := { name := "valuesThree", fn := fun _ => fun
  | [d1, d2, d3] => { results := [.lit (.bool true)], args := [d1, d2, d3] }
  | _ => none }
def valuesThreeRow : OpenClaim := { program := "ytigngijpbchlaaa", sum := "7e30b2aba7c14075eb8d8fe87cceb1ea93d9141317a8a521973f52f170bebd7d", func := "isinglass/isinglasslaw10.ValuesThree", spec := "valuesThree", inPlace := ["internal/bytealg.abigen_runtime_cmpstring"], apart := false }
def ValuesThreeSaid : Prop := valuesThreeRow.holds Try.pinned (OpenSpec.ofChange valuesThreeSpec)

/-- ITS FALSE NEIGHBOUR: 'it returns false'. Refute it at one input. -/
def valuesThreeWrong : ChangeSpec := { name := "valuesThree", fn := fun _ => fun
  | [d1, d2, d3] => { results := [.lit (.bool false)], args := [d1, d2, d3] }
  | _ => none }
def ValuesThreeWrongFalsely : Prop := valuesThreeRow.holds Try.pinned (OpenSpec.ofChange valuesThreeWrong)

/-- 'isinglasslaw10.ValuesBack': WHATEVER THE INPUT: true; the input reads as it did. -/
def valuesBackSpec : ChangeSpec := { name := "valuesBack", fn := fun _ => fun
  | [d1, d2] => { results := [.lit (.bool true)], args := [d1, d2] }
  | _ => none }
def valuesBackRow : OpenClaim := { program := "ytigngijpbchlaaa", sum := "7e30b2aba7c14075eb8d8fe87cceb1ea93d9141317a8a521973f52f170bebd7d", func := "isinglass/isinglasslaw10.ValuesBack", spec := "valuesBack", inPlace := ["internal/bytealg.abigen_runtime_cmpstring"], unfollowed := true, recurses := true, apart := false }
def ValuesBackSaid : Prop := valuesBackRow.holds Try.pinned (OpenSpec.ofChange valuesBackSpec)

/-- ITS FALSE NEIGHBOUR: 'it returns false'. Refute it at one input. -/
def valuesBackWrong : ChangeSpec := { name := "valuesBack", fn := fun _ => fun
  | [d1, d2] => { results := [.lit (.bool false)], args := [d1, d2] }
  | _ => none }
def ValuesBackWrongFalsely : Prop := valuesBackRow.holds Try.pinned (OpenSpec.ofChange valuesBackWrong)

/- THE SECOND FORM. 'bulk': how many values and letters a reading holds, each counted each time it is reached (what is shared counts as often as it is met; a slice's spare places count too). A statement '..UptoSaid' is the law's where the arguments, and the package variables that the reading takes, are together of bulk at most 1048576: NARROWER than '..Said'. Prove '..Said' where nothing that the law and all that it calls make is longer than what came in: it says more and counts as full. Else prove '..UptoSaid'. A law counts once. -/
mutual
def uptoBulk {H : Type} : DataW H → Nat
  | .lit (.string bytes) => bytes.length + 1
  | .lit _ => 1
  | .nil => 1
  | .ptr d => uptoBulk d + 1
  | .slice elems spare => uptoBulkAll elems + uptoBulkAll spare + 1
  | .agg parts => uptoBulkAll parts + 1
  | .iface _ d => uptoBulk d + 1
  | .map entries => uptoBulkEntries entries + 1
  | .held _ => 1
def uptoBulkAll {H : Type} : List (DataW H) → Nat
  | [] => 0
  | d :: r => uptoBulk d + uptoBulkAll r
def uptoBulkEntries {H : Type} : List (Lit × DataW H) → Nat
  | [] => 0
  | x :: r => uptoBulkEntry x + uptoBulkEntries r
def uptoBulkEntry {H : Type} : Lit × DataW H → Nat
  | (.string bytes, d) => bytes.length + uptoBulk d + 1
  | (_, d) => uptoBulk d + 1
 end
def uptoSmall : (H : Type) → List (DataW H) → Bool := fun _ ds => decide (uptoBulkAll ds ≤ 1048576)
def OpenSpec.upto (s : _root_.Go.ChangeSpec) : _root_.Go.OpenSpec := { _root_.Go.OpenSpec.ofChange s with cond := some uptoSmall }

/-- 'isinglasslaw10.ValuesOrder', WHERE WHAT IT READS IS OF BULK AT MOST 1048576: true; the input reads as it did. -/
def valuesOrderUptoRow : OpenClaim := { program := "ytigngijpbchlaaa", sum := "7e30b2aba7c14075eb8d8fe87cceb1ea93d9141317a8a521973f52f170bebd7d", func := "isinglass/isinglasslaw10.ValuesOrder", spec := "valuesOrder", inPlace := ["internal/bytealg.abigen_runtime_cmpstring"], apart := false, narrowed := true }
def ValuesOrderUptoSaid : Prop := valuesOrderUptoRow.holds Try.pinned (OpenSpec.upto valuesOrderSpec)

/-- 'isinglasslaw10.ValuesBytes', WHERE WHAT IT READS IS OF BULK AT MOST 1048576: true; the input reads as it did. -/
def valuesBytesUptoRow : OpenClaim := { program := "ytigngijpbchlaaa", sum := "7e30b2aba7c14075eb8d8fe87cceb1ea93d9141317a8a521973f52f170bebd7d", func := "isinglass/isinglasslaw10.ValuesBytes", spec := "valuesBytes", inPlace := ["internal/bytealg.abigen_runtime_cmpstring"], unfollowed := true, recurses := true, apart := false, narrowed := true }
def ValuesBytesUptoSaid : Prop := valuesBytesUptoRow.holds Try.pinned (OpenSpec.upto valuesBytesSpec)

/-- 'isinglasslaw10.ValuesThree', WHERE WHAT IT READS IS OF BULK AT MOST 1048576: true; the input reads as it did. -/
def valuesThreeUptoRow : OpenClaim := { program := "ytigngijpbchlaaa", sum := "7e30b2aba7c14075eb8d8fe87cceb1ea93d9141317a8a521973f52f170bebd7d", func := "isinglass/isinglasslaw10.ValuesThree", spec := "valuesThree", inPlace := ["internal/bytealg.abigen_runtime_cmpstring"], apart := false, narrowed := true }
def ValuesThreeUptoSaid : Prop := valuesThreeUptoRow.holds Try.pinned (OpenSpec.upto valuesThreeSpec)

/-- 'isinglasslaw10.ValuesBack', WHERE WHAT IT READS IS OF BULK AT MOST 1048576: true; the input reads as it did. -/
def valuesBackUptoRow : OpenClaim := { program := "ytigngijpbchlaaa", sum := "7e30b2aba7c14075eb8d8fe87cceb1ea93d9141317a8a521973f52f170bebd7d", func := "isinglass/isinglasslaw10.ValuesBack", spec := "valuesBack", inPlace := ["internal/bytealg.abigen_runtime_cmpstring"], unfollowed := true, recurses := true, apart := false, narrowed := true }
def ValuesBackUptoSaid : Prop := valuesBackUptoRow.holds Try.pinned (OpenSpec.upto valuesBackSpec)

end Rows
end Go.Proofs.Ytigngijpbchlaaa
