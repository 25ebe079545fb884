/- Walks: the law CursorOnly, where there are too many bytes, and where no short number stands. -/
import Derived.Test.YtmhcbfcpamkfhaaRf
import Derived.Deep.RegionWith
namespace Go.Proofs.Ytmhcbfcpamkfhaa
open Go.ChangeShapes Go.WideShapes Go.ChangeAt Go.RowKit
open Go.ChangeMaps (open_string shut_string)
set_option linter.unusedVariables false

/-- Too many bytes: 'known' alone is asked. -/
theorem only_long (A : Option Addr) (n c : Nat) (w : World) (hn : 100 < n) (hm : n ≤ 9223372036854775807) :
    Calls Try.prog 7 #[.slice A n c] w fun e w' => e = .returned (.bool true) ∧ Below w.heap.size w w' := by
  go_enter Try.func7, Try.ntmps7
  go_wp2_with (go_at_call 8; refine (known_any _).mono ?_; rintro e w1 ⟨rfl, hb⟩)
  go_ret
  exact ⟨rfl, hb⟩

set_option maxHeartbeats 1000000 in
theorem only_bad (A : Option Addr) (c : Nat) (l : List UInt8) (w : World) (hv : Sl w 0 w.heap.size (.slice A l.length c) l) (hn : l.length ≤ 100) (hb : (rdS l).2 = 0) :
    Calls Try.prog 7 #[.slice A l.length c] w fun e w' => e = .returned (.bool true) ∧ Below w.heap.size w w' := by
  have e0 : rd l 0 false 0 = (0, 0, true) := by
    unfold rd
    simp [hb, ((rdS_form l).2 hb).1]
  have e1 : rd l 0 true 1 = (0, 0, true) := by simp [rd]
  have HV := Lib.hid hv
  clear hv hb
  go_enter Try.func7, Try.ntmps7
  have E0 := Lib.hid e0
  have E1 := Lib.hid e1
  clear e0 e1
  go_wp2_with fail
  refine (new_any _ l 0 _ HV.out (by omega)).mono ?_
  rintro e w1 ⟨g, v, rfl, r1, b1⟩
  go_wp2_with fail
  refine (Uint_spec E0.out _ r1).mono ?_
  rintro e w2 ⟨rfl, r2, gr2⟩
  have hg : w.heap.size ≤ g := r1.ge
  have B2 : Below w.heap.size w w2 := b1.grown gr2 b1.size (fun k hk => by injection hk with hk; omega)
  clear r1 b1 gr2
  go_wp2_with fail
  refine (Bad_any _ r2).mono ?_
  rintro e w3 ⟨rfl, rfl⟩
  go_wp2_with fail
  refine (At_any _ r2).mono ?_
  rintro e w3 ⟨rfl, rfl⟩
  go_wp2_with fail
  refine (U8_spec E1.out _ r2).mono ?_
  rintro e w3 ⟨rfl, r3, gr3⟩
  have B3 : Below w.heap.size w w3 := B2.grown gr3 B2.size (fun k hk => by injection hk with hk; omega)
  clear r2 B2 gr3
  go_wp2_with fail
  refine (Left_any _ r3).mono ?_
  rintro e w4 ⟨rfl, k4, rfl⟩
  have e4 : ((lf l 0 true : Nat) : Int) = 0 := by simp [lf]
  rw [e4]
  clear e4
  have r4 := r3.drewN k4
  have B4 : Below w.heap.size w (w3.drewN k4) := ⟨B3.os, B3.tape, B3.output, B3.size, B3.block⟩
  clear r3 B3
  go_wp2_with fail
  refine (Bad_any _ r4).mono ?_
  rintro e w5 ⟨rfl, rfl⟩
  go_wp2_with fail
  refine (At_any _ r4).mono ?_
  rintro e w5 ⟨rfl, rfl⟩
  go_wp2_with fail
  refine (known_any _).mono ?_
  rintro e w5 ⟨rfl, hb⟩
  go_wp2
  go_ret
  exact ⟨rfl, B4.trans (hb.mono B4.size)⟩
end Go.Proofs.Ytmhcbfcpamkfhaa
