/- Walks: an index at a pointer; told, Len, Many, Width, at, Get; numbers; check's closure. -/
import Derived.Test.YtpanfpcfhgnkoaaSb
import Derived.Deep.QuietTactic
import Derived.BigQuiet
import Derived.Laws.ResultCell
namespace Go.Proofs.Ytpanfpcfhgnkoaa
open Go.RowKit
set_option linter.unusedVariables false

/-- An index at a pointer: none, or a block with three numbers and a slice. -/
def IxAt (W : World) (p : Value) (r m wd : Int) (A : Option Addr) (n c : Nat) : Prop :=
  (p = .pointer none ∧ r = 0 ∧ m = 0 ∧ wd = 0 ∧ A = none ∧ n = 0 ∧ c = 0) ∨ ∃ g, p = .pointer (some ⟨g, 0, none⟩) ∧ Row W g 41 #[.int .i64 r, .int .i64 m, .int .i64 wd, .slice A n c]
theorem IxAt.step {W W' : World} {p : Value} {r m wd : Int} {A : Option Addr} {n c : Nat} (h : IxAt W p r m wd A n c) (b : Below W.heap.size W W') : IxAt W' p r m wd A n c := by
  rcases h with h | ⟨g, e, q⟩
  · exact .inl h
  · exact .inr ⟨g, e, q.below b q.lt⟩
/-- The value of an index. -/
abbrev iV (r m wd : Int) (A : Option Addr) (n c : Nat) : Value := .agg #[.int .i64 r, .int .i64 m, .int .i64 wd, .slice A n c]
theorem set4i {W : World} {b : Nat} {t : TypeId} {x y z u x' y' z' u' : Value} (h : Row W b t #[x, y, z, u]) :
    Row ((((W.setCell ⟨b, 0, none⟩ x').setCell ⟨b, 1, none⟩ y').setCell ⟨b, 2, none⟩ z').setCell ⟨b, 3, none⟩ u') b t #[x', y', z', u'] ∧ ∀ {B : Nat}, B ≤ b → Below B W ((((W.setCell ⟨b, 0, none⟩ x').setCell ⟨b, 1, none⟩ y').setCell ⟨b, 2, none⟩ z').setCell ⟨b, 3, none⟩ u') :=
  ⟨by simpa using (((h.set_ 0 x').set_ 1 y').set_ 2 z').set_ 3 u', fun {B} hB => ((((Below.refl B W).setCell (p := ⟨b, 0, none⟩) hB _).setCell (p := ⟨b, 1, none⟩) hB _).setCell (p := ⟨b, 2, none⟩) hB _).setCell (p := ⟨b, 3, none⟩) hB _⟩
theorem res_one {fn : Func} {p : Tmp} {ty : TypeId} (h : fn.results = #[.cell p ty]) (tmps : Array Value) (w : World) (g : Nat) (t : TypeId) (cs : Array Value) (fs : Array Field) (hp : tmps.getD p undef = .pointer (some ⟨g, 0, none⟩)) (hg : Row w g t cs)
    (hu : Try.prog.underlying ty = some (.struct fs)) (hi : (Try.prog.info? ty).map (·.size) = some cs.size) : (results fn tmps).run Try.prog w = .ok (.agg cs) w :=
  results_cell_row h tmps w g t cs (0, 0) _ hp hg hu rfl hi
theorem szI4 : (Try.prog.info? 41).map (·.size) = some 4 := by kernel_rfl
theorem ixf0 (w : World) (r m wd : Int) (A : Option Addr) (n c : Nat) : (Instr.field 41 (.agg #[.int .i64 r, .int .i64 m, .int .i64 wd, .slice A n c]) 0).run Try.prog w = .ok (.int .i64 r) w := by kernel_rfl
theorem ixf1 (w : World) (r m wd : Int) (A : Option Addr) (n c : Nat) : (Instr.field 41 (.agg #[.int .i64 r, .int .i64 m, .int .i64 wd, .slice A n c]) 1).run Try.prog w = .ok (.int .i64 m) w := by kernel_rfl
theorem ixf2 (w : World) (r m wd : Int) (A : Option Addr) (n c : Nat) : (Instr.field 41 (.agg #[.int .i64 r, .int .i64 m, .int .i64 wd, .slice A n c]) 2).run Try.prog w = .ok (.int .i64 wd) w := by kernel_rfl
set_option maxHeartbeats 1000000 in
theorem told_any (p : Value) (r m wd : Int) (A : Option Addr) (n c : Nat) (w : World) (h : IxAt w p r m wd A n c) :
    Calls Try.prog 30 #[p] w fun e w' => e = .returned (.agg #[.int .i64 r, .int .i64 m, .int .i64 wd, .slice A n c]) ∧ Below w.heap.size w w' := by
  have B1 := Lib.hid ((Below.refl w.heap.size w).alloc (Nat.le_refl _) (.cells #[.int .i64 r, .int .i64 m, .int .i64 wd, .slice A n c] 41))
  have R1 := Lib.hid (Row.new w 41 #[.int .i64 r, .int .i64 m, .int .i64 wd, .slice A n c])
  rcases h with ⟨rfl, rfl, rfl, rfl, rfl, rfl, rfl⟩ | ⟨g, rfl, q⟩
  · go_enter Try.func30, Try.ntmps30
    go_wp2
    refine bodyPost_ret (v := iV 0 0 0 none 0 0) ?_ rfl ⟨rfl, B1.out⟩
    exact res_one rfl _ _ _ _ _ _ (by rfl) R1.out Try.underlying41 szI4
  · have hq := q.alloc (.cells #[.int .i64 0, .int .i64 0, .int .i64 0, .slice none 0 0] 41)
    have c0 := hq.cell 0
    have c1 := hq.cell 1
    have c2 := hq.cell 2
    have c3 := hq.cell 3
    clear q hq
    go_enter Try.func30, Try.ntmps30
    go_wp2
    refine bodyPost_ret (v := iV r m wd A n c) ?_ rfl ⟨rfl, B1.out⟩
    exact res_one rfl _ _ _ _ _ _ (by rfl) R1.out Try.underlying41 szI4
set_option maxHeartbeats 400000 in
theorem len_any (p : Value) (r m wd : Int) (A : Option Addr) (n c : Nat) (w : World) (h : IxAt w p r m wd A n c) : Calls Try.prog 17 #[p] w fun e w' => e = .returned (.int .i64 r) ∧ Below w.heap.size w w' := by
  have HC := Lib.hid (told_any p r m wd A n c w h)
  clear h
  have hfd := fun W => ixf0 W r m wd A n c
  go_enter Try.func17, Try.ntmps17
  go_wp2_with (go_at_call 30; refine HC.out.mono ?_; rintro e w1 ⟨rfl, b1⟩; have B1 := Lib.hid b1; clear b1)
  go_ret
  exact ⟨rfl, B1.out⟩
set_option maxHeartbeats 400000 in
theorem many_any (p : Value) (r m wd : Int) (A : Option Addr) (n c : Nat) (w : World) (h : IxAt w p r m wd A n c) : Calls Try.prog 18 #[p] w fun e w' => e = .returned (.int .i64 m) ∧ Below w.heap.size w w' := by
  have HC := Lib.hid (told_any p r m wd A n c w h)
  clear h
  have hfd := fun W => ixf1 W r m wd A n c
  go_enter Try.func18, Try.ntmps18
  go_wp2_with (go_at_call 30; refine HC.out.mono ?_; rintro e w1 ⟨rfl, b1⟩; have B1 := Lib.hid b1; clear b1)
  go_ret
  exact ⟨rfl, B1.out⟩
set_option maxHeartbeats 400000 in
theorem wid_any (p : Value) (r m wd : Int) (A : Option Addr) (n c : Nat) (w : World) (h : IxAt w p r m wd A n c) : Calls Try.prog 19 #[p] w fun e w' => e = .returned (.int .i64 wd) ∧ Below w.heap.size w w' := by
  have HC := Lib.hid (told_any p r m wd A n c w h)
  clear h
  have hfd := fun W => ixf2 W r m wd A n c
  go_enter Try.func19, Try.ntmps19
  go_wp2_with (go_at_call 30; refine HC.out.mono ?_; rintro e w1 ⟨rfl, b1⟩; have B1 := Lib.hid b1; clear b1)
  go_ret
  exact ⟨rfl, B1.out⟩
end Go.Proofs.Ytpanfpcfhgnkoaa
