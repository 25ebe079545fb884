/- Walks: the law MetricNone. -/
import Derived.Test.YtigjkolhhhmdhaaTf
namespace Go.Proofs.Ytigjkolhhhmdhaa
open Go.RowKit Go.Shelf
set_option linter.unusedVariables false

set_option maxHeartbeats 4000000 in
set_option maxRecDepth 100000 in
theorem none_any (i k : Int) (w : World) :
    Calls Try.prog 5 #[.int .i64 i, .int .i64 k] w fun e w' => e = .returned (.bool true) ∧ Below w.heap.size w w' := by
  obtain ⟨W2, hW2⟩ : ∃ W2, W2 = (w.alloc (.cells #[.bool false, .slice none 0 0, .int .i64 0, .int .i64 0] 37)).alloc (.cells #[.pointer none, .pointer (some ⟨w.heap.size, 0, none⟩)] 24) := ⟨_, rfl⟩
  have Z2 := Lib.hid (show Row W2 w.heap.size 37 #[.bool false, .slice none 0 0, .int .i64 0, .int .i64 0] by rw [hW2]; exact (Row.new _ _ _).alloc _)
  have P2 := Lib.hid (show Row W2 (w.heap.size + 1) 24 #[.pointer none, .pointer (some ⟨w.heap.size, 0, none⟩)] by rw [hW2]; have := Row.new (w.alloc (.cells #[.bool false, .slice none 0 0, .int .i64 0, .int .i64 0] 37)) 24 #[.pointer none, .pointer (some ⟨w.heap.size, 0, none⟩)]; simpa using this)
  have B2 := Lib.hid (show Below w.heap.size w W2 by rw [hW2]; exact ((Below.refl _ _).alloc (Nat.le_refl _) _).alloc (by simp) _)
  have DT0 := Lib.hid (fun W (_ : Below W2.heap.size W2 W) => show CxAt W (.pointer none) false none 0 0 0 0 from .inl ⟨rfl, rfl, rfl, rfl, rfl, rfl, rfl⟩)
  have DT1 := Lib.hid (fun W (b : Below W2.heap.size W2 W) => show CxAt W (.pointer (some ⟨w.heap.size, 0, none⟩)) false none 0 0 0 0 from .inr ⟨_, rfl, Z2.out.below b Z2.out.lt⟩)
  have HF := Lib.hid (fun W (b : Below W2.heap.size W2 W) => (⟨(P2.out.below b P2.out.lt).cell 0, (P2.out.below b P2.out.lt).cell 1⟩ : W.cell? _ = _ ∧ W.cell? _ = _))
  go_enter Try.func5, Try.ntmps5
  go_wp2_with fail
  rw [← hW2]
  clear hW2
  have BC := Lib.hid (Below.refl W2.heap.size W2)
  refine wp_loop_rounds 3 ?_
  obtain ⟨s0, s1⟩ := HF.out _ BC.out
  rw [rounds_succ]
  go_wp2_with (first
    | (go_at_call 14; refine (get_none (.pointer none) none 0 0 0 0 i _ (DT0.out _ BC.out)).mono ?_; rintro e w0a ⟨rfl, b⟩; have BC0a := Lib.hid (BC.out.trans (b.mono BC.out.size)); clear b s0 s1)
    | (go_at_call 15; refine (some_none (.pointer none) none 0 0 0 0 i k _ (DT0.out _ BC0a.out)).mono ?_; rintro e w0b ⟨rfl, b⟩; have BC0b := Lib.hid (BC0a.out.trans (b.mono BC0a.out.size)); clear b)
    | (go_at_call 16; refine (len_any (.pointer none) false none 0 0 0 0 _ (DT0.out _ BC0b.out)).mono ?_; rintro e w0c ⟨rfl, b⟩; have BC0c := Lib.hid (BC0b.out.trans (b.mono BC0b.out.size)); clear b)
    | (go_at_call 17; refine (least_any (.pointer none) false none 0 0 0 0 _ (DT0.out _ BC0c.out)).mono ?_; rintro e w0d ⟨rfl, b⟩; have BC0d := Lib.hid (BC0c.out.trans (b.mono BC0c.out.size)); clear b)
    | (go_at_call 18; refine (greatest_any (.pointer none) false none 0 0 0 0 _ (DT0.out _ BC0d.out)).mono ?_; rintro e w0e ⟨rfl, b⟩; have BC0e := Lib.hid (BC0d.out.trans (b.mono BC0d.out.size)); clear b)
    | (go_at_call 19; refine (bytes_none (.pointer none) none 0 0 0 0 _ (DT0.out _ BC0e.out)).mono ?_; rintro e w0f ⟨rfl, b⟩; have BC0f := Lib.hid (BC0e.out.trans (b.mono BC0e.out.size)); clear b))
  obtain ⟨s0, s1⟩ := HF.out _ BC0f.out
  rw [rounds_succ]
  go_wp2_with (first
    | (go_at_call 14; refine (get_none (.pointer (some ⟨w.heap.size, 0, none⟩)) none 0 0 0 0 i _ (DT1.out _ BC0f.out)).mono ?_; rintro e w1a ⟨rfl, b⟩; have BC1a := Lib.hid (BC0f.out.trans (b.mono BC0f.out.size)); clear b s0 s1)
    | (go_at_call 15; refine (some_none (.pointer (some ⟨w.heap.size, 0, none⟩)) none 0 0 0 0 i k _ (DT1.out _ BC1a.out)).mono ?_; rintro e w1b ⟨rfl, b⟩; have BC1b := Lib.hid (BC1a.out.trans (b.mono BC1a.out.size)); clear b)
    | (go_at_call 16; refine (len_any (.pointer (some ⟨w.heap.size, 0, none⟩)) false none 0 0 0 0 _ (DT1.out _ BC1b.out)).mono ?_; rintro e w1c ⟨rfl, b⟩; have BC1c := Lib.hid (BC1b.out.trans (b.mono BC1b.out.size)); clear b)
    | (go_at_call 17; refine (least_any (.pointer (some ⟨w.heap.size, 0, none⟩)) false none 0 0 0 0 _ (DT1.out _ BC1c.out)).mono ?_; rintro e w1d ⟨rfl, b⟩; have BC1d := Lib.hid (BC1c.out.trans (b.mono BC1c.out.size)); clear b)
    | (go_at_call 18; refine (greatest_any (.pointer (some ⟨w.heap.size, 0, none⟩)) false none 0 0 0 0 _ (DT1.out _ BC1d.out)).mono ?_; rintro e w1e ⟨rfl, b⟩; have BC1e := Lib.hid (BC1d.out.trans (b.mono BC1d.out.size)); clear b)
    | (go_at_call 19; refine (bytes_none (.pointer (some ⟨w.heap.size, 0, none⟩)) none 0 0 0 0 _ (DT1.out _ BC1e.out)).mono ?_; rintro e w1f ⟨rfl, b⟩; have BC1f := Lib.hid (BC1e.out.trans (b.mono BC1e.out.size)); clear b))
  rw [rounds_succ]
  have BT := Lib.hid (B2.out.trans (BC1f.out.mono B2.out.size))
  go_wp2_with (go_at_call 8; refine (known13_any _).mono ?_; rintro e u9 ⟨rfl, b9⟩; have B9 := Lib.hid (BT.out.trans (b9.mono BT.out.size)); clear b9)
  go_ret
  exact ⟨rfl, B9.out⟩
end Go.Proofs.Ytigjkolhhhmdhaa
