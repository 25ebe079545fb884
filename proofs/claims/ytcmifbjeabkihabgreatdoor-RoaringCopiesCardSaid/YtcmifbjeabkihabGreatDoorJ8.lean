/- Walks: a set that is not there; one number added to the empty set. -/
import Derived.Test.YtcmifbjeabkihabGreatDoorMd0
namespace Go.Proofs.YtcmifbjeabkihabGreatDoor
open Go.RowKit
set_option linter.unusedVariables false

theorem cloneE_nil (w : World) : Calls Tryz.prog 29 #[.slice none 0 0] w fun e w' => e = .returned (.slice none 0 0) ∧ w' = w := by
  have hq := fun W n c => Lib.run_eql_slice_nil (P := Tryz.prog) W 58 61 none n c 0 0 Tryz.underlying58
  simp only [Option.isNone_none] at hq
  go_enter Tryz.func29, Tryz.ntmps29
  go_wp2
  go_ret
  exact ⟨rfl, rfl⟩
theorem entries_nil (w : World) : Calls Tryz.prog 30 #[.pointer none] w fun e w' => e = .returned (.slice none 0 0) ∧ w' = w := by
  go_enter Tryz.func30, Tryz.ntmps30
  go_wp2
  go_ret
  exact ⟨rfl, rfl⟩
theorem add_nil (x : Nat) (w : World) : Calls Tryz.prog 11 #[.pointer none, .int .u32 (x : Int)] w fun e w' => e = .returned (.tuple #[]) ∧ Below w.heap.size w w' := by
  go_enter Tryz.func11, Tryz.ntmps11
  go_wp2
  exact bodyPost_ret (results_none rfl _ _ _) rfl ⟨rfl, Below.refl _ _⟩
theorem addRange_nil (x y : Nat) (w : World) : Calls Tryz.prog 16 #[.pointer none, .int .u64 (x : Int), .int .u64 (y : Int)] w fun e w' => e = .returned (.tuple #[]) ∧ Below w.heap.size w w' := by
  go_enter Tryz.func16, Tryz.ntmps16
  go_wp2
  exact bodyPost_ret (results_none rfl _ _ _) rfl ⟨rfl, Below.refl _ _⟩
/-- An empty set as it is read. -/
theorem st_empty {N : Nat → Prop} {w : World} {b : Nat} {P : Nat → Bool} (hb : Row w b 64 #[.slice none 0 0]) (h : ∀ x, x < 4294967296 → P x = false) : St N w (.pointer (some ⟨b, 0, none⟩)) P :=
  .some b (.slice none 0 0) [] hb (GsV.nil_ _ _ _) (fun _ => rfl) ((Dir.nil_ (N := N) (w := w) (P := P) (lo := 0)).skip (by omega) fun k _ hk => nz_not.2 fun x hx => h _ (by omega))
theorem copy_nil (w : World) : Calls Tryz.prog 7 #[.pointer none] w fun e w' => ∃ b, e = .returned (.pointer (some ⟨b, 0, none⟩)) ∧ St (fun _ => True) w' (.pointer (some ⟨b, 0, none⟩)) (fun _ => false) ∧ Below w.heap.size w w' := by
  have R := Row.new w 64 #[.slice none 0 0]
  have B := bx w (.cells #[.slice none 0 0] 64)
  go_enter Tryz.func7, Tryz.ntmps7
  go_wp2_with fail
  refine (entries_nil w).mono ?_
  rintro e w1 ⟨rfl, hz⟩
  have hz := hz.symm
  subst hz
  go_wp2_with fail
  refine (cloneE_nil _).mono ?_
  rintro e w1 ⟨rfl, hz⟩
  have hz := hz.symm
  subst hz
  go_wp2
  go_ret
  exact ⟨_, rfl, st_empty R fun _ _ => rfl, B⟩
set_option maxHeartbeats 1000000 in
theorem insert_nil (u : Value) (e : En) (lo hi : Nat) (w : World) (hu : GsV eN w lo hi u [e]) :
    Calls Tryz.prog 37 #[.slice none 0 0, .int .i64 0, u] w fun r w' => ∃ A c, r = .returned (.slice A 1 c) ∧ GwV eN w' w.heap.size (.slice A 1 c) [e] ∧ Below w.heap.size w w' := by
  have HU := Lib.hid hu
  obtain ⟨A, c, rfl, -⟩ := hu
  go_enter Tryz.func37, Tryz.ntmps37
  go_wp2_with (at_builtin; refine wpList_gappv eN _ rfl _ _ _ rfl w.heap.size sliN infN (.slice none 0 0) [] rfl (GwV.nil_ _ _) lo hi _ [e] rfl HU.out (by simp) (Nat.le_refl _) ?_; intro v2 w2 o2 g2 g3; have O2 := Lib.hid o2; have B2 := Lib.hid (below_of_grown g2 (fun k h => by cases h)); clear o2 g2 g3)
  have O3 := O2.out
  obtain ⟨A2, c2, rfl, -⟩ := O3.sl
  have O4 := Lib.hid O3
  clear O3 O2
  go_wp2
  go_ret
  exact ⟨A2, c2, rfl, O4.out, B2.out⟩
end Go.Proofs.YtcmifbjeabkihabGreatDoor
