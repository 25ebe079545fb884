/- Walks: 'known' answers true, and writes nothing that was there. -/
import Derived.Test.YtdeiphimfpckaaaC7
import Derived.Lib.SlBytesConst
namespace Go.Proofs.Ytdeiphimfpckaaa
open Go.RowKit
set_option linter.unusedVariables false

theorem lit8 (w : World) (l : List UInt8) (cs : Array Value) (n : Nat) (hcs : cs = (l.map e8.val).toArray) (hn : l.length = n) (hs : n ≤ 1000) :
    Gs e8 (w.alloc (.cells cs 5)) 0 (w.alloc (.cells cs 5)).heap.size (.slice (some ⟨w.heap.size, 0, none⟩) n n) l := ((Gw.lit w w.heap.size (Nat.le_refl _) l cs n hcs hn hs).sl).more (Nat.zero_le _) (Nat.le_refl _)
theorem lit8m (w : World) (l : List UInt8) (cs : Array Value) (fr : Nat × Nat) (n : Nat) (hcs : cs = (l.map e8.val).toArray) (hn : l.length = n) (hs : n ≤ 1000) :
    Gs e8 (w.alloc (.cells cs 5 fr)) 0 (w.alloc (.cells cs 5 fr)).heap.size (.slice (some ⟨w.heap.size, 0, none⟩) n n) l := by
  subst hcs hn
  refine ⟨_, _, rfl, (fun h => by cases h), Nat.le_refl _, (by unfold maxLen; omega), fun _ => ⟨w.heap.size, 0, rfl, Nat.zero_le _, (by simp), fun j x hx => ?_⟩⟩
  rw [Nat.zero_add, World.cell?_alloc_mark]
  simp [hx]
theorem k_un : unE [1, 0, 0, 0, 7, 0, 0, 0, 0] 0 = 6 := by decide +kernel
theorem k_crc : crc [49, 50, 51, 52, 53, 54, 55, 56, 57] = 3421780262 := by decide +kernel
theorem k_nil : crc [] = 0 := by decide +kernel
theorem unframe_k (v : Value) (W : World) (hv : Gs e8 W 0 W.heap.size v [1, 0, 0, 0, 7, 0, 0, 0, 0]) :
    Calls Try.prog 13 #[v, .int .i64 0] W fun e w' => ∃ A n c N, e = .returned (.tuple #[.slice A n c, .int .i64 N, .int .i64 6]) ∧ Below W.heap.size W w' := by
  refine (unframe_any v _ 0 0 W hv (by decide)).mono ?_
  rintro e w' ⟨A, c, rfl, -, b⟩
  rw [k_un]
  exact ⟨A, _, c, _, rfl, b⟩
theorem sum_k (v : Value) (W : World) (hv : Gs e8 W 0 W.heap.size v [49, 50, 51, 52, 53, 54, 55, 56, 57]) :
    Calls Try.prog 10 #[v] W fun e w' => e = .returned (.int .u32 3421780262) ∧ Below W.heap.size W w' := by
  have := sum_any v _ 0 W hv
  rw [k_crc] at this
  exact this
theorem sum_nil (W : World) : Calls Try.prog 10 #[.slice none 0 0] W fun e w' => e = .returned (.int .u32 0) ∧ Below W.heap.size W w' := by
  have := sum_any (.slice none 0 0) [] 0 W (Gs.nil_ _ _ _)
  rw [k_nil] at this
  exact this
theorem frame_nil (W : World) : Calls Try.prog 9 #[.slice none 0 0] W fun e w' => ∃ A c, e = .returned (.slice A 8 c) ∧ Below W.heap.size W w' := by
  refine (frame_any (.slice none 0 0) [] 0 W (Gs.nil_ _ _ _) (by decide)).mono ?_
  rintro e w' ⟨v, rfl, o, b⟩
  obtain ⟨A, c, rfl, -⟩ := o.sl
  rw [fr_length]
  exact ⟨A, c, rfl, b⟩

set_option maxHeartbeats 1000000 in
theorem known_any (w : World) : Calls Try.prog 8 #[] w fun e w' => e = .returned (.bool true) ∧ Below w.heap.size w w' := by
  have kc := fun (w : World) (C : Array Value) (n c : Nat) => Lib.run_convert_bytes_const (P := Try.prog) w 22 5 C n c Try.underlying22 Try.underlying5
  go_enter Try.func8, Try.ntmps8
  go_wp2_with fail
  refine (unframe_k _ _ (lit8 w [1, 0, 0, 0, 7, 0, 0, 0, 0] _ 9 (by rfl) rfl (by omega))).mono ?_
  rintro e w1 ⟨A1, n1, c1, N1, rfl, b1⟩
  have B1 := Lib.hid (((Below.refl _ _).alloc (Nat.le_refl _) _).trans (b1.mono (by simp)) : Below w.heap.size w w1)
  clear b1
  go_wp2_with fail
  refine (sum_k _ _ (lit8m w1 [49, 50, 51, 52, 53, 54, 55, 56, 57] _ _ 9 (by rfl) rfl (by omega))).mono ?_
  rintro e w2 ⟨rfl, b2⟩
  have B2 := Lib.hid ((B1.out.alloc B1.out.size _).trans (b2.mono (Nat.le_trans B1.out.size (by simp))) : Below w.heap.size w w2)
  clear b2 B1
  go_wp2_with fail
  refine (sum_nil _).mono ?_
  rintro e w3 ⟨rfl, b3⟩
  have B3 := Lib.hid (B2.out.trans (b3.mono B2.out.size))
  clear b3 B2
  go_wp2_with fail
  refine (frame_nil _).mono ?_
  rintro e w4 ⟨A4, c4, rfl, b4⟩
  have B4 := Lib.hid (B3.out.trans (b4.mono B3.out.size))
  clear b4 B3
  go_wp2
  go_ret
  exact ⟨rfl, B4.out⟩
end Go.Proofs.Ytdeiphimfpckaaa
