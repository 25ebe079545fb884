/- Walks: 'known' answers true, and writes nothing that was there. -/
import Derived.Test.YtpanfpcfhgnkoaaQ7
namespace Go.Proofs.Ytpanfpcfhgnkoaa
open Go.RowKit
set_option linter.unusedVariables false

theorem lit8 (w : World) (l : List UInt8) (cs : Array Value) (n : Nat) (hcs : cs = (l.map e8.val).toArray) (hn : l.length = n) (hs : n ≤ 1000) :
    Gs e8 (w.alloc (.cells cs 5)) w.heap.size (w.alloc (.cells cs 5)).heap.size (.slice (some ⟨w.heap.size, 0, none⟩) n n) l := (Gw.lit w w.heap.size (Nat.le_refl _) l cs n hcs hn hs).sl
theorem lit64 (w : World) (l : List UInt64) (cs : Array Value) (n : Nat) (hcs : cs = (l.map e64.val).toArray) (hn : l.length = n) (hs : n ≤ 1000) :
    Gs e64 (w.alloc (.cells cs 65)) w.heap.size (w.alloc (.cells cs 65)).heap.size (.slice (some ⟨w.heap.size, 0, none⟩) n n) l := (Gw.lit w w.heap.size (Nat.le_refl _) l cs n hcs hn hs).sl
theorem pk_123 : pk [1, 2, 3] 3 = [209, 0] := by decide +kernel
theorem fit_123 : fits [1, 2, 3] 3 := (fitB_iff _ _).1 (by decide +kernel)
theorem pack_123 (g : Nat) (W : World) (hv : Gs e64 W g W.heap.size (.slice (some ⟨g, 0, none⟩) 3 3) [1, 2, 3]) :
    Calls Try.prog 27 #[.slice (some ⟨g, 0, none⟩) 3 3, .int .i64 3] W fun e w' => ∃ A n c, e = .returned (.tuple #[.slice A n c, .int .i64 0]) ∧ Gw e8 w' W.heap.size (.slice A n c) [209, 0] ∧ Below W.heap.size W w' := by
  refine (pack_yes _ [1, 2, 3] g 3 W hv (by omega) (by omega) fit_123 (by simp)).mono ?_
  rintro e w' ⟨v', rfl, o, b⟩
  rw [pk_123] at o
  have ho := o
  obtain ⟨A, c, rfl, -⟩ := ho.sl
  exact ⟨A, _, c, rfl, o, b⟩
theorem unpack_ff (g : Nat) (W : World) (hv : Gs e8 W g W.heap.size (.slice (some ⟨g, 0, none⟩) 1 1) [255]) :
    Calls Try.prog 55 #[.slice (some ⟨g, 0, none⟩) 1 1, .int .i64 2, .int .i64 3] W fun e w' => e = .returned (.tuple #[.slice none 0 0, .int .i64 5]) ∧ W = w' :=
  unpack_rest _ [255] g W.heap.size 2 3 W hv (by omega) (by omega) (by omega) (by decide) (by decide) (by simp)
theorem get_23 (A : Option Addr) (n c base : Nat) (W : World) (h : Gw e8 W base (.slice A n c) [209, 0]) :
    Calls Try.prog 48 #[.slice A n c, .int .i64 2, .int .i64 3] W fun e w' => e = .returned (.int .u64 3) ∧ W = w' := by
  have := get_yes _ [209, 0] base _ 2 3 W h.sl (by omega) (by omega) (by omega) (by simp)
  rw [show tk [209, 0] (2 * 3) 3 = 3 from by decide] at this
  exact this
theorem width_0 (W : World) : Calls Try.prog 43 #[.int .u64 0] W fun e w' => e = .returned (.int .i64 1) ∧ W = w' := by
  have := width_any 0 W (by omega) (by omega)
  rw [show wd (0 : Int).toNat = 1 from by decide] at this
  exact this
theorem width_256 (W : World) : Calls Try.prog 43 #[.int .u64 256] W fun e w' => e = .returned (.int .i64 9) ∧ W = w' := by
  have := width_any 256 W (by omega) (by omega)
  rw [show wd (256 : Int).toNat = 9 from by decide] at this
  exact this

end Go.Proofs.Ytpanfpcfhgnkoaa
