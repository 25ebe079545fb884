/- Walks. -/
import Derived.Test.YtigjkolhhhmdhaaMem
import Derived.BigQuiet
import Derived.Deep.QuietTactic
namespace Go.Proofs.Ytigjkolhhhmdhaa
open Go.RowKit
set_option linter.unusedVariables false

set_option maxHeartbeats 400000 in
theorem bad_nil (w : World) : Calls Try.prog 39 #[.pointer none] w fun e w' => e = .returned (.bool true) ∧ w = w' := by
  go_enter Try.func39, Try.ntmps39
  go_wp2
  go_ret
  exact ⟨rfl, rfl⟩

set_option maxHeartbeats 400000 in
theorem bad_at (g : Nat) (x : Bool) (w : World) (h2 : w.cell? ⟨g, 2, none⟩ = some (.bool x)) :
    Calls Try.prog 39 #[.pointer (some ⟨g, 0, none⟩)] w fun e w' => e = .returned (.bool x) ∧ w = w' := by
  go_enter Try.func39, Try.ntmps39
  go_wp2
  go_ret
  exact ⟨rfl, rfl⟩

set_option maxHeartbeats 400000 in
theorem left_bad (g : Nat) (w : World) (h2 : w.cell? ⟨g, 2, none⟩ = some (.bool true)) :
    Calls Try.prog 43 #[.pointer (some ⟨g, 0, none⟩)] w fun e w' => e = .returned (.int .i64 0) ∧ w = w' := by
  go_enter Try.func43, Try.ntmps43
  go_wp2
  go_ret
  exact ⟨rfl, rfl⟩

set_option maxHeartbeats 400000 in
theorem left_good (g : Nat) (A : Option Addr) (n c p : Nat) (w : World) (h0 : w.cell? ⟨g, 0, none⟩ = some (.slice A n c)) (h1 : w.cell? ⟨g, 1, none⟩ = some (.int .i64 p)) (h2 : w.cell? ⟨g, 2, none⟩ = some (.bool false)) (hp : p ≤ n) (hn : n ≤ 1000000000) :
    Calls Try.prog 43 #[.pointer (some ⟨g, 0, none⟩)] w fun e w' => e = .returned (.int .i64 (n - p : Nat)) ∧ ∃ k, w' = w.drewN k := by
  go_enter Try.func43, Try.ntmps43
  go_wp2
  go_quiet (fail)
  go_wp2
  go_ret
  refine ⟨?_, _, rfl⟩
  have : ((n - p : Nat) : Int) = (n : Int) - p := by omega
  rw [this]; rfl

set_option maxHeartbeats 400000 in
theorem copyWithRoom_any (v : Value) (l : List UInt8) (lo : Nat) (m : Int) (w : World) (hv : Sl w lo w.heap.size v l) (hm : 0 ≤ m) (hb : (l.length : Int) + m ≤ 100000000) :
    Calls Try.prog 42 #[v, .int .i64 m] w fun e w' => ∃ v', e = .returned v' ∧ Ow w' w.heap.size v' l ∧ Below w.heap.size w w' := by
  obtain ⟨m, rfl⟩ := Int.eq_ofNat_of_zero_le hm
  have hv0 := hv
  obtain ⟨A, c, rfl, -, -, -, -⟩ := hv
  go_enter Try.func42, Try.ntmps42
  go_wp2_with (first | (at_make; refine wpList_mk _ rfl _ _ _ rfl Try.underlying31 info8 _ _ _ (l.length + m) rfl rfl ?_ (by omega) ?_; omega; intro w1 o1 g1) | (at_builtin; refine wpList_app _ rfl _ _ _ rfl w.heap.size Try.underlying31 info8 _ [] rfl o1 lo w.heap.size _ l rfl (hv0.grown g1 (Nat.le_refl _) (fun k h => by cases h)) (by simp; omega) g1.size ?_; intro v2 w2 o2 g2 _))
  have b2 : Below w.heap.size w w2 := (below_of_grown g1 (fun k h => by cases h)).grown g2 g1.size (fun k h => by injection h with h; subst h; exact Nat.le_refl _)
  go_ret
  exact ⟨v2, rfl, o2, b2⟩
end Go.Proofs.Ytigjkolhhhmdhaa
