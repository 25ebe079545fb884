/- Walks: how many bytes a short number has. -/
import Derived.Test.YtigjkolhhhmdhaaW2
import Derived.Lib.BitFns
namespace Go.Proofs.Ytigjkolhhhmdhaa
open Go.RowKit
set_option linter.unusedVariables false

theorem bl_lib : ∀ n : Fin 256, Lib.bitLen n.val = bl n.val := by decide +kernel
theorem tab_get (i : Nat) (h : i < Lib.len8tab.size) : (Lib.len8tab[i]'h).toNat = bl i := by
  have h8 : i < 256 := by rw [Lib.len8tab_size] at h; exact h
  have h1 := Lib.len8_of (i : Int) (by omega) (by omega)
  rw [Int.toNat_natCast, bl_lib ⟨i, h8⟩] at h1
  unfold Lib.len8 at h1
  rw [Int.toNat_natCast, ByteArray.getElem?_lt' _ _ h] at h1
  exact Int.ofNat.inj h1
theorem tab_close (x X : Int) (k : Nat) (h0 : 0 ≤ x) (h1 : x ≤ 18446744073709551615) (hk : 2 ^ k ≤ x.toNat) (hX : X.toNat = x.toNat / 2 ^ k) (h : X.toNat < Lib.len8tab.size) (hk' : k ≤ 64) :
    wrap64 ((k : Int) + wrap64 ((Lib.len8tab[X.toNat]'h).toNat : Int)) = (bl x.toNat : Int) := by
  rw [tab_get, bl_shift x.toNat k hk, ← hX]
  have := bl_le X.toNat (by rw [Lib.len8tab_size] at h; omega)
  unfold wrap64
  omega
theorem tab_close0 (x : Int) (h : x.toNat < Lib.len8tab.size) :
    wrap64 (wrap64 ((Lib.len8tab[x.toNat]'h).toNat : Int)) = (bl x.toNat : Int) := by
  rw [tab_get]
  have := bl_le x.toNat (by rw [Lib.len8tab_size] at h; omega)
  unfold wrap64
  omega
theorem fold_tab : (⟨(([0, 1, 2, 2, 3, 3, 3, 3, 4, 4, 4, 4, 4, 4, 4, 4, 5, 5, 5, 5, 5, 5, 5, 5, 5, 5, 5, 5, 5, 5, 5, 5, 6, 6, 6, 6, 6, 6, 6, 6, 6, 6, 6, 6, 6, 6, 6, 6, 6, 6, 6, 6, 6, 6, 6, 6, 6, 6, 6, 6, 6, 6, 6, 6].append [7, 7, 7, 7, 7, 7, 7, 7, 7, 7, 7, 7, 7, 7, 7, 7, 7, 7, 7, 7, 7, 7, 7, 7, 7, 7, 7, 7, 7, 7, 7, 7, 7, 7, 7, 7, 7, 7, 7, 7, 7, 7, 7, 7, 7, 7, 7, 7, 7, 7, 7, 7, 7, 7, 7, 7, 7, 7, 7, 7, 7, 7, 7, 7]).append ([8, 8, 8, 8, 8, 8, 8, 8, 8, 8, 8, 8, 8, 8, 8, 8, 8, 8, 8, 8, 8, 8, 8, 8, 8, 8, 8, 8, 8, 8, 8, 8, 8, 8, 8, 8, 8, 8, 8, 8, 8, 8, 8, 8, 8, 8, 8, 8, 8, 8, 8, 8, 8, 8, 8, 8, 8, 8, 8, 8, 8, 8, 8, 8].append [8, 8, 8, 8, 8, 8, 8, 8, 8, 8, 8, 8, 8, 8, 8, 8, 8, 8, 8, 8, 8, 8, 8, 8, 8, 8, 8, 8, 8, 8, 8, 8, 8, 8, 8, 8, 8, 8, 8, 8, 8, 8, 8, 8, 8, 8, 8, 8, 8, 8, 8, 8, 8, 8, 8, 8, 8, 8, 8, 8, 8, 8, 8, 8])).toArray⟩ : ByteArray) = Lib.len8tab := by decide +kernel

set_option maxHeartbeats 2000000 in
set_option maxRecDepth 100000 in
theorem len64_int (x : Int) (w : World) (h0 : 0 ≤ x) (h1 : x ≤ 18446744073709551615) :
    Calls Try.prog 45 #[.int .u64 x] w fun e w' => e = .returned (.int .i64 (bl x.toNat)) ∧ w = w' := by
  go_enter Try.func45, Try.ntmps45
  rw [fold_tab]
  go_wp2
  all_goals first
    | (exfalso; rename_i hh; exact hh ⟨by omega, by rw [Lib.len8tab_size]; omega⟩)
    | (go_ret; refine ⟨congrArg Ending.returned (congrArg (Value.int IntKind.i64) ?_), rfl⟩)
  all_goals first
    | exact tab_close x _ 56 h0 h1 (by omega) (by omega) _ (by omega)
    | exact tab_close x _ 48 h0 h1 (by omega) (by omega) _ (by omega)
    | exact tab_close x _ 40 h0 h1 (by omega) (by omega) _ (by omega)
    | exact tab_close x _ 32 h0 h1 (by omega) (by omega) _ (by omega)
    | exact tab_close x _ 24 h0 h1 (by omega) (by omega) _ (by omega)
    | exact tab_close x _ 16 h0 h1 (by omega) (by omega) _ (by omega)
    | exact tab_close x _ 8 h0 h1 (by omega) (by omega) _ (by omega)
    | exact tab_close0 x _
end Go.Proofs.Ytigjkolhhhmdhaa
