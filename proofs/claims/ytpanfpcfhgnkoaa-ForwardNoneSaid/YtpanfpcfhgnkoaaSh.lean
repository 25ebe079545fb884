/- Walks: Bytes. -/
import Derived.Test.YtpanfpcfhgnkoaaSg
namespace Go.Proofs.Ytpanfpcfhgnkoaa
open Go.RowKit
set_option linter.unusedVariables false

set_option maxHeartbeats 1000000 in
theorem bytes_none (p : Value) (r m : Int) (A : Option Addr) (n c : Nat) (w : World) (h : IxAt w p r m 0 A n c) :
    Calls Try.prog 21 #[p] w fun e w' => e = .returned (.slice none 0 0) ∧ Below w.heap.size w w' := by
  have HC := Lib.hid (told_any p r m 0 A n c w h)
  clear h
  go_enter Try.func21, Try.ntmps21
  go_wp2_with (go_at_call 30; refine HC.out.mono ?_; rintro e w1 ⟨rfl, b1⟩; have B1 := Lib.hid b1; clear b1)
  go_ret
  exact ⟨rfl, B1.out.alloc B1.out.size _⟩
theorem u8_wd {n : Nat} (h : n ≤ 255) : (n : Int) = ((UInt8.ofNat n).toNat : Int) := by rw [UInt8.toNat_ofNat', Nat.mod_eq_of_lt (by omega)]
set_option maxHeartbeats 2000000 in
set_option maxRecDepth 100000 in
theorem bytes_c (g : Nat) (A : Option Addr) (c : Nat) (zs : List Int) (many : Int) (w : World) (h : IxM w g A c zs many) :
    Calls Try.prog 21 #[.pointer (some ⟨g, 0, none⟩)] w fun e w' => ∃ v', e = .returned v' ∧ Gw e8 w' w.heap.size v' (iB zs many) ∧ Below w.heap.size w w' := by
  have hm := h.many_le
  have HC := Lib.hid (told_any _ _ _ _ A _ c w h.at_)
  have HP := Lib.hid h.pkd
  have hs := h.small
  have hps := iP_small (zs := zs) hm.2
  have hw1 := wdm_pos many
  have hw2 := wdm_le hm.2
  obtain ⟨M, rfl⟩ : ∃ M : Nat, many = (M : Int) := ⟨many.toNat, by omega⟩
  unfold iB
  rw [Int.toNat_natCast]
  clear h
  generalize iP zs (M : Int) = P at *
  generalize wdm (M : Int) = wd_ at *
  have u1 : IntKind.u32.wrap (zs.length : Int) = (zs.length : Int) := by rw [IntKind.wrap_u32]; omega
  have u2 : IntKind.u32.wrap (M : Int) = (M : Int) := by rw [IntKind.wrap_u32]; omega
  have u3 : IntKind.u8.wrap (wd_ : Int) = (wd_ : Int) := by rw [IntKind.wrap_u8]; omega
  have e0 : ((wd_ : Int) == 0) = false := by simp; omega
  have HPS := Lib.hid (show P.length ≤ 300001 by omega)
  have HMS := Lib.hid (show M ≤ 16777216 by omega)
  have HNS := Lib.hid hs
  have HWS := Lib.hid hw2
  clear hm hs hps hw1 hw2
  go_enter Try.func21, Try.ntmps21
  go_wp2_with (first
    | (go_at_call 30; refine HC.out.mono ?_; rintro e w1 ⟨rfl, b1⟩; have B1 := Lib.hid b1; have B2 := Lib.hid (b1.alloc b1.size (.cells #[.int .i64 (zs.length : Int), .int .i64 (M : Int), .int .i64 (wd_ : Int), .slice A P.length c] 41)); have R2 := Lib.hid (Row.new w1 41 #[.int .i64 (zs.length : Int), .int .i64 (M : Int), .int .i64 (wd_ : Int), .slice A P.length c]); clear b1)
    | (go_at_call 40; refine (appendU32_any (.slice none 0 0) [] 0 zs.length _ (Gs.nil_ _ _ _) (by have := HNS.out; omega) (by simp)).mono ?_; rintro e w3 ⟨v3, rfl, o3, b3⟩; have B3 := Lib.hid (B2.out.trans (b3.mono B2.out.size)); have O3 := Lib.hid o3; have R3 := Lib.hid (R2.out.below b3 R2.out.lt); have c0 := R3.out.cell 0; have c1 := R3.out.cell 1; have c2 := R3.out.cell 2; have c3 := R3.out.cell 3; clear o3 b3)
    | (go_at_call 40; refine (appendU32_any v3 _ _ M _ O3.out.sl (by have := HMS.out; omega) (by simp [le_length])).mono ?_; rintro e w4 ⟨v4, rfl, o4, b4⟩; have B4 := Lib.hid (B3.out.trans (b4.mono B3.out.size)); have O4 := Lib.hid (o4.more B3.out.size); have R4 := Lib.hid (R3.out.below b4 R3.out.lt); clear c0 c1 c2 c3; have c2 := R4.out.cell 2; have c3 := R4.out.cell 3; clear o4 b4)
    | (at_builtin; refine wpList_gapp1 e8 _ rfl _ _ _ rfl w.heap.size sli8 inf8 _ _ rfl O4.out _ (UInt8.ofNat wd_) (congrArg (Value.int .u8) (u8_wd (by have := HWS.out; omega))) rfl (by simp [le_length]) B4.out.size ?_; intro v5 w5 o5 g5 hj; clear hj; have B5 := Lib.hid (B4.out.grown g5 B4.out.size (fun j hj => (O4.out.lt j hj).1)); have O5 := Lib.hid o5; have R5 := Lib.hid (R4.out.grown g5 (Ow.not_row O4.out R4.out (by decide))); clear c2 c3; have c3 := R5.out.cell 3; clear o5 g5)
    | (at_builtin; refine wpList_gapp e8 _ rfl _ _ _ rfl w.heap.size sli8 inf8 _ _ rfl O5.out _ _ _ P rfl (HP.out.below B5.out) (by have := HPS.out; simp [le_length]; omega) B5.out.size ?_; intro v6 w6 o6 g6 hj; clear hj; have B6 := Lib.hid (B5.out.grown g6 B5.out.size (fun j hj => (O5.out.lt j hj).1)); have O6 := Lib.hid o6; clear o6 g6))
  go_ret
  exact ⟨_, rfl, by simpa using O6.out, B6.out⟩
end Go.Proofs.Ytpanfpcfhgnkoaa
