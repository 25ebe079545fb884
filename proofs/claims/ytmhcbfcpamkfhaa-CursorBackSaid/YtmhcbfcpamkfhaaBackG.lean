/- Walks: the law CursorBack, where there are not too many bytes. -/
import Derived.Test.YtmhcbfcpamkfhaaBack
import Derived.Test.YtmhcbfcpamkfhaaRg
namespace Go.Proofs.Ytmhcbfcpamkfhaa
open Go.RowKit
set_option linter.unusedVariables false

set_option maxHeartbeats 8000000 in
set_option maxRecDepth 100000 in
theorem back_good (a b c d : Nat) (A B : Option Addr) (cA cB : Nat) (x more : List UInt8) (w : World) (ha : a < 65536) (hb : b < 4294967296) (hc : (c : Int) ≤ 18446744073709551615) (hd : (d : Int) ≤ 18446744073709551615)
    (hx : x.length ≤ 1000) (hm : more.length ≤ 1000) (vx : Sl w 0 w.heap.size (.slice A x.length cA) x) (vm : Sl w 0 w.heap.size (.slice B more.length cB) more) :
    Calls Try.prog 6 #[.int .u16 a, .int .u32 b, .int .u64 c, .int .u64 d, .slice A x.length cA, .slice B more.length cB] w fun e w' => e = .returned (.bool true) ∧ Below w.heap.size w w' := by
  obtain ⟨p1, p2, p3, p4, p5, p6, spec⟩ := backSpec a b c d x more ha hb (by omega) (by omega) hx
  have HC := Lib.hid (show (c : Int) ≤ 18446744073709551615 from hc)
  have HD := Lib.hid (show (d : Int) ≤ 18446744073709551615 from hd)
  have hsd : (short d).length ≤ 10 := short_length_le d (by omega)
  have hsx : (short x.length).length ≤ 10 := short_length_le x.length (by omega)
  obtain ⟨L, hL⟩ : ∃ L : List UInt8, L = le 2 a ++ le 4 b ++ le 8 c ++ short d ++ short x.length ++ x := ⟨_, rfl⟩
  obtain ⟨F, hF⟩ : ∃ F : List UInt8, F = L ++ more := ⟨_, rfl⟩
  rw [← hL, ← hF] at spec
  have hLl : L.length ≤ 1100 := by rw [hL]; simp [le_length]; omega
  have hFl : F.length ≤ 2200 := by rw [hF]; simp; omega
  have hL2 : [] ++ le 2 a ++ le 4 b ++ le 8 c ++ short (d : Int).toNat ++ short (x.length : Int).toNat ++ x = L := by rw [Int.toNat_natCast, Int.toNat_natCast, List.nil_append, hL]
  have HL := Lib.hid hL2
  have HF := Lib.hid hF
  clear hL hL2 hF
  obtain rfl : p6 = L.length := spec.at_
  have SPEC := Lib.hid spec
  have VX := Lib.hid vx
  have VM := Lib.hid vm
  obtain ⟨S, hS⟩ : ∃ S : ByteArray, S = ⟨x.toArray⟩ := ⟨_, rfl⟩
  have hcx : ∀ W, Below w.heap.size w W → (convert 22 9 (.slice A x.length cA)).run Try.prog W = .ok (.string S) W := fun W hW => by rw [hS]; exact str_sl (vx.below hW)
  have HCX := Lib.hid hcx
  have HS := Lib.hid hS
  clear hc hd spec vx vm hcx hS
  go_enter Try.func6, Try.ntmps6
  go_wp2_with fail
  refine (appendU16_any (.slice none 0 0) [] 0 a w (Sl.nil_ _ _ _) ha (by simp)).mono ?_
  rintro e w1 ⟨v1, rfl, o1, b1⟩
  go_wp2_with fail
  refine (appendU32_any v1 _ _ b _ o1.sl hb (by simp [le_length])).mono ?_
  rintro e w2 ⟨v2, rfl, o2, b2⟩
  go_wp2_with fail
  refine (appendU64_any v2 _ _ c _ o2.sl (by have := HC.out; omega) (by simp [le_length])).mono ?_
  rintro e w3 ⟨v3, rfl, o3, b3⟩
  go_wp2_with fail
  refine (appendUint_any v3 _ _ (d : Int) _ o3.sl (Int.natCast_nonneg d) HD.out (by simp [le_length])).mono ?_
  rintro e w4 ⟨v4, rfl, o4, b4⟩
  have B4 : Below w.heap.size w w4 := (b1.trans (b2.mono b1.size)).trans ((b3.mono (Nat.le_trans b1.size b2.size)).trans (b4.mono (Nat.le_trans b1.size (Nat.le_trans b2.size b3.size))))
  clear b1 b2 b3 b4 o1 o2 o3
  have hB4 := B4.size
  go_wp2_with (first
    | (go_at_call 12; refine (appendUint_any v4 _ _ (x.length : Int) _ o4.sl (by omega) (by omega) (by simp [le_length]; omega)).mono ?_; rintro e w5 ⟨v5, rfl, o5, b5⟩)
    | (at_builtin; refine wpList_app _ rfl (Operand.tmp 36) (Operand.tmp 37) _ rfl w.heap.size Try.underlying22 info8 v5 _ rfl (o5.more hB4) 0 w.heap.size _ x rfl (VX.out.below (B4.trans (b5.mono hB4))) ?_ (Nat.le_trans hB4 b5.size) ?_; simp [le_length]; omega; intro v6 w6 o6 g6 hj; clear hj; rw [HL.out] at o6; have B6 : Below w.heap.size w w6 := (B4.trans (b5.mono hB4)).grown g6 (Nat.le_trans hB4 b5.size) (fun j hj => ((o5.more hB4).lt j hj).1); clear o5 g6; obtain ⟨A6, c6, rfl, -⟩ := o6.sl; have B6' := Lib.hid B6; clear B6)
    | (at_builtin; refine wpList_app _ rfl (Operand.tmp 39) (Operand.tmp 40) _ rfl w.heap.size Try.underlying22 info8 _ [] rfl (Ow.empty_ _ _ B6'.out.size) w.heap.size w6.heap.size _ L rfl (o6.sl.alloc (Nat.le_refl _) _) ?_ (Nat.le_trans B6'.out.size (by simp)) ?_; simp; omega; intro v7 w7 o7 g7 hj; clear hj; rw [List.nil_append] at o7; have B7 : Below w.heap.size w w7 := (B6'.out.alloc B6'.out.size _).grown g7 (Nat.le_trans B6'.out.size (by simp)) (fun j hj => by injection hj with hj; subst hj; exact B6'.out.size); clear g7; have B7' := Lib.hid B7; clear B7)
    | (at_builtin; refine wpList_app _ rfl (Operand.tmp 41) (Operand.tmp 42) _ rfl w.heap.size Try.underlying22 info8 v7 L rfl o7 0 w.heap.size _ more rfl (VM.out.below B7'.out) ?_ B7'.out.size ?_; omega; intro v8 w8 o8 g8 hj; clear hj; rw [← HF.out] at o8; have B8 : Below w.heap.size w w8 := B7'.out.grown g8 B7'.out.size (fun j hj => (o7.lt j hj).1); clear g8 o7; have B8' := Lib.hid B8; clear B8)
    | (go_at_call 15; refine (new_any v8 F _ _ o8.sl (by omega)).mono ?_; rintro e w9 ⟨g, v9, rfl, r9, b9⟩; have B9 : Below w.heap.size w w9 := B8'.out.trans (b9.mono B8'.out.size); have hg : w.heap.size ≤ g := Nat.le_trans B8'.out.size r9.ge; have r9' := r9.more B8'.out.size; clear b9 r9; have HB := Lib.hid B9; have HR := Lib.hid r9'; clear B9 r9'))
  clear o4 B4 hB4 b5 o6 B6' B7' o8 B8' HL HF VM VX HC HD hsd hsx ha hb hLl hFl
  have hwr : IntKind.u64.wrap (x.length : Int) = (x.length : Int) := by rw [IntKind.wrap_u64]; omega
  have hSc : Below w.heap.size w w9.drew := HB.out.drew
  have hR0 := HR.out.drew
  clear HB HR
  have HB := Lib.hid hSc
  have HR := Lib.hid hR0
  clear hR0
  refine wp_region_held_drew (S := fun W => Below w.heap.size w W) (by kernel_rfl) hSc (fun _ => ?_)
  refine held_take 0 ?_ rfl (by kernel_rfl) (by kernel_rfl) (by kernel_rfl) (fun _ _ _ h => h) (by rfl) ?_ hSc ?_
  rotate_left
  · (intro W hSW; go_simp; try rfl)
  try simp only [Act.put, List.setIfInBounds_toArray, List.set_cons_zero, List.set_cons_succ]
  refine held_take 1 ?_ rfl (by kernel_rfl) (by kernel_rfl) (by kernel_rfl) (fun _ _ _ h => h) (by rfl) ?_ hSc ?_
  rotate_left
  · (intro W hSW; go_simp; try rfl)
  try simp only [Act.put, List.setIfInBounds_toArray, List.set_cons_zero, List.set_cons_succ]
  refine held_take 2 ?_ rfl (by kernel_rfl) (by kernel_rfl) (by kernel_rfl) (fun _ _ _ h => h) (by rfl) ?_ hSc ?_
  rotate_left
  · (intro W hSW; go_simp; try rfl)
  try simp only [Act.put, List.setIfInBounds_toArray, List.set_cons_zero, List.set_cons_succ]
  refine held_take 3 ?_ rfl (by kernel_rfl) (by kernel_rfl) (by kernel_rfl) (fun _ _ _ h => h) (by rfl) ?_ hSc ?_
  rotate_left
  · (intro W hSW; go_simp; try rfl)
  try simp only [Act.put, List.setIfInBounds_toArray, List.set_cons_zero, List.set_cons_succ]
  refine held_take 5 ?_ rfl (by kernel_rfl) (by kernel_rfl) (by kernel_rfl) (fun _ _ _ h => h) (by rfl) ?_ hSc ?_
  rotate_left
  · (intro W hSW; go_simp; try rfl)
  try simp only [Act.put, List.setIfInBounds_toArray, List.set_cons_zero, List.set_cons_succ]
  refine held_next 4 rfl (by kernel_rfl) (by rfl) ?_
  go_simp
  refine (U16_spec SPEC.out.u16 _ HR.out).mono ?_
  rintro e w10 ⟨rfl, hr, hgr⟩
  have hb10 : Below w.heap.size w w10 := HB.out.grown hgr HB.out.size (fun j hj => by injection hj with hj; omega)
  clear HB HR hgr
  have HB := Lib.hid hb10
  have HR := Lib.hid hr
  refine ⟨fun W => Below w.heap.size w W, fun W hW => hW, hb10, ?_⟩
  clear hSc
  have hSc : Below w.heap.size w w10 := hb10
  clear hr hb10
  try simp only [Act.put, List.setIfInBounds_toArray, List.set_cons_zero, List.set_cons_succ]
  refine held_take 6 ?_ rfl (by kernel_rfl) (by kernel_rfl) (by kernel_rfl) (fun _ _ _ h => h) (by rfl) ?_ hSc ?_
  rotate_left
  · (intro W hSW; go_simp; try rfl)
  try simp only [Act.put, List.setIfInBounds_toArray, List.set_cons_zero, List.set_cons_succ]
  refine held_take 7 ?_ rfl (by kernel_rfl) (by kernel_rfl) (by kernel_rfl) (fun _ _ _ h => h) (by rfl) ?_ hSc ?_
  rotate_left
  · (intro W hSW; go_simp; try rfl)
  try simp only [Act.put, List.setIfInBounds_toArray, List.set_cons_zero, List.set_cons_succ]
  refine held_take 8 ?_ rfl (by kernel_rfl) (by kernel_rfl) (by kernel_rfl) (fun _ _ _ h => h) (by rfl) ?_ hSc ?_
  rotate_left
  · (intro W hSW; go_simp; try rfl)
  try simp only [Act.put, List.setIfInBounds_toArray, List.set_cons_zero, List.set_cons_succ]
  refine held_take 9 ?_ rfl (by kernel_rfl) (by kernel_rfl) (by kernel_rfl) (fun _ _ _ h => h) (by rfl) ?_ hSc ?_
  rotate_left
  · (intro W hSW; go_simp; try rfl)
  try simp only [Act.put, List.setIfInBounds_toArray, List.set_cons_zero, List.set_cons_succ]
  refine held_take 11 ?_ rfl (by kernel_rfl) (by kernel_rfl) (by kernel_rfl) (fun _ _ _ h => h) (by rfl) ?_ hSc ?_
  rotate_left
  · (intro W hSW; go_simp; try rfl)
  try simp only [Act.put, List.setIfInBounds_toArray, List.set_cons_zero, List.set_cons_succ]
  refine held_next 10 rfl (by kernel_rfl) (by rfl) ?_
  go_simp
  refine (U32_spec SPEC.out.u32 _ HR.out).mono ?_
  rintro e w11 ⟨rfl, hr, hgr⟩
  have hb11 : Below w.heap.size w w11 := HB.out.grown hgr HB.out.size (fun j hj => by injection hj with hj; omega)
  clear HB HR hgr
  have HB := Lib.hid hb11
  have HR := Lib.hid hr
  refine ⟨fun W => Below w.heap.size w W, fun W hW => hW, hb11, ?_⟩
  clear hSc
  have hSc : Below w.heap.size w w11 := hb11
  clear hr hb11
  try simp only [Act.put, List.setIfInBounds_toArray, List.set_cons_zero, List.set_cons_succ]
  refine held_take 12 ?_ rfl (by kernel_rfl) (by kernel_rfl) (by kernel_rfl) (fun _ _ _ h => h) (by rfl) ?_ hSc ?_
  rotate_left
  · (intro W hSW; go_simp; try rfl)
  try simp only [Act.put, List.setIfInBounds_toArray, List.set_cons_zero, List.set_cons_succ]
  refine held_take 13 ?_ rfl (by kernel_rfl) (by kernel_rfl) (by kernel_rfl) (fun _ _ _ h => h) (by rfl) ?_ hSc ?_
  rotate_left
  · (intro W hSW; go_simp; try rfl)
  try simp only [Act.put, List.setIfInBounds_toArray, List.set_cons_zero, List.set_cons_succ]
  refine held_take 14 ?_ rfl (by kernel_rfl) (by kernel_rfl) (by kernel_rfl) (fun _ _ _ h => h) (by rfl) ?_ hSc ?_
  rotate_left
  · (intro W hSW; go_simp; try rfl)
  try simp only [Act.put, List.setIfInBounds_toArray, List.set_cons_zero, List.set_cons_succ]
  refine held_take 15 ?_ rfl (by kernel_rfl) (by kernel_rfl) (by kernel_rfl) (fun _ _ _ h => h) (by rfl) ?_ hSc ?_
  rotate_left
  · (intro W hSW; go_simp; try rfl)
  try simp only [Act.put, List.setIfInBounds_toArray, List.set_cons_zero, List.set_cons_succ]
  refine held_take 17 ?_ rfl (by kernel_rfl) (by kernel_rfl) (by kernel_rfl) (fun _ _ _ h => h) (by rfl) ?_ hSc ?_
  rotate_left
  · (intro W hSW; go_simp; try rfl)
  try simp only [Act.put, List.setIfInBounds_toArray, List.set_cons_zero, List.set_cons_succ]
  refine held_next 16 rfl (by kernel_rfl) (by rfl) ?_
  go_simp
  refine (U64_spec SPEC.out.u64 _ HR.out).mono ?_
  rintro e w12 ⟨rfl, hr, hgr⟩
  have hb12 : Below w.heap.size w w12 := HB.out.grown hgr HB.out.size (fun j hj => by injection hj with hj; omega)
  clear HB HR hgr
  have HB := Lib.hid hb12
  have HR := Lib.hid hr
  refine ⟨fun W => Below w.heap.size w W, fun W hW => hW, hb12, ?_⟩
  clear hSc
  have hSc : Below w.heap.size w w12 := hb12
  clear hr hb12
  try simp only [Act.put, List.setIfInBounds_toArray, List.set_cons_zero, List.set_cons_succ]
  refine held_take 18 ?_ rfl (by kernel_rfl) (by kernel_rfl) (by kernel_rfl) (fun _ _ _ h => h) (by rfl) ?_ hSc ?_
  rotate_left
  · (intro W hSW; go_simp; try rfl)
  try simp only [Act.put, List.setIfInBounds_toArray, List.set_cons_zero, List.set_cons_succ]
  refine held_take 19 ?_ rfl (by kernel_rfl) (by kernel_rfl) (by kernel_rfl) (fun _ _ _ h => h) (by rfl) ?_ hSc ?_
  rotate_left
  · (intro W hSW; go_simp; try rfl)
  try simp only [Act.put, List.setIfInBounds_toArray, List.set_cons_zero, List.set_cons_succ]
  refine held_take 20 ?_ rfl (by kernel_rfl) (by kernel_rfl) (by kernel_rfl) (fun _ _ _ h => h) (by rfl) ?_ hSc ?_
  rotate_left
  · (intro W hSW; go_simp; try rfl)
  try simp only [Act.put, List.setIfInBounds_toArray, List.set_cons_zero, List.set_cons_succ]
  refine held_take 21 ?_ rfl (by kernel_rfl) (by kernel_rfl) (by kernel_rfl) (fun _ _ _ h => h) (by rfl) ?_ hSc ?_
  rotate_left
  · (intro W hSW; go_simp; try rfl)
  try simp only [Act.put, List.setIfInBounds_toArray, List.set_cons_zero, List.set_cons_succ]
  refine held_take 23 ?_ rfl (by kernel_rfl) (by kernel_rfl) (by kernel_rfl) (fun _ _ _ h => h) (by rfl) ?_ hSc ?_
  rotate_left
  · (intro W hSW; go_simp; try rfl)
  try simp only [Act.put, List.setIfInBounds_toArray, List.set_cons_zero, List.set_cons_succ]
  refine held_next 22 rfl (by kernel_rfl) (by rfl) ?_
  go_simp
  refine (Uint_spec SPEC.out.ui _ HR.out).mono ?_
  rintro e w13 ⟨rfl, hr, hgr⟩
  have hb13 : Below w.heap.size w w13 := HB.out.grown hgr HB.out.size (fun j hj => by injection hj with hj; omega)
  clear HB HR hgr
  have HB := Lib.hid hb13
  have HR := Lib.hid hr
  refine ⟨fun W => Below w.heap.size w W, fun W hW => hW, hb13, ?_⟩
  clear hSc
  have hSc : Below w.heap.size w w13 := hb13
  clear hr hb13
  try simp only [Act.put, List.setIfInBounds_toArray, List.set_cons_zero, List.set_cons_succ]
  refine held_take 24 ?_ rfl (by kernel_rfl) (by kernel_rfl) (by kernel_rfl) (fun _ _ _ h => h) (by rfl) ?_ hSc ?_
  rotate_left
  · (intro W hSW; go_simp; try rfl)
  try simp only [Act.put, List.setIfInBounds_toArray, List.set_cons_zero, List.set_cons_succ]
  refine held_take 25 ?_ rfl (by kernel_rfl) (by kernel_rfl) (by kernel_rfl) (fun _ _ _ h => h) (by rfl) ?_ hSc ?_
  rotate_left
  · (intro W hSW; go_simp; try rfl)
  try simp only [Act.put, List.setIfInBounds_toArray, List.set_cons_zero, List.set_cons_succ]
  refine held_take 26 ?_ rfl (by kernel_rfl) (by kernel_rfl) (by kernel_rfl) (fun _ _ _ h => h) (by rfl) ?_ hSc ?_
  rotate_left
  · (intro W hSW; go_simp; try rfl)
  try simp only [Act.put, List.setIfInBounds_toArray, List.set_cons_zero, List.set_cons_succ]
  refine held_take 27 ?_ rfl (by kernel_rfl) (by kernel_rfl) (by kernel_rfl) (fun _ _ _ h => h) (by rfl) ?_ hSc ?_
  rotate_left
  · (intro W hSW; go_simp; try rfl)
  try simp only [Act.put, List.setIfInBounds_toArray, List.set_cons_zero, List.set_cons_succ]
  refine held_take 29 ?_ rfl (by kernel_rfl) (by kernel_rfl) (by kernel_rfl) (fun _ _ _ h => h) (by rfl) ?_ hSc ?_
  rotate_left
  · (intro W hSW; go_simp; try rfl)
  try simp only [Act.put, List.setIfInBounds_toArray, List.set_cons_zero, List.set_cons_succ]
  refine held_take 30 ?_ rfl (by kernel_rfl) (by kernel_rfl) (by kernel_rfl) (fun _ _ _ h => h) (by rfl) ?_ hSc ?_
  rotate_left
  · (intro W hSW; go_simp; try rfl)
  try simp only [Act.put, List.setIfInBounds_toArray, List.set_cons_zero, List.set_cons_succ]
  refine held_take 31 ?_ rfl (by kernel_rfl) (by kernel_rfl) (by kernel_rfl) (fun _ _ _ h => h) (by rfl) ?_ hSc ?_
  rotate_left
  · (intro W hSW; go_simp; try rfl)
  try simp only [Act.put, List.setIfInBounds_toArray, List.set_cons_zero, List.set_cons_succ]
  refine held_next 28 rfl (by kernel_rfl) (by rfl) ?_
  go_simp
  refine (Uint_spec SPEC.out.ln _ HR.out).mono ?_
  rintro e w14 ⟨rfl, hr, hgr⟩
  have hb14 : Below w.heap.size w w14 := HB.out.grown hgr HB.out.size (fun j hj => by injection hj with hj; omega)
  clear HB HR hgr
  have HB := Lib.hid hb14
  have HR := Lib.hid hr
  refine ⟨fun W => Below w.heap.size w W, fun W hW => hW, hb14, ?_⟩
  clear hSc
  have hSc : Below w.heap.size w w14 := hb14
  clear hr hb14
  try simp only [Act.put, List.setIfInBounds_toArray, List.set_cons_zero, List.set_cons_succ]
  refine held_take 32 ?_ rfl (by kernel_rfl) (by kernel_rfl) (by kernel_rfl) (fun _ _ _ h => h) (by rfl) ?_ hSc ?_
  rotate_left
  · (intro W hSW; go_simp; try rfl)
  try simp only [Act.put, List.setIfInBounds_toArray, List.set_cons_zero, List.set_cons_succ]
  refine held_take 33 ?_ rfl (by kernel_rfl) (by kernel_rfl) (by kernel_rfl) (fun _ _ _ h => h) (by rfl) ?_ hSc ?_
  rotate_left
  · (intro W hSW; go_simp; try rfl)
  try simp only [Act.put, List.setIfInBounds_toArray, List.set_cons_zero, List.set_cons_succ]
  refine held_take 34 ?_ rfl (by kernel_rfl) (by kernel_rfl) (by kernel_rfl) (fun _ _ _ h => h) (by rfl) ?_ hSc ?_
  rotate_left
  · (intro W hSW; go_simp; try rfl)
  try simp only [Act.put, List.setIfInBounds_toArray, List.set_cons_zero, List.set_cons_succ]
  refine held_take 35 ?_ rfl (by kernel_rfl) (by kernel_rfl) (by kernel_rfl) (fun _ _ _ h => h) (by rfl) ?_ hSc ?_
  rotate_left
  · (intro W hSW; go_simp; try rfl)
  try simp only [Act.put, List.setIfInBounds_toArray, List.set_cons_zero, List.set_cons_succ]
  refine held_take 36 ?_ rfl (by kernel_rfl) (by kernel_rfl) (by kernel_rfl) (fun _ _ _ h => h) (by rfl) ?_ hSc ?_
  rotate_left
  · (intro W hSW; go_simp; try rfl)
  try simp only [Act.put, List.setIfInBounds_toArray, List.set_cons_zero, List.set_cons_succ]
  refine held_take 37 ?_ rfl (by kernel_rfl) (by kernel_rfl) (by kernel_rfl) (fun _ _ _ h => h) (by rfl) ?_ hSc ?_
  rotate_left
  · (intro W hSW; go_simp; try rfl)
  try simp only [Act.put, List.setIfInBounds_toArray, List.set_cons_zero, List.set_cons_succ]
  refine held_take 40 ?_ rfl (by kernel_rfl) (by kernel_rfl) (by kernel_rfl) (fun _ _ _ h => h) (by rfl) ?_ hSc ?_
  rotate_left
  · (intro W hSW; go_simp; try rfl)
  try simp only [Act.put, List.setIfInBounds_toArray, List.set_cons_zero, List.set_cons_succ]
  refine held_take 41 ?_ rfl (by kernel_rfl) (by kernel_rfl) (by kernel_rfl) (fun _ _ _ h => h) (by rfl) ?_ hSc ?_
  rotate_left
  · (intro W hSW; have cv := HCX.out W hSW; go_simp; try rfl)
  try simp only [Act.put, List.setIfInBounds_toArray, List.set_cons_zero, List.set_cons_succ]
  refine held_next 38 rfl (by kernel_rfl) (by rfl) ?_
  go_simp
  refine (Bytes_spec SPEC.out.by_ S HS.out _ HR.out).mono ?_
  rintro e w15 ⟨A15, n15, c15, rfl, hc15, hr, hgr⟩
  have hb15 : Below w.heap.size w w15 := HB.out.grown hgr HB.out.size (fun j hj => by injection hj with hj; omega)
  clear HB HR hgr
  have HB := Lib.hid hb15
  have HR := Lib.hid hr
  refine ⟨fun W => Below w.heap.size w W, fun W hW => hW, hb15, ?_⟩
  clear hSc
  have hSc : Below w.heap.size w w15 := hb15
  clear hr hb15
  try simp only [Act.put, List.setIfInBounds_toArray, List.set_cons_zero, List.set_cons_succ]
  refine held_next 39 rfl (by kernel_rfl) (by rfl) ?_
  go_simp
  refine ⟨fun W => Below w.heap.size w W, fun W hW => hW, hSc, ?_⟩
  try simp only [Act.put, List.setIfInBounds_toArray, List.set_cons_zero, List.set_cons_succ]
  refine held_take 42 ?_ rfl (by kernel_rfl) (by kernel_rfl) (by kernel_rfl) (fun _ _ _ h => h) (by rfl) ?_ hSc ?_
  rotate_left
  · (intro W hSW; go_simp; try rfl)
  try simp only [Act.put, List.setIfInBounds_toArray, List.set_cons_zero, List.set_cons_succ]
  refine held_take 43 ?_ rfl (by kernel_rfl) (by kernel_rfl) (by kernel_rfl) (fun _ _ _ h => h) (by rfl) ?_ hSc ?_
  rotate_left
  · (intro W hSW; go_simp; try rfl)
  try simp only [Act.put, List.setIfInBounds_toArray, List.set_cons_zero, List.set_cons_succ]
  refine wpAnyH_done (by kernel_rfl) ?_ _
  clear hSc hc15 hwr
  all_goals
    go_wp2_with (first
      | (go_at_call 26; refine (At_any _ HR.out).mono ?_; rintro e w16 ⟨rfl, rfl⟩)
      | (go_at_call 27; refine (Left_any _ HR.out).mono ?_; rintro e w17 ⟨rfl, k17, hW⟩; rw [SPEC.out.left]; have hr : Rd w17 w.heap.size g v9 F L.length false := (by rw [hW]; exact HR.out.drewN k17); have hb17 : Below w.heap.size w w17 := (by rw [hW]; exact ⟨HB.out.os, HB.out.tape, HB.out.output, HB.out.size, HB.out.block⟩); clear hW HB HR; have HB := Lib.hid hb17; have HR := Lib.hid hr; clear hb17 hr)
      | (go_at_call 25; refine (Bad_any _ HR.out).mono ?_; rintro e w18 ⟨rfl, rfl⟩)
      | (go_at_call 8; refine (known_any _).mono ?_; rintro e w19 ⟨rfl, b19⟩))
    go_ret
    exact ⟨rfl, HB.out.trans (b19.mono HB.out.size)⟩
end Go.Proofs.Ytmhcbfcpamkfhaa
