/- Walks: the law CrcFlips. -/
import Derived.Test.YtdeiphimfpckaaaCm
import Derived.Test.YtdeiphimfpckaaaC9
import Derived.BigRegion
namespace Go.Proofs.Ytdeiphimfpckaaa
open Go.RowKit
set_option linter.unusedVariables false

theorem flips_long (A : Option Addr) (n c : Nat) (bit cut : Int) (w : World) (h : 1000 < n) (hn : n ≤ 9223372036854775807) :
    Calls Try.prog 6 #[.slice A n c, .int .i64 bit, .int .i64 cut] w fun e w' => e = .returned (.bool true) ∧ Below w.heap.size w w' := by
  go_enter Try.func6, Try.ntmps6
  go_wp2_with (go_at_call 8; refine (known_any _).mono ?_; rintro e w1 ⟨rfl, hb⟩)
  go_ret
  exact ⟨rfl, hb⟩

theorem unframe_flip (v : Value) (b : List UInt8) (i : Nat) (u : UInt8) (lo : Nat) (w : World) (hv : Gs e8 w lo w.heap.size v ((fr b).set i u)) (hb : b.length ≤ 1000) (h4 : 4 ≤ i) (hi : i < b.length + 8) (hu : ∀ o, (fr b)[i]? = some o → u ≠ o) :
    Calls Try.prog 13 #[v, .int .i64 0] w fun e w' => ∃ A n c N, e = .returned (.tuple #[.slice A n c, .int .i64 N, .int .i64 6]) ∧ Below w.heap.size w w' := by
  refine (unframe_any v _ lo 0 w hv (by rw [List.length_set, fr_length]; omega)).mono ?_
  rintro e w' ⟨A, c, rfl, -, b⟩
  rw [un_flip _ (by omega) i h4 hi u hu]
  exact ⟨A, _, c, _, rfl, b⟩
theorem unframe_cut (v : Value) (b : List UInt8) (n : Nat) (lo : Nat) (w : World) (hv : Gs e8 w lo w.heap.size v ((fr b).take n)) (hb : b.length ≤ 1000) (hn : n < b.length + 8) :
    Calls Try.prog 13 #[v, .int .i64 0] w fun e w' => ∃ A n c N, e = .returned (.tuple #[.slice A n c, .int .i64 N, .int .i64 4]) ∧ Below w.heap.size w w' := by
  refine (unframe_any v _ lo 0 w hv (by rw [List.length_take, fr_length]; omega)).mono ?_
  rintro e w' ⟨A, c, rfl, -, b⟩
  rw [un_cut _ (by omega) n hn]
  exact ⟨A, _, c, _, rfl, b⟩

theorem flip_val (z : UInt8) (s : Nat) (hs : s < 8) : ∃ u : UInt8, bits .xor .u8 (z.toNat : Int) (2 ^ s % 256) = (u.toNat : Int) ∧ u ≠ z := by
  have hz := z.toNat_lt
  have hp : 2 ^ s ≤ 2 ^ 7 := Nat.pow_le_pow_right (by omega) (by omega)
  have hp0 : 0 < 2 ^ s := Nat.pow_pos (by omega)
  have hm : ((2 : Int) ^ s % 256) = ((2 ^ s : Nat) : Int) := by
    rw [show ((2 : Int) ^ s) = ((2 ^ s : Nat) : Int) from by rw [Int.natCast_pow]; rfl]
    omega
  have hx : z.toNat ^^^ 2 ^ s < 2 ^ 8 := Nat.xor_lt_two_pow (by omega) (by omega)
  refine ⟨UInt8.ofNat (z.toNat ^^^ 2 ^ s), ?_, ?_⟩
  · rw [hm, bits_xor_u8 _ _ (by omega) (by omega), UInt8.toNat_ofNat', Nat.mod_eq_of_lt hx]
  · intro h
    have h2 := congrArg UInt8.toNat h
    rw [UInt8.toNat_ofNat', Nat.mod_eq_of_lt hx] at h2
    have h3 := congrArg (fun a => z.toNat ^^^ a) h2
    simp only [← Nat.xor_assoc, Nat.xor_self, Nat.zero_xor] at h3
    omega

set_option maxHeartbeats 4000000 in
set_option maxRecDepth 100000 in
theorem flips_good (A : Option Addr) (c : Nat) (b : List UInt8) (bit cut : Int) (w : World) (hb : Gs e8 w 0 w.heap.size (.slice A b.length c) b) (hn : b.length ≤ 1000) :
    Calls Try.prog 6 #[.slice A b.length c, .int .i64 bit, .int .i64 cut] w fun e w' => e = .returned (.bool true) ∧ Below w.heap.size w w' := by
  have HB := Lib.hid hb
  have HF := Lib.hid (fr_length b)
  obtain ⟨n, hN⟩ : ∃ n : Nat, n = b.length := ⟨_, rfl⟩
  have HN := Lib.hid hN
  rw [← hN] at hn ⊢
  obtain ⟨U, hU⟩ : ∃ U : Int, IntKind.u64.wrap bit = U := ⟨_, rfl⟩
  obtain ⟨V, hV⟩ : ∃ V : Int, IntKind.u64.wrap cut = V := ⟨_, rfl⟩
  have hU0 : 0 ≤ U := by rw [← hU, IntKind.wrap_u64]; omega
  have hV0 : 0 ≤ V := by rw [← hV, IntKind.wrap_u64]; omega
  obtain ⟨K, hK⟩ : ∃ K : Nat, U % (8 * ((n : Int) + 8) - 32) = K := ⟨(U % (8 * ((n : Int) + 8) - 32)).toNat, by
    have := Int.emod_nonneg U (show (8 * ((n : Int) + 8) - 32) ≠ 0 by omega); omega⟩
  obtain ⟨M, hM⟩ : ∃ M : Nat, V % ((n : Int) + 8) = M := ⟨(V % ((n : Int) + 8)).toNat, by
    have := Int.emod_nonneg V (show ((n : Int) + 8) ≠ 0 by omega); omega⟩
  have hK2 : K < 8 * n + 32 := by have := Int.emod_lt_of_pos U (show 0 < (8 * ((n : Int) + 8) - 32) by omega); omega
  have hM2 : M < n + 8 := by have := Int.emod_lt_of_pos V (show 0 < ((n : Int) + 8) by omega); omega
  have hK3 : IntKind.i64.wrap (K : Int) = K := by rw [IntKind.wrap_i64]; omega
  have hM3 : IntKind.i64.wrap (M : Int) = M := by rw [IntKind.wrap_i64]; omega
  clear hb hN
  go_enter Try.func6, Try.ntmps6
  go_wp2_with fail
  refine (frame_any _ b 0 _ (by rw [HN.out]; exact HB.out) (by have := HN.out; omega)).mono ?_
  rintro e w1 ⟨v1, rfl, o1, b1⟩
  obtain ⟨A1, c1, rfl, -⟩ := o1.sl
  rw [HF.out, ← HN.out] at o1 ⊢
  have O1 := Lib.hid o1
  have B1 := Lib.hid b1
  clear o1 b1
  have hi : 4 + K / 8 < n + 8 := by omega
  go_wp2_with (at_builtin; refine wpList_gapp e8 _ rfl _ _ _ rfl w1.heap.size sli8 inf8 _ [] rfl (Gw.empty_ _ _ (Nat.le_refl _)) w.heap.size w1.heap.size _ (fr b) rfl (O1.out.sl.alloc (Nat.le_refl _) _) (by rw [HF.out, ← HN.out]; simp; omega) (by simp) ?_; intro v2 w2 o2 g2 hh; clear hh; rw [List.nil_append] at o2; have B2 := Lib.hid (((Below.refl w1.heap.size w1).alloc (Nat.le_refl _) _).grown g2 (by simp) (fun i hi => by injection hi with hi; subst hi; exact Nat.le_refl _)); have O2 := Lib.hid o2; obtain ⟨A2, c2, b2, hlc2, hcm2, -, -, hcl2, hfr2⟩ := o2.form (by intro h; have := HF.out; rw [h] at this; simp at this); rw [HF.out, ← HN.out] at b2; subst b2; obtain ⟨z, hz⟩ : ∃ z : UInt8, (fr b)[4 + K / 8]? = some z := ⟨_, List.getElem?_eq_getElem (by rw [HF.out, ← HN.out]; omega)⟩; have hck := hcl2 _ z hz; have hfz := hfr2 (4 + K / 8); simp only [e8, b8] at hck; have HZ := Lib.hid hz; clear o2 g2 hlc2 hcm2 hcl2 hfr2 hz)
  go_region
  go_wp2_with fail
  obtain ⟨u, hu, hne⟩ := flip_val z (K % 8) (by omega)
  rw [hu]
  have o3 := O2.out.stored (4 + K / 8) u
  simp only [e8, b8] at o3
  have b3 := B2.out.grown (grown_drewN (grown_set w2 A2 (4 + K / 8) (.int .u8 (u.toNat : Int))) 1) B2.out.size (fun j hj => by injection hj with hj; subst hj; exact (O2.out.lt _ rfl).1)
  refine (unframe_flip _ b (4 + K / 8) u _ _ (by exact o3.sl) (by rw [← HN.out]; exact hn) (by omega) (by rw [← HN.out]; exact hi) (fun o ho => by rw [HZ.out] at ho; injection ho with ho; subst ho; exact hne)).mono ?_
  rintro e w4 ⟨A4, n4, c4, N4, rfl, b4⟩
  have B4 := Lib.hid (b3.trans (b4.mono b3.size))
  clear o3 b3 b4 hu hne
  have O4 := Lib.hid (O1.out.below B4.out (Nat.le_refl _))
  have hM4 : (M : Int) ≤ c1 := by
    have := O4.out.sl
    rw [← (show (fr b).length = n + 8 by rw [HF.out, ← HN.out])] at this
    have h := this.cap_le
    rw [HF.out, ← HN.out] at h
    omega
  have hM5 : M ≤ n + 8 := by omega
  clear hck hfz
  go_wp2_with fail
  have O5 := O4.out.sl
  rw [← (show (fr b).length = n + 8 by rw [HF.out, ← HN.out])] at O5
  refine (unframe_cut _ b M _ _ (O5.take (by rw [HF.out, ← HN.out]; exact hM5)) (by rw [← HN.out]; exact hn) (by rw [← HN.out]; exact hM2)).mono ?_
  rintro e w5 ⟨A5, n5, c5, N5, rfl, b5⟩
  have B5 := Lib.hid (B1.out.trans ((B4.out.trans (b5.mono B4.out.size)).mono B1.out.size))
  clear b5 B4 O4 O5 B1 O1
  go_wp2_with fail
  refine (known_any _).mono ?_
  rintro e w6 ⟨rfl, b6⟩
  go_wp2
  go_ret
  exact ⟨rfl, B5.out.trans (b6.mono B5.out.size)⟩
end Go.Proofs.Ytdeiphimfpckaaa
