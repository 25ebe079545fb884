/- Walks: the document's Ends, Same, Bytes. -/
import Derived.Test.YtigjkolhhhmdhaaTd
namespace Go.Proofs.Ytigjkolhhhmdhaa
open Go.RowKit
set_option linter.unusedVariables false

set_option maxHeartbeats 2000000 in
theorem refEnds_any (A : Option Addr) (d : Nat) (zs : List Int) (w : World) (hi : Nat) (hG : Gs eL w 0 hi (.slice A zs.length d) zs) (hl : zs.length ≤ 100000) :
    Calls Try.prog 22 #[.slice A zs.length d] w fun e w' => e = .returned (.tuple #[.int .i64 (loI zs), .int .i64 (hiI zs)]) ∧ w' = w := by
  have HG := Lib.hid hG
  clear hG
  obtain ⟨n, hn⟩ : ∃ n, zs.length = n := ⟨_, rfl⟩
  have HN := Lib.hid hn
  rw [hn] at hl ⊢
  clear hn
  go_enter Try.func22, Try.ntmps22
  go_wp2
  go_loopw [4, 5, 6] (fun va vz i wr => ∃ (k : Nat) (a z : Int), k ≤ n ∧ va = .int .i64 a ∧ vz = .int .i64 z ∧ i = .int .i64 k ∧ wr = w ∧ Hid (a = loI (zs.take k) ∧ z = hiI (zs.take k))) (fun _ _ i _ => n - (intOf i).toNat)
  case atStart => exact ⟨0, _, _, Nat.zero_le _, rfl, rfl, rfl, rfl, Lib.hid ⟨rfl, rfl⟩⟩
  case round =>
    obtain ⟨k, a, z, hk, rfl, rfl, rfl, rfl, hE⟩ := hrel
    have HE := Lib.hid hE.out
    clear hE
    by_cases hlt : k < n
    · obtain ⟨y, hy⟩ : ∃ y, zs[k]? = some y := ⟨_, List.getElem?_eq_getElem (by rw [HN.out]; omega)⟩
      have HS := Lib.hid (show min a y = loI (zs.take (k + 1)) ∧ max z y = hiI (zs.take (k + 1)) from ⟨by rw [lo_snoc hy, HE.out.1], by rw [hi_snoc hy, HE.out.2]⟩)
      obtain ⟨b, boff, bc', e, -, -, -, bw, hc⟩ := HG.out.form (fun e => by have h := congrArg List.length e; have := HN.out; simp only [List.length_nil] at h; omega)
      injection e with e4 e5 e6
      subst e4 e6
      have q0 := hc k y hy
      simp only [eL] at q0
      clear hc hy e5
      by_cases h0 : y < a
      · have d1 : decide (y < a) = true := decide_eq_true h0
        have m1 : min a y = y := by omega
        by_cases h2 : z < y
        · have d2 : decide (z < y) = true := decide_eq_true h2
          have m2 : max z y = y := by omega
          rw [m1, m2] at HS
          clear h0 h2 m1 m2
          go_wp2
          go_roundw
          case rel => exact ⟨k + 1, _, _, by omega, rfl, rfl, by go_num, by first | rfl | trivial, HS⟩
          case measure => simp [intOf]; omega
        · have d2 : decide (z < y) = false := decide_eq_false h2
          have m2 : max z y = z := by omega
          rw [m1, m2] at HS
          clear h0 h2 m1 m2
          go_wp2
          go_roundw
          case rel => exact ⟨k + 1, _, _, by omega, rfl, rfl, by go_num, by first | rfl | trivial, HS⟩
          case measure => simp [intOf]; omega
      · have d1 : decide (y < a) = false := decide_eq_false h0
        have m1 : min a y = a := by omega
        by_cases h2 : z < y
        · have d2 : decide (z < y) = true := decide_eq_true h2
          have m2 : max z y = y := by omega
          rw [m1, m2] at HS
          clear h0 h2 m1 m2
          go_wp2
          go_roundw
          case rel => exact ⟨k + 1, _, _, by omega, rfl, rfl, by go_num, by first | rfl | trivial, HS⟩
          case measure => simp [intOf]; omega
        · have d2 : decide (z < y) = false := decide_eq_false h2
          have m2 : max z y = z := by omega
          rw [m1, m2] at HS
          clear h0 h2 m1 m2
          go_wp2
          go_roundw
          case rel => exact ⟨k + 1, _, _, by omega, rfl, rfl, by go_num, by first | rfl | trivial, HS⟩
          case measure => simp [intOf]; omega
    · obtain rfl : k = n := by omega
      have e9 : zs.take k = zs := by rw [← HN.out, List.take_length]
      have hE := HE.out
      rw [e9] at hE
      have HE9 := Lib.hid hE
      clear e9 hE HE
      go_wp2
      go_ret2
      exact ⟨by rw [← HE9.out.1, ← HE9.out.2]; rfl, rfl⟩
set_option maxHeartbeats 1000000 in
theorem sameL_yes (v u : Value) (l : List Int) (lo hi lo' hi' : Nat) (W : World) (hv : Gs eL W lo hi v l) (hu : Gs eL W lo' hi' u l) :
    Calls Try.prog 10 #[v, u] W fun e w' => e = .returned (.bool true) ∧ ∃ n, w' = W.drewN n := by
  have hlen := hv.len
  have hv0 := hv
  have hu0 := hu
  obtain ⟨A, c, rfl, -⟩ := hv
  obtain ⟨B, d, rfl, -⟩ := hu
  have HV := Lib.hid hv0
  have HU := Lib.hid hu0
  clear hv0 hu0
  go_enter Try.func10, Try.ntmps10
  go_wp2
  go_loopw [5] (fun i wr => ∃ k m : Nat, k ≤ l.length ∧ i = .int .i64 k ∧ wr = W.drewN m) (fun i _ => l.length - (intOf i).toNat)
  case atStart => exact ⟨0, 0, Nat.zero_le _, rfl, rfl⟩
  case round =>
    obtain ⟨k, m, hk, rfl, rfl⟩ := hrel
    by_cases hlt : k < l.length
    · obtain ⟨b1, o1, c1, e1, -, -, -, -, hc1⟩ := HV.out.form (by rintro rfl; simp at hlt)
      injection e1 with e1 _ e2
      subst e1 e2
      obtain ⟨b2, o2, c2, e1, -, -, -, -, hc2⟩ := HU.out.form (by rintro rfl; simp at hlt)
      injection e1 with e1 _ e2
      subst e1 e2
      have k1 := hc1 k l[k] (List.getElem?_eq_getElem hlt)
      have k2 := hc2 k l[k] (List.getElem?_eq_getElem hlt)
      simp only [eL] at k1 k2
      obtain ⟨z, hz⟩ : ∃ z : Int, z = l[k] := ⟨_, rfl⟩
      rw [← hz] at k1 k2
      clear hc1 hc2 hz
      go_wp2
      go_quiet (fail)
      go_wp2
      go_roundw
      case rel => exact ⟨k + 1, _, hlt, by go_num, rfl⟩
      case measure => simp [intOf]; omega
    · obtain rfl : k = l.length := by omega
      go_wp2
      go_ret
      exact ⟨rfl, _, rfl⟩
theorem little4 (N : Nat) (w : World) (hN : N < 18446744073709551616) :
    Calls Try.prog 33 #[.int .u64 N, .int .i64 4] w fun e w' => ∃ v', e = .returned v' ∧ Gw e8 w' w.heap.size v' (le 4 N) ∧ Below w.heap.size w w' := refLittle_any N 4 w (by omega) (by omega) hN
theorem little8 (N : Nat) (w : World) (hN : N < 18446744073709551616) :
    Calls Try.prog 33 #[.int .u64 N, .int .i64 8] w fun e w' => ∃ v', e = .returned v' ∧ Gw e8 w' w.heap.size v' (le 8 N) ∧ Below w.heap.size w w' := refLittle_any N 8 w (by omega) (by omega) hN
set_option maxHeartbeats 4000000 in
set_option maxRecDepth 100000 in
theorem refBytes_c (A : Option Addr) (d : Nat) (zs : List Int) (w : World) (hG : Gs eL w 0 w.heap.size (.slice A zs.length d) zs) (hl : zs.length ≤ 100000) :
    Calls Try.prog 23 #[.slice A zs.length d] w fun e w' => ∃ v', e = .returned v' ∧ Gw e8 w' w.heap.size v' (cB zs) ∧ Below w.heap.size w w' := by
  have HE := Lib.hid (refEnds_any A d zs w _ hG hl)
  have HG := Lib.hid hG
  clear hG
  unfold cB
  generalize loI zs = a at *
  generalize hiI zs = z at *
  have ua := n8_wrap a
  have uz := n8_wrap z
  have HA := Lib.hid (n8_lt a)
  have HZ := Lib.hid (n8_lt z)
  generalize n8 a = na at *
  generalize n8 z = nz at *
  obtain ⟨n, hn⟩ : ∃ n, zs.length = n := ⟨_, rfl⟩
  have HN := Lib.hid hn
  rw [hn] at hl HE ⊢
  clear hn
  have u1 : IntKind.u64.wrap (n : Int) = (n : Int) := by rw [IntKind.wrap_u64]; omega
  have HL := Lib.hid hl
  go_enter Try.func23, Try.ntmps23
  go_wp2_with (go_at_call 22; refine HE.out.mono ?_; rintro e w0 ⟨rfl, hz⟩; have hz := hz.symm; subst hz; go_wp2_with (go_at_call 33; refine (little4 n _ (by omega)).mono ?_; rintro e w1 ⟨v1, rfl, o1, b1⟩; have B1 := Lib.hid b1; have O1 := Lib.hid o1; clear o1 b1; go_wp2_with (go_at_call 33; refine (little8 na _ HA.out).mono ?_; rintro e w2 ⟨v2, rfl, o2, b2⟩; have B2 := Lib.hid (B1.out.trans (b2.mono B1.out.size)); have P1 := Lib.hid (O1.out.below b2 (Nat.le_refl _)); have O2 := Lib.hid o2; clear o2 b2; go_wp2_with (first
    | (at_builtin; refine wpList_gapp e8 _ rfl _ _ _ rfl w.heap.size sli8 inf8 _ _ rfl P1.out _ _ _ _ rfl O2.out.sl (by simp [le_length]) B2.out.size ?_; intro v3 w3 o3 g3 hj; clear hj; have B3 := Lib.hid (B2.out.grown g3 B2.out.size (fun j hj => (P1.out.lt j hj).1)); have O3 := Lib.hid o3; clear o3 g3 P1)
    | (go_at_call 33; refine (little8 nz _ HZ.out).mono ?_; rintro e w4 ⟨v4, rfl, o4, b4⟩; have B4 := Lib.hid (B3.out.trans (b4.mono B3.out.size)); have P3 := Lib.hid (O3.out.below b4 (Nat.le_refl _)); have O4 := Lib.hid o4; clear o4 b4)
    | (at_builtin; refine wpList_gapp e8 _ rfl _ _ _ rfl w.heap.size sli8 inf8 _ _ rfl P3.out _ _ _ _ rfl O4.out.sl (by simp [le_length]) B4.out.size ?_; intro v5 w5 o5 g5 hj; clear hj; have B5 := Lib.hid (B4.out.grown g5 B4.out.size (fun j hj => (P3.out.lt j hj).1)); have O5 := Lib.hid o5; clear o5 g5)))))
  obtain ⟨P5, hP5⟩ : ∃ P5, le 4 n ++ le 8 na ++ le 8 nz = P5 := ⟨_, rfl⟩
  have HP5 := Lib.hid hP5
  have HPL := Lib.hid (show P5.length ≤ 100 by rw [← hP5]; simp [le_length])
  rw [hP5] at O5
  clear hP5
  go_loopw [5, 6] (fun lv i wr => ∃ k : Nat, k ≤ n ∧ i = .int .i64 k ∧ Gw e8 wr w.heap.size lv (P5 ++ cN (zs.take k)) ∧ Below w.heap.size w wr) (fun _ i _ => n - (intOf i).toNat)
  case atStart => exact ⟨0, Nat.zero_le _, rfl, by simpa [cN] using O5.out, B5.out⟩
  case round =>
    obtain ⟨k, hk, rfl, ok, bk⟩ := hrel
    have OK := Lib.hid ok
    have BK := Lib.hid bk
    clear ok bk
    by_cases hlt : k < n
    · obtain ⟨y, hy⟩ : ∃ y, zs[k]? = some y := ⟨_, List.getElem?_eq_getElem (by rw [HN.out]; omega)⟩
      have HSN := Lib.hid (cN_snoc hy)
      have HLN := Lib.hid (show (P5 ++ cN (zs.take k)).length ≤ 100000000 by rw [List.length_append, cN_len, List.length_take]; have := HPL.out; omega)
      have hG := HG.out.below BK.out
      obtain ⟨b, boff, bc', e, -, -, -, bw, hc⟩ := hG.form (fun e => by have h := congrArg List.length e; have := HN.out; simp only [List.length_nil] at h; omega)
      injection e with e4 e5 e6
      subst e4 e6
      have q0 := hc k y hy
      simp only [eL] at q0
      have uy := n8_wrap y
      have HY := Lib.hid (n8_lt y)
      generalize n8 y = ny at *
      clear hG hc hy e5
      go_wp2_with (first
        | (go_at_call 33; refine (little8 ny _ HY.out).mono ?_; rintro e w7 ⟨v7, rfl, o7, b7⟩; have B7 := Lib.hid (BK.out.trans (b7.mono BK.out.size)); have P7 := Lib.hid (OK.out.below b7 (Nat.le_refl _)); have O7 := Lib.hid o7; clear o7 b7)
        | (at_builtin; refine wpList_gapp e8 _ rfl _ _ _ rfl w.heap.size sli8 inf8 _ _ rfl P7.out _ _ _ _ rfl O7.out.sl (by rw [le_length]; have := HLN.out; omega) B7.out.size ?_; intro v8 w8 o8 g8 hj; clear hj; have B8 := Lib.hid (B7.out.grown g8 B7.out.size (fun j hj => (P7.out.lt j hj).1)); have O8 := Lib.hid o8; clear o8 g8))
      go_roundw
      case rel => exact ⟨k + 1, by omega, by go_num, by rw [HSN.out, ← List.append_assoc]; exact O8.out, B8.out⟩
      case measure => simp [intOf]; omega
    · obtain rfl : k = n := by omega
      have e9 : zs.take k = zs := by rw [← HN.out, List.take_length]
      have ok := OK.out
      rw [e9] at ok
      have OK9 := Lib.hid ok
      clear e9 ok OK
      go_wp2
      go_ret
      exact ⟨_, rfl, by rw [HP5.out]; exact OK9.out, BK.out⟩
end Go.Proofs.Ytigjkolhhhmdhaa
