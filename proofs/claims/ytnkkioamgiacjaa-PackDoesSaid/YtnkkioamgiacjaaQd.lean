/- Walks: the law PackDoes. -/
import Derived.Test.YtnkkioamgiacjaaQo
namespace Go.Proofs.Ytnkkioamgiacjaa
open Go.RowKit
set_option linter.unusedVariables false

/-- Too many numbers: 'known' alone is asked. -/
theorem does_long (A : Option Addr) (n c : Nat) (a1 a2 : Int) (w : World) (h : 300 < n) (hn : n ≤ 9223372036854775807) :
    Calls Try.prog 3 #[.slice A n c, .int .i64 a1, .int .i64 a2] w fun e w' => e = .returned (.bool true) ∧ Below w.heap.size w w' := by
  go_enter Try.func3, Try.ntmps3
  go_wp2_with (go_at_call 7; refine (known_any _).mono ?_; rintro e w1 ⟨rfl, hb⟩)
  go_ret
  exact ⟨rfl, hb⟩
theorem pack_len (v : Value) (l : List UInt64) (lo : Nat) (wI : Int) (E : Int) (R : List UInt8) (N : Nat) (hE : pkE l wI = E) (hR : pkR l wI = R) (hN : R.length = N) (W : World) (hv : Gs e64 W lo W.heap.size v l) (hl : l.length ≤ 1000) :
    Calls Try.prog 8 #[v, .int .i64 wI] W fun e w' => ∃ A c, e = .returned (.tuple #[.slice A N c, .int .i64 E]) ∧ Gw e8 w' W.heap.size (.slice A N c) R ∧ Below W.heap.size W w' := by
  subst hE hR hN
  refine (pack_any v l lo wI W hv (by omega)).mono ?_
  rintro e w' ⟨v', rfl, o, b⟩
  have ho := o
  obtain ⟨A, c, rfl, -⟩ := ho.sl
  exact ⟨A, c, rfl, o, b⟩
theorem refPack_len (v : Value) (l : List UInt64) (lo : Nat) (wI : Int) (E : Int) (R : List UInt8) (N : Nat) (hE : pkE l wI = E) (hR : pkR l wI = R) (hN : R.length = N) (W : World) (hv : Gs e64 W lo W.heap.size v l) (hl : l.length ≤ 1000) :
    Calls Try.prog 9 #[v, .int .i64 wI] W fun e w' => ∃ A c, e = .returned (.tuple #[.slice A N c, .int .i64 E]) ∧ Gw e8 w' W.heap.size (.slice A N c) R ∧ Below W.heap.size W w' := by
  subst hE hR hN
  refine (refPack_any v l lo wI W hv (by omega)).mono ?_
  rintro e w' ⟨v', rfl, o, b⟩
  have ho := o
  obtain ⟨A, c, rfl, -⟩ := ho.sl
  exact ⟨A, c, rfl, o, b⟩
theorem width_spec (z : Int) (N : Nat) (h0 : 0 ≤ z) (h1 : z ≤ 18446744073709551615) (hN : wd z.toNat = N) (W : World) : Calls Try.prog 13 #[.int .u64 z] W fun e w' => e = .returned (.int .i64 N) ∧ W = w' := by
  subst hN
  exact width_any z W h0 h1
theorem pkE_two (l : List UInt64) (wI : Int) : pkE l wI = 0 ∨ pkE l wI = 2 := by unfold pkE; split <;> simp
/-- What was packed is unpacked. -/
theorem packed (l : List UInt64) (wI : Int) (hl : l.length ≤ 1000) (h : pkE l wI = 0) : upE (pkR l wI) l.length wI = 0 ∧ upR (pkR l wI) l.length wI = l ∧ szR l.length wI = ((pkR l wI).length : Nat) := by
  have hk : pkOk l wI = true := by
    unfold pkE at h
    split at h
    · assumption
    · omega
  obtain ⟨r1, r2⟩ := pkOk_range hk
  obtain ⟨w, rfl⟩ := Int.eq_ofNat_of_zero_le (show 0 ≤ wI by omega)
  obtain ⟨h1, h2, hf⟩ := (pkOk_iff l w).1 hk
  have hR : pkR l w = pk l w := by unfold pkR; rw [if_pos hk, Int.toNat_natCast]
  have ha : argOk (l.length : Int) (w : Int) := ⟨by omega, by omega, by omega, by omega⟩
  have hlen := pk_length l w
  have h0 : upE (pk l w) l.length w = 0 := by
    unfold upE
    rw [if_pos ha, Int.toNat_natCast, Int.toNat_natCast, hlen, if_neg (by omega), if_neg (by omega), if_pos (pk_rest l w h1 _)]
  rw [hR]
  refine ⟨h0, ?_, ?_⟩
  · unfold upR
    rw [if_pos h0, Int.toNat_natCast, Int.toNat_natCast, up_pk l w h2 hf]
  · unfold szR
    rw [if_pos ha, Int.toNat_natCast, Int.toNat_natCast, hlen]
theorem size_spec (n wI : Int) (X : Int) (h : szR n wI = X) (W : World) : Calls Try.prog 11 #[.int .i64 n, .int .i64 wI] W fun e w' => e = .returned (.int .i64 X) ∧ W = w' := by
  subst h
  exact size_any n wI W
set_option maxHeartbeats 8000000 in
set_option maxRecDepth 100000 in
theorem does_good (A : Option Addr) (c : Nat) (l : List UInt64) (a1 a2 : Int) (w : World) (hv : Gs e64 w 0 w.heap.size (.slice A l.length c) l) (hl : l.length ≤ 300) :
    Calls Try.prog 3 #[.slice A l.length c, .int .i64 a1, .int .i64 a2] w fun e w' => e = .returned (.bool true) ∧ Below w.heap.size w w' := by
  obtain ⟨E, hE⟩ : ∃ E, pkE l a1 = E := ⟨_, rfl⟩
  obtain ⟨R, hR⟩ : ∃ R, pkR l a1 = R := ⟨_, rfl⟩
  obtain ⟨N, hN⟩ : ∃ N, R.length = N := ⟨_, rfl⟩
  obtain ⟨S, hS⟩ : ∃ S : ByteArray, S = ⟨R.toArray⟩ := ⟨_, rfl⟩
  obtain ⟨X, hX⟩ : ∃ X, szR a2 a1 = X := ⟨_, rfl⟩
  have hE2 := pkE_two l a1
  rw [hE] at hE2
  have hRN := pkR_len l a1 (by omega)
  rw [hR] at hRN
  have hpk := packed l a1 (by omega)
  rw [hE, hR, hN] at hpk
  have HE := Lib.hid hE
  have HR := Lib.hid hR
  have HN := Lib.hid hN
  have HS := Lib.hid hS
  have HX := Lib.hid hX
  have HPK := Lib.hid hpk
  have HV := Lib.hid hv
  have ee : (E == E) = true := by simp
  have d1 : decide (300 < l.length) = false := by simp; omega
  have d1' : decide (300 < (l.length : Int)) = false := decide_eq_false (by omega)
  clear hv hE hR hN hS hX hpk
  rcases hE2 with rfl | rfl
  all_goals
    go_enter Try.func3, Try.ntmps3
    go_wp2_with (at_builtin; refine wpList_gapp e64 _ rfl _ _ _ rfl w.heap.size sli64 inf64 _ [] rfl (Gw.empty_ _ _ (Nat.le_refl _)) 0 w.heap.size _ l rfl (HV.out.alloc (Nat.le_refl _) _) (by simp; omega) (by simp) ?_; intro v1 w1 o1 g1 hh; clear hh; rw [List.nil_append] at o1; have b1 : Below w.heap.size w w1 := ((Below.refl _ _).alloc (Nat.le_refl _) _).grown g1 (by simp) (fun i hi => by injection hi with hi; subst hi; exact Nat.le_refl _); clear g1; have ho := o1; obtain ⟨A1, c1, rfl, -⟩ := ho.sl; clear ho; have O1 := Lib.hid o1; have B1 := Lib.hid b1; clear o1 b1)
    refine (pack_len _ l _ _ _ R N HE.out HR.out HN.out _ O1.out.sl (by omega)).mono ?_
    rintro e w2 ⟨A2, c2, rfl, o2, b2⟩
    have O2 := Lib.hid o2
    have B2 := Lib.hid (B1.out.trans (b2.mono B1.out.size))
    have O12 := Lib.hid (O1.out.below b2 (Nat.le_refl _))
    clear o2 b2
    go_wp2_with fail
    refine (refPack_len _ l 0 _ _ R N HE.out HR.out HN.out _ ((HV.out.below B2.out).more (Nat.le_refl _) B2.out.size) (by omega)).mono ?_
    rintro e w3 ⟨A3, c3, rfl, o3, b3⟩
    have B3 := Lib.hid (B2.out.trans (b3.mono B2.out.size))
    have O13 := Lib.hid (O12.out.below b3 (Nat.le_refl _))
    have O23 := Lib.hid (O2.out.below b3 (Nat.le_refl _))
    have HV3 := Lib.hid (HV.out.below B3.out)
    have cv1 := str8 O23.out.sl
    have cv2 := str8 o3.sl
    rw [← HS.out] at cv1 cv2
    clear o3 b3
    go_wp2_with fail
    clear cv1 cv2
    refine (same_yes _ _ l _ _ _ _ _ O13.out.sl HV3.out).mono ?_
    rintro e w4 ⟨rfl, k4, rfl⟩
    have B4 := Lib.hid (below_drewN B3.out k4)
    have O24 := Lib.hid (O23.out.drewN k4)
    have HV4 := Lib.hid (HV3.out.drewN k4)
    generalize w3.drewN k4 = w4 at *
    clear B3 O13 O23 HV3 O12 O2 B2 O1 B1
    go_wp2_with (first
      | (go_at_call 11; refine (size_spec _ _ X HX.out _).mono ?_; rintro e w5 ⟨rfl, rfl⟩)
      | (go_at_call 12; refine (refSize_any _ _ _).mono ?_; rintro e w5 ⟨rfl, rfl⟩; rw [HX.out]))
    go_loopw [61] (fun i wr => ∃ k : Nat, k ≤ l.length ∧ i = .int .i64 k ∧ Gw e8 wr w1.heap.size (.slice A2 N c2) R ∧ Gs e64 wr 0 w.heap.size (.slice A l.length c) l ∧ Below w.heap.size w wr) (fun i _ => l.length - (intOf i).toNat)
    case atStart => exact ⟨0, Nat.zero_le _, rfl, O24.out, HV4.out, B4.out⟩
    case round =>
      obtain ⟨k, hk, rfl, or_, vr_, br_⟩ := hrel
      have OR := Lib.hid or_
      have VR := Lib.hid vr_
      have BR := Lib.hid br_
      clear or_ vr_ br_
      by_cases hlt : k < l.length
      · obtain ⟨bb1, of1, ca1, e1, -, -, -, -, hc1⟩ := VR.out.form (by rintro rfl; simp at hlt)
        injection e1 with e1 _ e2
        subst e1 e2
        have k1 := hc1 k l[k] (List.getElem?_eq_getElem hlt)
        simp only [e64, b64] at k1
        obtain ⟨z, hz⟩ : ∃ z : Int, z = (l[k].toNat : Int) := ⟨_, rfl⟩
        rw [← hz] at k1
        have z0 : 0 ≤ z := by omega
        have z1 : z ≤ 18446744073709551615 := by have := l[k].toNat_lt; omega
        obtain ⟨M, hM⟩ : ∃ M, wd z.toNat = M := ⟨_, rfl⟩
        have HM := Lib.hid hM
        clear hc1 hz hM
        go_wp2
        go_quiet ((first | (go_at_call 13; exact quiet_left_ (width_spec z M z0 z1 HM.out _)) | (go_at_call 14; exact quiet_left_ (refWidth_spec z M z0 z1 HM.out _))))
        go_wp2
        go_roundw
        case rel => exact ⟨k + 1, hlt, by go_num, OR.out.drewN _, VR.out.drewN _, below_drewN BR.out _⟩
        case measure => simp [intOf]; omega
      · obtain ⟨K, hK⟩ : ∃ K, K = k := ⟨_, rfl⟩
        have hKl : ¬ (k : Int) < l.length := by omega
        by_cases h0 : True → upE R (l.length : Int) a1 = 0 ∧ upR R (l.length : Int) a1 = l ∧ szR (l.length : Int) a1 = (N : Int)
        · first
            | (go_wp2_with (go_at_call 7; refine (known_any _).mono ?_; rintro e w7 ⟨rfl, b7⟩); go_ret; exact ⟨rfl, BR.out.trans (b7.mono BR.out.size)⟩)
            | (have HU := Lib.hid (h0 trivial).1
               have HUR := Lib.hid (h0 trivial).2.1
               have HSZ := Lib.hid (h0 trivial).2.2
               clear h0 HPK
               go_wp2_with fail
               refine (unpack_len _ R _ _ _ _ l l.length HU.out HUR.out rfl _ OR.out.sl (by omega)).mono ?_
               rintro e w5 ⟨A5, c5, rfl, o5, b5⟩
               have B5 := Lib.hid (BR.out.trans (b5.mono BR.out.size))
               have VR5 := Lib.hid (VR.out.below (b5.mono BR.out.size))
               have O5 := Lib.hid o5
               clear o5 b5
               go_wp2_with fail
               refine (same_yes _ _ l _ _ _ _ _ O5.out.sl VR5.out).mono ?_
               rintro e w6 ⟨rfl, k6, rfl⟩
               have B6 := Lib.hid (below_drewN B5.out k6)
               go_wp2_with (first
                 | (go_at_call 11; refine (size_spec _ _ (N : Int) HSZ.out _).mono ?_; rintro e w7 ⟨rfl, rfl⟩)
                 | (go_at_call 7; refine (known_any _).mono ?_; rintro e w8 ⟨rfl, b8⟩))
               go_ret
               exact ⟨rfl, B6.out.trans (b8.mono B6.out.size)⟩)
        · first
            | (exfalso; exact h0 (fun _ => HPK.out (by trivial)))
            | (clear h0; go_wp2_with (go_at_call 7; refine (known_any _).mono ?_; rintro e w7 ⟨rfl, b7⟩); go_ret; exact ⟨rfl, BR.out.trans (b7.mono BR.out.size)⟩)
end Go.Proofs.Ytnkkioamgiacjaa
