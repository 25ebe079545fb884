/- Walks: the law PackOnly. -/
import Derived.Test.YtnkkioamgiacjaaQr
import Derived.Test.YtnkkioamgiacjaaQj
import Derived.BigQuiet
import Derived.Deep.QuietTactic
namespace Go.Proofs.Ytnkkioamgiacjaa
open Go.RowKit
set_option linter.unusedVariables false

/-- Too many bytes, or too many numbers asked: 'known' alone is asked. -/
theorem only_long (A : Option Addr) (n c : Nat) (a1 a2 : Int) (w : World) (h : 1000 < n ∨ 8000 < a1) (hn : n ≤ 9223372036854775807) :
    Calls Try.prog 5 #[.slice A n c, .int .i64 a1, .int .i64 a2] w fun e w' => e = .returned (.bool true) ∧ Below w.heap.size w w' := by
  by_cases h1 : 1000 < n
  · clear h
    go_enter Try.func5, Try.ntmps5
    go_wp2_with (go_at_call 7; refine (known_any _).mono ?_; rintro e w1 ⟨rfl, hb⟩)
    go_ret
    exact ⟨rfl, hb⟩
  · have d1 : decide (1000 < n) = false := by simpa using h1
    have d1' : decide (1000 < (n : Int)) = false := by simp; omega
    have h2 : 8000 < a1 := by omega
    clear h
    go_enter Try.func5, Try.ntmps5
    go_wp2_with (go_at_call 7; refine (known_any _).mono ?_; rintro e w1 ⟨rfl, hb⟩)
    go_ret
    exact ⟨rfl, hb⟩
theorem upE_three (b : List UInt8) (n wI : Int) : upE b n wI = 0 ∨ upE b n wI = 2 ∨ upE b n wI = 4 ∨ upE b n wI = 5 := by
  unfold upE
  split
  · split
    · simp
    · split
      · simp
      · split <;> simp
  · simp
theorem unpack_len (v : Value) (b : List UInt8) (lo : Nat) (n wI E : Int) (R : List UInt64) (N : Nat) (hE : upE b n wI = E) (hR : upR b n wI = R) (hN : R.length = N) (W : World) (hv : Gs e8 W lo W.heap.size v b) (hb : b.length ≤ 100000) :
    Calls Try.prog 15 #[v, .int .i64 n, .int .i64 wI] W fun e w' => ∃ A c, e = .returned (.tuple #[.slice A N c, .int .i64 E]) ∧ Gw e64 w' W.heap.size (.slice A N c) R ∧ Below W.heap.size W w' := by
  subst hE hR hN
  refine (unpack_any v b lo n wI W hv hb).mono ?_
  rintro e w' ⟨v', rfl, o, b⟩
  have ho := o
  obtain ⟨A, c, rfl, -⟩ := ho.sl
  exact ⟨A, c, rfl, o, b⟩
set_option maxHeartbeats 1000000 in
theorem only_bad (A : Option Addr) (c : Nat) (b : List UInt8) (a1 a2 : Int) (w : World) (hv : Gs e8 w 0 w.heap.size (.slice A b.length c) b) (hl : b.length ≤ 1000) (hn : a1 ≤ 8000) (E : Int) (hE : upE b a1 a2 = E) (hE0 : E = 2 ∨ E = 4 ∨ E = 5) :
    Calls Try.prog 5 #[.slice A b.length c, .int .i64 a1, .int .i64 a2] w fun e w' => e = .returned (.bool true) ∧ Below w.heap.size w w' := by
  have HE := Lib.hid hE
  have HV := Lib.hid hv
  clear hv hE
  rcases hE0 with rfl | rfl | rfl
  all_goals
    go_enter Try.func5, Try.ntmps5
    go_wp2_with fail
    refine (unpack_len _ b 0 _ _ _ _ _ HE.out rfl rfl _ HV.out (by omega)).mono ?_
    rintro e w1 ⟨A1, c1, rfl, o1, b1⟩
    have B1 := Lib.hid b1
    clear o1 b1
    go_wp2_with (go_at_call 7; refine (known_any _).mono ?_; rintro e w6 ⟨rfl, b6⟩)
    go_ret
    exact ⟨rfl, B1.out.trans (b6.mono B1.out.size)⟩

theorem get_spec (v : Value) (b : List UInt8) (lo hi i w : Nat) (z : Int) (hz : ((tk b (i * w) w : Nat) : Int) = z) (W : World) (hv : Gs e8 W lo hi v b) (hi : i ≤ 1099511627776) (h1 : 1 ≤ w) (h2 : w ≤ 64) (hb : b.length ≤ 1000000000) :
    Calls Try.prog 17 #[v, .int .i64 i, .int .i64 w] W fun e w' => e = .returned (.int .u64 z) ∧ W = w' := by
  subst hz
  exact get_yes v b lo _ i w W hv hi h1 h2 hb
theorem refWidth_spec (z : Int) (N : Nat) (h0 : 0 ≤ z) (h1 : z ≤ 18446744073709551615) (hN : wd z.toNat = N) (W : World) : Calls Try.prog 14 #[.int .u64 z] W fun e w' => e = .returned (.int .i64 N) ∧ W = w' := by
  subst hN
  exact refWidth_any z W h0 h1
theorem quiet_left_ {P : Program} {f : FuncId} {args : Array Value} {w : World} {n : Nat} {v : Value}
    (h : Calls P f args (w.drewN n) fun e w' => e = .returned v ∧ w.drewN n = w') : Calls P f args (w.drewN n) fun e w'' => e = .returned v ∧ ∃ m, w'' = w.drewN m :=
  h.mono fun _ _ ⟨he, hm⟩ => ⟨he, n, hm.symm⟩
theorem upE_more (b : List UInt8) (n w : Nat) (hn : n ≤ 1099511627776) (h1 : 1 ≤ w) (h2 : w ≤ 64) (hs : b.length = sz n w) : upE (b ++ [0]) n w = 5 := by
  have ha : argOk n w := ⟨by omega, by omega, by omega, by omega⟩
  unfold upE
  rw [if_pos ha, Int.toNat_natCast, Int.toNat_natCast, ← hs, List.length_append, List.length_singleton, if_neg (by omega), if_pos (by omega)]
theorem upE_less (b : List UInt8) (n w : Nat) (hn : n ≤ 1099511627776) (h1 : 1 ≤ w) (h2 : w ≤ 64) (hs : b.length = sz n w) (h0 : 0 < b.length) : upE (b.take (b.length - 1)) n w = 4 := by
  have ha : argOk n w := ⟨by omega, by omega, by omega, by omega⟩
  unfold upE
  rw [if_pos ha, Int.toNat_natCast, Int.toNat_natCast, ← hs, List.length_take, if_pos (by omega)]
set_option maxHeartbeats 8000000 in
set_option maxRecDepth 100000 in
theorem only_good (A : Option Addr) (c : Nat) (b : List UInt8) (n wd_ : Nat) (w : World) (hv : Gs e8 w 0 w.heap.size (.slice A b.length c) b) (hl : b.length ≤ 1000) (hn : n ≤ 8000) (h1 : 1 ≤ wd_) (h2 : wd_ ≤ 64) (hs : b.length = sz n wd_) (hz : tk b (n * wd_) (8 * b.length - n * wd_) = 0) (hE : upE b n wd_ = 0) :
    Calls Try.prog 5 #[.slice A b.length c, .int .i64 n, .int .i64 wd_] w fun e w' => e = .returned (.bool true) ∧ Below w.heap.size w w' := by
  have hR : upR b n wd_ = up b n wd_ := by unfold upR; rw [if_pos hE, Int.toNat_natCast, Int.toNat_natCast]
  have hRl := up_length b n wd_
  have hRf := up_fits b n wd_ h2
  have hok : pkOk (up b n wd_) wd_ = true := (pkOk_iff _ _).2 ⟨h1, h2, hRf⟩
  have hpE : pkE (up b n wd_) wd_ = 0 := by unfold pkE; rw [if_pos hok]
  have hpR : pkR (up b n wd_) wd_ = b := by unfold pkR; rw [if_pos hok, Int.toNat_natCast]; exact (pk_up b n wd_ h1 h2 hs hz).symm
  have hE5 := upE_more b n wd_ (by omega) h1 h2 hs
  have hE4 := upE_less b n wd_ (by omega) h1 h2 hs
  obtain ⟨S, hS⟩ : ∃ S : ByteArray, S = ⟨b.toArray⟩ := ⟨_, rfl⟩
  obtain ⟨R, hRR⟩ : ∃ R, R = up b n wd_ := ⟨_, rfl⟩
  rw [← hRR] at hR hRl hRf hpE hpR
  have hel : ∀ i, i < n → (R.getD i 0).toNat = tk b (i * wd_) wd_ := fun i hi => by rw [hRR]; exact up_getD b n wd_ i hi h2
  have HE := Lib.hid hE
  have HR := Lib.hid hR
  have HRL := Lib.hid hRl
  have HRF := Lib.hid hRf
  have HPE := Lib.hid hpE
  have HPR := Lib.hid hpR
  have HE5 := Lib.hid hE5
  have HE4 := Lib.hid hE4
  have HEL := Lib.hid hel
  have HS := Lib.hid hS
  have HV := Lib.hid hv
  have hRl2 : R.length ≤ 8000 := by omega
  clear hv hE hR hRl hRf hok hpE hpR hE5 hE4 hS hRR hel hs hz
  have d1 : decide (1000 < b.length) = false := by simp; omega
  have d1' : decide (1000 < (b.length : Int)) = false := by simp; omega
  have d2 : decide (8000 < (n : Int)) = false := by simp; omega
  have d2' : decide (8000 < n) = false := by simp; omega
  go_enter Try.func5, Try.ntmps5
  go_wp2_with fail
  refine (unpack_len _ b 0 _ _ _ R n HE.out HR.out HRL.out _ HV.out (by omega)).mono ?_
  rintro e w1 ⟨A1, c1, rfl, o1, b1⟩
  have O1 := Lib.hid o1
  have B1 := Lib.hid b1
  clear o1 b1
  go_wp2_with fail
  refine (pack_spec _ R _ _ _ b HPE.out HPR.out _ O1.out.sl (by omega)).mono ?_
  rintro e w2 ⟨A2, n2, c2, rfl, o2, b2⟩
  have O2 := Lib.hid o2
  have B2 := Lib.hid (B1.out.trans (b2.mono B1.out.size))
  have O12 := Lib.hid (O1.out.below b2 (Nat.le_refl _))
  clear o2 b2
  go_wp2_with (first
    | (at_builtin; refine wpList_gapp1 e8 _ rfl _ _ _ rfl w2.heap.size sli8 inf8 _ b rfl o3 _ 0 rfl rfl (by omega) b3' ?_; intro v4 w4 o4 g4 hh; clear hh; have b4 : Below w.heap.size w w4 := b3.grown g4 b3.size (fun i hi => Nat.le_trans B2.out.size (o3.lt i hi).1); have b4' : Below w2.heap.size w2 w4 := b3''.grown g4 b3''.size (fun i hi => (o3.lt i hi).1); have O4 := Lib.hid o4; have B4 := Lib.hid b4; have B4' := Lib.hid b4'; clear o3 b3 b3' b3'' g4 o4 b4 b4')
    | (at_builtin; refine wpList_gapp e8 _ rfl _ _ _ rfl w2.heap.size sli8 inf8 _ [] rfl (Gw.empty_ _ _ (Nat.le_refl _)) 0 w.heap.size _ b rfl ((HV.out.below B2.out).alloc B2.out.size _) (by simp; omega) (by simp) ?_; intro v3 w3 o3 g3 hh; clear hh; rw [List.nil_append] at o3; have b3'' : Below w2.heap.size w2 w3 := ((Below.refl _ _).alloc (Nat.le_refl _) _).grown g3 (by simp) (fun i hi => by injection hi with hi; subst hi; exact Nat.le_refl _); have b3 : Below w.heap.size w w3 := B2.out.trans (b3''.mono B2.out.size); have b3' := b3''.size; clear g3))
  refine (unpack_len _ (b ++ [0]) _ _ _ _ _ _ HE5.out rfl rfl _ O4.out.sl (by simp; omega)).mono ?_
  rintro e w5 ⟨A5, c5, rfl, o5, b5⟩
  have B5 := Lib.hid (B4.out.trans (b5.mono B4.out.size))
  have b25 : Below w2.heap.size w2 w5 := B4'.out.trans (b5.mono B4'.out.size)
  have O25 := Lib.hid (O2.out.below b25 (Nat.le_refl _))
  have O15 := Lib.hid (O12.out.below b25 (Nat.le_refl _))
  have HV5 := Lib.hid (HV.out.below B5.out)
  clear o5 b5 b25 O4 B4 B4' O2 B2 O12 O1 B1
  have cv1 := str8 O25.out.sl
  have cv2 := str8 HV5.out
  rw [← HS.out] at cv1 cv2
  have hnn : ((n : Int) != (n : Int)) = false := by simp
  go_wp2
  clear cv1 cv2
  go_loopw [72] (fun i wr => ∃ k : Nat, k ≤ n ∧ i = .int .i64 k ∧ Gw e64 wr w.heap.size (.slice A1 n c1) R ∧ Gs e8 wr 0 w.heap.size (.slice A b.length c) b ∧ Below w.heap.size w wr) (fun i _ => n - (intOf i).toNat)
  case atStart => exact ⟨0, Nat.zero_le _, rfl, O15.out, HV5.out, B5.out⟩
  case round =>
    obtain ⟨k, hk, rfl, or_, vr_, br_⟩ := hrel
    have OR := Lib.hid or_
    have VR := Lib.hid vr_
    have BR := Lib.hid br_
    clear or_ vr_ br_
    by_cases hlt : k < n
    · obtain ⟨bb1, of1, ca1, e1, -, -, -, -, hc1⟩ := OR.out.sl.form (by intro h; have h2 := HRL.out; rw [h] at h2; simp at h2; omega)
      injection e1 with e1 _ e2
      subst e1 e2
      have hkR : k < R.length := by have := HRL.out; omega
      have k1 := hc1 k R[k] (List.getElem?_eq_getElem hkR)
      simp only [e64, b64] at k1
      have hgd : R[k] = R.getD k 0 := by rw [List.getD_eq_getElem?_getD, List.getElem?_eq_getElem hkR, Option.getD_some]
      obtain ⟨z, hz⟩ : ∃ z : Int, z = (R[k].toNat : Int) := ⟨_, rfl⟩
      rw [← hz] at k1
      have z0 : 0 ≤ z := by omega
      have z1 : z ≤ 18446744073709551615 := by have := R[k].toNat_lt; omega
      have hz2 : z = ((R.getD k 0).toNat : Int) := by rw [hz, hgd]
      have htk : ((tk b (k * wd_) wd_ : Nat) : Int) = z := by rw [hz2, HEL.out k hlt]
      have hft := HRF.out k hkR
      obtain ⟨N, hN⟩ : ∃ N, wd z.toNat = N := ⟨_, rfl⟩
      have hNw : N ≤ wd_ := by
        rw [← hN, wd_fit _ _ h1]
        rw [show z.toNat = (R.getD k 0).toNat from by omega]
        exact hft
      have HTK := Lib.hid htk
      have HN := Lib.hid hN
      have zz : (z != z) = false := by simp
      have zd : decide ((wd_ : Int) < (N : Int)) = false := by simp; omega
      have zd' : decide (wd_ < N) = false := by simp; omega
      clear hc1 hgd hz hz2 htk hft hN hkR
      go_wp2
      go_quiet ((first | (go_at_call 17; exact quiet_left_ (get_spec _ b _ _ k wd_ z HTK.out _ (VR.out.drewN _) (by omega) h1 h2 (by omega))) | (go_at_call 14; exact quiet_left_ (refWidth_spec z N z0 z1 HN.out _))))
      go_wp2
      go_roundw
      case rel => exact ⟨k + 1, hlt, by go_num, OR.out.drewN _, VR.out.drewN _, below_drewN BR.out _⟩
      case measure => simp [intOf]; omega
    · obtain rfl : k = n := by omega
      have hlc : b.length ≤ c := by obtain ⟨_, _, e, _, x, _⟩ := VR.out; injection e with _ _ e; omega
      have hcm : c ≤ 9223372036854775807 := by obtain ⟨_, _, e, _, _, x, _⟩ := VR.out; injection e with _ _ e; unfold maxLen at x; omega
      by_cases h0 : 0 < b.length
      · obtain ⟨q, hq⟩ : ∃ q, q = b.length - 1 := ⟨_, rfl⟩
        have hqI : (b.length : Int) - 1 = (q : Int) := by omega
        have ht := VR.out.take (m := q) (by omega)
        have h4 := HE4.out h0
        rw [← hq] at h4
        have HT := Lib.hid ht
        have H4 := Lib.hid h4
        have htl : (b.take q).length ≤ 100000 := by simp; omega
        clear hq ht h4
        go_wp2_with fail
        refine (unpack_len _ (b.take q) 0 _ _ _ _ _ H4.out rfl rfl _ (HT.out.more (Nat.le_refl _) BR.out.size) htl).mono ?_
        rintro e w6 ⟨A6, c6, rfl, o6, b6⟩
        have B6 := Lib.hid (BR.out.trans (b6.mono BR.out.size))
        clear o6 b6
        go_wp2_with (go_at_call 7; refine (known_any _).mono ?_; rintro e w7 ⟨rfl, b7⟩)
        go_ret
        exact ⟨rfl, B6.out.trans (b7.mono B6.out.size)⟩
      · have h0' : b.length = 0 := by omega
        have d5 : decide (0 < b.length) = false := decide_eq_false (by omega)
        have d5' : decide (0 < (b.length : Int)) = false := decide_eq_false (by omega)
        clear h0 h0'
        go_wp2_with (go_at_call 7; refine (known_any _).mono ?_; rintro e w6 ⟨rfl, b6⟩)
        go_ret
        exact ⟨rfl, BR.out.trans (b6.mono BR.out.size)⟩
end Go.Proofs.Ytnkkioamgiacjaa
