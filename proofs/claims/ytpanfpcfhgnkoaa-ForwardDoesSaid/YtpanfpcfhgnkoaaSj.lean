/- Walks: the document's Bytes. -/
import Derived.Test.YtpanfpcfhgnkoaaSi
namespace Go.Proofs.Ytpanfpcfhgnkoaa
open Go.RowKit
set_option linter.unusedVariables false

theorem little4 (N : Nat) (w : World) (hN : N < 18446744073709551616) :
    Calls Try.prog 49 #[.int .u64 N, .int .i64 4] w fun e w' => ∃ v', e = .returned v' ∧ Gw e8 w' w.heap.size v' (le 4 N) ∧ Below w.heap.size w w' := refLittle_any N 4 w (by omega) (by omega) hN
theorem nums_snoc {zs : List Int} {k : Nat} {z : Int} (hz : zs[k]? = some z) : nums (zs.take (k + 1)) = nums (zs.take k) ++ [UInt64.ofNat z.toNat] := by rw [List.take_add_one, hz]; simp [nums]
set_option maxHeartbeats 4000000 in
set_option maxRecDepth 100000 in
theorem refBytes_c (A : Option Addr) (d : Nat) (zs : List Int) (many : Int) (w : World) (hG : Gs eI w 0 w.heap.size (.slice A zs.length d) zs) (hm : mayM zs.length many = true) (ha : zs.all (inr many) = true) (hl : zs.length ≤ 20000) :
    Calls Try.prog 33 #[.slice A zs.length d, .int .i64 many] w fun e w' => ∃ v', e = .returned v' ∧ Gw e8 w' w.heap.size v' (iB zs many) ∧ Below w.heap.size w w' := by
  have hmb : 0 ≤ many ∧ many ≤ 16777216 := by rcases mayM_iff.1 hm with h | h <;> omega
  have HF := Lib.hid (fits_nq hmb.2 ha)
  have HR := Lib.hid (show ∀ z ∈ zs, 0 ≤ z ∧ z < 16777216 from fun z hz => by have := all_inr ha z hz; omega)
  have hw1 := wdm_pos many
  have hw2 := wdm_le hmb.2
  have HW := Lib.hid (fun W => rwid_any many W (by omega))
  have HPK := Lib.hid (fun v lo W (hv : Gs e64 W lo W.heap.size v (nums zs)) => refPack_yes v (nums zs) lo (wdm many) W hv hw1 (by omega) HF.out (by rw [nq_len]; exact hl))
  have HPL := Lib.hid (show (iP zs many).length ≤ 60001 by have := iP_small (zs := zs) hmb.2; omega)
  obtain ⟨M, rfl⟩ : ∃ M : Nat, many = (M : Int) := ⟨many.toNat, by omega⟩
  unfold iB
  rw [Int.toNat_natCast]
  unfold iP at HPL ⊢
  generalize pk (nums zs) (wdm (M : Int)) = PK at HPK HPL ⊢
  have HG := Lib.hid hG
  clear HF hm ha hG
  generalize wdm (M : Int) = wd_ at *
  obtain ⟨n, hn⟩ : ∃ n, zs.length = n := ⟨_, rfl⟩
  have HN := Lib.hid hn
  rw [hn] at hl ⊢
  clear hn
  have u1 : IntKind.u64.wrap (n : Int) = (n : Int) := by rw [IntKind.wrap_u64]; omega
  have u2 : IntKind.u64.wrap (M : Int) = (M : Int) := by rw [IntKind.wrap_u64]; omega
  have u3 : IntKind.u8.wrap (wd_ : Int) = (wd_ : Int) := by rw [IntKind.wrap_u8]; omega
  have HMS := Lib.hid (show M ≤ 16777216 by omega)
  have HWS := Lib.hid hw2
  clear hmb hw1 hw2
  go_enter Try.func33, Try.ntmps33
  go_wp2_with (go_at_call 49; refine (little4 n _ (by omega)).mono ?_; rintro e w1 ⟨v1, rfl, o1, b1⟩; have B1 := Lib.hid b1; have O1 := Lib.hid o1; clear o1 b1; go_wp2_with (first
    | (go_at_call 49; refine (little4 M _ (by have := HMS.out; omega)).mono ?_; rintro e w2 ⟨v2, rfl, o2, b2⟩; have B2 := Lib.hid (B1.out.trans (b2.mono B1.out.size)); have P1 := Lib.hid (O1.out.below b2 (Nat.le_refl _)); have O2 := Lib.hid o2; clear o2 b2)
    | (at_builtin; refine wpList_gapp e8 _ rfl _ _ _ rfl w.heap.size sli8 inf8 _ _ rfl P1.out _ _ _ _ rfl O2.out.sl (by simp [le_length]) B2.out.size ?_; intro v3 w3 o3 g3 hj; clear hj; have B3 := Lib.hid (B2.out.grown g3 B2.out.size (fun j hj => (P1.out.lt j hj).1)); have O3 := Lib.hid o3; clear o3 g3)
    | (go_at_call 22; refine (HW.out _).mono ?_; rintro e w4 ⟨rfl, hz⟩; have hz := hz.symm; subst hz)
    | (at_builtin; refine wpList_gapp1 e8 _ rfl _ _ _ rfl w.heap.size sli8 inf8 _ _ rfl O3.out _ (UInt8.ofNat wd_) (congrArg (Value.int .u8) (u8_wd (by have := HWS.out; omega))) rfl (by simp [le_length]) B3.out.size ?_; intro v5 w5 o5 g5 hj; clear hj; have B5 := Lib.hid (B3.out.grown g5 B3.out.size (fun j hj => (O3.out.lt j hj).1)); have O5 := Lib.hid o5; clear o5 g5)))
  go_loopw [6, 7] (fun lv i wr => ∃ k : Nat, k ≤ n ∧ i = .int .i64 k ∧ Gw e64 wr w5.heap.size lv (nums (zs.take k)) ∧ Below w5.heap.size w5 wr) (fun _ i _ => n - (intOf i).toNat)
  case atStart => exact ⟨0, Nat.zero_le _, rfl, Gw.nil_ _ _, Below.refl _ _⟩
  case round =>
    obtain ⟨k, hk, rfl, ok, bk⟩ := hrel
    have OK := Lib.hid ok
    have BK := Lib.hid bk
    clear ok bk
    by_cases hlt : k < n
    · have hG := (HG.out.below B5.out).below (BK.out.mono B5.out.size)
      obtain ⟨b, boff, bc', e, -, -, -, bw, hc⟩ := hG.form (fun e => by have h := congrArg List.length e; have := HN.out; simp only [List.length_nil] at h; omega)
      injection e with e4 e5 e6
      subst e4 e6
      obtain ⟨z, hz⟩ : ∃ z, zs[k]? = some z := ⟨_, List.getElem?_eq_getElem (by rw [HN.out]; omega)⟩
      have q0 := hc k z hz
      simp only [eI] at q0
      have hzr := HR.out z (List.mem_of_getElem? hz)
      have w1 : IntKind.u64.wrap z = z := by rw [IntKind.wrap_u64]; omega
      have HZ := Lib.hid (show Value.int .u64 z = e64.val (UInt64.ofNat z.toNat) from by
        show Value.int .u64 z = .int .u64 ((UInt64.ofNat z.toNat).toNat : Int)
        rw [UInt64.toNat_ofNat', Nat.mod_eq_of_lt (by omega), Int.toNat_of_nonneg hzr.1])
      have HSN := Lib.hid (nums_snoc hz)
      have HLN := Lib.hid (show (nums (zs.take k)).length + 1 ≤ 1000000000 by rw [nq_len, List.length_take]; omega)
      clear hG hc hz hzr e5
      go_wp2_with (at_builtin; refine wpList_gapp1 e64 _ rfl _ _ _ rfl w5.heap.size sli64 inf64 _ _ rfl OK.out _ (UInt64.ofNat z.toNat) HZ.out rfl HLN.out BK.out.size ?_; intro v8 w8 o8 g8 hj; clear hj; have B8 := Lib.hid (BK.out.grown g8 BK.out.size (fun j hj => (OK.out.lt j hj).1)); have O8 := Lib.hid o8; clear o8 g8)
      go_roundw
      case rel => exact ⟨k + 1, by omega, by go_num, by rw [HSN.out]; exact O8.out, B8.out⟩
      case measure => simp [intOf]; omega
    · obtain rfl : k = n := by omega
      have hk2 : zs.take k = zs := by rw [← HN.out, List.take_length]
      have ok := OK.out
      rw [hk2] at ok
      have OK2 := Lib.hid ok
      clear ok hk2 OK
      go_wp2_with (first
        | (go_at_call 22; refine (HW.out _).mono ?_; rintro e w4 ⟨rfl, hz⟩; have hz := hz.symm; subst hz)
        | (go_at_call 50; refine (HPK.out _ _ _ OK2.out.sl).mono ?_; rintro e w9 ⟨v9, rfl, o9, b9⟩; have C9 := Lib.hid (BK.out.trans (b9.mono BK.out.size)); have O9 := Lib.hid o9; clear o9 b9; have P9 := Lib.hid (O5.out.below C9.out (Nat.le_refl _)); have B9 := Lib.hid (B5.out.trans (C9.out.mono B5.out.size)))
        | (at_builtin; refine wpList_gapp e8 _ rfl _ _ _ rfl w.heap.size sli8 inf8 _ _ rfl P9.out _ _ _ PK rfl O9.out.sl (by have := HPL.out; simp [le_length]; omega) B9.out.size ?_; intro va wa oa ga hj; clear hj; have BA := Lib.hid (B9.out.grown ga B9.out.size (fun j hj => (P9.out.lt j hj).1)); have OA := Lib.hid oa; clear oa ga))
      go_ret
      exact ⟨_, rfl, by simpa using OA.out, BA.out⟩
end Go.Proofs.Ytpanfpcfhgnkoaa
