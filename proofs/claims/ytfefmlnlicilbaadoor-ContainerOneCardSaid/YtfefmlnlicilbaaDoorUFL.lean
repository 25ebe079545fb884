/- Runs: List (cut from stages 4 to 6) -/
import Derived.Test.YtfefmlnlicilbaaDoorUFE
import Derived.Test.YtfefmlnlicilbaaDoorUE7
namespace Go.Proofs.YtfefmlnlicilbaaDoor
open Go.RowKit
set_option linter.unusedVariables false

theorem ls_gap {A : List Rn} {k N : Nat} {r : Rn} (h1 : mayr N (A.drop k) = true) (hd : A.drop k = r :: A.drop (k + 1)) (h2 : ∀ x, N ≤ x → mr A x = mr (A.drop k) x) : N ≤ r.1.toNat ∧ ls (mr A) r.1.toNat = ls (mr A) N := by
  rw [hd] at h1 h2
  obtain ⟨a1, a2, a3⟩ := mayr_cons.1 h1
  refine ⟨a1, ls_skip (mr A) a1 fun j hj hj2 => ?_⟩
  cases hm : mr A j with
  | false => rfl
  | true =>
    rw [h2 j hj] at hm
    have := (mr_ge (mayr_cons.2 ⟨Nat.le_refl _, a2, a3⟩) hm).1
    omega
theorem ls_in {A : List Rn} {k N : Nat} {r : Rn} (h1 : mayr N (A.drop k) = true) (hd : A.drop k = r :: A.drop (k + 1)) (h2 : ∀ x, N ≤ x → mr A x = mr (A.drop k) x) {m : Nat} (ha : r.1.toNat ≤ m) (hb : m ≤ lst r) : ls (mr A) (m + 1) = ls (mr A) m ++ [UInt16.ofNat m] := by
  rw [hd] at h1 h2
  have a1 := (mayr_cons.1 h1).1
  refine ls_next (mr A) (Nat.le_refl m) (fun j h3 h4 => by omega) ?_
  rw [h2 m (by omega), mr_cons, (inr_iff r m).2 ⟨ha, hb⟩, Bool.true_or]
theorem ls_out {A : List Rn} {k N : Nat} {r : Rn} (h1 : mayr N (A.drop k) = true) (hd : A.drop k = r :: A.drop (k + 1)) (h2 : ∀ x, N ≤ x → mr A x = mr (A.drop k) x) : lst r ≤ 65535 ∧ mayr (lst r + 1) (A.drop (k + 1)) = true ∧ ∀ x, lst r + 1 ≤ x → mr A x = mr (A.drop (k + 1)) x := by
  rw [hd] at h1 h2
  obtain ⟨a1, a2, a3⟩ := mayr_cons.1 h1
  refine ⟨a2, mayr_mono (by omega) a3, fun x hx => ?_⟩
  have hf := fst_le r
  rw [h2 x (by omega), mr_cons]
  cases hi : inr r x with
  | false => rfl
  | true => have := ((inr_iff r x).1 hi).2; omega
theorem step_up {n k : Nat} {X : Int} (h : k < n) (hw : X = (k : Int) + 1) : ((n : Int) - intOf (.int .i64 X)).toNat < ((n : Int) - intOf (.int .i64 (k : Int))).toNat := by
  subst hw
  show ((n : Int) - ((k : Int) + 1)).toNat < ((n : Int) - (k : Int)).toNat
  omega
set_option maxHeartbeats 4000000 in
theorem rlist_any (v : Value) (A : List Rn) (w : World) (hv : Gs2 eR w 0 w.heap.size v A) (hA : mayr 0 A = true) :
    Calls Tryd.prog 45 #[v] w fun e w' => ∃ v', e = .returned v' ∧ Gw e16 w' w.heap.size v' (ls (mr A) 65536) ∧ Below w.heap.size w w' := by
  have hlen := hv.len
  have HV := Lib.hid hv
  obtain ⟨A1, c1, rfl, -⟩ := hv
  have HA := Lib.hid hA
  obtain ⟨X, hX⟩ : ∃ X, ct (mr A) 65536 = X := ⟨_, rfl⟩
  have HX := Lib.hid hX
  have HX1 := Lib.hid (show X ≤ 65536 by rw [← hX]; exact ct_le' _ _)
  have hx1 : (X : Int) ≤ 65536 := by have := HX1.out; omega
  have hx2 : ¬ (65536 : Int) < (X : Int) := by omega
  clear hA hX
  go_enter Tryd.func45, Tryd.ntmps45
  go_wp2_with (first
    | (go_at_call 49; refine (rlen_any _ A X _ HV.out HA.out HX.out).mono ?_; rintro e w1 ⟨rfl, b0⟩; have B0 := Lib.hid b0; clear b0)
    | (at_make; refine wpList_gmk e16 _ rfl _ _ _ rfl sli16 inf16 _ _ _ X rfl rfl rfl (by have := HX1.out; omega) ?_; intro w2 o1 g1; have O1 := Lib.hid (o1.more B0.out.size); have B1 := Lib.hid (B0.out.trans ((below_of_grown g1 (fun k h => by cases h)).mono B0.out.size)); clear o1 g1))
  go_loopw [3, 4, 13] (fun u s4 s13 wr => ∃ k N : Nat, k ≤ A.length ∧ s4 = .int .i64 N ∧ s13 = .int .i64 k ∧ Hid (mayr N (A.drop k) = true) ∧ Hid (∀ x, N ≤ x → mr A x = mr (A.drop k) x) ∧ Hid (N ≤ 65536) ∧ Gw e16 wr w.heap.size u (ls (mr A) N) ∧ Below w.heap.size w wr) (fun _ _ i _ => ((A.length : Int) - intOf i).toNat)
  case atStart => exact ⟨0, 0, Nat.zero_le _, rfl, rfl, HA, Lib.hid fun x _ => rfl, Lib.hid (Nat.zero_le _), O1.out, B1.out⟩
  case round =>
    obtain ⟨k, N, hk, rfl, rfl, hmr, hsm, hN, ho, hbl⟩ := hrel
    have OR := Lib.hid ho
    have HB := Lib.hid hbl
    obtain ⟨A5, c5, rfl, -⟩ := ho.sl
    by_cases hlt : k < A.length
    · obtain ⟨b, off, r, e1, -, hb, hdr, hg, c0, c2⟩ := gs2_at HV.out hlt
      subst e1
      rw [← hbl.cell (p := ⟨b, off + k * 2, none⟩) hb] at c0
      rw [← hbl.cell (p := ⟨b, off + k * 2 + 1, none⟩) hb] at c2
      have hf := u16_lt r.1
      have hm := u16_lt r.2
      obtain ⟨f, hfe⟩ : ∃ f, f = r.1.toNat := ⟨_, rfl⟩
      obtain ⟨q, hqe⟩ : ∃ q, q = r.2.toNat := ⟨_, rfl⟩
      rw [← hfe] at c0 hf
      rw [← hqe] at c2 hm
      have HF := Lib.hid hf
      have HQ := Lib.hid hm
      have hlr : lst r = f + q := by unfold lst; rw [← hfe, ← hqe]
      have hgap := ls_gap hmr.out hdr hsm.out
      rw [← hfe] at hgap
      have hin : ∀ m, f ≤ m → m ≤ f + q → ls (mr A) (m + 1) = ls (mr A) m ++ [UInt16.ofNat m] := fun m h1 h2 => ls_in hmr.out hdr hsm.out (by omega) (by omega)
      have hout := ls_out hmr.out hdr hsm.out
      rw [hlr] at hout
      have GAP := Lib.hid hgap
      have IN := Lib.hid hin
      have OUT := Lib.hid hout
      have HK := Lib.hid hlt
      have w1 : IntKind.i64.wrap (f : Int) = f := by simp [IntKind.wrap, IntKind.bits, IntKind.signed]; omega
      have wk1 : IntKind.i64.wrap ((k : Int) + 1) = (k : Int) + 1 := by rw [IntKind.wrap_i64]; omega
      have wk2 : wrap64 ((k : Int) + 1) = (k : Int) + 1 := by unfold wrap64; omega
      have WK := Lib.hid wk2
      have OA := Lib.hid (OR.out.alloc (.cells #[.int .u16 (f : Int), .int .u16 (q : Int)] 85))
      have RA := Lib.hid (Row.new wr 85 #[.int .u16 (f : Int), .int .u16 (q : Int)])
      have BA := Lib.hid (hbl.alloc hbl.size (.cells #[.int .u16 (f : Int), .int .u16 (q : Int)] 85))
      have NE := Lib.hid (fun j (hj : (Value.slice A5 (ls (mr A) N).length c5).ownBlock = some j) => (OR.out.lt j hj).2)
      clear hbl hmr hsm hN hdr hg hfe hqe hlr hgap hin hout ho hk hb hlt
      by_cases hNf : f = N
      · subst hNf
        go_wp2_with fail
        go_loopw [3, 4] (fun u s4 ws => ∃ m : Nat, Hid (f ≤ m) ∧ m ≤ f + q + 1 ∧ s4 = .int .i64 m ∧ Gw e16 ws w.heap.size u (ls (mr A) m) ∧ Row ws wr.heap.size 85 #[.int .u16 (f : Int), .int .u16 (q : Int)] ∧ (∀ j, u.ownBlock = some j → j ≠ wr.heap.size) ∧ Below w.heap.size w ws) (fun _ i _ => (((f + q + 1 : Nat) : Int) - intOf i).toNat)
        case atStart => exact ⟨f, Lib.hid (Nat.le_refl _), by omega, rfl, by first | exact OA.out | (rw [GAP.out.2]; exact OA.out), RA.out, fun j hj => by have := NE.out j hj; omega, BA.out⟩
        case round =>
          obtain ⟨m, hfm, hm, rfl, ho, hrw, hne, hb⟩ := hrel
          obtain ⟨A6, c6, rfl, -⟩ := ho.sl
          have OS := Lib.hid ho
          have RS := Lib.hid hrw
          have NS := Lib.hid hne
          have BS := Lib.hid hb
          have k0 := hrw.cell 0
          have k1 := hrw.cell 1
          simp at k0 k1
          by_cases hml : m < f + q + 1
          · have hmi : (m : Int) < (f : Int) + ((q : Int) + 1) := by omega
            have hmd : decide ((m : Int) < (f : Int) + ((q : Int) + 1)) = true := decide_eq_true hmi
            have HM := Lib.hid hml
            have hm65 : m < 65536 := by have := OUT.out.1; omega
            have wu : IntKind.u16.wrap (m : Int) = m := by simp [IntKind.wrap, IntKind.bits, IntKind.signed]; omega
            have hy : ((UInt16.ofNat m).toNat : Int) = m := by rw [u16_of m hm65]
            have HY := Lib.hid hy
            have hap := IN.out m hfm.out (by omega)
            have AP := Lib.hid hap
            have HL := Lib.hid (show (ls (mr A) m).length ≤ 65536 by have := ls_len (mr A) m; omega)
            have wm1 : IntKind.i64.wrap ((m : Int) + 1) = (m : Int) + 1 := by rw [IntKind.wrap_i64]; omega
            have wm2 : wrap64 ((m : Int) + 1) = (m : Int) + 1 := by unfold wrap64; omega
            clear ho hrw hne hb hm hml hm65 hy hap
            go_wp2_with (first
              | (go_at_call 66; refine (end_any f q HF.out HQ.out _).mono ?_; rintro e wx ⟨rfl, bx⟩; have OX := Lib.hid (OS.out.below bx (Nat.le_refl _)); have RX := Lib.hid (RS.out.below bx RS.out.lt); have BX := Lib.hid (BS.out.trans (bx.mono BS.out.size)); clear bx)
              | (at_builtin; refine wpList_gapp1 (P := Tryd.prog) e16 _ rfl _ _ _ rfl w.heap.size sli16 inf16 _ (ls (mr A) m) rfl OX.out _ (UInt16.ofNat m) (by simp only [e16, b16]; rw [HY.out]) rfl (by have := HL.out; omega) BX.out.size ?_; intro v2 w2 o2 g2 hj; have O2 := Lib.hid o2; have G2 := Lib.hid g2; have J2 := Lib.hid hj; clear o2 g2 hj))
            refine ⟨⟨m + 1, Lib.hid (Nat.le_succ_of_le hfm.out), HM.out, by go_num, by rw [AP.out]; exact O2.out, RX.out.grown G2.out (fun e => NS.out _ e rfl), fun j hj2 => ?_, BX.out.grown G2.out BX.out.size (fun j h => (OX.out.lt j h).1)⟩, step_up HM.out rfl⟩
            rcases J2.out with e | e
            · rw [e] at hj2
              exact NS.out j hj2
            · rw [e] at hj2
              injection hj2 with h
              have := RX.out.lt
              omega
          · obtain rfl : m = f + q + 1 := by omega
            clear ho hrw hne hb hm hml
            go_wp2_with (go_at_call 66; refine (end_any f q HF.out HQ.out _).mono ?_; rintro e wx ⟨rfl, bx⟩; have OX := Lib.hid (OS.out.below bx (Nat.le_refl _)); have BX := Lib.hid (BS.out.trans (bx.mono BS.out.size)); clear bx)
            refine ⟨⟨k + 1, f + q + 1, HK.out, rfl, by go_num, Lib.hid OUT.out.2.1, Lib.hid OUT.out.2.2, Lib.hid (by have := OUT.out.1; omega), OX.out, BX.out⟩, step_up HK.out (by first | rfl | exact WK.out)⟩
      · have hmx : (N : Int) < (f : Int) := by have := GAP.out.1; omega
        clear hNf
        go_wp2_with fail
        simp only [HK.out, decide_true]
        go_loopw [3, 4] (fun u s4 ws => ∃ m : Nat, Hid (f ≤ m) ∧ m ≤ f + q + 1 ∧ s4 = .int .i64 m ∧ Gw e16 ws w.heap.size u (ls (mr A) m) ∧ Row ws wr.heap.size 85 #[.int .u16 (f : Int), .int .u16 (q : Int)] ∧ (∀ j, u.ownBlock = some j → j ≠ wr.heap.size) ∧ Below w.heap.size w ws) (fun _ i _ => (((f + q + 1 : Nat) : Int) - intOf i).toNat)
        case atStart => exact ⟨f, Lib.hid (Nat.le_refl _), by omega, rfl, by first | exact OA.out | (rw [GAP.out.2]; exact OA.out), RA.out, fun j hj => by have := NE.out j hj; omega, BA.out⟩
        case round =>
          obtain ⟨m, hfm, hm, rfl, ho, hrw, hne, hb⟩ := hrel
          obtain ⟨A6, c6, rfl, -⟩ := ho.sl
          have OS := Lib.hid ho
          have RS := Lib.hid hrw
          have NS := Lib.hid hne
          have BS := Lib.hid hb
          have k0 := hrw.cell 0
          have k1 := hrw.cell 1
          simp at k0 k1
          by_cases hml : m < f + q + 1
          · have hmi : (m : Int) < (f : Int) + ((q : Int) + 1) := by omega
            have hmd : decide ((m : Int) < (f : Int) + ((q : Int) + 1)) = true := decide_eq_true hmi
            have HM := Lib.hid hml
            have hm65 : m < 65536 := by have := OUT.out.1; omega
            have wu : IntKind.u16.wrap (m : Int) = m := by simp [IntKind.wrap, IntKind.bits, IntKind.signed]; omega
            have hy : ((UInt16.ofNat m).toNat : Int) = m := by rw [u16_of m hm65]
            have HY := Lib.hid hy
            have hap := IN.out m hfm.out (by omega)
            have AP := Lib.hid hap
            have HL := Lib.hid (show (ls (mr A) m).length ≤ 65536 by have := ls_len (mr A) m; omega)
            have wm1 : IntKind.i64.wrap ((m : Int) + 1) = (m : Int) + 1 := by rw [IntKind.wrap_i64]; omega
            have wm2 : wrap64 ((m : Int) + 1) = (m : Int) + 1 := by unfold wrap64; omega
            clear ho hrw hne hb hm hml hm65 hy hap
            go_wp2_with (first
              | (go_at_call 66; refine (end_any f q HF.out HQ.out _).mono ?_; rintro e wx ⟨rfl, bx⟩; have OX := Lib.hid (OS.out.below bx (Nat.le_refl _)); have RX := Lib.hid (RS.out.below bx RS.out.lt); have BX := Lib.hid (BS.out.trans (bx.mono BS.out.size)); clear bx)
              | (at_builtin; refine wpList_gapp1 (P := Tryd.prog) e16 _ rfl _ _ _ rfl w.heap.size sli16 inf16 _ (ls (mr A) m) rfl OX.out _ (UInt16.ofNat m) (by simp only [e16, b16]; rw [HY.out]) rfl (by have := HL.out; omega) BX.out.size ?_; intro v2 w2 o2 g2 hj; have O2 := Lib.hid o2; have G2 := Lib.hid g2; have J2 := Lib.hid hj; clear o2 g2 hj))
            refine ⟨⟨m + 1, Lib.hid (Nat.le_succ_of_le hfm.out), HM.out, by go_num, by rw [AP.out]; exact O2.out, RX.out.grown G2.out (fun e => NS.out _ e rfl), fun j hj2 => ?_, BX.out.grown G2.out BX.out.size (fun j h => (OX.out.lt j h).1)⟩, step_up HM.out rfl⟩
            rcases J2.out with e | e
            · rw [e] at hj2
              exact NS.out j hj2
            · rw [e] at hj2
              injection hj2 with h
              have := RX.out.lt
              omega
          · obtain rfl : m = f + q + 1 := by omega
            clear ho hrw hne hb hm hml
            go_wp2_with (go_at_call 66; refine (end_any f q HF.out HQ.out _).mono ?_; rintro e wx ⟨rfl, bx⟩; have OX := Lib.hid (OS.out.below bx (Nat.le_refl _)); have BX := Lib.hid (BS.out.trans (bx.mono BS.out.size)); clear bx)
            refine ⟨⟨k + 1, f + q + 1, HK.out, rfl, by go_num, Lib.hid OUT.out.2.1, Lib.hid OUT.out.2.2, Lib.hid (by have := OUT.out.1; omega), OX.out, BX.out⟩, step_up HK.out (by first | rfl | exact WK.out)⟩
    · obtain rfl : k = A.length := by omega
      have hfin : ls (mr A) 65536 = ls (mr A) N := by
        refine ls_skip (mr A) hN.out fun j h1 h2 => ?_
        rw [hsm.out j h1, List.drop_length]
        rfl
      have FIN := Lib.hid hfin
      clear hbl hmr hsm hN hfin ho hk hlt
      go_wp2
      go_ret
      exact ⟨_, rfl, by rw [FIN.out]; exact OR.out, HB.out⟩
end Go.Proofs.YtfefmlnlicilbaaDoor
