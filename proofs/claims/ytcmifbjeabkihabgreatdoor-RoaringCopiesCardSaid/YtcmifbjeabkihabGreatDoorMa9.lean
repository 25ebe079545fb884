/- Mathematics of containers: the canonical kind of a set, its size; sets flipped, and with a number more. -/
import Derived.Test.YtcmifbjeabkihabGreatDoorMa8
import Derived.Test.YtcmifbjeabkihabGreatDoorMa6
import Derived.Laws.EntriesVeiled
import Derived.Test.YtcmifbjeabkihabGreatDoorMa3
/- Words in the form of laws (cut from stages 4 to 6) -/
namespace Go.Proofs.YtcmifbjeabkihabGreatDoor
open Go.RowKit
set_option linter.unusedVariables false

theorem ls_wb (p : Nat → Bool) {n : Nat} (h : n ≤ 65536) : ls (wb (wm p)) n = ls p n := ls_ext fun j hj => wb_wm p j (by omega)
theorem ct_wb (p : Nat → Bool) {n : Nat} (h : n ≤ 65536) : ct (wb (wm p)) n = ct p n := ct_ext fun j hj => wb_wm p j (by omega)
theorem hm_wb (p : Nat → Bool) {n : Nat} (h : n ≤ 65536) : ct (hm (wb (wm p))) n = ct (hm p) n := ct_ext fun j hj => hm_ext (n := 65536) (fun i hi => wb_wm p i hi) j (by omega)
theorem flp_wb (p : Nat → Bool) (lo hi : Int) : wm (flp (wb (wm p)) lo hi) = wm (flp p lo hi) := wm_ext fun x hx => by unfold flp; rw [wb_wm p x hx]
theorem mix_wb (f : Bool → Bool → Bool) (p q : Nat → Bool) : wm (fun x => f (wb (wm p) x) (wb (wm q) x)) = wm fun x => f (p x) (q x) := wm_ext fun x hx => by rw [wb_wm p x hx, wb_wm q x hx]
theorem wm_wb {w : List UInt64} (h : w.length = 1024) : w = wm (wb w) := wm_of h fun x hx => rfl
theorem gw_wm {w : World} {base : Nat} {v : Value} {p : Nat → Bool} (h : Gw e64 w base v (wm p)) : ∃ A c, v = .slice A 1024 c := by
  obtain ⟨A, c, e, -⟩ := h.sl
  exact ⟨A, c, by rw [e, wm_length]⟩
theorem wof_k (l : List UInt16) (p : Nat → Bool) (hp : p = mk l) (v : Value) (w : World) (hv : Gs e16 w 0 w.heap.size v l) :
    Calls Tryz.prog 212 #[v] w fun e w' => ∃ A c, e = .returned (.slice A 1024 c) ∧ Gs e64 w' 0 w'.heap.size (.slice A 1024 c) (wm p) ∧ Below w.heap.size w w' := by
  subst hp
  refine (wof_any v l 0 w hv).mono ?_
  rintro e w' ⟨v', rfl, o, b⟩
  obtain ⟨A, c, rfl⟩ := gw_wm o
  exact ⟨A, c, rfl, o.sl.more (Nat.zero_le _) (Nat.le_refl _), b⟩
theorem Gs.step {α : Type} {k : Elem α} {w w' : World} {v : Value} {l : List α} (h : Gs k w 0 w.heap.size v l) (b : Below w.heap.size w w') : Gs k w' 0 w'.heap.size v l := (h.below b).more (Nat.le_refl _) b.size
theorem Tb.step {w w' : World} (h : Tb w) (b : Below w.heap.size w w') : Tb w' := h.below b (Nat.le_refl _)
theorem wof_p (v : Value) (l : List UInt16) (w : World) (hv : Gs e16 w 0 w.heap.size v l) :
    Calls Tryz.prog 212 #[v] w fun e w' => ∃ A c, e = .returned (.slice A 1024 c) ∧ Gs e64 w' 0 w'.heap.size (.slice A 1024 c) (wm (mk l)) ∧ Below w.heap.size w w' := wof_k l _ rfl v w hv
theorem wlen_p (v : Value) (p : Nat → Bool) (n : Nat) (W : World) (hv : Gs e64 W 0 W.heap.size v (wm p)) (hn : ct p 65536 = n) :
    Calls Tryz.prog 143 #[v] W fun e w' => e = .returned (.int .i64 n) ∧ w' = W := by
  have h := wlen_any v _ 0 _ W hv
  rw [ct_wb p (Nat.le_refl _), hn] at h
  exact h
theorem whas_p (v : Value) (p : Nat → Bool) (x : Int) (y : Nat) (W : World) (hv : Gs e64 W 0 W.heap.size v (wm p)) (hx : x = y) (hy : y < 65536) :
    Calls Tryz.prog 110 #[v, .int .u16 x] W fun e w' => e = .returned (.bool (p y)) ∧ w' = W := by
  subst hx
  have h := whas_any v _ 0 _ y W hv (by omega) (by omega)
  rw [Int.toNat_natCast, wb_wm p y hy] at h
  exact h
theorem wruns_p (v : Value) (p : Nat → Bool) (n : Nat) (W : World) (hv : Gs e64 W 0 W.heap.size v (wm p)) (hn : ct (hm p) 65536 = n) :
    Calls Tryz.prog 191 #[v] W fun e w' => e = .returned (.int .i64 n) ∧ w' = W := by
  have h := wruns_any v _ 0 _ W hv
  rw [hm_wb p (Nat.le_refl _), hn] at h
  exact h
theorem wlist_p (v : Value) (p : Nat → Bool) (n : Nat) (w : World) (hv : Gs e64 w 0 w.heap.size v (wm p)) (hT : Tb w) (hn : ct p 65536 = n) :
    Calls Tryz.prog 130 #[v] w fun e w' => ∃ A c, e = .returned (.slice A n c) ∧ Gs e16 w' 0 w'.heap.size (.slice A n c) (ls p 65536) ∧ Below w.heap.size w w' := by
  refine (wlist_any v _ 0 w hv hT).mono ?_
  rintro e w' ⟨v', rfl, o, b⟩
  rw [ls_wb p (Nat.le_refl _)] at o
  have s := o.sl.more (Nat.zero_le _) (Nat.le_refl _)
  obtain ⟨A, c, rfl, -⟩ := o.sl
  rw [ls_ct, hn] at s ⊢
  exact ⟨A, c, rfl, s, b⟩
theorem wflip_p (v : Value) (p : Nat → Bool) (lo hi : Int) (w : World) (hv : Gs e64 w 0 w.heap.size v (wm p)) :
    Calls Tryz.prog 202 #[v, .int .i64 lo, .int .i64 hi] w fun e w' => ∃ A c, e = .returned (.slice A 1024 c) ∧ Gs e64 w' 0 w'.heap.size (.slice A 1024 c) (wm (flp p lo hi)) ∧ Below w.heap.size w w' := by
  refine (wflip_any v _ 0 lo hi w hv).mono ?_
  rintro e w' ⟨v', rfl, o, b⟩
  rw [flp_wb] at o
  obtain ⟨A, c, rfl⟩ := gw_wm o
  exact ⟨A, c, rfl, o.sl.more (Nat.zero_le _) (Nat.le_refl _), b⟩
theorem flp_in {p : Nat → Bool} {L H : Nat} {x : Nat} (h1 : L ≤ x) (h2 : x < H) : flp p L H x = !p x := by
  unfold flp
  rw [decide_eq_true (by omega), decide_eq_true (by omega)]
  simp
theorem flp_out {p : Nat → Bool} {lo hi : Int} {x : Nat} (h : (x : Int) < lo ∨ hi ≤ x) : flp p lo hi x = p x := by
  unfold flp
  have : (decide (lo ≤ (x : Int)) && decide ((x : Int) < hi)) = false := by
    rcases h with h | h
    · rw [decide_eq_false (by omega), Bool.false_and]
    · rw [decide_eq_false (show ¬ ((x : Nat) : Int) < hi by omega), Bool.and_false]
  rw [this]
  simp
theorem flp_twice (p : Nat → Bool) (lo hi : Int) : flp (flp p lo hi) lo hi = p := by
  funext x
  unfold flp
  cases p x <;> cases (decide (lo ≤ (x : Int)) && decide ((x : Int) < hi)) <;> rfl
theorem cl_nat {n : Nat} (h : n ≤ 65536) : cl (n : Int) = n := by unfold cl; omega
theorem mk_ls (p : Nat → Bool) {x : Nat} (hx : x < 65536) : mk (ls p 65536) x = p x := by
  have e : x = (UInt16.ofNat x).toNat := (u16_of x hx).symm
  rw [e, Bool.eq_iff_iff, mk_iff, ls_mem p 65536 (Nat.le_refl _), u16_of x hx]
  exact ⟨fun h => h.2, fun h => ⟨hx, h⟩⟩
theorem aruns_p (v : Value) (p : Nat → Bool) (n : Nat) (W : World) (hv : Gs e16 W 0 W.heap.size v (ls p 65536)) (hn : ct (hm p) 65536 = n) :
    Calls Tryz.prog 190 #[v] W fun e w' => e = .returned (.int .i64 n) ∧ Below W.heap.size W w' := by
  refine (runs_b v _ 0 _ W hv (Nat.le_trans (ls_len p 65536) (by omega))).mono ?_
  rintro e w' ⟨h1, h2⟩
  refine ⟨?_, h2⟩
  have e1 : ct (hm (mk (ls p 65536))) 65536 = ct (hm p) 65536 := ct_ext fun j hj => hm_ext (n := 65536) (fun i hi => mk_ls p hi) j hj
  rw [h1, rn_ls (ris_ls p 65536 (Nat.le_refl _)), ls_ct, e1, hn]
end Go.Proofs.YtcmifbjeabkihabGreatDoor
/- Runs: List (cut from stages 4 to 6) -/
namespace Go.Proofs.YtcmifbjeabkihabGreatDoor
open Go.RowKit
set_option linter.unusedVariables false

theorem ls_gap {A : List Rn} {k N : Nat} {r : Rn} (h1 : mayr N (A.drop k) = true) (hd : A.drop k = r :: A.drop (k + 1)) (h2 : ∀ x, N ≤ x → mr A x = mr (A.drop k) x) : N ≤ r.1.toNat ∧ ls (mr A) r.1.toNat = ls (mr A) N := by
  rw [hd] at h1 h2
  obtain ⟨a1, a2, a3⟩ := mayr_cons.1 h1
  refine ⟨a1, ls_skip (mr A) a1 fun j hj hj2 => ?_⟩
  cases hm : mr A j with
  | false => rfl
  | true =>
    rw [h2 j hj] at hm
    have := (mr_ge (mayr_cons.2 ⟨Nat.le_refl _, a2, a3⟩) hm).1
    omega
theorem ls_in {A : List Rn} {k N : Nat} {r : Rn} (h1 : mayr N (A.drop k) = true) (hd : A.drop k = r :: A.drop (k + 1)) (h2 : ∀ x, N ≤ x → mr A x = mr (A.drop k) x) {m : Nat} (ha : r.1.toNat ≤ m) (hb : m ≤ lst r) : ls (mr A) (m + 1) = ls (mr A) m ++ [UInt16.ofNat m] := by
  rw [hd] at h1 h2
  have a1 := (mayr_cons.1 h1).1
  refine ls_next (mr A) (Nat.le_refl m) (fun j h3 h4 => by omega) ?_
  rw [h2 m (by omega), mr_cons, (inr_iff r m).2 ⟨ha, hb⟩, Bool.true_or]
theorem ls_out {A : List Rn} {k N : Nat} {r : Rn} (h1 : mayr N (A.drop k) = true) (hd : A.drop k = r :: A.drop (k + 1)) (h2 : ∀ x, N ≤ x → mr A x = mr (A.drop k) x) : lst r ≤ 65535 ∧ mayr (lst r + 1) (A.drop (k + 1)) = true ∧ ∀ x, lst r + 1 ≤ x → mr A x = mr (A.drop (k + 1)) x := by
  rw [hd] at h1 h2
  obtain ⟨a1, a2, a3⟩ := mayr_cons.1 h1
  refine ⟨a2, mayr_mono (by omega) a3, fun x hx => ?_⟩
  have hf := fst_le r
  rw [h2 x (by omega), mr_cons]
  cases hi : inr r x with
  | false => rfl
  | true => have := ((inr_iff r x).1 hi).2; omega
theorem step_up {n k : Nat} {X : Int} (h : k < n) (hw : X = (k : Int) + 1) : ((n : Int) - intOf (.int .i64 X)).toNat < ((n : Int) - intOf (.int .i64 (k : Int))).toNat := by
  subst hw
  show ((n : Int) - ((k : Int) + 1)).toNat < ((n : Int) - (k : Int)).toNat
  omega
set_option maxHeartbeats 4000000 in
theorem rlist_any (v : Value) (A : List Rn) (w : World) (hv : Gs2 eR w 0 w.heap.size v A) (hA : mayr 0 A = true) :
    Calls Tryz.prog 211 #[v] w fun e w' => ∃ v', e = .returned v' ∧ Gw e16 w' w.heap.size v' (ls (mr A) 65536) ∧ Below w.heap.size w w' := by
  have hlen := hv.len
  have HV := Lib.hid hv
  obtain ⟨A1, c1, rfl, -⟩ := hv
  have HA := Lib.hid hA
  obtain ⟨X, hX⟩ : ∃ X, ct (mr A) 65536 = X := ⟨_, rfl⟩
  have HX := Lib.hid hX
  have HX1 := Lib.hid (show X ≤ 65536 by rw [← hX]; exact ct_le' _ _)
  have hx1 : (X : Int) ≤ 65536 := by have := HX1.out; omega
  have hx2 : ¬ (65536 : Int) < (X : Int) := by omega
  clear hA hX
  go_enter Tryz.func211, Tryz.ntmps211
  go_wp2_with (first
    | (go_at_call 144; refine (rlen_any _ A X _ HV.out HA.out HX.out).mono ?_; rintro e w1 ⟨rfl, b0⟩; have B0 := Lib.hid b0; clear b0)
    | (at_make; refine wpList_gmk e16 _ rfl _ _ _ rfl sli16 inf16 _ _ _ X rfl rfl rfl (by have := HX1.out; omega) ?_; intro w2 o1 g1; have O1 := Lib.hid (o1.more B0.out.size); have B1 := Lib.hid (B0.out.trans ((below_of_grown g1 (fun k h => by cases h)).mono B0.out.size)); clear o1 g1))
  go_loopw [3, 4, 13] (fun u s4 s13 wr => ∃ k N : Nat, k ≤ A.length ∧ s4 = .int .i64 N ∧ s13 = .int .i64 k ∧ Hid (mayr N (A.drop k) = true) ∧ Hid (∀ x, N ≤ x → mr A x = mr (A.drop k) x) ∧ Hid (N ≤ 65536) ∧ Gw e16 wr w.heap.size u (ls (mr A) N) ∧ Below w.heap.size w wr) (fun _ _ i _ => ((A.length : Int) - intOf i).toNat)
  case atStart => exact ⟨0, 0, Nat.zero_le _, rfl, rfl, HA, Lib.hid fun x _ => rfl, Lib.hid (Nat.zero_le _), O1.out, B1.out⟩
  case round =>
    obtain ⟨k, N, hk, rfl, rfl, hmr, hsm, hN, ho, hbl⟩ := hrel
    have OR := Lib.hid ho
    have HB := Lib.hid hbl
    obtain ⟨A5, c5, rfl, -⟩ := ho.sl
    by_cases hlt : k < A.length
    · obtain ⟨b, off, r, e1, -, hb, hdr, hg, c0, c2⟩ := gs2_at HV.out hlt
      subst e1
      rw [← hbl.cell (p := ⟨b, off + k * 2, none⟩) hb] at c0
      rw [← hbl.cell (p := ⟨b, off + k * 2 + 1, none⟩) hb] at c2
      have hf := u16_lt r.1
      have hm := u16_lt r.2
      obtain ⟨f, hfe⟩ : ∃ f, f = r.1.toNat := ⟨_, rfl⟩
      obtain ⟨q, hqe⟩ : ∃ q, q = r.2.toNat := ⟨_, rfl⟩
      rw [← hfe] at c0 hf
      rw [← hqe] at c2 hm
      have HF := Lib.hid hf
      have HQ := Lib.hid hm
      have hlr : lst r = f + q := by unfold lst; rw [← hfe, ← hqe]
      have hgap := ls_gap hmr.out hdr hsm.out
      rw [← hfe] at hgap
      have hin : ∀ m, f ≤ m → m ≤ f + q → ls (mr A) (m + 1) = ls (mr A) m ++ [UInt16.ofNat m] := fun m h1 h2 => ls_in hmr.out hdr hsm.out (by omega) (by omega)
      have hout := ls_out hmr.out hdr hsm.out
      rw [hlr] at hout
      have GAP := Lib.hid hgap
      have IN := Lib.hid hin
      have OUT := Lib.hid hout
      have HK := Lib.hid hlt
      have w1 : IntKind.i64.wrap (f : Int) = f := by simp [IntKind.wrap, IntKind.bits, IntKind.signed]; omega
      have wk1 : IntKind.i64.wrap ((k : Int) + 1) = (k : Int) + 1 := by rw [IntKind.wrap_i64]; omega
      have wk2 : wrap64 ((k : Int) + 1) = (k : Int) + 1 := by unfold wrap64; omega
      have WK := Lib.hid wk2
      have OA := Lib.hid (OR.out.alloc (.cells #[.int .u16 (f : Int), .int .u16 (q : Int)] 85))
      have RA := Lib.hid (Row.new wr 85 #[.int .u16 (f : Int), .int .u16 (q : Int)])
      have BA := Lib.hid (hbl.alloc hbl.size (.cells #[.int .u16 (f : Int), .int .u16 (q : Int)] 85))
      have NE := Lib.hid (fun j (hj : (Value.slice A5 (ls (mr A) N).length c5).ownBlock = some j) => (OR.out.lt j hj).2)
      clear hbl hmr hsm hN hdr hg hfe hqe hlr hgap hin hout ho hk hb hlt
      by_cases hNf : f = N
      · subst hNf
        go_wp2_with fail
        go_loopw [3, 4] (fun u s4 ws => ∃ m : Nat, Hid (f ≤ m) ∧ m ≤ f + q + 1 ∧ s4 = .int .i64 m ∧ Gw e16 ws w.heap.size u (ls (mr A) m) ∧ Row ws wr.heap.size 85 #[.int .u16 (f : Int), .int .u16 (q : Int)] ∧ (∀ j, u.ownBlock = some j → j ≠ wr.heap.size) ∧ Below w.heap.size w ws) (fun _ i _ => (((f + q + 1 : Nat) : Int) - intOf i).toNat)
        case atStart => exact ⟨f, Lib.hid (Nat.le_refl _), by omega, rfl, by first | exact OA.out | (rw [GAP.out.2]; exact OA.out), RA.out, fun j hj => by have := NE.out j hj; omega, BA.out⟩
        case round =>
          obtain ⟨m, hfm, hm, rfl, ho, hrw, hne, hb⟩ := hrel
          obtain ⟨A6, c6, rfl, -⟩ := ho.sl
          have OS := Lib.hid ho
          have RS := Lib.hid hrw
          have NS := Lib.hid hne
          have BS := Lib.hid hb
          have k0 := hrw.cell 0
          have k1 := hrw.cell 1
          simp at k0 k1
          by_cases hml : m < f + q + 1
          · have hmi : (m : Int) < (f : Int) + ((q : Int) + 1) := by omega
            have hmd : decide ((m : Int) < (f : Int) + ((q : Int) + 1)) = true := decide_eq_true hmi
            have HM := Lib.hid hml
            have hm65 : m < 65536 := by have := OUT.out.1; omega
            have wu : IntKind.u16.wrap (m : Int) = m := by simp [IntKind.wrap, IntKind.bits, IntKind.signed]; omega
            have hy : ((UInt16.ofNat m).toNat : Int) = m := by rw [u16_of m hm65]
            have HY := Lib.hid hy
            have hap := IN.out m hfm.out (by omega)
            have AP := Lib.hid hap
            have HL := Lib.hid (show (ls (mr A) m).length ≤ 65536 by have := ls_len (mr A) m; omega)
            have wm1 : IntKind.i64.wrap ((m : Int) + 1) = (m : Int) + 1 := by rw [IntKind.wrap_i64]; omega
            have wm2 : wrap64 ((m : Int) + 1) = (m : Int) + 1 := by unfold wrap64; omega
            clear ho hrw hne hb hm hml hm65 hy hap
            go_wp2_with (first
              | (go_at_call 145; refine (end_any f q HF.out HQ.out _).mono ?_; rintro e wx ⟨rfl, bx⟩; have OX := Lib.hid (OS.out.below bx (Nat.le_refl _)); have RX := Lib.hid (RS.out.below bx RS.out.lt); have BX := Lib.hid (BS.out.trans (bx.mono BS.out.size)); clear bx)
              | (at_builtin; refine wpList_gapp1 (P := Tryz.prog) e16 _ rfl _ _ _ rfl w.heap.size sli16 inf16 _ (ls (mr A) m) rfl OX.out _ (UInt16.ofNat m) (by simp only [e16, b16]; rw [HY.out]) rfl (by have := HL.out; omega) BX.out.size ?_; intro v2 w2 o2 g2 hj; have O2 := Lib.hid o2; have G2 := Lib.hid g2; have J2 := Lib.hid hj; clear o2 g2 hj))
            refine ⟨⟨m + 1, Lib.hid (Nat.le_succ_of_le hfm.out), HM.out, by go_num, by rw [AP.out]; exact O2.out, RX.out.grown G2.out (fun e => NS.out _ e rfl), fun j hj2 => ?_, BX.out.grown G2.out BX.out.size (fun j h => (OX.out.lt j h).1)⟩, step_up HM.out rfl⟩
            rcases J2.out with e | e
            · rw [e] at hj2
              exact NS.out j hj2
            · rw [e] at hj2
              injection hj2 with h
              have := RX.out.lt
              omega
          · obtain rfl : m = f + q + 1 := by omega
            clear ho hrw hne hb hm hml
            go_wp2_with (go_at_call 145; refine (end_any f q HF.out HQ.out _).mono ?_; rintro e wx ⟨rfl, bx⟩; have OX := Lib.hid (OS.out.below bx (Nat.le_refl _)); have BX := Lib.hid (BS.out.trans (bx.mono BS.out.size)); clear bx)
            refine ⟨⟨k + 1, f + q + 1, HK.out, rfl, by go_num, Lib.hid OUT.out.2.1, Lib.hid OUT.out.2.2, Lib.hid (by have := OUT.out.1; omega), OX.out, BX.out⟩, step_up HK.out (by first | rfl | exact WK.out)⟩
      · have hmx : (N : Int) < (f : Int) := by have := GAP.out.1; omega
        clear hNf
        go_wp2_with fail
        simp only [HK.out, decide_true]
        go_loopw [3, 4] (fun u s4 ws => ∃ m : Nat, Hid (f ≤ m) ∧ m ≤ f + q + 1 ∧ s4 = .int .i64 m ∧ Gw e16 ws w.heap.size u (ls (mr A) m) ∧ Row ws wr.heap.size 85 #[.int .u16 (f : Int), .int .u16 (q : Int)] ∧ (∀ j, u.ownBlock = some j → j ≠ wr.heap.size) ∧ Below w.heap.size w ws) (fun _ i _ => (((f + q + 1 : Nat) : Int) - intOf i).toNat)
        case atStart => exact ⟨f, Lib.hid (Nat.le_refl _), by omega, rfl, by first | exact OA.out | (rw [GAP.out.2]; exact OA.out), RA.out, fun j hj => by have := NE.out j hj; omega, BA.out⟩
        case round =>
          obtain ⟨m, hfm, hm, rfl, ho, hrw, hne, hb⟩ := hrel
          obtain ⟨A6, c6, rfl, -⟩ := ho.sl
          have OS := Lib.hid ho
          have RS := Lib.hid hrw
          have NS := Lib.hid hne
          have BS := Lib.hid hb
          have k0 := hrw.cell 0
          have k1 := hrw.cell 1
          simp at k0 k1
          by_cases hml : m < f + q + 1
          · have hmi : (m : Int) < (f : Int) + ((q : Int) + 1) := by omega
            have hmd : decide ((m : Int) < (f : Int) + ((q : Int) + 1)) = true := decide_eq_true hmi
            have HM := Lib.hid hml
            have hm65 : m < 65536 := by have := OUT.out.1; omega
            have wu : IntKind.u16.wrap (m : Int) = m := by simp [IntKind.wrap, IntKind.bits, IntKind.signed]; omega
            have hy : ((UInt16.ofNat m).toNat : Int) = m := by rw [u16_of m hm65]
            have HY := Lib.hid hy
            have hap := IN.out m hfm.out (by omega)
            have AP := Lib.hid hap
            have HL := Lib.hid (show (ls (mr A) m).length ≤ 65536 by have := ls_len (mr A) m; omega)
            have wm1 : IntKind.i64.wrap ((m : Int) + 1) = (m : Int) + 1 := by rw [IntKind.wrap_i64]; omega
            have wm2 : wrap64 ((m : Int) + 1) = (m : Int) + 1 := by unfold wrap64; omega
            clear ho hrw hne hb hm hml hm65 hy hap
            go_wp2_with (first
              | (go_at_call 145; refine (end_any f q HF.out HQ.out _).mono ?_; rintro e wx ⟨rfl, bx⟩; have OX := Lib.hid (OS.out.below bx (Nat.le_refl _)); have RX := Lib.hid (RS.out.below bx RS.out.lt); have BX := Lib.hid (BS.out.trans (bx.mono BS.out.size)); clear bx)
              | (at_builtin; refine wpList_gapp1 (P := Tryz.prog) e16 _ rfl _ _ _ rfl w.heap.size sli16 inf16 _ (ls (mr A) m) rfl OX.out _ (UInt16.ofNat m) (by simp only [e16, b16]; rw [HY.out]) rfl (by have := HL.out; omega) BX.out.size ?_; intro v2 w2 o2 g2 hj; have O2 := Lib.hid o2; have G2 := Lib.hid g2; have J2 := Lib.hid hj; clear o2 g2 hj))
            refine ⟨⟨m + 1, Lib.hid (Nat.le_succ_of_le hfm.out), HM.out, by go_num, by rw [AP.out]; exact O2.out, RX.out.grown G2.out (fun e => NS.out _ e rfl), fun j hj2 => ?_, BX.out.grown G2.out BX.out.size (fun j h => (OX.out.lt j h).1)⟩, step_up HM.out rfl⟩
            rcases J2.out with e | e
            · rw [e] at hj2
              exact NS.out j hj2
            · rw [e] at hj2
              injection hj2 with h
              have := RX.out.lt
              omega
          · obtain rfl : m = f + q + 1 := by omega
            clear ho hrw hne hb hm hml
            go_wp2_with (go_at_call 145; refine (end_any f q HF.out HQ.out _).mono ?_; rintro e wx ⟨rfl, bx⟩; have OX := Lib.hid (OS.out.below bx (Nat.le_refl _)); have BX := Lib.hid (BS.out.trans (bx.mono BS.out.size)); clear bx)
            refine ⟨⟨k + 1, f + q + 1, HK.out, rfl, by go_num, Lib.hid OUT.out.2.1, Lib.hid OUT.out.2.2, Lib.hid (by have := OUT.out.1; omega), OX.out, BX.out⟩, step_up HK.out (by first | rfl | exact WK.out)⟩
    · obtain rfl : k = A.length := by omega
      have hfin : ls (mr A) 65536 = ls (mr A) N := by
        refine ls_skip (mr A) hN.out fun j h1 h2 => ?_
        rw [hsm.out j h1, List.drop_length]
        rfl
      have FIN := Lib.hid hfin
      clear hbl hmr hsm hN hfin ho hk hlt
      go_wp2
      go_ret
      exact ⟨_, rfl, by rw [FIN.out]; exact OR.out, HB.out⟩
end Go.Proofs.YtcmifbjeabkihabGreatDoor
/- Runs in the form of laws (cut from stages 4 to 6) -/
namespace Go.Proofs.YtcmifbjeabkihabGreatDoor
open Go.RowKit
set_option linter.unusedVariables false

theorem mayr_len {d : Nat} {A : List Rn} (h : mayr d A = true) : A.length ≤ 65536 := by
  have key : ∀ {d : Nat} {A : List Rn}, mayr d A = true → A = [] ∨ 2 * A.length + d ≤ 65537 := by
    intro d A h
    induction A generalizing d with
    | nil => exact .inl rfl
    | cons r l ih =>
      obtain ⟨h1, h2, h3⟩ := mayr_cons.1 h
      have := fst_le r
      right
      rcases ih h3 with e | e
      · subst e; simp; omega
      · simp only [List.length_cons]; omega
  rcases key h with e | e
  · subst e; simp
  · omega
theorem btw_may {lo hi : Int} (h0 : 0 ≤ lo ∧ lo ≤ 65536) (h1 : 0 ≤ hi ∧ hi ≤ 65536) : mayr 0 (btw lo hi) = true := by
  rcases Int.lt_or_le lo hi with h | h
  · obtain ⟨p, rfl⟩ : ∃ p : Nat, lo = (p : Int) := ⟨lo.toNat, by omega⟩
    obtain ⟨q, rfl⟩ : ∃ q : Nat, hi = (q : Int) := ⟨hi.toNat, by omega⟩
    obtain ⟨r, e, e1, e2⟩ := btw_right (lo := p) (hi := q) (by omega) (by omega)
    rw [e, mayr_eq, decide_eq_true (Nat.zero_le _), decide_eq_true (p := lst r ≤ 65535) (by omega)]
    rfl
  · unfold btw; rw [if_pos h]; rfl
theorem btw_marks {lo hi : Int} (h0 : 0 ≤ lo ∧ lo ≤ 65536) (h1 : 0 ≤ hi ∧ hi ≤ 65536) (x : Nat) : mr (btw lo hi) x = (decide (lo ≤ (x : Int)) && decide ((x : Int) < hi)) := by
  rcases Int.lt_or_le lo hi with h | h
  · obtain ⟨p, rfl⟩ : ∃ p : Nat, lo = (p : Int) := ⟨lo.toNat, by omega⟩
    obtain ⟨q, rfl⟩ : ∃ q : Nat, hi = (q : Int) := ⟨hi.toNat, by omega⟩
    obtain ⟨r, e, e1, e2⟩ := btw_right (lo := p) (hi := q) (by omega) (by omega)
    rw [e, mr_cons, mr_nil, Bool.or_false, Bool.eq_iff_iff, inr_iff]
    simp only [Bool.and_eq_true, decide_eq_true_eq]
    omega
  · unfold btw
    rw [if_pos h, mr_nil]
    symm
    rw [Bool.eq_false_iff]
    intro hh
    simp only [Bool.and_eq_true, decide_eq_true_eq] at hh
    omega
theorem rlist_p (v : Value) (R : List Rn) (P : Nat → Bool) (N : Nat) (w : World) (hv : Gs2 eR w 0 w.heap.size v R) (hR : mayr 0 R = true) (hP : mr R = P) (hN : ct P 65536 = N) :
    Calls Tryz.prog 211 #[v] w fun e w' => ∃ A c, e = .returned (.slice A N c) ∧ Gs e16 w' 0 w'.heap.size (.slice A N c) (ls P 65536) ∧ Below w.heap.size w w' := by
  refine (rlist_any v R w hv hR).mono ?_
  rintro e w' ⟨v', rfl, o, b⟩
  rw [hP] at o
  have s := o.sl.more (Nat.zero_le _) (Nat.le_refl _)
  obtain ⟨A, c, rfl, -⟩ := o.sl
  rw [ls_ct, hN] at s ⊢
  exact ⟨A, c, rfl, s, b⟩
theorem rlen_p (v : Value) (R : List Rn) (P : Nat → Bool) (N : Nat) (w : World) (hv : Gs2 eR w 0 w.heap.size v R) (hR : mayr 0 R = true) (hP : mr R = P) (hN : ct P 65536 = N) :
    Calls Tryz.prog 144 #[v] w fun e w' => e = .returned (.int .i64 N) ∧ Below w.heap.size w w' := rlen_any v R N w hv hR (by rw [hP]; exact hN)
theorem Row.step {w w' : World} {g : Nat} {t : TypeId} {cs : Array Value} (h : Row w g t cs) (b : Below w.heap.size w w') : Row w' g t cs := h.below b h.lt
end Go.Proofs.YtcmifbjeabkihabGreatDoor
/- A container that has a set, as one of three kinds; walks: Kind. -/
namespace Go.Proofs.YtcmifbjeabkihabGreatDoor
open Go.RowKit
set_option linter.unusedVariables false

/-- A slice that reads as l, in a block of which N says yes. -/
def Gp {α : Type} (k : Elem α) (N : Nat → Prop) (w : World) (v : Value) (l : List α) : Prop :=
  Gs k w 0 w.heap.size v l ∧ (l ≠ [] → ∀ b off sp n c, v = .slice (some ⟨b, off, sp⟩) n c → N b)
def Gp2 (N : Nat → Prop) (w : World) (v : Value) (l : List Rn) : Prop :=
  Gs2 eR w 0 w.heap.size v l ∧ (l ≠ [] → ∀ b off sp n c, v = .slice (some ⟨b, off, sp⟩) n c → N b)
theorem Gp.of {α : Type} {k : Elem α} {N : Nat → Prop} {w : World} {lo hi : Nat} {v : Value} {l : List α} (h : Gs k w lo hi v l) (hh : hi ≤ w.heap.size) (hN : ∀ b, lo ≤ b → b < hi → N b) : Gp k N w v l := by
  refine ⟨h.more (Nat.zero_le _) hh, fun hl b off sp n c e => ?_⟩
  obtain ⟨b', off', c', e', -, -, h1, h2, -⟩ := h.form hl
  rw [e'] at e
  injection e with e
  injection e with e
  injection e with e
  subst e
  exact hN _ h1 h2
theorem Gp2.of {N : Nat → Prop} {w : World} {lo hi : Nat} {v : Value} {l : List Rn} (h : Gs2 eR w lo hi v l) (hh : hi ≤ w.heap.size) (hN : ∀ b, lo ≤ b → b < hi → N b) : Gp2 N w v l := by
  refine ⟨h.more (Nat.zero_le _) hh, fun hl b off sp n c e => ?_⟩
  obtain ⟨b', off', c', e', -, -, h1, h2, -⟩ := h.form hl
  rw [e'] at e
  injection e with e
  injection e with e
  injection e with e
  subst e
  exact hN _ h1 h2
theorem Gp.keep {α : Type} {k : Elem α} {N : Nat → Prop} {w w' : World} {v : Value} {l : List α} (h : Gp k N w v l) (hs : w.heap.size ≤ w'.heap.size) (hk : ∀ q : Addr, N q.block → q.block < w.heap.size → w'.cell? q = w.cell? q) : Gp k N w' v l := by
  obtain ⟨⟨A, c, rfl, h0, h1, h2, hb⟩, h3⟩ := h
  refine ⟨⟨A, c, rfl, h0, h1, h2, fun hl => ?_⟩, h3⟩
  obtain ⟨b, off, rfl, b1, b2, hc⟩ := hb hl
  exact ⟨b, off, rfl, b1, by omega, fun j x hx => (hk ⟨b, off + j, none⟩ (h3 hl b off _ _ _ rfl) b2).trans (hc j x hx)⟩
theorem Gp2.keep {N : Nat → Prop} {w w' : World} {v : Value} {l : List Rn} (h : Gp2 N w v l) (hs : w.heap.size ≤ w'.heap.size) (hk : ∀ q : Addr, N q.block → q.block < w.heap.size → w'.cell? q = w.cell? q) : Gp2 N w' v l := by
  obtain ⟨⟨A, c, rfl, h0, h1, h2, hb⟩, h3⟩ := h
  refine ⟨⟨A, c, rfl, h0, h1, h2, fun hl => ?_⟩, h3⟩
  obtain ⟨b, off, rfl, b1, b2, hc⟩ := hb hl
  exact ⟨b, off, rfl, b1, by omega, fun j x hx => ⟨(hk ⟨b, off + 2 * j, none⟩ (h3 hl b off _ _ _ rfl) b2).trans (hc j x hx).1, (hk ⟨b, off + 2 * j + 1, none⟩ (h3 hl b off _ _ _ rfl) b2).trans (hc j x hx).2⟩⟩
theorem Gp.mono {α : Type} {k : Elem α} {N N' : Nat → Prop} {w : World} {v : Value} {l : List α} (h : Gp k N w v l) (hN : ∀ b, b < w.heap.size → N b → N' b) : Gp k N' w v l :=
  ⟨h.1, fun hl b off sp n c e => hN b (by obtain ⟨b', off', c', e', -, -, -, h2, -⟩ := h.1.form hl; rw [e'] at e; injection e with e; injection e with e; injection e with e; subst e; exact h2) (h.2 hl b off sp n c e)⟩
theorem Gp2.mono {N N' : Nat → Prop} {w : World} {v : Value} {l : List Rn} (h : Gp2 N w v l) (hN : ∀ b, b < w.heap.size → N b → N' b) : Gp2 N' w v l :=
  ⟨h.1, fun hl b off sp n c e => hN b (by obtain ⟨b', off', c', e', -, -, -, h2, -⟩ := h.1.form hl; rw [e'] at e; injection e with e; injection e with e; injection e with e; subst e; exact h2) (h.2 hl b off sp n c e)⟩

/-- The value is a container of kind k that has the set p, its rows in blocks of which N says yes. -/
inductive Cn (N : Nat → Prop) (w : World) : Value → (Nat → Bool) → Nat → Prop
  | arr {p : Nat → Bool} (κ : Int) (A : Option Addr) (n c : Nat) (hκ : κ = 0 ∨ κ = 1) (hn : ct p 65536 = n) (h : Gp e16 N w (.slice A n c) (ls p 65536)) : Cn N w (.agg #[.int .u8 κ, .slice A n c, .slice none 0 0, .slice none 0 0]) p 1
  | wrd {p : Nat → Bool} (A : Option Addr) (c : Nat) (h : Gp e64 N w (.slice A 1024 c) (wm p)) : Cn N w (.agg #[.int .u8 2, .slice none 0 0, .slice A 1024 c, .slice none 0 0]) p 2
  | run {p : Nat → Bool} (A : Option Addr) (n c : Nat) (hn : ct (hm p) 65536 = n) (h : Gp2 N w (.slice A n c) (rs p 65536)) : Cn N w (.agg #[.int .u8 3, .slice none 0 0, .slice none 0 0, .slice A n c]) p 3
section
variable {N : Nat → Prop} {w w' : World} {v : Value} {p q : Nat → Bool} {k : Nat}
theorem Cn.keep (h : Cn N w v p k) (hs : w.heap.size ≤ w'.heap.size) (hk : ∀ q : Addr, N q.block → q.block < w.heap.size → w'.cell? q = w.cell? q) : Cn N w' v p k := by
  cases h with
  | arr κ A n c hκ hn h => exact .arr κ A n c hκ hn (h.keep hs hk)
  | wrd A c h => exact .wrd A c (h.keep hs hk)
  | run A n c hn h => exact .run A n c hn (h.keep hs hk)
theorem Cn.mono {N' : Nat → Prop} (h : Cn N w v p k) (hN : ∀ b, b < w.heap.size → N b → N' b) : Cn N' w v p k := by
  cases h with
  | arr κ A n c hκ hn h => exact .arr κ A n c hκ hn (h.mono hN)
  | wrd A c h => exact .wrd A c (h.mono hN)
  | run A n c hn h => exact .run A n c hn (h.mono hN)
theorem Cn.step (h : Cn N w v p k) (b : Below w.heap.size w w') : Cn N w' v p k := h.keep b.size fun _ _ hp => b.cell hp
theorem Cn.grown {g : Nat} (h : Cn N w v p k) (hg : w.grownBy w' (some g)) (hN : ¬ N g) : Cn N w' v p k :=
  h.keep hg.size fun q hq hb => hg.cell_far q hb (fun e => by injection e with e; exact hN (e ▸ hq))
theorem Cn.ext (h : Cn N w v p k) (e : ∀ x, x < 65536 → p x = q x) : Cn N w v q k := by
  cases h with
  | arr κ A n c hκ hn h => exact .arr κ A n c hκ (by rw [← ct_ext e]; exact hn) (by rw [← ls_ext e]; exact h)
  | wrd A c h => exact .wrd A c (by rw [← wm_ext e]; exact h)
  | run A n c hn h => exact .run A n c (by rw [← ct_ext (hm_ext (n := 65536) e)]; exact hn) (by rw [← rs_ext e]; exact h)
theorem Cn.kind (h : Cn N w v p k) : 1 ≤ k ∧ k ≤ 3 := by cases h <;> omega
theorem Cn.form (h : Cn N w v p k) : ∃ κ A n c A2 n2 c2 A3 n3 c3, v = .agg #[.int .u8 κ, .slice A n c, .slice A2 n2 c2, .slice A3 n3 c3] := by
  cases h with
  | arr κ A n c => exact ⟨_, _, _, _, _, _, _, _, _, _, rfl⟩
  | wrd A c => exact ⟨_, _, _, _, _, _, _, _, _, _, rfl⟩
  | run A n c => exact ⟨_, _, _, _, _, _, _, _, _, _, rfl⟩
theorem Cn.zero (hp : ∀ x, x < 65536 → p x = false) : Cn N w (.agg #[.int .u8 0, .slice none 0 0, .slice none 0 0, .slice none 0 0]) p 1 := by
  have e : ls p 65536 = [] := by rw [ls_ext (q := fun _ => false) hp]; exact List.eq_nil_of_length_eq_zero (by rw [ls_ct]; exact ct_zero fun _ _ => rfl)
  refine .arr 0 none 0 0 (.inl rfl) (ct_zero hp) ?_
  rw [e]
  exact ⟨Gs.nil_ _ _ _, fun h => absurd rfl h⟩
end

set_option maxHeartbeats 400000 in
theorem kind_c {N : Nat → Prop} (v : Value) (p : Nat → Bool) (k : Nat) (w : World) (h : Cn N w v p k) :
    Calls Tryz.prog 66 #[v] w fun e w' => e = .returned (.int .u8 k) ∧ Below w.heap.size w w' := by
  cases h with
  | arr κ A n c hκ hn h =>
    clear hn h
    rcases hκ with rfl | rfl
    · go_enter Tryz.func66, Tryz.ntmps66
      go_wp2
      go_ret
      exact ⟨rfl, (Below.refl _ _).alloc (Nat.le_refl _) _⟩
    · go_enter Tryz.func66, Tryz.ntmps66
      go_wp2
      go_ret
      exact ⟨rfl, (Below.refl _ _).alloc (Nat.le_refl _) _⟩
  | wrd A c h =>
    clear h
    go_enter Tryz.func66, Tryz.ntmps66
    go_wp2
    go_ret
    exact ⟨rfl, (Below.refl _ _).alloc (Nat.le_refl _) _⟩
  | run A n c hn h =>
    clear hn h
    go_enter Tryz.func66, Tryz.ntmps66
    go_wp2
    go_ret
    exact ⟨rfl, (Below.refl _ _).alloc (Nat.le_refl _) _⟩

theorem arrayLen_c (p : Nat → Bool) (κ : Int) (A : Option Addr) (n c : Nat) (w : World) :
    Calls Tryz.prog 94 #[.agg #[.int .u8 κ, .slice A n c, .slice none 0 0, .slice none 0 0]] w fun e w' => e = .returned (.int .i64 n) ∧ Below w.heap.size w w' := by
  go_enter Tryz.func94, Tryz.ntmps94
  go_wp2
  go_ret
  exact ⟨rfl, (Below.refl _ _).alloc (Nat.le_refl _) _⟩
end Go.Proofs.YtcmifbjeabkihabGreatDoor
/- A region that draws its order: three operations may come up; facts of containers while blocks are made. -/
namespace Go.Proofs.YtcmifbjeabkihabGreatDoor
open Go.RowKit
set_option linter.unusedVariables false

section
variable {P : Program} {ops : Array Oper} {Q : Exit → Act → World → Prop} {md : Region.Mode} {S S' : World → Prop}
/-- Three operations may come up: whichever does is carried out. -/
theorem held_three (i j k : Nat) {oi oj ok : Oper} {ri rj rk : List Oper} {fuel : Nat} {listed : Array Bool} {a : Act} {w : World} (hi : ops.toList.drop i = oi :: ri) (hj : ops.toList.drop j = oj :: rj) (hk : ops.toList.drop k = ok :: rk) (hr : Region.ready md ops listed = [i, j, k])
    (hwi : Region.wanted oi (yielded ops a.tmps) = true) (hwj : Region.wanted oj (yielded ops a.tmps) = true) (hwk : Region.wanted ok (yielded ops a.tmps) = true)
    (h1 : Oper.wp P oi a w (fun a' w' => ∃ S' : World → Prop, (∀ W, S' W → S W) ∧ S' w' ∧ wpAnyH P md ops Q S' fuel (listed.setIfInBounds i true) a' w') Q)
    (h2 : Oper.wp P oj a w (fun a' w' => ∃ S' : World → Prop, (∀ W, S' W → S W) ∧ S' w' ∧ wpAnyH P md ops Q S' fuel (listed.setIfInBounds j true) a' w') Q)
    (h3 : Oper.wp P ok a w (fun a' w' => ∃ S' : World → Prop, (∀ W, S' W → S W) ∧ S' w' ∧ wpAnyH P md ops Q S' fuel (listed.setIfInBounds k true) a' w') Q) : wpAnyH P md ops Q S (fuel + 1) listed a w := by
  refine wpAnyH_ready hr (by simp) (AllReadyH.cons (op_at hi) (fun K' hK => ?_) (AllReadyH.cons (op_at hj) (fun K' hK => ?_) (AllReadyH.cons (op_at hk) (fun K' hK => ?_) AllReadyH.nil)))
  · rw [if_pos hwi]
    exact Oper.wp_mono (fun a' w' ⟨S', h1, h2, h3⟩ => hK.out a' w' (h1 _ h2) (fun _ => held_mono h1 _ _ _ _ h3)) h1
  · rw [if_pos hwj]
    exact Oper.wp_mono (fun a' w' ⟨S', h1, h2, h3⟩ => hK.out a' w' (h1 _ h2) (fun _ => held_mono h1 _ _ _ _ h3)) h2
  · rw [if_pos hwk]
    exact Oper.wp_mono (fun a' w' ⟨S', h1, h2, h3⟩ => hK.out a' w' (h1 _ h2) (fun _ => held_mono h1 _ _ _ _ h3)) h3
end

/-- Blocks that rows do not lie in. -/
def Nn (gs : List Nat) (b : Nat) : Prop := ∀ g ∈ gs, b ≠ g
/-- All of them have been made since w0, each once. -/
def Nl (w0 : World) (gs : List Nat) (w : World) : Prop := (∀ g ∈ gs, w0.heap.size ≤ g ∧ g < w.heap.size) ∧ gs.Nodup
section
variable {w0 : World} {gs : List Nat} {w w' : World} {v : Value} {p : Nat → Bool} {k : Nat}
theorem Nl.nil_ (w0 w : World) : Nl w0 [] w := ⟨fun g h => absurd h List.not_mem_nil, List.nodup_nil⟩
theorem Nl.all (h : Nl w0 gs w) : ∀ b, w.heap.size ≤ b → Nn gs b := fun b hb g hg => by have := (h.1 g hg).2; omega
theorem Nl.le (h : Nl w0 gs w) (hs : w.heap.size ≤ w'.heap.size) : Nl w0 gs w' := ⟨fun g hg => ⟨(h.1 g hg).1, Nat.lt_of_lt_of_le (h.1 g hg).2 hs⟩, h.2⟩
theorem Nl.new (h : Nl w0 gs w) (h0 : w0.heap.size ≤ w.heap.size) (hs : w.heap.size < w'.heap.size) : Nl w0 (w.heap.size :: gs) w' := by
  refine ⟨fun g hg => ?_, List.nodup_cons.2 ⟨fun hm => Nat.lt_irrefl _ (h.1 _ hm).2, h.2⟩⟩
  rcases List.mem_cons.1 hg with e | e
  · rw [e]; exact ⟨h0, hs⟩
  · exact ⟨(h.1 g e).1, Nat.lt_trans (h.1 g e).2 hs⟩
/-- What was there already. -/
theorem Cn.old {N : Nat → Prop} (h : Cn N w0 v p k) (b : Below w0.heap.size w0 w) (hl : Nl w0 gs w) : Cn (Nn gs) w v p k :=
  (h.mono (N' := Nn gs) fun x hx _ g hg => by have := (hl.1 g hg).1; omega).step b
/-- A block is made: no row lies in it. -/
theorem Cn.made (h : Cn (Nn gs) w v p k) (b : Below w.heap.size w w') : Cn (Nn (w.heap.size :: gs)) w' v p k :=
  (h.mono (N' := Nn (w.heap.size :: gs)) fun x hx hn g hg => by
    rcases List.mem_cons.1 hg with e | e
    · rw [e]; omega
    · exact hn g e).step b
theorem Cn.put {g : Nat} (h : Cn (Nn gs) w v p k) (hg : w.grownBy w' (some g)) (hm : g ∈ gs) : Cn (Nn gs) w' v p k := h.grown hg (fun hn => hn g hm rfl)
end
end Go.Proofs.YtcmifbjeabkihabGreatDoor
namespace Go.Proofs.YtcmifbjeabkihabGreatDoor
open Go.RowKit
set_option linter.unusedVariables false

/-- The canonical kind of so many numbers in so many runs. -/
def ckn (c r : Nat) : Nat := if 2 + 4 * r < (if c ≤ 4096 then 2 * c else 8192) then 3 else if c ≤ 4096 then 1 else 2
/-- The size as a kind. -/
def szn (k c r : Nat) : Nat := if k = 2 then 8192 else if k = 3 then 2 + 4 * r else 2 * c
/-- The canonical kind of a set. -/
def ck (p : Nat → Bool) : Nat := ckn (ct p 65536) (ct (hm p) 65536)
theorem ckn_le (c r : Nat) : 1 ≤ ckn c r ∧ ckn c r ≤ 3 := by unfold ckn; split <;> (try split) <;> omega
theorem ck_le (p : Nat → Bool) : 1 ≤ ck p ∧ ck p ≤ 3 := ckn_le _ _
theorem ck_ext {p q : Nat → Bool} (h : ∀ x, x < 65536 → p x = q x) : ck p = ck q := by
  unfold ck
  rw [ct_ext h, ct_ext (hm_ext (n := 65536) h)]
theorem szn_least (c r : Nat) : szn (ckn c r) c r = if c ≤ 4096 then min (min 8192 (2 + 4 * r)) (2 * c) else min 8192 (2 + 4 * r) := by
  unfold szn ckn
  by_cases h : c ≤ 4096
  · simp only [if_pos h]
    by_cases h2 : 2 + 4 * r < 2 * c
    · rw [if_pos h2]; simp; omega
    · rw [if_neg h2]; simp; omega
  · simp only [if_neg h]
    by_cases h2 : 2 + 4 * r < 8192
    · rw [if_pos h2]; simp; omega
    · rw [if_neg h2]; simp; omega

/-- A rising row is the list of its marks. -/
theorem ls_mk {l : List UInt16} (h : ris l = true) : ls (mk l) 65536 = l :=
  ris_ext (ris_ls _ _ (Nat.le_refl _)) h fun z => by rw [ls_mem _ _ (Nat.le_refl _), mk_iff]; exact ⟨fun h => h.2, fun h => ⟨u16_lt z, h⟩⟩
theorem ct_mk {l : List UInt16} (h : ris l = true) : ct (mk l) 65536 = l.length := by rw [← ls_ct, ls_mk h]
theorem hm_mk {l : List UInt16} (h : ris l = true) : ct (hm (mk l)) 65536 = rn none l := by rw [← ls_ct, rn_ls h]
/-- A set with a number more. -/
def pls (p : Nat → Bool) (x : Nat) (i : Nat) : Bool := decide (i = x) || p i
theorem pls_has {p : Nat → Bool} {x : Nat} (h : p x = true) : pls p x = p := by
  funext i
  unfold pls
  by_cases e : i = x
  · subst e; rw [h]; simp
  · rw [decide_eq_false e, Bool.false_or]
theorem pls_flp {p : Nat → Bool} {x : Nat} (h : p x = false) : flp p x ((x : Int) + 1) = pls p x := by
  funext i
  unfold pls
  by_cases e : i = x
  · subst e
    unfold flp
    rw [h, decide_eq_true (by omega), decide_eq_true (by omega), decide_eq_true rfl]
    rfl
  · rw [flp_out (by omega), decide_eq_false e, Bool.false_or]
theorem wi_pls {l : List UInt16} (h : ris l = true) (x : UInt16) (p : Nat → Bool) (hp : l = ls p 65536) : wi l x = ls (pls p x.toNat) 65536 := by
  rw [ls_wi h x, hp]
  exact ls_ext fun j hj => by rw [mk_ls p hj]; rfl
theorem flp_ext {p q : Nat → Bool} (h : ∀ x, x < 65536 → p x = q x) (lo hi : Int) : ∀ x, x < 65536 → flp p lo hi x = flp q lo hi x := fun x hx => by unfold flp; rw [h x hx]
theorem flp_join (p : Nat → Bool) {lo mid hi : Int} (h1 : lo ≤ mid) (h2 : mid ≤ hi) : flp (flp p lo mid) mid hi = flp p lo hi := by
  funext x
  unfold flp
  have d1 : ∀ a b : Int, a ≤ x → (x : Int) < b → (decide (a ≤ (x : Int)) && decide ((x : Int) < b)) = true := fun a b h1 h2 => by rw [decide_eq_true h1, decide_eq_true h2]; rfl
  have d2 : ∀ a b : Int, (x : Int) < a ∨ b ≤ x → (decide (a ≤ (x : Int)) && decide ((x : Int) < b)) = false := fun a b h => by
    rcases h with h | h
    · rw [decide_eq_false (show ¬ a ≤ (x : Int) by omega)]; rfl
    · rw [decide_eq_false (show ¬ (x : Int) < b by omega), Bool.and_false]
  by_cases c1 : (x : Int) < lo
  · rw [d2 lo mid (.inl c1), d2 mid hi (.inl (by omega)), d2 lo hi (.inl c1)]; cases p x <;> rfl
  · by_cases c2 : (x : Int) < mid
    · rw [d1 lo mid (by omega) c2, d2 mid hi (.inl c2), d1 lo hi (by omega) (by omega)]; cases p x <;> rfl
    · by_cases c3 : (x : Int) < hi
      · rw [d2 lo mid (.inr (by omega)), d1 mid hi (by omega) c3, d1 lo hi (by omega) c3]; cases p x <;> rfl
      · rw [d2 lo mid (.inr (by omega)), d2 mid hi (.inr (by omega)), d2 lo hi (.inr (by omega))]; cases p x <;> rfl
theorem flp_all (p : Nat → Bool) : ∀ x, x < 65536 → flp p 0 65536 x = !p x := fun x hx => by
  unfold flp
  rw [decide_eq_true (by omega), decide_eq_true (by omega)]
  simp
/-- Right runs, flipped, are the runs of the flipped set. -/
theorem flr_rs (p : Nat → Bool) (lo hi : Int) : pd fXor (rs p 65536) (btw (clp lo) (clp hi)) = rs (flp p lo hi) 65536 := by
  obtain ⟨h1, h2⟩ := pd_right (t := fXor) rfl (mayr_rs p) (btw_may (clp_le lo) (clp_le hi))
  refine rs_mr h1 fun x hx => ?_
  rw [h2, mr_rs p hx, btw_marks (clp_le lo) (clp_le hi)]
  unfold fXor flp
  congr 1
  have e1 : decide (clp lo ≤ (x : Int)) = decide (lo ≤ (x : Int)) := decide_eq_decide.2 (by unfold clp; split <;> (try split) <;> omega)
  have e2 : decide ((x : Int) < clp hi) = decide ((x : Int) < hi) := decide_eq_decide.2 (by unfold clp; split <;> (try split) <;> omega)
  rw [e1, e2]
theorem pd_rs {t : Bool → Bool → Bool} (t0 : t false false = false) (p q : Nat → Bool) : pd t (rs p 65536) (rs q 65536) = rs (fun x => t (p x) (q x)) 65536 := by
  obtain ⟨h1, h2⟩ := pd_right t0 (mayr_rs p) (mayr_rs q)
  exact rs_mr h1 fun x hx => by rw [h2, mr_rs p hx, mr_rs q hx]

theorem ofp_inv {l : List UInt16} (h : ris l = true) : ∀ k, k ≤ l.length → mayr 0 (ofp l k) = true ∧ (∀ x, mr (ofp l k) x = mk (l.take k) x) ∧ (0 < k → ∃ L r, ofp l k = L ++ [r] ∧ lst r = (at16 l (k - 1)).toNat) := by
  intro k
  induction k with
  | zero => exact fun _ => ⟨rfl, fun x => rfl, fun h => absurd h (by omega)⟩
  | succ k ih =>
    intro hk
    obtain ⟨i1, i2, i3⟩ := ih (by omega)
    have hx := u16_lt (at16 l k)
    rw [ofp_succ]
    by_cases hc : (decide (0 < k) && decide ((at16 l k).toNat = (at16 l (k - 1)).toNat + 1)) = true
    · rw [if_pos hc]
      rw [Bool.and_eq_true, decide_eq_true_eq, decide_eq_true_eq] at hc
      obtain ⟨L, r, e, hr⟩ := i3 hc.1
      rw [e] at i1 i2 ⊢
      rw [bump_snoc]
      obtain ⟨a1, a2, a3, a4⟩ := mayr_snoc.1 i1
      have hr2 : (r.2 + 1).toNat = r.2.toNat + 1 := by
        rw [UInt16.toNat_add]
        have e1 : (1 : UInt16).toNat = 1 := rfl
        rw [e1]
        have e2 : r.1.toNat + r.2.toNat = (at16 l (k - 1)).toNat := hr
        have e3 := hc.2
        omega
      have hl : lst (r.1, r.2 + 1) = (at16 l k).toNat := by
        have e2 : r.1.toNat + r.2.toNat = (at16 l (k - 1)).toNat := hr
        have e3 := hc.2
        show r.1.toNat + (r.2 + 1).toNat = _
        rw [hr2]
        omega
      refine ⟨mayr_snoc.2 ⟨a1, a2, a3, by rw [hl]; omega⟩, fun x => ?_, fun _ => ⟨L, _, rfl, by rw [hl]; rfl⟩⟩
      have h2 := i2 x
      rw [mr_app] at h2 ⊢
      rw [mk_take l k (by omega), ← h2, Bool.or_assoc]
      congr 1
      rw [mr_cons, mr_cons, mr_nil, Bool.or_false, Bool.or_false, Bool.eq_iff_iff, inr_iff, Bool.or_eq_true, inr_iff, decide_eq_true_eq, hl]
      show r.1.toNat ≤ x ∧ _ ↔ _
      have := fst_le r
      omega
    · rw [if_neg hc]
      have hx0 : lst ((at16 l k, 0) : Rn) = (at16 l k).toNat := rfl
      refine ⟨mayr_snoc.2 ⟨i1, fun s hs => ?_, Nat.zero_le _, by rw [hx0]; omega⟩, fun x => ?_, fun _ => ⟨_, _, rfl, hx0⟩⟩
      · have hk0 : 0 < k := by
          rcases Nat.eq_zero_or_pos k with e | e
          · subst e; simp [ofp] at hs
          · exact e
        obtain ⟨L, r, e, hr⟩ := i3 hk0
        have hlt := ris_at h (i := k - 1) (j := k) (by omega) (by omega)
        have hne : (at16 l k).toNat ≠ (at16 l (k - 1)).toNat + 1 := fun e2 => hc (by rw [decide_eq_true hk0, decide_eq_true e2]; rfl)
        rw [e] at hs i1
        show lst s + 2 ≤ (at16 l k).toNat
        rcases List.mem_append.1 hs with g | g
        · have g2 := (mayr_snoc.1 i1).2.1 s g
          have := fst_le r
          omega
        · rw [List.mem_singleton] at g
          subst g
          omega
      · rw [mr_app, i2, mk_take l k (by omega)]
        congr 1
        rw [mr_cons, mr_nil, Bool.or_false, Bool.eq_iff_iff, inr_iff, decide_eq_true_eq, hx0]
        show (at16 l k).toNat ≤ x ∧ x ≤ (at16 l k).toNat ↔ _
        omega
theorem ofp_rs {l : List UInt16} (h : ris l = true) : ofp l l.length = rs (mk l) 65536 := by
  obtain ⟨h1, h2, -⟩ := ofp_inv h l.length (Nat.le_refl _)
  exact rs_mr h1 fun x hx => by rw [h2, List.take_length]
theorem ofp_ls (p : Nat → Bool) : ofp (ls p 65536) (ls p 65536).length = rs p 65536 := by
  rw [ofp_rs (ris_ls p _ (Nat.le_refl _))]
  exact rs_ext fun x hx => mk_ls p hx
theorem lists_rs (p : Nat → Bool) : ls (mr (rs p 65536)) 65536 = ls p 65536 := ls_ext fun x hx => mr_rs p hx
theorem count_rs (p : Nat → Bool) : ct (mr (rs p 65536)) 65536 = ct p 65536 := ct_ext fun x hx => mr_rs p hx
theorem mk_words (p : Nat → Bool) : wm (mk (ls p 65536)) = wm p := wm_ext fun x hx => mk_ls p hx
theorem rs_short (p : Nat → Bool) : (rs p 65536).length ≤ 65536 := mayr_len (mayr_rs p)
end Go.Proofs.YtcmifbjeabkihabGreatDoor
