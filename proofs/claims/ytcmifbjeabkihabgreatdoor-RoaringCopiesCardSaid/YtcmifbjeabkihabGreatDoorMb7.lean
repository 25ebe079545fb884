/- Walks: containers made of rows; the canonical kind, the size; a container of any kind as one of another; flipped; with a number more. -/
import Derived.Test.YtcmifbjeabkihabGreatDoorMa9
import Derived.Test.YtcmifbjeabkihabGreatDoorMb5
import Derived.Test.YtcmifbjeabkihabGreatDoorMb6
import Derived.Test.YtcmifbjeabkihabGreatDoorMa5
import Derived.Test.YtcmifbjeabkihabGreatDoorMa6
import Derived.Test.YtcmifbjeabkihabGreatDoorMb0
/- Words and arrays, two at a time, in the form of laws (cut from stages 4 to 6) -/
namespace Go.Proofs.YtcmifbjeabkihabGreatDoor
open Go.RowKit
set_option linter.unusedVariables false

theorem wor_p (v u : Value) (p q : Nat → Bool) (w : World) (hv : Gs e64 w 0 w.heap.size v (wm p)) (hu : Gs e64 w 0 w.heap.size u (wm q)) :
    Calls Tryz.prog 83 #[v, u] w fun e w' => ∃ A c, e = .returned (.slice A 1024 c) ∧ Gs e64 w' 0 w'.heap.size (.slice A 1024 c) (wm fun x => fOr (p x) (q x)) ∧ Below w.heap.size w w' := by
  refine (wor_any v u _ _ 0 w hv hu).mono ?_
  rintro e w' ⟨v', rfl, o, b⟩
  rw [mix_wb fOr p q] at o
  obtain ⟨A, c, rfl⟩ := gw_wm o
  exact ⟨A, c, rfl, o.sl.more (Nat.zero_le _) (Nat.le_refl _), b⟩
theorem wnot_p (v u : Value) (p q : Nat → Bool) (w : World) (hv : Gs e64 w 0 w.heap.size v (wm p)) (hu : Gs e64 w 0 w.heap.size u (wm q)) :
    Calls Tryz.prog 72 #[v, u] w fun e w' => ∃ A c, e = .returned (.slice A 1024 c) ∧ Gs e64 w' 0 w'.heap.size (.slice A 1024 c) (wm fun x => fNot (p x) (q x)) ∧ Below w.heap.size w w' := by
  refine (wnot_any v u _ _ 0 w hv hu).mono ?_
  rintro e w' ⟨v', rfl, o, b⟩
  rw [mix_wb fNot p q] at o
  obtain ⟨A, c, rfl⟩ := gw_wm o
  exact ⟨A, c, rfl, o.sl.more (Nat.zero_le _) (Nat.le_refl _), b⟩
theorem wxor_p (v u : Value) (p q : Nat → Bool) (w : World) (hv : Gs e64 w 0 w.heap.size v (wm p)) (hu : Gs e64 w 0 w.heap.size u (wm q)) :
    Calls Tryz.prog 106 #[v, u] w fun e w' => ∃ A c, e = .returned (.slice A 1024 c) ∧ Gs e64 w' 0 w'.heap.size (.slice A 1024 c) (wm fun x => fXor (p x) (q x)) ∧ Below w.heap.size w w' := by
  refine (wxor_any v u _ _ 0 w hv hu).mono ?_
  rintro e w' ⟨v', rfl, o, b⟩
  rw [mix_wb fXor p q] at o
  obtain ⟨A, c, rfl⟩ := gw_wm o
  exact ⟨A, c, rfl, o.sl.more (Nat.zero_le _) (Nat.le_refl _), b⟩
theorem aor_p (v u : Value) (p q : Nat → Bool) (n : Nat) (w : World) (hv : Gs e16 w 0 w.heap.size v (ls p 65536)) (hu : Gs e16 w 0 w.heap.size u (ls q 65536)) (hn : ct (fun x => fOr (p x) (q x)) 65536 = n) :
    Calls Tryz.prog 82 #[v, u] w fun e w' => ∃ A c, e = .returned (.slice A n c) ∧ Gs e16 w' 0 w'.heap.size (.slice A n c) (ls (fun x => fOr (p x) (q x)) 65536) ∧ Below w.heap.size w w' := by
  refine (or_any v u _ _ 0 w hv hu (Nat.le_trans (ls_len p 65536) (by omega)) (Nat.le_trans (ls_len q 65536) (by omega))).mono ?_
  rintro e w' ⟨v', rfl, o, b⟩
  rw [ls_mg fOr rfl (ris_ls p 65536 (Nat.le_refl _)) (ris_ls q 65536 (Nat.le_refl _))] at o
  have e1 : ls (fun i => fOr (mk (ls p 65536) i) (mk (ls q 65536) i)) 65536 = ls (fun x => fOr (p x) (q x)) 65536 := ls_ext fun j hj => by rw [mk_ls p hj, mk_ls q hj]
  rw [e1] at o
  have s := o.sl.more (Nat.zero_le _) (Nat.le_refl _)
  obtain ⟨A, c, rfl, -⟩ := o.sl
  rw [ls_ct, hn] at s ⊢
  exact ⟨A, c, rfl, s, b⟩
theorem anot_p (v u : Value) (p q : Nat → Bool) (n : Nat) (w : World) (hv : Gs e16 w 0 w.heap.size v (ls p 65536)) (hu : Gs e16 w 0 w.heap.size u (ls q 65536)) (hn : ct (fun x => fNot (p x) (q x)) 65536 = n) :
    Calls Tryz.prog 71 #[v, u] w fun e w' => ∃ A c, e = .returned (.slice A n c) ∧ Gs e16 w' 0 w'.heap.size (.slice A n c) (ls (fun x => fNot (p x) (q x)) 65536) ∧ Below w.heap.size w w' := by
  refine (not_any v u _ _ 0 w hv hu (Nat.le_trans (ls_len p 65536) (by omega)) (Nat.le_trans (ls_len q 65536) (by omega))).mono ?_
  rintro e w' ⟨v', rfl, o, b⟩
  rw [ls_mg fNot rfl (ris_ls p 65536 (Nat.le_refl _)) (ris_ls q 65536 (Nat.le_refl _))] at o
  have e1 : ls (fun i => fNot (mk (ls p 65536) i) (mk (ls q 65536) i)) 65536 = ls (fun x => fNot (p x) (q x)) 65536 := ls_ext fun j hj => by rw [mk_ls p hj, mk_ls q hj]
  rw [e1] at o
  have s := o.sl.more (Nat.zero_le _) (Nat.le_refl _)
  obtain ⟨A, c, rfl, -⟩ := o.sl
  rw [ls_ct, hn] at s ⊢
  exact ⟨A, c, rfl, s, b⟩
theorem axor_p (v u : Value) (p q : Nat → Bool) (n : Nat) (w : World) (hv : Gs e16 w 0 w.heap.size v (ls p 65536)) (hu : Gs e16 w 0 w.heap.size u (ls q 65536)) (hn : ct (fun x => fXor (p x) (q x)) 65536 = n) :
    Calls Tryz.prog 105 #[v, u] w fun e w' => ∃ A c, e = .returned (.slice A n c) ∧ Gs e16 w' 0 w'.heap.size (.slice A n c) (ls (fun x => fXor (p x) (q x)) 65536) ∧ Below w.heap.size w w' := by
  refine (xor_any v u _ _ 0 w hv hu (Nat.le_trans (ls_len p 65536) (by omega)) (Nat.le_trans (ls_len q 65536) (by omega))).mono ?_
  rintro e w' ⟨v', rfl, o, b⟩
  rw [ls_mg fXor rfl (ris_ls p 65536 (Nat.le_refl _)) (ris_ls q 65536 (Nat.le_refl _))] at o
  have e1 : ls (fun i => fXor (mk (ls p 65536) i) (mk (ls q 65536) i)) 65536 = ls (fun x => fXor (p x) (q x)) 65536 := ls_ext fun j hj => by rw [mk_ls p hj, mk_ls q hj]
  rw [e1] at o
  have s := o.sl.more (Nat.zero_le _) (Nat.le_refl _)
  obtain ⟨A, c, rfl, -⟩ := o.sl
  rw [ls_ct, hn] at s ⊢
  exact ⟨A, c, rfl, s, b⟩
end Go.Proofs.YtcmifbjeabkihabGreatDoor
/- Runs: And, Or, AndNot (cut from stages 4 to 6) -/
namespace Go.Proofs.YtcmifbjeabkihabGreatDoor
open Go.RowKit
set_option linter.unusedVariables false

theorem ror_says (x y : Bool) (W : World) : Calls Tryz.prog 128 #[.bool x, .bool y] W fun e w' => e = .returned (.bool (fOr x y)) ∧ w' = W := by
  cases x <;> cases y <;>
    (go_enter Tryz.func128, Tryz.ntmps128
     go_wp2
     go_ret
     exact ⟨rfl, rfl⟩)
set_option maxHeartbeats 400000 in
theorem ror_any (v u : Value) (A B : List Rn) (w : World) (hv : Gs2 eR w 0 w.heap.size v A) (hu : Gs2 eR w 0 w.heap.size u B) (hA : A.length ≤ 100000) (hB : B.length ≤ 100000) :
    Calls Tryz.prog 84 #[v, u] w fun e w' => ∃ v', e = .returned v' ∧ Gw2 eR w' w.heap.size v' (pd fOr A B) ∧ Below w.heap.size w w' := by
  have T := Lib.hid (rpaired_any 128 (enters_of Tryz.func128 (by kernel_rfl) rfl) fOr ror_says v u A B w hv hu hA hB)
  clear hv hu hA hB
  go_enter Tryz.func84, Tryz.ntmps84
  go_wp2_with (go_at_call 120; refine T.out.mono ?_; rintro e w1 ⟨v1, rfl, o1, b1⟩; have O1 := Lib.hid o1; have B1 := Lib.hid b1; clear o1 b1)
  go_ret
  exact ⟨_, rfl, O1.out, B1.out⟩
theorem rnot_says (x y : Bool) (W : World) : Calls Tryz.prog 121 #[.bool x, .bool y] W fun e w' => e = .returned (.bool (fNot x y)) ∧ w' = W := by
  cases x <;> cases y <;>
    (go_enter Tryz.func121, Tryz.ntmps121
     go_wp2
     go_ret
     exact ⟨rfl, rfl⟩)
set_option maxHeartbeats 400000 in
theorem rnot_any (v u : Value) (A B : List Rn) (w : World) (hv : Gs2 eR w 0 w.heap.size v A) (hu : Gs2 eR w 0 w.heap.size u B) (hA : A.length ≤ 100000) (hB : B.length ≤ 100000) :
    Calls Tryz.prog 73 #[v, u] w fun e w' => ∃ v', e = .returned v' ∧ Gw2 eR w' w.heap.size v' (pd fNot A B) ∧ Below w.heap.size w w' := by
  have T := Lib.hid (rpaired_any 121 (enters_of Tryz.func121 (by kernel_rfl) rfl) fNot rnot_says v u A B w hv hu hA hB)
  clear hv hu hA hB
  go_enter Tryz.func73, Tryz.ntmps73
  go_wp2_with (go_at_call 120; refine T.out.mono ?_; rintro e w1 ⟨v1, rfl, o1, b1⟩; have O1 := Lib.hid o1; have B1 := Lib.hid b1; clear o1 b1)
  go_ret
  exact ⟨_, rfl, O1.out, B1.out⟩
end Go.Proofs.YtcmifbjeabkihabGreatDoor
/- Runs: May (cut from stages 4 to 6) -/
namespace Go.Proofs.YtcmifbjeabkihabGreatDoor
open Go.RowKit
set_option linter.unusedVariables false

set_option maxHeartbeats 1000000 in
theorem rmay_any (v : Value) (A : List Rn) (w : World) (hv : Gs2 eR w 0 w.heap.size v A) :
    Calls Tryz.prog 97 #[v] w fun e w' => e = .returned (.bool (mayr 0 A)) ∧ Below w.heap.size w w' := by
  have hlen := hv.len
  have HV := Lib.hid hv
  obtain ⟨A1, c1, rfl, -⟩ := hv
  obtain ⟨R, hR⟩ : ∃ R, R = mayr 0 A := ⟨_, rfl⟩
  rw [← hR]
  have HR := Lib.hid hR
  clear hR
  go_enter Tryz.func97, Tryz.ntmps97
  go_wp2
  go_loopw [3, 8] (fun n i wr => ∃ k m : Nat, k ≤ A.length ∧ m ≤ 65538 ∧ n = .int .i64 m ∧ i = .int .i64 k ∧ Hid (mayr m (A.drop k) = R) ∧ Below w.heap.size w wr) (fun _ i _ => A.length - (intOf i).toNat)
  case atStart => exact ⟨0, 0, Nat.zero_le _, by omega, rfl, rfl, HR.out.symm, Below.refl _ _⟩
  case round =>
    obtain ⟨k, m, hk, hmb, rfl, rfl, hmr, hbl⟩ := hrel
    have HB := Lib.hid hbl
    by_cases hlt : k < A.length
    · obtain ⟨b, off, r, e1, -, hb, hdr, hg, c0, c2⟩ := gs2_at HV.out hlt
      subst e1
      rw [← hbl.cell (p := ⟨b, off + k * 2, none⟩) hb] at c0
      rw [← hbl.cell (p := ⟨b, off + k * 2 + 1, none⟩) hb] at c2
      have hmr2 := hmr.out
      rw [hdr] at hmr2
      have hf := u16_lt r.1
      have hm := u16_lt r.2
      obtain ⟨f, hfe⟩ : ∃ f, f = r.1.toNat := ⟨_, rfl⟩
      obtain ⟨q, hqe⟩ : ∃ q, q = r.2.toNat := ⟨_, rfl⟩
      rw [← hfe] at c0 hf
      rw [← hqe] at c2 hm
      have HF := Lib.hid hf
      have HQ := Lib.hid hm
      have hlr : lst r = f + q := by unfold lst; rw [← hfe, ← hqe]
      have hbw : Below w.heap.size w (wr.alloc (.cells #[.int .u16 (f : Int), .int .u16 (q : Int)] 85)) := hbl.alloc hbl.size _
      have HBW := Lib.hid hbw
      have hsz := hbl.size
      by_cases h1 : f < m
      · have hR : R = false := by
          rw [← hmr2]
          unfold mayr
          rw [decide_eq_false (by rw [← hfe]; omega), Bool.false_and]
        have HRF := Lib.hid hR
        have h1' : (f : Int) < m := by omega
        clear hbl hmr hdr hg hmr2 hR hfe hqe hlr hbw h1
        go_wp2
        go_ret
        exact ⟨by rw [HRF.out]; rfl, HBW.out⟩
      · have h1' : decide ((f : Int) < m) = false := decide_eq_false (by omega)
        have h1n : ¬ ((f : Int) < m) := by omega
        by_cases h2 : 65536 < f + (q + 1)
        · have hR : R = false := by
            rw [← hmr2]
            unfold mayr
            rw [decide_eq_false (p := lst r ≤ 65535) (by omega), Bool.false_and, Bool.and_false]
          have HRF := Lib.hid hR
          have h2' : (65536 : Int) < (f : Int) + ((q : Int) + 1) := by omega
          clear hbl hmr hdr hg hmr2 hR hfe hqe hlr hbw h1 h2
          go_wp2_with (go_at_call 145; refine (end_any f q HF.out HQ.out _).mono ?_; rintro e w9 ⟨rfl, b9⟩; have k0 := (b9.cell (p := ⟨wr.heap.size, 0, none⟩) (by simp)).trans (show _ = some (.int .u16 (f : Int)) by simp); have k1 := (b9.cell (p := ⟨wr.heap.size, 1, none⟩) (by simp)).trans (show _ = some (.int .u16 (q : Int)) by simp); have B9 := Lib.hid b9; clear b9)
          go_ret
          exact ⟨by rw [HRF.out]; rfl, below_both HBW.out B9.out⟩
        · have hR : mayr (f + q + 2) (A.drop (k + 1)) = R := by
            rw [← hmr2, ← hlr]
            rw [mayr_eq, decide_eq_true (p := m ≤ r.1.toNat) (by rw [← hfe]; omega), decide_eq_true (p := lst r ≤ 65535) (by omega), Bool.true_and, Bool.true_and]
          have HRF := Lib.hid hR
          have h2' : decide ((65536 : Int) < (f : Int) + ((q : Int) + 1)) = false := decide_eq_false (by omega)
          have h2i : (f : Int) + ((q : Int) + 1) ≤ 65536 := by omega
          have h2n : ¬ ((65536 : Int) < (f : Int) + ((q : Int) + 1)) := by omega
          clear hbl hmr hdr hg hmr2 hR hfe hqe hlr hbw h1 h2
          go_wp2_with fail
          go_at_call 145
          refine (end_any f q HF.out HQ.out _).mono ?_
          rintro e w9 ⟨rfl, b9⟩
          have k0 := (b9.cell (p := ⟨wr.heap.size, 0, none⟩) (by simp)).trans (show _ = some (.int .u16 (f : Int)) by simp)
          have k1 := (b9.cell (p := ⟨wr.heap.size, 1, none⟩) (by simp)).trans (show _ = some (.int .u16 (q : Int)) by simp)
          have B9 := Lib.hid b9
          clear b9
          go_wp2_with fail
          go_at_call 145
          refine (end_any f q HF.out HQ.out _).mono ?_
          rintro e w8 ⟨rfl, b8⟩
          have B8 := Lib.hid b8
          clear b8
          go_wp2
          refine ⟨⟨k + 1, f + q + 2, by omega, by omega, by go_num, by go_num, HRF.out, below_both (below_both HBW.out B9.out) B8.out⟩, by simp [intOf]; omega⟩
    · obtain rfl : k = A.length := by omega
      have hR := hmr.out
      rw [List.drop_length] at hR
      have HRF := Lib.hid (show R = true from hR.symm)
      clear hbl hmr hR
      go_wp2
      go_ret
      exact ⟨by rw [HRF.out]; rfl, HB.out⟩
end Go.Proofs.YtcmifbjeabkihabGreatDoor
/- Runs, two at a time, in the form of laws (cut from stages 4 to 6) -/
namespace Go.Proofs.YtcmifbjeabkihabGreatDoor
open Go.RowKit
set_option linter.unusedVariables false

theorem lor (v u : Value) (A B R : List Rn) (w : World) (hv : Gs2 eR w 0 w.heap.size v A) (hu : Gs2 eR w 0 w.heap.size u B) (hA : mayr 0 A = true) (hB : mayr 0 B = true) (hR : pd fOr A B = R) :
    Calls Tryz.prog 84 #[v, u] w fun e w' => ∃ A' c, e = .returned (.slice A' R.length c) ∧ Gs2 eR w' 0 w'.heap.size (.slice A' R.length c) R ∧ Below w.heap.size w w' := by
  refine (ror_any v u A B w hv hu (Nat.le_trans (mayr_len hA) (by omega)) (Nat.le_trans (mayr_len hB) (by omega))).mono ?_
  rintro e w' ⟨v', rfl, o, b⟩
  rw [hR] at o
  have s := o.sl.more (Nat.zero_le _) (Nat.le_refl _)
  obtain ⟨A', c, rfl, -⟩ := o.sl
  exact ⟨A', c, rfl, s, b⟩
theorem lnot (v u : Value) (A B R : List Rn) (w : World) (hv : Gs2 eR w 0 w.heap.size v A) (hu : Gs2 eR w 0 w.heap.size u B) (hA : mayr 0 A = true) (hB : mayr 0 B = true) (hR : pd fNot A B = R) :
    Calls Tryz.prog 73 #[v, u] w fun e w' => ∃ A' c, e = .returned (.slice A' R.length c) ∧ Gs2 eR w' 0 w'.heap.size (.slice A' R.length c) R ∧ Below w.heap.size w w' := by
  refine (rnot_any v u A B w hv hu (Nat.le_trans (mayr_len hA) (by omega)) (Nat.le_trans (mayr_len hB) (by omega))).mono ?_
  rintro e w' ⟨v', rfl, o, b⟩
  rw [hR] at o
  have s := o.sl.more (Nat.zero_le _) (Nat.le_refl _)
  obtain ⟨A', c, rfl, -⟩ := o.sl
  exact ⟨A', c, rfl, s, b⟩
theorem lxor (v u : Value) (A B R : List Rn) (w : World) (hv : Gs2 eR w 0 w.heap.size v A) (hu : Gs2 eR w 0 w.heap.size u B) (hA : mayr 0 A = true) (hB : mayr 0 B = true) (hR : pd fXor A B = R) :
    Calls Tryz.prog 107 #[v, u] w fun e w' => ∃ A' c, e = .returned (.slice A' R.length c) ∧ Gs2 eR w' 0 w'.heap.size (.slice A' R.length c) R ∧ Below w.heap.size w w' := by
  refine (rxor_any v u A B w hv hu (Nat.le_trans (mayr_len hA) (by omega)) (Nat.le_trans (mayr_len hB) (by omega))).mono ?_
  rintro e w' ⟨v', rfl, o, b⟩
  rw [hR] at o
  have s := o.sl.more (Nat.zero_le _) (Nat.le_refl _)
  obtain ⟨A', c, rfl, -⟩ := o.sl
  exact ⟨A', c, rfl, s, b⟩
theorem lmay (v : Value) (A : List Rn) (w : World) (hv : Gs2 eR w 0 w.heap.size v A) (b : Bool) (h : mayr 0 A = b) :
    Calls Tryz.prog 97 #[v] w fun e w' => e = .returned (.bool b) ∧ Below w.heap.size w w' := by
  rw [← h]
  exact rmay_any v A w hv
end Go.Proofs.YtcmifbjeabkihabGreatDoor
/- Calls of two sets, as arrays, as words, as runs: what is told lies in memory of its own. -/
namespace Go.Proofs.YtcmifbjeabkihabGreatDoor
open Go.RowKit
set_option linter.unusedVariables false

theorem sa_or (v u : Value) (p q : Nat → Bool) (n : Nat) (w : World) (hv : Gs e16 w 0 w.heap.size v (ls p 65536)) (hu : Gs e16 w 0 w.heap.size u (ls q 65536)) (hn : ct (fun x => fOr (p x) (q x)) 65536 = n) :
    Calls Tryz.prog 82 #[v, u] w fun e w' => ∃ A c, e = .returned (.slice A n c) ∧ Gs e16 w' w.heap.size w'.heap.size (.slice A n c) (ls (fun x => fOr (p x) (q x)) 65536) ∧ Below w.heap.size w w' := by
  refine (or_any v u _ _ 0 w hv hu (Nat.le_trans (ls_small p) (by omega)) (Nat.le_trans (ls_small q) (by omega))).mono ?_
  rintro e w' ⟨v', rfl, o, b⟩
  rw [ls_mg fOr rfl (ris_ls p 65536 (Nat.le_refl _)) (ris_ls q 65536 (Nat.le_refl _))] at o
  have e1 : ls (fun i => fOr (mk (ls p 65536) i) (mk (ls q 65536) i)) 65536 = ls (fun x => fOr (p x) (q x)) 65536 := ls_ext fun j hj => by rw [mk_ls p hj, mk_ls q hj]
  rw [e1] at o
  have s := o.sl
  obtain ⟨A, c, rfl, -⟩ := o.sl
  rw [ls_ct, hn] at s ⊢
  exact ⟨A, c, rfl, s, b⟩
theorem sw_or (v u : Value) (p q : Nat → Bool) (w : World) (hv : Gs e64 w 0 w.heap.size v (wm p)) (hu : Gs e64 w 0 w.heap.size u (wm q)) :
    Calls Tryz.prog 83 #[v, u] w fun e w' => ∃ A c, e = .returned (.slice A 1024 c) ∧ Gs e64 w' w.heap.size w'.heap.size (.slice A 1024 c) (wm fun x => fOr (p x) (q x)) ∧ Below w.heap.size w w' := by
  refine (wor_any v u _ _ 0 w hv hu).mono ?_
  rintro e w' ⟨v', rfl, o, b⟩
  rw [mix_wb fOr p q] at o
  obtain ⟨A, c, rfl⟩ := gw_wm o
  exact ⟨A, c, rfl, o.sl, b⟩
theorem sr_or (v u : Value) (p q : Nat → Bool) (n : Nat) (w : World) (hv : Gs2 eR w 0 w.heap.size v (rs p 65536)) (hu : Gs2 eR w 0 w.heap.size u (rs q 65536)) (hn : ct (hm (fun x => fOr (p x) (q x))) 65536 = n) :
    Calls Tryz.prog 84 #[v, u] w fun e w' => ∃ A c, e = .returned (.slice A n c) ∧ Gs2 eR w' w.heap.size w'.heap.size (.slice A n c) (rs (fun x => fOr (p x) (q x)) 65536) ∧ Below w.heap.size w w' := by
  refine (ror_any v u _ _ w hv hu (Nat.le_trans (rs_short p) (by omega)) (Nat.le_trans (rs_short q) (by omega))).mono ?_
  rintro e w' ⟨v', rfl, o, b⟩
  rw [pd_rs (t := fOr) rfl p q] at o
  have s := o.sl
  obtain ⟨A, c, rfl, -⟩ := o.sl
  rw [rs_len, hn] at s ⊢
  exact ⟨A, c, rfl, s, b⟩

theorem sa_not (v u : Value) (p q : Nat → Bool) (n : Nat) (w : World) (hv : Gs e16 w 0 w.heap.size v (ls p 65536)) (hu : Gs e16 w 0 w.heap.size u (ls q 65536)) (hn : ct (fun x => fNot (p x) (q x)) 65536 = n) :
    Calls Tryz.prog 71 #[v, u] w fun e w' => ∃ A c, e = .returned (.slice A n c) ∧ Gs e16 w' w.heap.size w'.heap.size (.slice A n c) (ls (fun x => fNot (p x) (q x)) 65536) ∧ Below w.heap.size w w' := by
  refine (not_any v u _ _ 0 w hv hu (Nat.le_trans (ls_small p) (by omega)) (Nat.le_trans (ls_small q) (by omega))).mono ?_
  rintro e w' ⟨v', rfl, o, b⟩
  rw [ls_mg fNot rfl (ris_ls p 65536 (Nat.le_refl _)) (ris_ls q 65536 (Nat.le_refl _))] at o
  have e1 : ls (fun i => fNot (mk (ls p 65536) i) (mk (ls q 65536) i)) 65536 = ls (fun x => fNot (p x) (q x)) 65536 := ls_ext fun j hj => by rw [mk_ls p hj, mk_ls q hj]
  rw [e1] at o
  have s := o.sl
  obtain ⟨A, c, rfl, -⟩ := o.sl
  rw [ls_ct, hn] at s ⊢
  exact ⟨A, c, rfl, s, b⟩
theorem sw_not (v u : Value) (p q : Nat → Bool) (w : World) (hv : Gs e64 w 0 w.heap.size v (wm p)) (hu : Gs e64 w 0 w.heap.size u (wm q)) :
    Calls Tryz.prog 72 #[v, u] w fun e w' => ∃ A c, e = .returned (.slice A 1024 c) ∧ Gs e64 w' w.heap.size w'.heap.size (.slice A 1024 c) (wm fun x => fNot (p x) (q x)) ∧ Below w.heap.size w w' := by
  refine (wnot_any v u _ _ 0 w hv hu).mono ?_
  rintro e w' ⟨v', rfl, o, b⟩
  rw [mix_wb fNot p q] at o
  obtain ⟨A, c, rfl⟩ := gw_wm o
  exact ⟨A, c, rfl, o.sl, b⟩
theorem sr_not (v u : Value) (p q : Nat → Bool) (n : Nat) (w : World) (hv : Gs2 eR w 0 w.heap.size v (rs p 65536)) (hu : Gs2 eR w 0 w.heap.size u (rs q 65536)) (hn : ct (hm (fun x => fNot (p x) (q x))) 65536 = n) :
    Calls Tryz.prog 73 #[v, u] w fun e w' => ∃ A c, e = .returned (.slice A n c) ∧ Gs2 eR w' w.heap.size w'.heap.size (.slice A n c) (rs (fun x => fNot (p x) (q x)) 65536) ∧ Below w.heap.size w w' := by
  refine (rnot_any v u _ _ w hv hu (Nat.le_trans (rs_short p) (by omega)) (Nat.le_trans (rs_short q) (by omega))).mono ?_
  rintro e w' ⟨v', rfl, o, b⟩
  rw [pd_rs (t := fNot) rfl p q] at o
  have s := o.sl
  obtain ⟨A, c, rfl, -⟩ := o.sl
  rw [rs_len, hn] at s ⊢
  exact ⟨A, c, rfl, s, b⟩

theorem sa_xor (v u : Value) (p q : Nat → Bool) (n : Nat) (w : World) (hv : Gs e16 w 0 w.heap.size v (ls p 65536)) (hu : Gs e16 w 0 w.heap.size u (ls q 65536)) (hn : ct (fun x => fXor (p x) (q x)) 65536 = n) :
    Calls Tryz.prog 105 #[v, u] w fun e w' => ∃ A c, e = .returned (.slice A n c) ∧ Gs e16 w' w.heap.size w'.heap.size (.slice A n c) (ls (fun x => fXor (p x) (q x)) 65536) ∧ Below w.heap.size w w' := by
  refine (xor_any v u _ _ 0 w hv hu (Nat.le_trans (ls_small p) (by omega)) (Nat.le_trans (ls_small q) (by omega))).mono ?_
  rintro e w' ⟨v', rfl, o, b⟩
  rw [ls_mg fXor rfl (ris_ls p 65536 (Nat.le_refl _)) (ris_ls q 65536 (Nat.le_refl _))] at o
  have e1 : ls (fun i => fXor (mk (ls p 65536) i) (mk (ls q 65536) i)) 65536 = ls (fun x => fXor (p x) (q x)) 65536 := ls_ext fun j hj => by rw [mk_ls p hj, mk_ls q hj]
  rw [e1] at o
  have s := o.sl
  obtain ⟨A, c, rfl, -⟩ := o.sl
  rw [ls_ct, hn] at s ⊢
  exact ⟨A, c, rfl, s, b⟩
theorem sw_xor (v u : Value) (p q : Nat → Bool) (w : World) (hv : Gs e64 w 0 w.heap.size v (wm p)) (hu : Gs e64 w 0 w.heap.size u (wm q)) :
    Calls Tryz.prog 106 #[v, u] w fun e w' => ∃ A c, e = .returned (.slice A 1024 c) ∧ Gs e64 w' w.heap.size w'.heap.size (.slice A 1024 c) (wm fun x => fXor (p x) (q x)) ∧ Below w.heap.size w w' := by
  refine (wxor_any v u _ _ 0 w hv hu).mono ?_
  rintro e w' ⟨v', rfl, o, b⟩
  rw [mix_wb fXor p q] at o
  obtain ⟨A, c, rfl⟩ := gw_wm o
  exact ⟨A, c, rfl, o.sl, b⟩
theorem sr_xor (v u : Value) (p q : Nat → Bool) (n : Nat) (w : World) (hv : Gs2 eR w 0 w.heap.size v (rs p 65536)) (hu : Gs2 eR w 0 w.heap.size u (rs q 65536)) (hn : ct (hm (fun x => fXor (p x) (q x))) 65536 = n) :
    Calls Tryz.prog 107 #[v, u] w fun e w' => ∃ A c, e = .returned (.slice A n c) ∧ Gs2 eR w' w.heap.size w'.heap.size (.slice A n c) (rs (fun x => fXor (p x) (q x)) 65536) ∧ Below w.heap.size w w' := by
  refine (rxor_any v u _ _ w hv hu (Nat.le_trans (rs_short p) (by omega)) (Nat.le_trans (rs_short q) (by omega))).mono ?_
  rintro e w' ⟨v', rfl, o, b⟩
  rw [pd_rs (t := fXor) rfl p q] at o
  have s := o.sl
  obtain ⟨A, c, rfl, -⟩ := o.sl
  rw [rs_len, hn] at s ⊢
  exact ⟨A, c, rfl, s, b⟩
end Go.Proofs.YtcmifbjeabkihabGreatDoor
namespace Go.Proofs.YtcmifbjeabkihabGreatDoor
open Go.RowKit
set_option linter.unusedVariables false

theorem szC : (Tryz.prog.info? 55).map (·.size) = some 4 := by kernel_rfl
theorem ret_row {fn : Func} {p : Tmp} (hf : fn.results = #[.cell p 55]) {tmps : Array Value} {w : World} {g : Nat} {a b c d : Value} (hp : tmps.getD p undef = .pointer (some ⟨g, 0, none⟩)) (R : Row w g 55 #[a, b, c, d]) :
    (results fn tmps).run Tryz.prog w = .ok (.agg #[a, b, c, d]) w :=
  results_cell_row hf _ w g _ _ (0, 0) _ hp R Tryz.underlying55 rfl szC
theorem set4 {w : World} {g : Nat} {t : TypeId} {a b c d a' b' c' d' : Value} (R : Row w g t #[a, b, c, d]) :
    Row ((((w.setCell ⟨g, 0, none⟩ a').setCell ⟨g, 1, none⟩ b').setCell ⟨g, 2, none⟩ c').setCell ⟨g, 3, none⟩ d') g t #[a', b', c', d'] ∧ w.grownBy ((((w.setCell ⟨g, 0, none⟩ a').setCell ⟨g, 1, none⟩ b').setCell ⟨g, 2, none⟩ c').setCell ⟨g, 3, none⟩ d') (some g) := by
  refine ⟨by simpa using (((R.set_ 0 a').set_ 1 b').set_ 2 c').set_ 3 d', ⟨rfl, rfl, rfl, by simp [World.setCell], fun k hk hne => ?_⟩⟩
  have h : ∀ (w : World) (i : Nat) (u : Value), (w.setCell ⟨g, i, none⟩ u).heap[k]? = w.heap[k]? := fun w i u => Below.heap_setCell w _ u k (fun e => hne (by rw [e]))
  rw [h, h, h, h]

theorem ofArray_v (A : Option Addr) (n c : Nat) (w : World) :
    Calls Tryz.prog 113 #[.slice A n c] w fun e w' => e = .returned (.agg #[.int .u8 1, .slice A n c, .slice none 0 0, .slice none 0 0]) ∧ Below w.heap.size w w' := by
  have R := Row.new w 55 #[.int .u8 1, .slice A n c, .slice none 0 0, .slice none 0 0]
  have B := bx w (.cells #[.int .u8 1, .slice A n c, .slice none 0 0, .slice none 0 0] 55)
  go_enter Tryz.func113, Tryz.ntmps113
  go_wp2
  exact bodyPost_ret (ret_row rfl rfl R) rfl ⟨rfl, B⟩

theorem ofWords_v (A : Option Addr) (n c : Nat) (w : World) :
    Calls Tryz.prog 151 #[.slice A n c] w fun e w' => e = .returned (.agg #[.int .u8 2, .slice none 0 0, .slice A n c, .slice none 0 0]) ∧ Below w.heap.size w w' := by
  have R := Row.new w 55 #[.int .u8 2, .slice none 0 0, .slice A n c, .slice none 0 0]
  have B := bx w (.cells #[.int .u8 2, .slice none 0 0, .slice A n c, .slice none 0 0] 55)
  go_enter Tryz.func151, Tryz.ntmps151
  go_wp2
  exact bodyPost_ret (ret_row rfl rfl R) rfl ⟨rfl, B⟩

theorem ofRuns_v (A : Option Addr) (n c : Nat) (w : World) :
    Calls Tryz.prog 98 #[.slice A n c] w fun e w' => e = .returned (.agg #[.int .u8 3, .slice none 0 0, .slice none 0 0, .slice A n c]) ∧ Below w.heap.size w w' := by
  have R := Row.new w 55 #[.int .u8 3, .slice none 0 0, .slice none 0 0, .slice A n c]
  have B := bx w (.cells #[.int .u8 3, .slice none 0 0, .slice none 0 0, .slice A n c] 55)
  go_enter Tryz.func98, Tryz.ntmps98
  go_wp2
  exact bodyPost_ret (ret_row rfl rfl R) rfl ⟨rfl, B⟩

theorem mul_wrap (a b : Int) (h0 : 0 ≤ b) (h1 : b ≤ 100000) (ha : 0 ≤ a ∧ a ≤ 8) : wrap64 (a * b) = a * b := by
  have : 0 ≤ a * b ∧ a * b ≤ 800000 := by
    constructor
    · exact Int.mul_nonneg ha.1 h0
    · exact Int.le_trans (Int.mul_le_mul ha.2 h1 h0 (by omega)) (by omega)
  unfold wrap64; omega

theorem size_1 (c r : Nat) (w : World) (hc : c ≤ 65536) (hr : r ≤ 65536) :
    Calls Tryz.prog 146 #[.int .u8 1, .int .i64 c, .int .i64 r] w fun e w' => e = .returned (.int .i64 (2 * (c : Int))) ∧ w' = w := by
  have h1 : wrap64 (2 * (c : Int)) = 2 * (c : Int) := by unfold wrap64; omega
  have h2 : wrap64 (4 * (r : Int)) = 4 * (r : Int) := by unfold wrap64; omega
  have h3 : wrap64 (2 + 4 * (r : Int)) = 2 + 4 * (r : Int) := by unfold wrap64; omega
  go_enter Tryz.func146, Tryz.ntmps146
  go_wp2
  go_ret
  exact ⟨rfl, rfl⟩

theorem size_2 (c r : Nat) (w : World) (hc : c ≤ 65536) (hr : r ≤ 65536) :
    Calls Tryz.prog 146 #[.int .u8 2, .int .i64 c, .int .i64 r] w fun e w' => e = .returned (.int .i64 (8192)) ∧ w' = w := by
  have h1 : wrap64 (2 * (c : Int)) = 2 * (c : Int) := by unfold wrap64; omega
  have h2 : wrap64 (4 * (r : Int)) = 4 * (r : Int) := by unfold wrap64; omega
  have h3 : wrap64 (2 + 4 * (r : Int)) = 2 + 4 * (r : Int) := by unfold wrap64; omega
  go_enter Tryz.func146, Tryz.ntmps146
  go_wp2
  go_ret
  exact ⟨rfl, rfl⟩

theorem size_3 (c r : Nat) (w : World) (hc : c ≤ 65536) (hr : r ≤ 65536) :
    Calls Tryz.prog 146 #[.int .u8 3, .int .i64 c, .int .i64 r] w fun e w' => e = .returned (.int .i64 (2 + 4 * (r : Int))) ∧ w' = w := by
  have h1 : wrap64 (2 * (c : Int)) = 2 * (c : Int) := by unfold wrap64; omega
  have h2 : wrap64 (4 * (r : Int)) = 4 * (r : Int) := by unfold wrap64; omega
  have h3 : wrap64 (2 + 4 * (r : Int)) = 2 + 4 * (r : Int) := by unfold wrap64; omega
  go_enter Tryz.func146, Tryz.ntmps146
  go_wp2
  go_ret
  exact ⟨rfl, rfl⟩

theorem ck_11 (c r : Nat) (w : World) (hc : c ≤ 65536) (hr : r ≤ 65536) (h : c ≤ 4096) (h2 : ¬ 2 + 4 * r < 2 * c) :
    Calls Tryz.prog 100 #[.int .i64 c, .int .i64 r] w fun e w' => e = .returned (.int .u8 1) ∧ w' = w := by
  have S1 := Lib.hid (fun W => size_3 c r W hc hr)
  have S2 := Lib.hid (fun W => size_1 c r W hc hr)
  have g1 : decide ((c : Int) > 4096) = false := decide_eq_false (by omega)
  have g2 : decide (2 + 4 * (r : Int) < 2 * (c : Int)) = false := decide_eq_false (by omega)
  have g3 : ¬ (c : Int) > 4096 := by omega
  go_enter Tryz.func100, Tryz.ntmps100
  go_wp2_with fail
  refine (S1.out _).mono ?_
  rintro e w1 ⟨rfl, hz⟩
  have hz := hz.symm
  subst hz
  go_wp2_with fail
  refine (S2.out _).mono ?_
  rintro e w1 ⟨rfl, hz⟩
  have hz := hz.symm
  subst hz
  go_wp2
  go_ret
  exact ⟨rfl, rfl⟩

theorem ck_13 (c r : Nat) (w : World) (hc : c ≤ 65536) (hr : r ≤ 65536) (h : c ≤ 4096) (h2 : 2 + 4 * r < 2 * c) :
    Calls Tryz.prog 100 #[.int .i64 c, .int .i64 r] w fun e w' => e = .returned (.int .u8 3) ∧ w' = w := by
  have S1 := Lib.hid (fun W => size_3 c r W hc hr)
  have S2 := Lib.hid (fun W => size_1 c r W hc hr)
  have g1 : decide ((c : Int) > 4096) = false := decide_eq_false (by omega)
  have g2 : decide (2 + 4 * (r : Int) < 2 * (c : Int)) = true := decide_eq_true (by omega)
  have g3 : ¬ (c : Int) > 4096 := by omega
  go_enter Tryz.func100, Tryz.ntmps100
  go_wp2_with fail
  refine (S1.out _).mono ?_
  rintro e w1 ⟨rfl, hz⟩
  have hz := hz.symm
  subst hz
  go_wp2_with fail
  refine (S2.out _).mono ?_
  rintro e w1 ⟨rfl, hz⟩
  have hz := hz.symm
  subst hz
  go_wp2
  go_ret
  exact ⟨rfl, rfl⟩

theorem ck_22 (c r : Nat) (w : World) (hc : c ≤ 65536) (hr : r ≤ 65536) (h : ¬ c ≤ 4096) (h2 : ¬ 2 + 4 * r < 8192) :
    Calls Tryz.prog 100 #[.int .i64 c, .int .i64 r] w fun e w' => e = .returned (.int .u8 2) ∧ w' = w := by
  have S1 := Lib.hid (fun W => size_3 c r W hc hr)
  have S2 := Lib.hid (fun W => size_2 c r W hc hr)
  have g1 : decide ((c : Int) > 4096) = true := decide_eq_true (by omega)
  have g2 : decide (2 + 4 * (r : Int) < 8192) = false := decide_eq_false (by omega)
  have g3 : (c : Int) > 4096 := by omega
  go_enter Tryz.func100, Tryz.ntmps100
  go_wp2_with fail
  refine (S1.out _).mono ?_
  rintro e w1 ⟨rfl, hz⟩
  have hz := hz.symm
  subst hz
  go_wp2_with fail
  refine (S2.out _).mono ?_
  rintro e w1 ⟨rfl, hz⟩
  have hz := hz.symm
  subst hz
  go_wp2
  go_ret
  exact ⟨rfl, rfl⟩

theorem ck_23 (c r : Nat) (w : World) (hc : c ≤ 65536) (hr : r ≤ 65536) (h : ¬ c ≤ 4096) (h2 : 2 + 4 * r < 8192) :
    Calls Tryz.prog 100 #[.int .i64 c, .int .i64 r] w fun e w' => e = .returned (.int .u8 3) ∧ w' = w := by
  have S1 := Lib.hid (fun W => size_3 c r W hc hr)
  have S2 := Lib.hid (fun W => size_2 c r W hc hr)
  have g1 : decide ((c : Int) > 4096) = true := decide_eq_true (by omega)
  have g2 : decide (2 + 4 * (r : Int) < 8192) = true := decide_eq_true (by omega)
  have g3 : (c : Int) > 4096 := by omega
  go_enter Tryz.func100, Tryz.ntmps100
  go_wp2_with fail
  refine (S1.out _).mono ?_
  rintro e w1 ⟨rfl, hz⟩
  have hz := hz.symm
  subst hz
  go_wp2_with fail
  refine (S2.out _).mono ?_
  rintro e w1 ⟨rfl, hz⟩
  have hz := hz.symm
  subst hz
  go_wp2
  go_ret
  exact ⟨rfl, rfl⟩

theorem canonicalKind_c (c r : Nat) (w : World) (hc : c ≤ 65536) (hr : r ≤ 65536) :
    Calls Tryz.prog 100 #[.int .i64 c, .int .i64 r] w fun e w' => e = .returned (.int .u8 (ckn c r : Nat)) ∧ w' = w := by
  unfold ckn
  by_cases h : c ≤ 4096
  · rw [if_pos h, if_pos h]
    by_cases h2 : 2 + 4 * r < 2 * c
    · rw [if_pos h2]; exact ck_13 c r w hc hr h h2
    · rw [if_neg h2]; exact ck_11 c r w hc hr h h2
  · rw [if_neg h, if_neg h]
    by_cases h2 : 2 + 4 * r < 8192
    · rw [if_pos h2]; exact ck_23 c r w hc hr h h2
    · rw [if_neg h2]; exact ck_22 c r w hc hr h h2
theorem size_c (k c r : Nat) (w : World) (hk : 1 ≤ k ∧ k ≤ 3) (hc : c ≤ 65536) (hr : r ≤ 65536) :
    Calls Tryz.prog 146 #[.int .u8 k, .int .i64 c, .int .i64 r] w fun e w' => e = .returned (.int .i64 (szn k c r : Nat)) ∧ w' = w := by
  have hk2 : k = 1 ∨ k = 2 ∨ k = 3 := by omega
  rcases hk2 with rfl | rfl | rfl
  · have e : ((szn 1 c r : Nat) : Int) = 2 * (c : Int) := by simp [szn]
    rw [e]; exact size_1 c r w hc hr
  · exact size_2 c r w hc hr
  · have e : ((szn 3 c r : Nat) : Int) = 2 + 4 * (r : Int) := by simp [szn]
    rw [e]; exact size_3 c r w hc hr
end Go.Proofs.YtcmifbjeabkihabGreatDoor
