/- Proved of RunsWords: whatever its arguments. -/
import Derived.Test.YtgkelfhmpeakkaaDoorVO
import Derived.Test.YtgkelfhmpeakkaaDoorFK
import Derived.Test.YtgkelfhmpeakkaaDoorFG
namespace Go.Proofs.YtgkelfhmpeakkaaDoor
open Go.RowKit
set_option linter.unusedVariables false

/-- Both, either, the first one alone, just one. -/
def fs : Nat → Bool → Bool → Bool
  | 0 => fAnd
  | 1 => fOr
  | 2 => fNot
  | _ => fXor
/-- Four values, four rows. -/
def v4 (a b c d : Value) : Nat → Value
  | 0 => a
  | 1 => b
  | 2 => c
  | _ => d
def l4 (a b c d : List Rn) : Nat → List Rn
  | 0 => a
  | 1 => b
  | 2 => c
  | _ => d
theorem arr4 (a b c d : Value) {k : Nat} (hk : k < 4) : (#[a, b, c, d] : Array Value)[k]? = some (v4 a b c d k) := by
  match k, hk with
  | 0, _ => rfl
  | 1, _ => rfl
  | 2, _ => rfl
  | 3, _ => rfl
theorem yand (v u : Value) (A B R : List Rn) (w : World) (hv : Gs2 eR w 0 w.heap.size v A) (hu : Gs2 eR w 0 w.heap.size u B) (hA : A.length ≤ 500) (hB : B.length ≤ 500) (hR : pd fAnd A B = R) :
    Calls Tryd.prog 7 #[v, u] w fun e w' => ∃ A' c, e = .returned (.slice A' R.length c) ∧ Gs2 eR w' 0 w'.heap.size (.slice A' R.length c) R ∧ Below w.heap.size w w' := by
  refine (rand_any v u A B w hv hu (by omega) (by omega)).mono ?_
  rintro e w' ⟨v', rfl, o, b⟩
  rw [hR] at o
  have s := o.sl.more (Nat.zero_le _) (Nat.le_refl _)
  obtain ⟨A', c, rfl, -⟩ := o.sl
  exact ⟨A', c, rfl, s, b⟩
theorem yor (v u : Value) (A B R : List Rn) (w : World) (hv : Gs2 eR w 0 w.heap.size v A) (hu : Gs2 eR w 0 w.heap.size u B) (hA : A.length ≤ 500) (hB : B.length ≤ 500) (hR : pd fOr A B = R) :
    Calls Tryd.prog 8 #[v, u] w fun e w' => ∃ A' c, e = .returned (.slice A' R.length c) ∧ Gs2 eR w' 0 w'.heap.size (.slice A' R.length c) R ∧ Below w.heap.size w w' := by
  refine (ror_any v u A B w hv hu (by omega) (by omega)).mono ?_
  rintro e w' ⟨v', rfl, o, b⟩
  rw [hR] at o
  have s := o.sl.more (Nat.zero_le _) (Nat.le_refl _)
  obtain ⟨A', c, rfl, -⟩ := o.sl
  exact ⟨A', c, rfl, s, b⟩
theorem ynot (v u : Value) (A B R : List Rn) (w : World) (hv : Gs2 eR w 0 w.heap.size v A) (hu : Gs2 eR w 0 w.heap.size u B) (hA : A.length ≤ 500) (hB : B.length ≤ 500) (hR : pd fNot A B = R) :
    Calls Tryd.prog 9 #[v, u] w fun e w' => ∃ A' c, e = .returned (.slice A' R.length c) ∧ Gs2 eR w' 0 w'.heap.size (.slice A' R.length c) R ∧ Below w.heap.size w w' := by
  refine (rnot_any v u A B w hv hu (by omega) (by omega)).mono ?_
  rintro e w' ⟨v', rfl, o, b⟩
  rw [hR] at o
  have s := o.sl.more (Nat.zero_le _) (Nat.le_refl _)
  obtain ⟨A', c, rfl, -⟩ := o.sl
  exact ⟨A', c, rfl, s, b⟩
theorem yxor (v u : Value) (A B R : List Rn) (w : World) (hv : Gs2 eR w 0 w.heap.size v A) (hu : Gs2 eR w 0 w.heap.size u B) (hA : A.length ≤ 500) (hB : B.length ≤ 500) (hR : pd fXor A B = R) :
    Calls Tryd.prog 10 #[v, u] w fun e w' => ∃ A' c, e = .returned (.slice A' R.length c) ∧ Gs2 eR w' 0 w'.heap.size (.slice A' R.length c) R ∧ Below w.heap.size w w' := by
  refine (rxor_any v u A B w hv hu (by omega) (by omega)).mono ?_
  rintro e w' ⟨v', rfl, o, b⟩
  rw [hR] at o
  have s := o.sl.more (Nat.zero_le _) (Nat.le_refl _)
  obtain ⟨A', c, rfl, -⟩ := o.sl
  exact ⟨A', c, rfl, s, b⟩
theorem refmay_b (v : Value) (A : List Rn) (w : World) (b : Bool) (hv : Gs2 eR w 0 w.heap.size v A) (h : mayr 0 A = b) :
    Calls Tryd.prog 4 #[v] w fun e w' => e = .returned (.bool b) ∧ Below w.heap.size w w' := by
  rw [← h]
  exact (refmay_any v A w hv).mono fun e w' ⟨h1, k, h2⟩ => ⟨h1, by rw [h2]; exact below_drewN (Below.refl _ _) k⟩
theorem pd_mr {t : Bool → Bool → Bool} (t0 : t false false = false) {a b : List Rn} (ha : mayr 0 a = true) (hb : mayr 0 b = true) : mayr 0 (pd t a b) = true ∧ mr (pd t a b) = fun x => t (mr a x) (mr b x) :=
  ⟨(pd_right t0 ha hb).1, funext (pd_right t0 ha hb).2⟩
theorem l4_may {a b : List Rn} (ha : mayr 0 a = true) (hb : mayr 0 b = true) : ∀ i, i < 4 → mayr 0 (l4 (pd fAnd a b) (pd fOr a b) (pd fNot a b) (pd fXor a b) i) = true ∧ mr (l4 (pd fAnd a b) (pd fOr a b) (pd fNot a b) (pd fXor a b) i) = fun x => fs i (mr a x) (mr b x) := by
  intro i hi
  match i, hi with
  | 0, _ => exact pd_mr (t := fAnd) rfl ha hb
  | 1, _ => exact pd_mr (t := fOr) rfl ha hb
  | 2, _ => exact pd_mr (t := fNot) rfl ha hb
  | 3, _ => exact pd_mr (t := fXor) rfl ha hb
theorem right_len {R : List Rn} (h : mayr 0 R = true) {P : Nat → Bool} (hP : mr R = P) {n : Nat} (hn : R.length = n) : ct (hm P) 65536 = n := by
  rw [← hn, ← hP, ← rs_len (mr R), ← rs_mr h (p := mr R) (fun _ _ => rfl)]
theorem rlist_p (v : Value) (R : List Rn) (P : Nat → Bool) (N : Nat) (w : World) (hv : Gs2 eR w 0 w.heap.size v R) (hR : mayr 0 R = true) (hP : mr R = P) (hN : ct P 65536 = N) :
    Calls Tryd.prog 16 #[v] w fun e w' => ∃ A c, e = .returned (.slice A N c) ∧ Gs e16 w' 0 w'.heap.size (.slice A N c) (ls P 65536) ∧ Below w.heap.size w w' := by
  refine (rlist_any v R w hv hR).mono ?_
  rintro e w' ⟨v', rfl, o, b⟩
  rw [hP] at o
  have s := o.sl.more (Nat.zero_le _) (Nat.le_refl _)
  obtain ⟨A, c, rfl, -⟩ := o.sl
  rw [ls_ct, hN] at s ⊢
  exact ⟨A, c, rfl, s, b⟩
theorem rlen_p (v : Value) (R : List Rn) (P : Nat → Bool) (N : Nat) (w : World) (hv : Gs2 eR w 0 w.heap.size v R) (hR : mayr 0 R = true) (hP : mr R = P) (hN : ct P 65536 = N) :
    Calls Tryd.prog 19 #[v] w fun e w' => e = .returned (.int .i64 N) ∧ Below w.heap.size w w' := rlen_any v R N w hv hR (by rw [hP]; exact hN)
theorem Row.step {w w' : World} {g : Nat} {t : TypeId} {cs : Array Value} (h : Row w g t cs) (b : Below w.heap.size w w') : Row w' g t cs := h.below b h.lt

set_option maxHeartbeats 400000 in
theorem words_long (a0 a1 : Option Addr) (len0 cap0 len1 cap1 : Nat) (w : World) (h : 500 < len0) (h2 : len0 ≤ 9223372036854775807) :
    Calls Tryd.prog 3 #[.slice a0 len0 cap0, .slice a1 len1 cap1] w fun e w' => e = .returned (.bool true) ∧ Below w.heap.size w w' := by
  have hi' : (len0 : Int) > 500 := by omega
  clear h
  go_enter Tryd.func3, Tryd.ntmps3
  go_wp2_with (go_at_call 5; refine (known_any _).mono ?_; rintro e w1 ⟨rfl, b1⟩)
  go_ret
  exact ⟨rfl, b1⟩
set_option maxHeartbeats 400000 in
theorem words_long2 (a0 a1 : Option Addr) (len0 cap0 len1 cap1 : Nat) (w : World) (h0 : len0 ≤ 500) (h : 500 < len1) (h2 : len1 ≤ 9223372036854775807) :
    Calls Tryd.prog 3 #[.slice a0 len0 cap0, .slice a1 len1 cap1] w fun e w' => e = .returned (.bool true) ∧ Below w.heap.size w w' := by
  have hi' : (len1 : Int) > 500 := by omega
  have hi0 : ¬ (len0 : Int) > 500 := by omega
  clear h h0
  go_enter Tryd.func3, Tryd.ntmps3
  go_wp2_with (go_at_call 5; refine (known_any _).mono ?_; rintro e w1 ⟨rfl, b1⟩)
  go_ret
  exact ⟨rfl, b1⟩

set_option maxHeartbeats 400000 in
theorem words_odd (v u : Value) (a b : List Rn) (w : World) (hT : Tb w) (hv : Gs2 eR w 0 w.heap.size v a) (hu : Gs2 eR w 0 w.heap.size u b) (ha : a.length ≤ 500) (hb : b.length ≤ 500) (hm : mayr 0 a = false) :
    Calls Tryd.prog 3 #[v, u] w fun e w' => e = .returned (.bool true) ∧ Below w.heap.size w w' := by
  have HV := Lib.hid hv
  have HU := Lib.hid hu
  have LA := Lib.hid ha
  have LB := Lib.hid hb
  have TT := Lib.hid hT
  have B0 := Lib.hid (Below.refl w.heap.size w)
  obtain ⟨A0, c0, rfl, -⟩ := hv
  obtain ⟨A1, c1, rfl, -⟩ := hu
  have hn0 : ¬ (a.length : Int) > 500 := by omega
  have hn1 : ¬ (b.length : Int) > 500 := by omega
  have hd0 : decide ((a.length : Int) > 500) = false := decide_eq_false hn0
  have hd1 : decide ((b.length : Int) > 500) = false := decide_eq_false hn1
  clear ha hb hT
  have HM := Lib.hid hm
  clear hm
  go_enter Tryd.func3, Tryd.ntmps3
  go_wp2_with fail
  refine (refmay_b _ a _ false HV.out HM.out).mono ?_
  rintro e w1 ⟨rfl, b0⟩
  have HV := Lib.hid (HV.out.step b0)
  have HU := Lib.hid (HU.out.step b0)
  have TT := Lib.hid (TT.out.step b0)
  have B0 := Lib.hid (below_both B0.out b0)
  clear b0
  go_wp2_with fail
  refine (known_any _).mono ?_
  rintro e w2 ⟨rfl, b0⟩
  have HV := Lib.hid (HV.out.step b0)
  have HU := Lib.hid (HU.out.step b0)
  have TT := Lib.hid (TT.out.step b0)
  have B0 := Lib.hid (below_both B0.out b0)
  clear b0
  go_wp2_with fail
  go_ret
  exact ⟨rfl, B0.out⟩
set_option maxHeartbeats 400000 in
theorem words_odd2 (v u : Value) (a b : List Rn) (w : World) (hT : Tb w) (hv : Gs2 eR w 0 w.heap.size v a) (hu : Gs2 eR w 0 w.heap.size u b) (ha : a.length ≤ 500) (hb : b.length ≤ 500) (hma : mayr 0 a = true) (hm : mayr 0 b = false) :
    Calls Tryd.prog 3 #[v, u] w fun e w' => e = .returned (.bool true) ∧ Below w.heap.size w w' := by
  have HV := Lib.hid hv
  have HU := Lib.hid hu
  have LA := Lib.hid ha
  have LB := Lib.hid hb
  have TT := Lib.hid hT
  have B0 := Lib.hid (Below.refl w.heap.size w)
  obtain ⟨A0, c0, rfl, -⟩ := hv
  obtain ⟨A1, c1, rfl, -⟩ := hu
  have hn0 : ¬ (a.length : Int) > 500 := by omega
  have hn1 : ¬ (b.length : Int) > 500 := by omega
  have hd0 : decide ((a.length : Int) > 500) = false := decide_eq_false hn0
  have hd1 : decide ((b.length : Int) > 500) = false := decide_eq_false hn1
  clear ha hb hT
  have HM := Lib.hid hm
  have HMA := Lib.hid hma
  clear hm hma
  go_enter Tryd.func3, Tryd.ntmps3
  go_wp2_with fail
  refine (refmay_b _ a _ true HV.out HMA.out).mono ?_
  rintro e w1 ⟨rfl, b0⟩
  have HV := Lib.hid (HV.out.step b0)
  have HU := Lib.hid (HU.out.step b0)
  have TT := Lib.hid (TT.out.step b0)
  have B0 := Lib.hid (below_both B0.out b0)
  clear b0
  go_wp2_with fail
  refine (refmay_b _ b _ false HU.out HM.out).mono ?_
  rintro e w2 ⟨rfl, b0⟩
  have HV := Lib.hid (HV.out.step b0)
  have HU := Lib.hid (HU.out.step b0)
  have TT := Lib.hid (TT.out.step b0)
  have B0 := Lib.hid (below_both B0.out b0)
  clear b0
  go_wp2_with fail
  refine (known_any _).mono ?_
  rintro e w3 ⟨rfl, b0⟩
  have HV := Lib.hid (HV.out.step b0)
  have HU := Lib.hid (HU.out.step b0)
  have TT := Lib.hid (TT.out.step b0)
  have B0 := Lib.hid (below_both B0.out b0)
  clear b0
  go_wp2_with fail
  go_ret
  exact ⟨rfl, B0.out⟩
theorem words_of_p (v : Value) (A : List Rn) (p : Nat → Bool) (w : World) (hv : Gs2 eR w 0 w.heap.size v A) (hA : mayr 0 A = true) (hp : mr A = p) :
    Calls Tryd.prog 6 #[v] w fun e w' => ∃ A' c, e = .returned (.slice A' 1024 c) ∧ Gs e64 w' 0 w'.heap.size (.slice A' 1024 c) (wm p) ∧ Below w.heap.size w w' := by
  rw [← hp]
  exact words_of v A w hv hA

set_option maxHeartbeats 16000000 in
set_option maxRecDepth 100000 in
theorem words_good (v u : Value) (a b : List Rn) (w : World) (hT : Tb w) (hv : Gs2 eR w 0 w.heap.size v a) (hu : Gs2 eR w 0 w.heap.size u b) (ha : a.length ≤ 500) (hb : b.length ≤ 500) (hma : mayr 0 a = true) (hmb : mayr 0 b = true) :
    Calls Tryd.prog 3 #[v, u] w fun e w' => e = .returned (.bool true) ∧ Below w.heap.size w w' := by
  have HV := Lib.hid hv
  have HU := Lib.hid hu
  have LA := Lib.hid ha
  have LB := Lib.hid hb
  have TT := Lib.hid hT
  have B0 := Lib.hid (Below.refl w.heap.size w)
  obtain ⟨A0, c0, rfl, -⟩ := hv
  obtain ⟨A1, c1, rfl, -⟩ := hu
  have hn0 : ¬ (a.length : Int) > 500 := by omega
  have hn1 : ¬ (b.length : Int) > 500 := by omega
  have hd0 : decide ((a.length : Int) > 500) = false := decide_eq_false hn0
  have hd1 : decide ((b.length : Int) > 500) = false := decide_eq_false hn1
  clear ha hb hT
  have HMA := Lib.hid hma
  have HMB := Lib.hid hmb
  obtain ⟨P0, hP0⟩ : ∃ P, pd fAnd a b = P := ⟨_, rfl⟩
  obtain ⟨P1, hP1⟩ : ∃ P, pd fOr a b = P := ⟨_, rfl⟩
  obtain ⟨P2, hP2⟩ : ∃ P, pd fNot a b = P := ⟨_, rfl⟩
  obtain ⟨P3, hP3⟩ : ∃ P, pd fXor a b = P := ⟨_, rfl⟩
  have E0 := Lib.hid hP0
  have E1 := Lib.hid hP1
  have E2 := Lib.hid hP2
  have E3 := Lib.hid hP3
  clear hP0 hP1 hP2 hP3 hma hmb
  obtain ⟨p, hp⟩ : ∃ p, mr a = p := ⟨_, rfl⟩
  obtain ⟨q, hq⟩ : ∃ q, mr b = q := ⟨_, rfl⟩
  have PA := Lib.hid hp
  have PB := Lib.hid hq
  clear hp hq
  go_enter Tryd.func3, Tryd.ntmps3
  go_wp2_with fail
  refine (refmay_b _ a _ true HV.out HMA.out).mono ?_
  rintro e w1 ⟨rfl, b0⟩
  have HV := Lib.hid (HV.out.step b0)
  have HU := Lib.hid (HU.out.step b0)
  have TT := Lib.hid (TT.out.step b0)
  have B0 := Lib.hid (below_both B0.out b0)
  clear b0
  go_wp2_with fail
  refine (refmay_b _ b _ true HU.out HMB.out).mono ?_
  rintro e w2 ⟨rfl, b0⟩
  have HV := Lib.hid (HV.out.step b0)
  have HU := Lib.hid (HU.out.step b0)
  have TT := Lib.hid (TT.out.step b0)
  have B0 := Lib.hid (below_both B0.out b0)
  clear b0
  go_wp2_with fail
  refine (words_of_p _ a p _ HV.out HMA.out PA.out).mono ?_
  rintro e w3 ⟨X1, x1, rfl, g0, b0⟩
  have HV := Lib.hid (HV.out.step b0)
  have HU := Lib.hid (HU.out.step b0)
  have TT := Lib.hid (TT.out.step b0)
  have B0 := Lib.hid (below_both B0.out b0)
  have GX := Lib.hid g0
  clear g0
  clear b0
  go_wp2_with fail
  refine (words_of_p _ b q _ HU.out HMB.out PB.out).mono ?_
  rintro e w4 ⟨X2, x2, rfl, g0, b0⟩
  have HV := Lib.hid (HV.out.step b0)
  have HU := Lib.hid (HU.out.step b0)
  have GX := Lib.hid (GX.out.step b0)
  have TT := Lib.hid (TT.out.step b0)
  have B0 := Lib.hid (below_both B0.out b0)
  have GY := Lib.hid g0
  clear g0
  clear b0
  go_wp2_with fail
  refine (yand _ _ a b P0 _ HV.out HU.out LA.out LB.out E0.out).mono ?_
  rintro e w5 ⟨D0, d0, rfl, g0, b0⟩
  have HV := Lib.hid (HV.out.step b0)
  have HU := Lib.hid (HU.out.step b0)
  have GX := Lib.hid (GX.out.step b0)
  have GY := Lib.hid (GY.out.step b0)
  have TT := Lib.hid (TT.out.step b0)
  have B0 := Lib.hid (below_both B0.out b0)
  have G0 := Lib.hid g0
  clear g0
  clear b0
  go_wp2_with fail
  refine (yor _ _ a b P1 _ HV.out HU.out LA.out LB.out E1.out).mono ?_
  rintro e w6 ⟨D1, d1, rfl, g0, b0⟩
  have HV := Lib.hid (HV.out.step b0)
  have HU := Lib.hid (HU.out.step b0)
  have GX := Lib.hid (GX.out.step b0)
  have GY := Lib.hid (GY.out.step b0)
  have G0 := Lib.hid (G0.out.step b0)
  have TT := Lib.hid (TT.out.step b0)
  have B0 := Lib.hid (below_both B0.out b0)
  have G1 := Lib.hid g0
  clear g0
  clear b0
  go_wp2_with fail
  refine (ynot _ _ a b P2 _ HV.out HU.out LA.out LB.out E2.out).mono ?_
  rintro e w7 ⟨D2, d2, rfl, g0, b0⟩
  have HV := Lib.hid (HV.out.step b0)
  have HU := Lib.hid (HU.out.step b0)
  have GX := Lib.hid (GX.out.step b0)
  have GY := Lib.hid (GY.out.step b0)
  have G0 := Lib.hid (G0.out.step b0)
  have G1 := Lib.hid (G1.out.step b0)
  have TT := Lib.hid (TT.out.step b0)
  have B0 := Lib.hid (below_both B0.out b0)
  have G2 := Lib.hid g0
  clear g0
  clear b0
  go_wp2_with fail
  refine (yxor _ _ a b P3 _ HV.out HU.out LA.out LB.out E3.out).mono ?_
  rintro e w8 ⟨D3, d3, rfl, g0, b0⟩
  have HV := Lib.hid (HV.out.step b0)
  have HU := Lib.hid (HU.out.step b0)
  have GX := Lib.hid (GX.out.step b0)
  have GY := Lib.hid (GY.out.step b0)
  have G0 := Lib.hid (G0.out.step b0)
  have G1 := Lib.hid (G1.out.step b0)
  have G2 := Lib.hid (G2.out.step b0)
  have TT := Lib.hid (TT.out.step b0)
  have B0 := Lib.hid (below_both B0.out b0)
  have G3 := Lib.hid g0
  clear g0
  clear b0
  go_wp2_with fail
  have r0 := Row.new w8 28 #[.slice D0 P0.length d0, .slice D1 P1.length d1, .slice D2 P2.length d2, .slice D3 P3.length d3]
  have b0 : Below w8.heap.size w8 (w8.alloc (.cells #[.slice D0 P0.length d0, .slice D1 P1.length d1, .slice D2 P2.length d2, .slice D3 P3.length d3] 28)) := (Below.refl _ _).alloc (Nat.le_refl _) _
  obtain ⟨gx, hgx⟩ : ∃ g, g = w8.heap.size := ⟨_, rfl⟩
  generalize w8.alloc (.cells #[.slice D0 P0.length d0, .slice D1 P1.length d1, .slice D2 P2.length d2, .slice D3 P3.length d3] 28) = w9 at *
  rw [← hgx] at r0 ⊢
  clear hgx
  have HV := Lib.hid (HV.out.step b0)
  have HU := Lib.hid (HU.out.step b0)
  have GX := Lib.hid (GX.out.step b0)
  have GY := Lib.hid (GY.out.step b0)
  have G0 := Lib.hid (G0.out.step b0)
  have G1 := Lib.hid (G1.out.step b0)
  have G2 := Lib.hid (G2.out.step b0)
  have G3 := Lib.hid (G3.out.step b0)
  have TT := Lib.hid (TT.out.step b0)
  have B0 := Lib.hid (below_both B0.out b0)
  have Rx := Lib.hid r0
  clear r0 b0
  go_wp2_with fail
  refine (wand_p _ _ p q _ GX.out GY.out).mono ?_
  rintro e w10 ⟨C0, k0, rfl, g0, b0⟩
  have HV := Lib.hid (HV.out.step b0)
  have HU := Lib.hid (HU.out.step b0)
  have GX := Lib.hid (GX.out.step b0)
  have GY := Lib.hid (GY.out.step b0)
  have G0 := Lib.hid (G0.out.step b0)
  have G1 := Lib.hid (G1.out.step b0)
  have G2 := Lib.hid (G2.out.step b0)
  have G3 := Lib.hid (G3.out.step b0)
  have Rx := Lib.hid (Rx.out.step b0)
  have TT := Lib.hid (TT.out.step b0)
  have B0 := Lib.hid (below_both B0.out b0)
  have K0 := Lib.hid g0
  clear g0
  clear b0
  go_wp2_with fail
  refine (wor_p _ _ p q _ GX.out GY.out).mono ?_
  rintro e w11 ⟨C1, k1, rfl, g0, b0⟩
  have HV := Lib.hid (HV.out.step b0)
  have HU := Lib.hid (HU.out.step b0)
  have GX := Lib.hid (GX.out.step b0)
  have GY := Lib.hid (GY.out.step b0)
  have G0 := Lib.hid (G0.out.step b0)
  have G1 := Lib.hid (G1.out.step b0)
  have G2 := Lib.hid (G2.out.step b0)
  have G3 := Lib.hid (G3.out.step b0)
  have Rx := Lib.hid (Rx.out.step b0)
  have K0 := Lib.hid (K0.out.step b0)
  have TT := Lib.hid (TT.out.step b0)
  have B0 := Lib.hid (below_both B0.out b0)
  have K1 := Lib.hid g0
  clear g0
  clear b0
  go_wp2_with fail
  refine (wnot_p _ _ p q _ GX.out GY.out).mono ?_
  rintro e w12 ⟨C2, k2, rfl, g0, b0⟩
  have HV := Lib.hid (HV.out.step b0)
  have HU := Lib.hid (HU.out.step b0)
  have GX := Lib.hid (GX.out.step b0)
  have GY := Lib.hid (GY.out.step b0)
  have G0 := Lib.hid (G0.out.step b0)
  have G1 := Lib.hid (G1.out.step b0)
  have G2 := Lib.hid (G2.out.step b0)
  have G3 := Lib.hid (G3.out.step b0)
  have Rx := Lib.hid (Rx.out.step b0)
  have K0 := Lib.hid (K0.out.step b0)
  have K1 := Lib.hid (K1.out.step b0)
  have TT := Lib.hid (TT.out.step b0)
  have B0 := Lib.hid (below_both B0.out b0)
  have K2 := Lib.hid g0
  clear g0
  clear b0
  go_wp2_with fail
  refine (wxor_p _ _ p q _ GX.out GY.out).mono ?_
  rintro e w13 ⟨C3, k3, rfl, g0, b0⟩
  have HV := Lib.hid (HV.out.step b0)
  have HU := Lib.hid (HU.out.step b0)
  have GX := Lib.hid (GX.out.step b0)
  have GY := Lib.hid (GY.out.step b0)
  have G0 := Lib.hid (G0.out.step b0)
  have G1 := Lib.hid (G1.out.step b0)
  have G2 := Lib.hid (G2.out.step b0)
  have G3 := Lib.hid (G3.out.step b0)
  have Rx := Lib.hid (Rx.out.step b0)
  have K0 := Lib.hid (K0.out.step b0)
  have K1 := Lib.hid (K1.out.step b0)
  have K2 := Lib.hid (K2.out.step b0)
  have TT := Lib.hid (TT.out.step b0)
  have B0 := Lib.hid (below_both B0.out b0)
  have K3 := Lib.hid g0
  clear g0
  clear b0
  go_wp2_with fail
  have r0 := Row.new w13 30 #[.slice C0 1024 k0, .slice C1 1024 k1, .slice C2 1024 k2, .slice C3 1024 k3]
  have b0 : Below w13.heap.size w13 (w13.alloc (.cells #[.slice C0 1024 k0, .slice C1 1024 k1, .slice C2 1024 k2, .slice C3 1024 k3] 30)) := (Below.refl _ _).alloc (Nat.le_refl _) _
  obtain ⟨gy, hgy⟩ : ∃ g, g = w13.heap.size := ⟨_, rfl⟩
  generalize w13.alloc (.cells #[.slice C0 1024 k0, .slice C1 1024 k1, .slice C2 1024 k2, .slice C3 1024 k3] 30) = w14 at *
  rw [← hgy] at r0 ⊢
  clear hgy
  have HV := Lib.hid (HV.out.step b0)
  have HU := Lib.hid (HU.out.step b0)
  have GX := Lib.hid (GX.out.step b0)
  have GY := Lib.hid (GY.out.step b0)
  have G0 := Lib.hid (G0.out.step b0)
  have G1 := Lib.hid (G1.out.step b0)
  have G2 := Lib.hid (G2.out.step b0)
  have G3 := Lib.hid (G3.out.step b0)
  have Rx := Lib.hid (Rx.out.step b0)
  have K0 := Lib.hid (K0.out.step b0)
  have K1 := Lib.hid (K1.out.step b0)
  have K2 := Lib.hid (K2.out.step b0)
  have K3 := Lib.hid (K3.out.step b0)
  have TT := Lib.hid (TT.out.step b0)
  have B0 := Lib.hid (below_both B0.out b0)
  have Ry := Lib.hid r0
  clear r0 b0
  obtain ⟨sl, hsl⟩ : ∃ sl, sl = v4 (.slice D0 P0.length d0) (.slice D1 P1.length d1) (.slice D2 P2.length d2) (.slice D3 P3.length d3) := ⟨_, rfl⟩
  obtain ⟨sw, hsw⟩ : ∃ sw, sw = v4 (.slice C0 1024 k0) (.slice C1 1024 k1) (.slice C2 1024 k2) (.slice C3 1024 k3) := ⟨_, rfl⟩
  obtain ⟨ql, hql⟩ : ∃ ql, ql = l4 P0 P1 P2 P3 := ⟨_, rfl⟩
  have hfar : ∀ j, j < 4 → ∃ D n d, sl j = .slice D n d ∧ (ql j).length = n ∧ Gs2 eR w14 0 w14.heap.size (.slice D n d) (ql j) := by
    intro j hj
    rw [hsl, hql]
    match j, hj with
    | 0, _ => exact ⟨D0, _, d0, rfl, rfl, G0.out⟩
    | 1, _ => exact ⟨D1, _, d1, rfl, rfl, G1.out⟩
    | 2, _ => exact ⟨D2, _, d2, rfl, rfl, G2.out⟩
    | 3, _ => exact ⟨D3, _, d3, rfl, rfl, G3.out⟩
  have hfaw : ∀ j, j < 4 → ∃ D d, sw j = .slice D 1024 d ∧ Gs e64 w14 0 w14.heap.size (.slice D 1024 d) (wm fun x => fs j (p x) (q x)) := by
    intro j hj
    rw [hsw]
    match j, hj with
    | 0, _ => exact ⟨C0, k0, rfl, K0.out⟩
    | 1, _ => exact ⟨C1, k1, rfl, K1.out⟩
    | 2, _ => exact ⟨C2, k2, rfl, K2.out⟩
    | 3, _ => exact ⟨C3, k3, rfl, K3.out⟩
  have hcx : ∀ j, j < 4 → ∀ W, Below w14.heap.size w14 W → W.cell? ⟨gx, j, none⟩ = some (sl j) := fun j hj W hW => by rw [(Rx.out.step hW).cell j, hsl]; exact arr4 _ _ _ _ hj
  have hcy : ∀ j, j < 4 → ∀ W, Below w14.heap.size w14 W → W.cell? ⟨gy, j, none⟩ = some (sw j) := fun j hj W hW => by rw [(Ry.out.step hW).cell j, hsw]; exact arr4 _ _ _ _ hj
  have hq4 : ∀ j, j < 4 → mayr 0 (ql j) = true ∧ mr (ql j) = fun x => fs j (p x) (q x) := by rw [hql, ← E0.out, ← E1.out, ← E2.out, ← E3.out, ← PA.out, ← PB.out]; exact l4_may HMA.out HMB.out
  have FAR := Lib.hid hfar
  have FAW := Lib.hid hfaw
  have CX := Lib.hid hcx
  have CY := Lib.hid hcy
  have Q4 := Lib.hid hq4
  clear hfar hfaw hcx hcy hq4 hsl hsw hql G0 G1 G2 G3 K0 K1 K2 K3 Rx Ry GX GY HV HU
  go_wp2_with fail
  go_loopw [59] (fun s wr => ∃ i : Nat, i ≤ 4 ∧ s = .int .i64 i ∧ Below w14.heap.size w14 wr) (fun i _ => (((4 : Nat) : Int) - intOf i).toNat)
  case atStart => exact ⟨0, by omega, rfl, Below.refl _ _⟩
  case round =>
    obtain ⟨i, hi4, rfl, hst⟩ := hrel
    have SR := Lib.hid hst
    by_cases hlt : i < 4
    · obtain ⟨D, n, d, hs1, hn, hg2⟩ := FAR.out i hlt
      obtain ⟨D', d', hs2, hg6⟩ := FAW.out i hlt
      obtain ⟨hm1, hm2⟩ := Q4.out i hlt
      have hx1 := CX.out i hlt
      have hy1 := CY.out i hlt
      rw [hs1] at hx1
      rw [hs2] at hy1
      obtain ⟨R, hR⟩ : ∃ R, ql i = R := ⟨_, rfl⟩
      obtain ⟨P, hP⟩ : ∃ P, (fun x => fs i (p x) (q x)) = P := ⟨_, rfl⟩
      rw [hR] at hn hg2 hm1 hm2
      rw [hP] at hg6 hm2
      obtain ⟨N, hN⟩ : ∃ N, ct P 65536 = N := ⟨_, rfl⟩
      have HN := Lib.hid hN
      have HR := Lib.hid (right_len hm1 hm2 hn)
      have M1 := Lib.hid hm1
      have M2 := Lib.hid hm2
      have GG := Lib.hid (show ∀ W, Below wr.heap.size wr W → Gs2 eR W 0 W.heap.size (.slice D n d) R ∧ Gs e64 W 0 W.heap.size (.slice D' 1024 d') (wm P) ∧ Tb W ∧ W.cell? ⟨gx, i, none⟩ = some (.slice D n d) ∧ W.cell? ⟨gy, i, none⟩ = some (.slice D' 1024 d') from fun W hW => by
        have hz := below_both SR.out hW
        exact ⟨hg2.step hz, hg6.step hz, TT.out.step hz, hx1 W hz, hy1 W hz⟩)
      have HI := Lib.hid hlt
      have hii : (i : Int) < 4 := by omega
      have wk2 : wrap64 ((i : Int) + 1) = (i : Int) + 1 := by unfold wrap64; omega
      have WK := Lib.hid wk2
      clear hst hlt hi4 hs1 hs2 hn hg2 hg6 hm1 hm2 hx1 hy1 hR hP hN wk2
      have hSc : Below wr.heap.size wr wr.drew := (Below.refl wr.heap.size wr).drew
      go_wp2_with fail
      refine wp_region_held_drew (S := fun W => Below wr.heap.size wr W) (by kernel_rfl) hSc (fun _ => ?_)
      refine held_take 0 ?_ rfl (by kernel_rfl) (by kernel_rfl) (by kernel_rfl) (fun _ _ _ h => h) (by rfl) ?_ hSc ?_
      rotate_left
      · (intro W hSW; go_simp; try rfl)
      try simp only [Act.put, List.setIfInBounds_toArray, List.set_cons_zero, List.set_cons_succ]
      refine held_take 1 ?_ rfl (by kernel_rfl) (by kernel_rfl) (by kernel_rfl) (fun _ _ _ h => h) (by rfl) ?_ hSc ?_
      rotate_left
      · (intro W hSW; go_simp; try rfl)
      try simp only [Act.put, List.setIfInBounds_toArray, List.set_cons_zero, List.set_cons_succ]
      refine held_take 2 ?_ rfl (by kernel_rfl) (by kernel_rfl) (by kernel_rfl) (fun _ _ _ h => h) (by rfl) ?_ hSc ?_
      rotate_left
      · (intro W hSW; have k1 := (GG.out W hSW).2.2.2.1; go_simp; try rfl)
      try simp only [Act.put, List.setIfInBounds_toArray, List.set_cons_zero, List.set_cons_succ]
      refine held_take 4 ?_ rfl (by kernel_rfl) (by kernel_rfl) (by kernel_rfl) (fun _ _ _ h => h) (by rfl) ?_ hSc ?_
      rotate_left
      · (intro W hSW; go_simp; try rfl)
      try simp only [Act.put, List.setIfInBounds_toArray, List.set_cons_zero, List.set_cons_succ]
      refine held_take 5 ?_ rfl (by kernel_rfl) (by kernel_rfl) (by kernel_rfl) (fun _ _ _ h => h) (by rfl) ?_ hSc ?_
      rotate_left
      · (intro W hSW; go_simp; try rfl)
      try simp only [Act.put, List.setIfInBounds_toArray, List.set_cons_zero, List.set_cons_succ]
      refine held_take 6 ?_ rfl (by kernel_rfl) (by kernel_rfl) (by kernel_rfl) (fun _ _ _ h => h) (by rfl) ?_ hSc ?_
      rotate_left
      · (intro W hSW; have k1 := (GG.out W hSW).2.2.2.2; go_simp; try rfl)
      try simp only [Act.put, List.setIfInBounds_toArray, List.set_cons_zero, List.set_cons_succ]
      refine held_next 3 rfl (by kernel_rfl) (by rfl) ?_
      go_simp
      refine (rlist_p _ R P N _ (GG.out _ hSc).1 M1.out M2.out HN.out).mono ?_
      rintro e wq1 ⟨Aq, cq, rfl, gq, bq⟩
      have hbq : Below wr.heap.size wr wq1 := hSc.trans (bq.mono hSc.size)
      refine ⟨fun W => Below wr.heap.size wr W, fun W hW => hW, hbq, ?_⟩
      have GA := Lib.hid gq
      clear gq
      clear hSc bq
      have hSc : Below wr.heap.size wr wq1 := hbq
      clear hbq
      try simp only [Act.put, List.setIfInBounds_toArray, List.set_cons_zero, List.set_cons_succ]
      refine held_next 7 rfl (by kernel_rfl) (by rfl) ?_
      go_simp
      refine (wlist_p _ P N _ (GG.out _ hSc).2.1 (GG.out _ hSc).2.2.1 HN.out).mono ?_
      rintro e wq2 ⟨Ar, cr, rfl, gq, bq⟩
      have hbq : Below wr.heap.size wr wq2 := hSc.trans (bq.mono hSc.size)
      refine ⟨fun W => Below wr.heap.size wr W, fun W hW => hW, hbq, ?_⟩
      have GB := Lib.hid gq
      clear gq
      have GA := Lib.hid (GA.out.step bq)
      clear hSc bq
      have hSc : Below wr.heap.size wr wq2 := hbq
      clear hbq
      try simp only [Act.put, List.setIfInBounds_toArray, List.set_cons_zero, List.set_cons_succ]
      refine held_next 8 rfl (by kernel_rfl) (by rfl) ?_
      go_simp
      refine (same16_p _ _ _ _ _ GA.out GB.out rfl).mono ?_
      rintro e wq3 ⟨rfl, bq⟩
      have hbq : Below wr.heap.size wr wq3 := hSc.trans (bq.mono hSc.size)
      refine ⟨fun W => Below wr.heap.size wr W, fun W hW => hW, hbq, ?_⟩
      clear GA GB
      clear hSc bq
      have hSc : Below wr.heap.size wr wq3 := hbq
      clear hbq
      try simp only [Act.put, List.setIfInBounds_toArray, List.set_cons_zero, List.set_cons_succ]
      refine held_take 9 ?_ rfl (by kernel_rfl) (by kernel_rfl) (by kernel_rfl) (fun _ _ _ h => h) (by rfl) ?_ hSc ?_
      rotate_left
      · (intro W hSW; go_simp; try rfl)
      try simp only [Act.put, List.setIfInBounds_toArray, List.set_cons_zero, List.set_cons_succ]
      refine held_take 10 ?_ rfl (by kernel_rfl) (by kernel_rfl) (by kernel_rfl) (fun _ _ _ h => h) (by rfl) ?_ hSc ?_
      rotate_left
      · (intro W hSW; go_simp; try rfl)
      try simp only [Act.put, List.setIfInBounds_toArray, List.set_cons_zero, List.set_cons_succ]
      refine held_take 11 ?_ rfl (by kernel_rfl) (by kernel_rfl) (by kernel_rfl) (fun _ _ _ h => h) (by rfl) ?_ hSc ?_
      rotate_left
      · (intro W hSW; go_simp; try rfl)
      try simp only [Act.put, List.setIfInBounds_toArray, List.set_cons_zero, List.set_cons_succ]
      refine held_take 12 ?_ rfl (by kernel_rfl) (by kernel_rfl) (by kernel_rfl) (fun _ _ _ h => h) (by rfl) ?_ hSc ?_
      rotate_left
      · (intro W hSW; go_simp; try rfl)
      try simp only [Act.put, List.setIfInBounds_toArray, List.set_cons_zero, List.set_cons_succ]
      refine held_take 13 ?_ rfl (by kernel_rfl) (by kernel_rfl) (by kernel_rfl) (fun _ _ _ h => h) (by rfl) ?_ hSc ?_
      rotate_left
      · (intro W hSW; have k1 := (GG.out W hSW).2.2.2.1; go_simp; try rfl)
      try simp only [Act.put, List.setIfInBounds_toArray, List.set_cons_zero, List.set_cons_succ]
      refine held_take 14 ?_ rfl (by kernel_rfl) (by kernel_rfl) (by kernel_rfl) (fun _ _ _ h => h) (by rfl) ?_ hSc ?_
      rotate_left
      · (intro W hSW; go_simp; try rfl)
      try simp only [Act.put, List.setIfInBounds_toArray, List.set_cons_zero, List.set_cons_succ]
      refine held_take 15 ?_ rfl (by kernel_rfl) (by kernel_rfl) (by kernel_rfl) (fun _ _ _ h => h) (by rfl) ?_ hSc ?_
      rotate_left
      · (intro W hSW; go_simp; try rfl)
      try simp only [Act.put, List.setIfInBounds_toArray, List.set_cons_zero, List.set_cons_succ]
      refine held_take 16 ?_ rfl (by kernel_rfl) (by kernel_rfl) (by kernel_rfl) (fun _ _ _ h => h) (by rfl) ?_ hSc ?_
      rotate_left
      · (intro W hSW; go_simp; try rfl)
      try simp only [Act.put, List.setIfInBounds_toArray, List.set_cons_zero, List.set_cons_succ]
      refine held_take 17 ?_ rfl (by kernel_rfl) (by kernel_rfl) (by kernel_rfl) (fun _ _ _ h => h) (by rfl) ?_ hSc ?_
      rotate_left
      · (intro W hSW; have k1 := (GG.out W hSW).2.2.2.2; go_simp; try rfl)
      try simp only [Act.put, List.setIfInBounds_toArray, List.set_cons_zero, List.set_cons_succ]
      refine held_next 18 rfl (by kernel_rfl) (by rfl) ?_
      go_simp
      refine (wruns_p _ P n _ (GG.out _ hSc).2.1 HR.out).mono ?_
      rintro e wq ⟨rfl, hz⟩
      have hz := hz.symm
      subst hz
      refine ⟨fun W => Below wr.heap.size wr W, fun W hW => hW, hSc, ?_⟩
      try simp only [Act.put, List.setIfInBounds_toArray, List.set_cons_zero, List.set_cons_succ]
      refine held_take 19 ?_ rfl (by kernel_rfl) (by kernel_rfl) (by kernel_rfl) (fun _ _ _ h => h) (by rfl) ?_ hSc ?_
      rotate_left
      · (intro W hSW; go_simp; try rfl)
      try simp only [Act.put, List.setIfInBounds_toArray, List.set_cons_zero, List.set_cons_succ]
      refine held_take 20 ?_ rfl (by kernel_rfl) (by kernel_rfl) (by kernel_rfl) (fun _ _ _ h => h) (by rfl) ?_ hSc ?_
      rotate_left
      · (intro W hSW; go_simp; try rfl)
      try simp only [Act.put, List.setIfInBounds_toArray, List.set_cons_zero, List.set_cons_succ]
      refine held_take 21 ?_ rfl (by kernel_rfl) (by kernel_rfl) (by kernel_rfl) (fun _ _ _ h => h) (by rfl) ?_ hSc ?_
      rotate_left
      · (intro W hSW; go_simp; try rfl)
      try simp only [Act.put, List.setIfInBounds_toArray, List.set_cons_zero, List.set_cons_succ]
      refine held_take 22 ?_ rfl (by kernel_rfl) (by kernel_rfl) (by kernel_rfl) (fun _ _ _ h => h) (by rfl) ?_ hSc ?_
      rotate_left
      · (intro W hSW; go_simp; try rfl)
      try simp only [Act.put, List.setIfInBounds_toArray, List.set_cons_zero, List.set_cons_succ]
      refine held_take 23 ?_ rfl (by kernel_rfl) (by kernel_rfl) (by kernel_rfl) (fun _ _ _ h => h) (by rfl) ?_ hSc ?_
      rotate_left
      · (intro W hSW; go_simp; try rfl)
      try simp only [Act.put, List.setIfInBounds_toArray, List.set_cons_zero, List.set_cons_succ]
      refine held_take 24 ?_ rfl (by kernel_rfl) (by kernel_rfl) (by kernel_rfl) (fun _ _ _ h => h) (by rfl) ?_ hSc ?_
      rotate_left
      · (intro W hSW; have k1 := (GG.out W hSW).2.2.2.1; go_simp; try rfl)
      try simp only [Act.put, List.setIfInBounds_toArray, List.set_cons_zero, List.set_cons_succ]
      refine held_take 26 ?_ rfl (by kernel_rfl) (by kernel_rfl) (by kernel_rfl) (fun _ _ _ h => h) (by rfl) ?_ hSc ?_
      rotate_left
      · (intro W hSW; go_simp; try rfl)
      try simp only [Act.put, List.setIfInBounds_toArray, List.set_cons_zero, List.set_cons_succ]
      refine held_take 27 ?_ rfl (by kernel_rfl) (by kernel_rfl) (by kernel_rfl) (fun _ _ _ h => h) (by rfl) ?_ hSc ?_
      rotate_left
      · (intro W hSW; go_simp; try rfl)
      try simp only [Act.put, List.setIfInBounds_toArray, List.set_cons_zero, List.set_cons_succ]
      refine held_take 28 ?_ rfl (by kernel_rfl) (by kernel_rfl) (by kernel_rfl) (fun _ _ _ h => h) (by rfl) ?_ hSc ?_
      rotate_left
      · (intro W hSW; have k1 := (GG.out W hSW).2.2.2.2; go_simp; try rfl)
      try simp only [Act.put, List.setIfInBounds_toArray, List.set_cons_zero, List.set_cons_succ]
      refine held_next 25 rfl (by kernel_rfl) (by rfl) ?_
      go_simp
      refine (rlen_p _ R P N _ (GG.out _ hSc).1 M1.out M2.out HN.out).mono ?_
      rintro e wq4 ⟨rfl, bq⟩
      have hbq : Below wr.heap.size wr wq4 := hSc.trans (bq.mono hSc.size)
      refine ⟨fun W => Below wr.heap.size wr W, fun W hW => hW, hbq, ?_⟩
      clear hSc bq
      have hSc : Below wr.heap.size wr wq4 := hbq
      clear hbq
      try simp only [Act.put, List.setIfInBounds_toArray, List.set_cons_zero, List.set_cons_succ]
      refine held_next 29 rfl (by kernel_rfl) (by rfl) ?_
      go_simp
      refine (wlen_p _ P N _ (GG.out _ hSc).2.1 HN.out).mono ?_
      rintro e wq ⟨rfl, hz⟩
      have hz := hz.symm
      subst hz
      refine ⟨fun W => Below wr.heap.size wr W, fun W hW => hW, hSc, ?_⟩
      try simp only [Act.put, List.setIfInBounds_toArray, List.set_cons_zero, List.set_cons_succ]
      refine held_take 30 ?_ rfl (by kernel_rfl) (by kernel_rfl) (by kernel_rfl) (fun _ _ _ h => h) (by rfl) ?_ hSc ?_
      rotate_left
      · (intro W hSW; go_simp; try rfl)
      try simp only [Act.put, List.setIfInBounds_toArray, List.set_cons_zero, List.set_cons_succ]
      refine held_next 31 rfl (by kernel_rfl) (by rfl) ?_
      go_simp
      refine ⟨fun W => Below wr.heap.size wr W, fun W hW => hW, hSc, ?_⟩
      refine wpAnyH_done (by kernel_rfl) ?_ _
      have HS := Lib.hid hSc
      clear hSc
      go_wp2_with fail
      exact ⟨⟨i + 1, HI.out, by go_num, below_both SR.out HS.out⟩, step_up HI.out (by first | rfl | exact WK.out)⟩
    · obtain rfl : i = 4 := by omega
      have BR := Lib.hid (below_both B0.out hst)
      clear hst hi4 hlt
      go_wp2_with fail
      refine (known_any _).mono ?_
      rintro e x3 ⟨rfl, z7⟩
      have BR := Lib.hid (below_both BR.out z7)
      clear z7
      go_wp2_with fail
      go_ret
      exact ⟨rfl, BR.out⟩
end Go.Proofs.YtgkelfhmpeakkaaDoor
