/- Proved of RunsAlgebra: whatever its arguments. -/
import Derived.Test.YtgkelfhmpeakkaaFO
import Derived.Test.YtgkelfhmpeakkaaFJ
import Derived.Test.YtgkelfhmpeakkaaFF
import Derived.Test.YtgkelfhmpeakkaaFI
namespace Go.Proofs.Ytgkelfhmpeakkaa
open Go.RowKit
set_option linter.unusedVariables false

/-- Both, either, the first one alone, just one. -/
def fs : Nat → Bool → Bool → Bool
  | 0 => fAnd
  | 1 => fOr
  | 2 => fNot
  | _ => fXor
theorem both_all (k : Nat) (hk : k < 4) (ga gb : Nat) (p q : Nat → Bool) (w : World) (ha : Row w ga 53 (mA 65536 p)) (hb : Row w gb 53 (mA 65536 q)) :
    Calls Try.prog 15 #[.pointer (some ⟨ga, 0, none⟩), .pointer (some ⟨gb, 0, none⟩), .int .i64 ((k : Int) + 1)] w fun e w' => e = .returned (.pointer (some ⟨w.heap.size, 0, none⟩)) ∧ Row w' w.heap.size 53 (mA 65536 fun i => fs k (p i) (q i)) ∧ Below w.heap.size w w' := by
  match k, hk with
  | 0, _ => exact both_and ga gb p q w ha hb
  | 1, _ => exact both_or ga gb p q w ha hb
  | 2, _ => exact both_not ga gb p q w ha hb
  | 3, _ => exact both_xor ga gb p q w ha hb
/-- Six numbers in a row, the last one for ever. -/
def f6 (a b c d e f : Nat) : Nat → Nat
  | 0 => a
  | 1 => b
  | 2 => c
  | 3 => d
  | 4 => e
  | _ => f
theorem f6_mono {a b c d e f : Nat} (h1 : a ≤ b) (h2 : b ≤ c) (h3 : c ≤ d) (h4 : d ≤ e) (h5 : e ≤ f) : ∀ i j, i ≤ j → f6 a b c d e f i ≤ f6 a b c d e f j := by
  have st : ∀ i, f6 a b c d e f i ≤ f6 a b c d e f (i + 1) := by
    intro i
    match i with
    | 0 => exact h1
    | 1 => exact h2
    | 2 => exact h3
    | 3 => exact h4
    | 4 => exact h5
    | n + 5 => exact Nat.le_refl _
  intro i j hij
  obtain ⟨n, rfl⟩ := Nat.le.dest hij
  clear hij
  induction n with
  | zero => exact Nat.le_refl _
  | succ n ih => exact Nat.le_trans ih (st _)
/-- Five values. -/
def v5 (a b c d e : Value) : Nat → Value
  | 0 => a
  | 1 => b
  | 2 => c
  | 3 => d
  | _ => e
theorem arr5 (a b c d e : Value) {k : Nat} (hk : k < 5) : (#[a, b, c, d, e] : Array Value)[k]? = some (v5 a b c d e k) := by
  match k, hk with
  | 0, _ => rfl
  | 1, _ => rfl
  | 2, _ => rfl
  | 3, _ => rfl
  | 4, _ => rfl
/-- What the five calls tell. -/
def q5 (p r : Nat → Bool) (lo hi : Int) (i x : Nat) : Bool := if i < 4 then fs i (p x) (r x) else flp p lo hi x
def Rem6 (bs : Nat → Nat) (sl : Nat → Value) (q : Nat → List Rn) (k : Nat) (wr : World) : Prop := ∀ i, k ≤ i → i < 5 → Gw2 eR wr (bs i) (sl i) (q i)
theorem Rem6.below {bs : Nat → Nat} {sl : Nat → Value} {q : Nat → List Rn} {k : Nat} {wr wr' : World} (h : Rem6 bs sl q k wr) (hb : Below wr.heap.size wr wr') : Rem6 bs sl q k wr' := fun i h1 h2 => (h i h1 h2).below hb (Nat.le_refl _)
theorem Rem6.grown {bs : Nat → Nat} {sl : Nat → Value} {q : Nat → List Rn} {k : Nat} {wr wr' : World} {row : Option Nat} (h : Rem6 bs sl q k wr) (hg : wr.grownBy wr' row) (hr : ∀ j, row = some j → j < bs (k + 1)) (hm : ∀ i j, i ≤ j → bs i ≤ bs j) : Rem6 bs sl q (k + 1) wr' :=
  fun i h1 h2 => (h i (by omega) h2).kept hg fun j hj e => by
    have := hr j e
    have := ((h i (by omega) h2).lt j hj).1
    have := hm (k + 1) i h1
    omega
/-- Five rows. -/
def l5 (a b c d e : List Rn) : Nat → List Rn
  | 0 => a
  | 1 => b
  | 2 => c
  | 3 => d
  | _ => e
theorem zand (v u : Value) (A B R : List Rn) (w : World) (hv : Gs2 eR w 0 w.heap.size v A) (hu : Gs2 eR w 0 w.heap.size u B) (hA : A.length ≤ 2000) (hB : B.length ≤ 2000) (hR : pd fAnd A B = R) :
    Calls Try.prog 7 #[v, u] w fun e w' => ∃ A' c, e = .returned (.slice A' R.length c) ∧ Gw2 eR w' w.heap.size (.slice A' R.length c) R ∧ Below w.heap.size w w' := by
  refine (rand_any v u A B w hv hu (by omega) (by omega)).mono ?_
  rintro e w' ⟨v', rfl, o, b⟩
  rw [hR] at o
  have s := o
  obtain ⟨A', c, rfl, -⟩ := o.sl
  exact ⟨A', c, rfl, s, b⟩
theorem zor (v u : Value) (A B R : List Rn) (w : World) (hv : Gs2 eR w 0 w.heap.size v A) (hu : Gs2 eR w 0 w.heap.size u B) (hA : A.length ≤ 2000) (hB : B.length ≤ 2000) (hR : pd fOr A B = R) :
    Calls Try.prog 8 #[v, u] w fun e w' => ∃ A' c, e = .returned (.slice A' R.length c) ∧ Gw2 eR w' w.heap.size (.slice A' R.length c) R ∧ Below w.heap.size w w' := by
  refine (ror_any v u A B w hv hu (by omega) (by omega)).mono ?_
  rintro e w' ⟨v', rfl, o, b⟩
  rw [hR] at o
  have s := o
  obtain ⟨A', c, rfl, -⟩ := o.sl
  exact ⟨A', c, rfl, s, b⟩
theorem znot (v u : Value) (A B R : List Rn) (w : World) (hv : Gs2 eR w 0 w.heap.size v A) (hu : Gs2 eR w 0 w.heap.size u B) (hA : A.length ≤ 2000) (hB : B.length ≤ 2000) (hR : pd fNot A B = R) :
    Calls Try.prog 9 #[v, u] w fun e w' => ∃ A' c, e = .returned (.slice A' R.length c) ∧ Gw2 eR w' w.heap.size (.slice A' R.length c) R ∧ Below w.heap.size w w' := by
  refine (rnot_any v u A B w hv hu (by omega) (by omega)).mono ?_
  rintro e w' ⟨v', rfl, o, b⟩
  rw [hR] at o
  have s := o
  obtain ⟨A', c, rfl, -⟩ := o.sl
  exact ⟨A', c, rfl, s, b⟩
theorem zxor (v u : Value) (A B R : List Rn) (w : World) (hv : Gs2 eR w 0 w.heap.size v A) (hu : Gs2 eR w 0 w.heap.size u B) (hA : A.length ≤ 2000) (hB : B.length ≤ 2000) (hR : pd fXor A B = R) :
    Calls Try.prog 10 #[v, u] w fun e w' => ∃ A' c, e = .returned (.slice A' R.length c) ∧ Gw2 eR w' w.heap.size (.slice A' R.length c) R ∧ Below w.heap.size w w' := by
  refine (rxor_any v u A B w hv hu (by omega) (by omega)).mono ?_
  rintro e w' ⟨v', rfl, o, b⟩
  rw [hR] at o
  have s := o
  obtain ⟨A', c, rfl, -⟩ := o.sl
  exact ⟨A', c, rfl, s, b⟩
theorem zflip (v : Value) (A R : List Rn) (lo hi : Int) (w : World) (hv : Gs2 eR w 0 w.heap.size v A) (hA : A.length ≤ 2000) (hR : flr A lo hi = R) :
    Calls Try.prog 11 #[v, .int .i64 lo, .int .i64 hi] w fun e w' => ∃ A' c, e = .returned (.slice A' R.length c) ∧ Gw2 eR w' w.heap.size (.slice A' R.length c) R ∧ Below w.heap.size w w' := by
  refine (rflip_any v A lo hi w hv (by omega)).mono ?_
  rintro e w' ⟨v', rfl, o, b⟩
  have e2 : pd fXor A (btw (clp lo) (clp hi)) = R := hR
  rw [e2] at o
  have s := o
  obtain ⟨A', c, rfl, -⟩ := o.sl
  exact ⟨A', c, rfl, s, b⟩
theorem refmay_b (v : Value) (A : List Rn) (w : World) (b : Bool) (hv : Gs2 eR w 0 w.heap.size v A) (h : mayr 0 A = b) :
    Calls Try.prog 12 #[v] w fun e w' => e = .returned (.bool b) ∧ Below w.heap.size w w' := by
  rw [← h]
  exact (refmay_any v A w hv).mono fun e w' ⟨h1, k, h2⟩ => ⟨h1, by rw [h2]; exact below_drewN (Below.refl _ _) k⟩
theorem mmarks_p (v : Value) (A : List Rn) (p : Nat → Bool) (w : World) (hv : Gs2 eR w 0 w.heap.size v A) (hA : mayr 0 A = true) (hp : mr A = p) :
    Calls Try.prog 13 #[v] w fun e w' => ∃ g, e = .returned (.pointer (some ⟨g, 0, none⟩)) ∧ w.heap.size ≤ g ∧ Row w' g 53 (mA 65536 p) ∧ Below w.heap.size w w' := by
  rw [← hp]
  exact (refmarks_any v A w hv hA).mono fun e w' ⟨h1, h2, h3⟩ => ⟨_, h1, Nat.le_refl _, h2, h3⟩
theorem mruns_p (g : Nat) (p : Nat → Bool) (R : List Rn) (w : World) (h : Row w g 53 (mA 65536 p)) (hR : rs p 65536 = R) :
    Calls Try.prog 17 #[.pointer (some ⟨g, 0, none⟩)] w fun e w' => ∃ A c, e = .returned (.slice A R.length c) ∧ Gs2 eR w' 0 w'.heap.size (.slice A R.length c) R ∧ Below w.heap.size w w' := by
  refine (refruns_any g p w h).mono ?_
  rintro e w' ⟨v', rfl, o, b⟩
  rw [hR] at o
  have s := o.sl.more (Nat.zero_le _) (Nat.le_refl _)
  obtain ⟨A', c, rfl, -⟩ := o.sl
  exact ⟨A', c, rfl, s, b⟩
theorem pd_rs {t : Bool → Bool → Bool} (t0 : t false false = false) {a b : List Rn} (ha : mayr 0 a = true) (hb : mayr 0 b = true) : pd t a b = rs (fun x => t (mr a x) (mr b x)) 65536 :=
  rs_mr (pd_right t0 ha hb).1 fun x _ => (pd_right t0 ha hb).2 x
theorem clp_in {lo : Int} {x : Nat} (hx : x < 65536) : (clp lo ≤ (x : Int) ↔ lo ≤ (x : Int)) ∧ ((x : Int) < clp lo ↔ (x : Int) < lo) := by
  unfold clp
  split
  · omega
  · split <;> omega
theorem flr_rs {a : List Rn} (ha : mayr 0 a = true) (lo hi : Int) : flr a lo hi = rs (flp (mr a) lo hi) 65536 := by
  refine rs_mr (flr_may ha lo hi) fun x hx => ?_
  unfold flr
  rw [(pd_right (t := fXor) rfl ha (btw_may (clp_le lo) (clp_le hi))).2, btw_marks (clp_le lo) (clp_le hi)]
  unfold fXor flp
  have h1 : decide (clp lo ≤ (x : Int)) = decide (lo ≤ (x : Int)) := decide_eq_decide.2 (clp_in hx).1
  have h2 : decide ((x : Int) < clp hi) = decide ((x : Int) < hi) := decide_eq_decide.2 (clp_in hx).2
  rw [h1, h2]
theorem l5_rs {a b : List Rn} (ha : mayr 0 a = true) (hb : mayr 0 b = true) (lo hi : Int) : ∀ i, i < 5 → rs (q5 (mr a) (mr b) lo hi i) 65536 = l5 (pd fAnd a b) (pd fOr a b) (pd fNot a b) (pd fXor a b) (flr a lo hi) i := by
  intro i hi5
  match i, hi5 with
  | 0, _ => exact (pd_rs (t := fAnd) rfl ha hb).symm
  | 1, _ => exact (pd_rs (t := fOr) rfl ha hb).symm
  | 2, _ => exact (pd_rs (t := fNot) rfl ha hb).symm
  | 3, _ => exact (pd_rs (t := fXor) rfl ha hb).symm
  | 4, _ => exact (flr_rs ha lo hi).symm
theorem bump_cell {w : World} {base b n d k : Nat} {L : List Rn} {x : Rn} {Z : Int} (h : Gw2 eR w base (.slice (some ⟨b, 0, none⟩) n d) L) (hx : L[k]? = some x) (hz : Z = ((x.1 + 1).toNat : Int)) :
    Gw2 eR (w.setCell ⟨b, k * 2, none⟩ (.int .u16 Z)) base (.slice (some ⟨b, 0, none⟩) n d) (L.set k (x.1 + 1, x.2)) := by
  have h1 := h.stored1 k x (x.1 + 1, x.2) hx rfl
  have e : eR.fst (x.1 + 1, x.2) = .int .u16 Z := by rw [hz]; rfl
  rw [e, Nat.mul_comm 2 k] at h1
  exact h1
theorem step_less {n k : Nat} (h : k < n) : ((n : Int) - intOf (.int .i64 ((k : Int) + 1))).toNat < ((n : Int) - intOf (.int .i64 (k : Int))).toNat := by
  show ((n : Int) - ((k : Int) + 1)).toNat < ((n : Int) - (k : Int)).toNat
  omega
theorem step_less_w {n k : Nat} (h : k < n) (hw : wrap64 ((k : Int) + 1) = (k : Int) + 1) : ((n : Int) - intOf (.int .i64 (wrap64 ((k : Int) + 1)))).toNat < ((n : Int) - intOf (.int .i64 (k : Int))).toNat := by
  rw [hw]
  exact step_less h
theorem grown_own {w w1 : World} {b n d i : Nat} {u : Value} (h : w.grownBy w1 (Value.slice (some ⟨b, 0, none⟩) n d).ownBlock) : w.grownBy (w1.setCell ⟨b, i, none⟩ u) (Value.slice (some ⟨b, 0, none⟩) n d).ownBlock := World.grownBy.trans h (grown_set w1 b i u)
theorem mflip_p (g : Nat) (p : Nat → Bool) (lo hi : Int) (w : World) (h : Row w g 53 (mA 65536 p)) :
    Calls Try.prog 14 #[.pointer (some ⟨g, 0, none⟩), .int .i64 lo, .int .i64 hi] w fun e w' => ∃ g', e = .returned (.pointer (some ⟨g', 0, none⟩)) ∧ Row w' g' 53 (mA 65536 (flp p lo hi)) ∧ Below w.heap.size w w' :=
  (refFlip_any g p lo hi w h).mono fun e w' ⟨h1, h2, h3⟩ => ⟨_, h1, h2, h3⟩
theorem mboth_p (k : Nat) (hk : k < 4) (ga gb : Nat) (p q : Nat → Bool) (w : World) (ha : Row w ga 53 (mA 65536 p)) (hb : Row w gb 53 (mA 65536 q)) :
    Calls Try.prog 15 #[.pointer (some ⟨ga, 0, none⟩), .pointer (some ⟨gb, 0, none⟩), .int .i64 ((k : Int) + 1)] w fun e w' => ∃ g', e = .returned (.pointer (some ⟨g', 0, none⟩)) ∧ Row w' g' 53 (mA 65536 fun i => fs k (p i) (q i)) ∧ Below w.heap.size w w' :=
  (both_all k hk ga gb p q w ha hb).mono fun e w' ⟨h1, h2, h3⟩ => ⟨_, h1, h2, h3⟩
theorem Row.step {w w' : World} {g : Nat} {t : TypeId} {cs : Array Value} (h : Row w g t cs) (b : Below w.heap.size w w') : Row w' g t cs := h.below b h.lt

set_option maxHeartbeats 400000 in
theorem alg_long (a0 a1 : Option Addr) (len0 cap0 len1 cap1 : Nat) (lo hi : Int) (w : World) (h : 2000 < len0) (h2 : len0 ≤ 9223372036854775807) :
    Calls Try.prog 3 #[.slice a0 len0 cap0, .slice a1 len1 cap1, .int .i64 lo, .int .i64 hi] w fun e w' => e = .returned (.bool true) ∧ Below w.heap.size w w' := by
  have hi' : (len0 : Int) > 2000 := by omega
  clear h
  go_enter Try.func3, Try.ntmps3
  go_wp2_with (go_at_call 6; refine (known_any _).mono ?_; rintro e w1 ⟨rfl, b1⟩)
  go_ret
  exact ⟨rfl, b1⟩
set_option maxHeartbeats 400000 in
theorem alg_long2 (a0 a1 : Option Addr) (len0 cap0 len1 cap1 : Nat) (lo hi : Int) (w : World) (h0 : len0 ≤ 2000) (h : 2000 < len1) (h2 : len1 ≤ 9223372036854775807) :
    Calls Try.prog 3 #[.slice a0 len0 cap0, .slice a1 len1 cap1, .int .i64 lo, .int .i64 hi] w fun e w' => e = .returned (.bool true) ∧ Below w.heap.size w w' := by
  have hi' : (len1 : Int) > 2000 := by omega
  have hi0 : ¬ (len0 : Int) > 2000 := by omega
  clear h h0
  go_enter Try.func3, Try.ntmps3
  go_wp2_with (go_at_call 6; refine (known_any _).mono ?_; rintro e w1 ⟨rfl, b1⟩)
  go_ret
  exact ⟨rfl, b1⟩

set_option maxHeartbeats 16000000 in
set_option maxRecDepth 100000 in
theorem alg_all (v u : Value) (a b : List Rn) (lo hi : Int) (w : World) (hv : Gs2 eR w 0 w.heap.size v a) (hu : Gs2 eR w 0 w.heap.size u b) (ha : a.length ≤ 2000) (hb : b.length ≤ 2000) :
    Calls Try.prog 3 #[v, u, .int .i64 lo, .int .i64 hi] w fun e w' => e = .returned (.bool true) ∧ Below w.heap.size w w' := by
  have HVa := Lib.hid hv
  have HUa := Lib.hid hu
  have HV := Lib.hid hv
  have HU := Lib.hid hu
  have LA := Lib.hid ha
  have LB := Lib.hid hb
  obtain ⟨A0, c0, rfl, -⟩ := hv
  obtain ⟨A1, c1, rfl, -⟩ := hu
  have hn0 : ¬ (a.length : Int) > 2000 := by omega
  have hn1 : ¬ (b.length : Int) > 2000 := by omega
  have hd0 : decide ((a.length : Int) > 2000) = false := decide_eq_false hn0
  have hd1 : decide ((b.length : Int) > 2000) = false := decide_eq_false hn1
  clear ha hb
  obtain ⟨P0, hP0⟩ : ∃ P, pd fAnd a b = P := ⟨_, rfl⟩
  obtain ⟨P1, hP1⟩ : ∃ P, pd fOr a b = P := ⟨_, rfl⟩
  obtain ⟨P2, hP2⟩ : ∃ P, pd fNot a b = P := ⟨_, rfl⟩
  obtain ⟨P3, hP3⟩ : ∃ P, pd fXor a b = P := ⟨_, rfl⟩
  obtain ⟨P4, hP4⟩ : ∃ P, flr a lo hi = P := ⟨_, rfl⟩
  have E0 := Lib.hid hP0
  have E1 := Lib.hid hP1
  have E2 := Lib.hid hP2
  have E3 := Lib.hid hP3
  have E4 := Lib.hid hP4
  clear hP0 hP1 hP2 hP3 hP4
  go_enter Try.func3, Try.ntmps3
  go_wp2_with (first
    | (at_builtin; refine wpList_gapp2 eR _ rfl _ _ _ rfl w.heap.size sliR infR _ [] rfl (Gw2.empty_ _ _ (Nat.le_refl _)) 0 w.heap.size _ a rfl (HVa.out.alloc (Nat.le_refl _) _) (by have := LA.out; simp; omega) (by simp) ?_; intro v2 w2 o2 g2 hj; clear HVa hj; rw [List.nil_append] at o2; obtain ⟨A2, c2, rfl, -⟩ := o2.sl; have O2 := Lib.hid o2; have B2 := Lib.hid (((Below.refl _ _).alloc (Nat.le_refl _) _).grown g2 (by simp) (fun k h => by injection h with h; subst h; exact Nat.le_refl _) : Below w.heap.size w w2); clear o2 g2)
    | (at_builtin; refine wpList_gapp2 eR _ rfl _ _ _ rfl w2.heap.size sliR infR _ [] rfl (Gw2.empty_ _ _ (Nat.le_refl _)) 0 w.heap.size _ b rfl ((HUa.out.below B2.out).alloc B2.out.size _) (by have := LB.out; simp; omega) (by simp) ?_; intro v3 w3 o3 g3 hj; clear HUa hj; rw [List.nil_append] at o3; obtain ⟨A3, c3, rfl, -⟩ := o3.sl; have O3 := Lib.hid o3; have B3 := Lib.hid (((Below.refl _ _).alloc (Nat.le_refl _) _).grown g3 (by simp) (fun k h => by injection h with h; subst h; exact Nat.le_refl _) : Below w2.heap.size w2 w3); clear o3 g3))
  have B4 := Lib.hid (B2.out.trans (B3.out.mono B2.out.size))
  have X := Lib.hid ((O2.out.below B3.out (Nat.le_refl _)).sl.more (Nat.zero_le _) (Nat.le_refl _))
  have Y := Lib.hid (O3.out.sl.more (Nat.zero_le _) (Nat.le_refl _))
  have HV := Lib.hid (HV.out.step B4.out)
  have HU := Lib.hid (HU.out.step B4.out)
  clear B2 B3 O2 O3
  obtain ⟨w4, hw4⟩ : ∃ W : World, w3 = W := ⟨_, rfl⟩
  subst hw4
  have XS := X
  have YS := Y
  have HVS := HV
  have HUS := HU
  refine (zand _ _ a b P0 _ X.out Y.out LA.out LB.out E0.out).mono ?_
  rintro e w5 ⟨D0, d0, rfl, g5, b5⟩
  have HV := Lib.hid (HV.out.step b5)
  have HU := Lib.hid (HU.out.step b5)
  have X := Lib.hid (X.out.step b5)
  have Y := Lib.hid (Y.out.step b5)
  have B5 := Lib.hid (B4.out.trans (b5.mono B4.out.size))
  have Z5 := Lib.hid b5.size
  have ZB5 := Lib.hid b5
  have SG0 := Lib.hid (fun k hk => (g5.lt k hk).2)
  have G0 := Lib.hid g5
  clear g5 b5
  go_wp2_with fail
  refine (zor _ _ a b P1 _ X.out Y.out LA.out LB.out E1.out).mono ?_
  rintro e w6 ⟨D1, d1, rfl, g6, b6⟩
  have HV := Lib.hid (HV.out.step b6)
  have HU := Lib.hid (HU.out.step b6)
  have X := Lib.hid (X.out.step b6)
  have Y := Lib.hid (Y.out.step b6)
  have G0 := Lib.hid (G0.out.below b6 (Nat.le_refl _))
  have B6 := Lib.hid (B5.out.trans (b6.mono B5.out.size))
  have Z6 := Lib.hid b6.size
  have ZB6 := Lib.hid b6
  have SG1 := Lib.hid (fun k hk => (g6.lt k hk).2)
  have G1 := Lib.hid g6
  clear g6 b6
  go_wp2_with fail
  refine (znot _ _ a b P2 _ X.out Y.out LA.out LB.out E2.out).mono ?_
  rintro e w7 ⟨D2, d2, rfl, g7, b7⟩
  have HV := Lib.hid (HV.out.step b7)
  have HU := Lib.hid (HU.out.step b7)
  have X := Lib.hid (X.out.step b7)
  have Y := Lib.hid (Y.out.step b7)
  have G0 := Lib.hid (G0.out.below b7 (Nat.le_refl _))
  have G1 := Lib.hid (G1.out.below b7 (Nat.le_refl _))
  have B7 := Lib.hid (B6.out.trans (b7.mono B6.out.size))
  have Z7 := Lib.hid b7.size
  have ZB7 := Lib.hid b7
  have SG2 := Lib.hid (fun k hk => (g7.lt k hk).2)
  have G2 := Lib.hid g7
  clear g7 b7
  go_wp2_with fail
  refine (zxor _ _ a b P3 _ X.out Y.out LA.out LB.out E3.out).mono ?_
  rintro e w8 ⟨D3, d3, rfl, g8, b8⟩
  have HV := Lib.hid (HV.out.step b8)
  have HU := Lib.hid (HU.out.step b8)
  have X := Lib.hid (X.out.step b8)
  have Y := Lib.hid (Y.out.step b8)
  have G0 := Lib.hid (G0.out.below b8 (Nat.le_refl _))
  have G1 := Lib.hid (G1.out.below b8 (Nat.le_refl _))
  have G2 := Lib.hid (G2.out.below b8 (Nat.le_refl _))
  have B8 := Lib.hid (B7.out.trans (b8.mono B7.out.size))
  have Z8 := Lib.hid b8.size
  have ZB8 := Lib.hid b8
  have SG3 := Lib.hid (fun k hk => (g8.lt k hk).2)
  have G3 := Lib.hid g8
  clear g8 b8
  go_wp2_with fail
  refine (zflip _ a P4 lo hi _ X.out LA.out E4.out).mono ?_
  rintro e w9 ⟨D4, d4, rfl, g9, b9⟩
  have HV := Lib.hid (HV.out.step b9)
  have HU := Lib.hid (HU.out.step b9)
  have X := Lib.hid (X.out.step b9)
  have Y := Lib.hid (Y.out.step b9)
  have G0 := Lib.hid (G0.out.below b9 (Nat.le_refl _))
  have G1 := Lib.hid (G1.out.below b9 (Nat.le_refl _))
  have G2 := Lib.hid (G2.out.below b9 (Nat.le_refl _))
  have G3 := Lib.hid (G3.out.below b9 (Nat.le_refl _))
  have B9 := Lib.hid (B8.out.trans (b9.mono B8.out.size))
  have Z9 := Lib.hid b9.size
  have ZB9 := Lib.hid b9
  have SG4 := Lib.hid (fun k hk => (g9.lt k hk).2)
  have G4 := Lib.hid g9
  clear g9 b9
  go_wp2_with fail
  have r10 := Row.new w9 26 #[.slice D0 P0.length d0, .slice D1 P1.length d1, .slice D2 P2.length d2, .slice D3 P3.length d3, .slice D4 P4.length d4]
  have b10 : Below w9.heap.size w9 (w9.alloc (.cells #[.slice D0 P0.length d0, .slice D1 P1.length d1, .slice D2 P2.length d2, .slice D3 P3.length d3, .slice D4 P4.length d4] 26)) := (Below.refl _ _).alloc (Nat.le_refl _) _
  have zs : (w9.alloc (.cells #[.slice D0 P0.length d0, .slice D1 P1.length d1, .slice D2 P2.length d2, .slice D3 P3.length d3, .slice D4 P4.length d4] 26)).heap.size = w9.heap.size + 1 := by simp
  generalize w9.alloc (.cells #[.slice D0 P0.length d0, .slice D1 P1.length d1, .slice D2 P2.length d2, .slice D3 P3.length d3, .slice D4 P4.length d4] 26) = w10 at *
  have HV := Lib.hid (HV.out.step b10)
  have HU := Lib.hid (HU.out.step b10)
  have X := Lib.hid (X.out.step b10)
  have Y := Lib.hid (Y.out.step b10)
  have G0 := Lib.hid (G0.out.below b10 (Nat.le_refl _))
  have G1 := Lib.hid (G1.out.below b10 (Nat.le_refl _))
  have G2 := Lib.hid (G2.out.below b10 (Nat.le_refl _))
  have G3 := Lib.hid (G3.out.below b10 (Nat.le_refl _))
  have G4 := Lib.hid (G4.out.below b10 (Nat.le_refl _))
  have B10 := Lib.hid (B9.out.trans (b10.mono B9.out.size))
  have RX := Lib.hid r10
  obtain ⟨gx, hgx⟩ : ∃ g, g = w9.heap.size := ⟨_, rfl⟩
  rw [← hgx] at RX ⊢
  obtain ⟨bs, hbs⟩ : ∃ bs, bs = (f6 w3.heap.size w5.heap.size w6.heap.size w7.heap.size w8.heap.size w9.heap.size) := ⟨_, rfl⟩
  obtain ⟨sl, hsl⟩ : ∃ sl, sl = (v5 (.slice D0 P0.length d0) (.slice D1 P1.length d1) (.slice D2 P2.length d2) (.slice D3 P3.length d3) (.slice D4 P4.length d4)) := ⟨_, rfl⟩
  obtain ⟨ql, hql⟩ : ∃ ql, ql = (l5 P0 P1 P2 P3 P4) := ⟨_, rfl⟩
  have hmono : ∀ i j, i ≤ j → bs i ≤ bs j := by rw [hbs]; exact f6_mono Z5.out Z6.out Z7.out Z8.out Z9.out
  have hfar : ∀ j, j < 5 → ∃ D d, sl j = .slice D (ql j).length d ∧ ∀ k, (Value.slice D (ql j).length d).ownBlock = some k → k < bs (j + 1) ∧ k < gx := by
    have z1 := Z5.out
    have z2 := Z6.out
    have z3 := Z7.out
    have z4 := Z8.out
    have z5 := Z9.out
    have y0 := SG0.out
    have y1 := SG1.out
    have y2 := SG2.out
    have y3 := SG3.out
    have y4 := SG4.out
    intro j hj
    rw [hsl, hbs, hgx, hql]
    match j, hj with
    | 0, _ => exact ⟨D0, d0, rfl, fun k hk => ⟨y0 k hk, by have := y0 k hk; omega⟩⟩
    | 1, _ => exact ⟨D1, d1, rfl, fun k hk => ⟨y1 k hk, by have := y1 k hk; omega⟩⟩
    | 2, _ => exact ⟨D2, d2, rfl, fun k hk => ⟨y2 k hk, by have := y2 k hk; omega⟩⟩
    | 3, _ => exact ⟨D3, d3, rfl, fun k hk => ⟨y3 k hk, by have := y3 k hk; omega⟩⟩
    | 4, _ => exact ⟨D4, d4, rfl, fun k hk => ⟨y4 k hk, by have := y4 k hk; omega⟩⟩
  have hrem : Rem6 bs sl ql 0 w10 := by
    intro j _ hj
    rw [hsl, hbs, hql]
    match j, hj with
    | 0, _ => exact G0.out
    | 1, _ => exact G1.out
    | 2, _ => exact G2.out
    | 3, _ => exact G3.out
    | 4, _ => exact G4.out
  have hcell : ∀ j, j < 5 → #[.slice D0 P0.length d0, .slice D1 P1.length d1, .slice D2 P2.length d2, .slice D3 P3.length d3, .slice D4 P4.length d4][j]? = some (sl j) := fun j hj => by rw [hsl]; exact arr5 _ _ _ _ _ hj
  have hb0 : w3.heap.size ≤ bs 0 := by rw [hbs]; exact Nat.le_refl _
  have STAY := Lib.hid (show Below w3.heap.size w3 w10 from by
    have z1 := Z5.out
    have z2 := Z6.out
    have z3 := Z7.out
    have z4 := Z8.out
    have z5 := Z9.out
    exact ((((((Below.refl _ _).trans (ZB5.out.mono (Nat.le_refl _))).trans (ZB6.out.mono (by omega))).trans (ZB7.out.mono (by omega))).trans (ZB8.out.mono (by omega))).trans (ZB9.out.mono (by omega))).trans (b10.mono (by omega)))
  have MONO := Lib.hid hmono
  have FAR := Lib.hid hfar
  have REM := Lib.hid hrem
  have CELL := Lib.hid hcell
  have HB0 := Lib.hid hb0
  have HQL := Lib.hid hql
  have GXL := Lib.hid (show gx < w10.heap.size by rw [zs, hgx]; omega)
  clear hbs hsl hql hmono hfar hrem hcell hb0 hgx zs r10 b10 G0 G1 G2 G3 G4 SG0 SG1 SG2 SG3 SG4 ZB5 ZB6 ZB7 ZB8 ZB9 Z5 Z6 Z7 Z8 Z9 B5 B6 B7 B8 B9 X Y
  obtain ⟨cells, hcells⟩ : ∃ cells : Array Value, cells = #[.slice D0 P0.length d0, .slice D1 P1.length d1, .slice D2 P2.length d2, .slice D3 P3.length d3, .slice D4 P4.length d4] := ⟨_, rfl⟩
  rw [← hcells] at RX CELL
  clear hcells
  rcases hma : mayr 0 a with _ | _
  · refine (refmay_b _ a _ false HV.out hma).mono ?_
    rintro e w11 ⟨rfl, b0⟩
    have BB := Lib.hid (B10.out.trans (b0.mono B10.out.size))
    clear b0 hma
    go_wp2_with fail
    refine (known_any _).mono ?_
    rintro e w12 ⟨rfl, b0⟩
    have BB2 := Lib.hid (BB.out.trans (b0.mono BB.out.size))
    clear b0
    go_wp2_with fail
    go_ret
    exact ⟨rfl, BB2.out⟩
  · have HMA := Lib.hid hma
    refine (refmay_b _ a _ true HV.out hma).mono ?_
    rintro e w11 ⟨rfl, b0⟩
    have BB := Lib.hid (B10.out.trans (b0.mono B10.out.size))
    have HV := Lib.hid (HV.out.step b0)
    have HU := Lib.hid (HU.out.step b0)
    have REM := Lib.hid (REM.out.below b0)
    have RX := Lib.hid (RX.out.step b0)
    have STAY := Lib.hid (STAY.out.trans (b0.mono STAY.out.size))
    have GXL := Lib.hid (Nat.lt_of_lt_of_le GXL.out b0.size)
    clear b0 hma
    rcases hmb : mayr 0 b with _ | _
    · have HMB := Lib.hid hmb
      clear hmb
      go_wp2_with fail
      refine (refmay_b _ b _ false HU.out HMB.out).mono ?_
      rintro e w12 ⟨rfl, b0⟩
      have BB2 := Lib.hid (BB.out.trans (b0.mono BB.out.size))
      clear b0
      go_wp2_with fail
      refine (known_any _).mono ?_
      rintro e w13 ⟨rfl, b0⟩
      have BB3 := Lib.hid (BB2.out.trans (b0.mono BB2.out.size))
      clear b0
      go_wp2_with fail
      go_ret
      exact ⟨rfl, BB3.out⟩
    · have HMB := Lib.hid hmb
      have LQ := Lib.hid (show ∀ i, i < 5 → rs (q5 (mr a) (mr b) lo hi i) 65536 = ql i by rw [HQL.out, ← E0.out, ← E1.out, ← E2.out, ← E3.out, ← E4.out]; exact l5_rs HMA.out HMB.out lo hi)
      clear hmb HQL
      obtain ⟨p, hp⟩ : ∃ p, mr a = p := ⟨_, rfl⟩
      obtain ⟨q, hq⟩ : ∃ q, mr b = q := ⟨_, rfl⟩
      rw [hp, hq] at LQ
      have PA := Lib.hid hp
      have PB := Lib.hid hq
      clear hp hq
      go_wp2_with fail
      refine (refmay_b _ b _ true HU.out HMB.out).mono ?_
      rintro e w12 ⟨rfl, b0⟩
      have HV := Lib.hid (HV.out.step b0)
      have HU := Lib.hid (HU.out.step b0)
      have REM := Lib.hid (REM.out.below b0)
      have RX := Lib.hid (RX.out.step b0)
      have STAY := Lib.hid (STAY.out.trans (b0.mono STAY.out.size))
      have GXL := Lib.hid (Nat.lt_of_lt_of_le GXL.out b0.size)
      clear b0
      go_wp2_with fail
      refine (mmarks_p _ a p _ HV.out HMA.out PA.out).mono ?_
      rintro e w13 ⟨gm, rfl, h0, g0, b0⟩
      have HU := Lib.hid (HU.out.step b0)
      have REM := Lib.hid (REM.out.below b0)
      have RX := Lib.hid (RX.out.step b0)
      have STAY := Lib.hid (STAY.out.trans (b0.mono STAY.out.size))
      have GM := Lib.hid (Nat.lt_of_lt_of_le GXL.out h0)
      have GXL := Lib.hid (Nat.lt_of_lt_of_le GXL.out b0.size)
      have MA := Lib.hid g0
      clear b0 g0 h0
      go_wp2_with fail
      refine (mmarks_p _ b q _ HU.out HMB.out PB.out).mono ?_
      rintro e w14 ⟨gn, rfl, h0, g0, b0⟩
      have REM := Lib.hid (REM.out.below b0)
      have RX := Lib.hid (RX.out.step b0)
      have STAY := Lib.hid (STAY.out.trans (b0.mono STAY.out.size))
      have GN := Lib.hid (Nat.lt_of_lt_of_le GXL.out h0)
      have MA := Lib.hid (MA.out.step b0)
      have MB := Lib.hid g0
      clear b0 g0 h0 GXL HV HU
      go_wp2_with fail
      go_loopw [62] (fun s wr => ∃ i : Nat, i ≤ 5 ∧ s = .int .i64 i ∧ Rem6 bs sl ql i wr ∧ Row wr gx 26 cells ∧ Row wr gm 53 (mA 65536 p) ∧ Row wr gn 53 (mA 65536 q) ∧ Below w3.heap.size w3 wr) (fun i _ => ((5 : Int) - intOf i).toNat)
      case atStart => exact ⟨0, by omega, rfl, REM.out, RX.out, MA.out, MB.out, STAY.out⟩
      case round =>
        obtain ⟨i, hi5, rfl, hrem, hrx, hma, hmb, hst⟩ := hrel
        by_cases hlt : i < 5
        · obtain ⟨D, d, hsi, hb1⟩ := FAR.out i hlt
          have ho := hrem i (Nat.le_refl _) hlt
          have hcl := CELL.out i hlt
          have hlq := LQ.out i hlt
          rw [hsi] at ho hcl
          obtain ⟨R, hR⟩ : ∃ R, ql i = R := ⟨_, rfl⟩
          rw [hR] at ho hcl hlq hb1
          obtain ⟨n, hn⟩ : ∃ n, R.length = n := ⟨_, rfl⟩
          rw [hn] at ho hcl hb1
          have HN := Lib.hid hn
          have RL := Lib.hid hlq
          have OW := Lib.hid ho
          have CL := Lib.hid hcl
          have RM := Lib.hid hrem
          have RXr := Lib.hid hrx
          have SR := Lib.hid hst
          have MAr := Lib.hid hma
          have MBr := Lib.hid hmb
          have HI := Lib.hid hlt
          have HB1 := Lib.hid hb1
          have hii : (i : Int) < 5 := by omega
          clear hsi ho hcl hrem hrx hst hlt hb1 hi5 hma hmb hlq hn hR
          go_wp2_with fail
          refine (mflip_p gm p lo hi _ MAr.out).mono ?_
          rintro e wa ⟨gw, rfl, ga, ba⟩
          have OWa := Lib.hid (OW.out.below ba (Nat.le_refl _))
          have RMa := Lib.hid (RM.out.below ba)
          have RXa := Lib.hid (RXr.out.step ba)
          have SRa := Lib.hid (SR.out.trans (ba.mono SR.out.size))
          have MAa := Lib.hid (MAr.out.step ba)
          have MBa := Lib.hid (MBr.out.step ba)
          have GWa := Lib.hid ga
          clear ga ba OW RM RXr SR MAr MBr
          by_cases hi4 : i < 4
          · have hii4 : (i : Int) < 4 := by omega
            have ww : IntKind.i64.wrap ((i : Int) + 1) = (i : Int) + 1 := by rw [IntKind.wrap_i64]; omega
            have HI4 := Lib.hid hi4
            clear hi4
            go_wp2_with fail
            refine (mboth_p i HI4.out gm gn p q _ MAa.out MBa.out).mono ?_
            rw [show (fun x => fs i (p x) (q x)) = q5 p q lo hi i from by funext x; unfold q5; rw [if_pos HI4.out]]
            rintro e wk ⟨gv, rfl, gk, bk⟩
            have OWk := Lib.hid (OWa.out.below bk (Nat.le_refl _))
            have RMk := Lib.hid (RMa.out.below bk)
            have RXk := Lib.hid (RXa.out.step bk)
            have SRk := Lib.hid (SRa.out.trans (bk.mono SRa.out.size))
            have MAk := Lib.hid (MAa.out.step bk)
            have MBk := Lib.hid (MBa.out.step bk)
            have GWk := Lib.hid gk
            clear gk bk OWa RMa RXa SRa MAa MBa GWa
            have KK := Lib.hid (show ∀ W, Below wk.heap.size wk W → W.cell? ⟨gx, i, none⟩ = some (.slice D n d) from fun W hW => ((RXk.out.step hW).cell i).trans CL.out)
            have hSc : Below wk.heap.size wk wk.drew := (Below.refl wk.heap.size wk).drew
            go_wp2_with fail
            refine wp_region_held_drew (S := fun W => Below wk.heap.size wk W) (by kernel_rfl) hSc (fun _ => ?_)
            refine held_take 0 ?_ rfl (by kernel_rfl) (by kernel_rfl) (by kernel_rfl) (fun _ _ _ h => h) (by rfl) ?_ hSc ?_
            rotate_left
            · (intro W hSW; go_simp; try rfl)
            try simp only [Act.put, List.setIfInBounds_toArray, List.set_cons_zero, List.set_cons_succ]
            refine held_take 1 ?_ rfl (by kernel_rfl) (by kernel_rfl) (by kernel_rfl) (fun _ _ _ h => h) (by rfl) ?_ hSc ?_
            rotate_left
            · (intro W hSW; go_simp; try rfl)
            try simp only [Act.put, List.setIfInBounds_toArray, List.set_cons_zero, List.set_cons_succ]
            refine held_take 2 ?_ rfl (by kernel_rfl) (by kernel_rfl) (by kernel_rfl) (fun _ _ _ h => h) (by rfl) ?_ hSc ?_
            rotate_left
            · (intro W hSW; have k1 := KK.out W hSW; go_simp; try rfl)
            try simp only [Act.put, List.setIfInBounds_toArray, List.set_cons_zero, List.set_cons_succ]
            refine held_take 3 ?_ rfl (by kernel_rfl) (by kernel_rfl) (by kernel_rfl) (fun _ _ _ h => h) (by rfl) ?_ hSc ?_
            rotate_left
            · (intro W hSW; go_simp; try rfl)
            try simp only [Act.put, List.setIfInBounds_toArray, List.set_cons_zero, List.set_cons_succ]
            refine held_next 4 rfl (by kernel_rfl) (by rfl) ?_
            go_simp
            refine (mruns_p gv _ R _ (GWk.out.step hSc) RL.out).mono ?_
            rintro e wq1 ⟨Aq, cq, rfl, gq, bq⟩
            have hbq : Below wk.heap.size wk wq1 := hSc.trans (bq.mono hSc.size)
            refine ⟨fun W => Below wk.heap.size wk W, fun W hW => hW, hbq, ?_⟩
            have GR := Lib.hid gq
            clear gq
            clear hSc bq
            have hSc : Below wk.heap.size wk wq1 := hbq
            clear hbq
            try simp only [Act.put, List.setIfInBounds_toArray, List.set_cons_zero, List.set_cons_succ]
            refine held_next 5 rfl (by kernel_rfl) (by rfl) ?_
            go_simp
            refine (lsame _ _ R R _ (((OWk.out.below hSc (Nat.le_refl _)).sl).more (Nat.zero_le _) (Nat.le_refl _)) GR.out rfl).mono ?_
            rintro e wq2 ⟨rfl, bq⟩
            have hbq : Below wk.heap.size wk wq2 := hSc.trans (bq.mono hSc.size)
            refine ⟨fun W => Below wk.heap.size wk W, fun W hW => hW, hbq, ?_⟩
            clear GR
            clear hSc bq
            have hSc : Below wk.heap.size wk wq2 := hbq
            clear hbq
            try simp only [Act.put, List.setIfInBounds_toArray, List.set_cons_zero, List.set_cons_succ]
            refine held_next 6 rfl (by kernel_rfl) (by rfl) ?_
            go_simp
            refine ⟨fun W => Below wk.heap.size wk W, fun W hW => hW, hSc, ?_⟩
            refine wpAnyH_done (by kernel_rfl) ?_ _
            have OWz := Lib.hid (OWk.out.below hSc (Nat.le_refl _))
            have RMz := Lib.hid (RMk.out.below hSc)
            have RXz := Lib.hid (RXk.out.step hSc)
            have MAz := Lib.hid (MAk.out.step hSc)
            have MBz := Lib.hid (MBk.out.step hSc)
            have kz := KK.out _ hSc
            have SRz := Lib.hid (SRk.out.trans (hSc.mono SRk.out.size))
            clear hSc KK OWk RMk RXk SRk GWk MAk MBk
            generalize hwz : (wq2 : World) = wz at *
            clear hwz
            go_wp2_with fail
            clear kz
            go_loopw [87] (fun s ws' => ∃ k : Nat, k ≤ n ∧ s = .int .i64 k ∧ wz.grownBy ws' (Value.slice D n d).ownBlock ∧ ∃ L : List Rn, L.length = n ∧ Gw2 eR ws' (bs i) (.slice D n d) L) (fun k _ => ((n : Int) - intOf k).toNat)
            case atStart => exact ⟨0, by omega, rfl, World.grownBy.refl _ _, _, HN.out, OWz.out⟩
            case round =>
              obtain ⟨k, hk, rfl, hg, L, hL, hw⟩ := hrel
              have hrx' := RXz.out.grown hg (fun e => by have := (HB1.out _ e).2; omega)
              by_cases hkl : k < n
              · have k1 := (hrx'.cell i).trans CL.out
                obtain ⟨b', c', e', -, -, -, -, hcl, hfr⟩ := hw.form (by rintro rfl; simp at hL; omega)
                have e1 : D = some ⟨b', 0, none⟩ := (Value.slice.inj e').1
                subst e1
                obtain ⟨x, hx⟩ : ∃ x, L[k]? = some x := ⟨_, List.getElem?_eq_getElem (by omega)⟩
                have k2 := hfr (2 * k)
                have k3 := (hcl k x hx).1
                simp only [eR] at k3
                have hki : (k : Int) < n := by omega
                have HKL := Lib.hid hkl
                have HLL := Lib.hid hL
                have HG := Lib.hid hg
                have HW := Lib.hid hw
                have HX := Lib.hid hx
                obtain ⟨z, hz⟩ : ∃ z : Int, z = (x.1.toNat : Int) := ⟨_, rfl⟩
                rw [← hz] at k3
                have HZ := Lib.hid hz
                rw [Nat.mul_comm 2 k] at k2 k3
                have hnl := OWz.out.sl.len
                have hnn := HN.out
                have wk1 : wrap64 ((k : Int) + 1) = (k : Int) + 1 := by unfold wrap64; omega
                clear hnl hnn
                have WK := Lib.hid wk1
                have e3 : IntKind.u16.wrap (z + 1) = ((x.1 + 1).toNat : Int) := by rw [hz, IntKind.wrap_u16, UInt16.toNat_add]; simp
                have E3' := Lib.hid e3
                clear e3
                clear e' hcl hfr hkl hL hg hw hk hz hrx' hx
                go_wp2
                refine ⟨⟨k + 1, HKL.out, by go_num, grown_own HG.out, L.set k (x.1 + 1, x.2), by rw [List.length_set]; exact HLL.out, ?_⟩, step_less_w HKL.out WK.out⟩
                exact bump_cell HW.out HX.out E3'.out
              · obtain rfl : k = n := by omega
                have MAn := Lib.hid (MAz.out.grown hg (fun e => by have := (HB1.out _ e).2; have := GM.out; omega))
                have MBn := Lib.hid (MBz.out.grown hg (fun e => by have := (HB1.out _ e).2; have := GN.out; omega))
                have RMn := Lib.hid (RMz.out.grown hg (fun j e => (HB1.out j e).1) MONO.out)
                have SRn := Lib.hid (SRz.out.grown hg SRz.out.size (fun j e => Nat.le_trans (Nat.le_trans HB0.out (MONO.out 0 i (Nat.zero_le _))) (hw.lt j e).1))
                have RXn := Lib.hid hrx'
                clear hg hL hw hrx' hk
                go_wp2
                refine ⟨⟨i + 1, HI.out, by go_num, RMn.out, RXn.out, MAn.out, MBn.out, SRn.out⟩, step_less HI.out⟩
          · have hii4 : ¬ (i : Int) < 4 := by omega
            have hq5 : flp p lo hi = q5 p q lo hi i := by funext x; unfold q5; rw [if_neg hi4]
            rw [hq5] at GWa
            clear hi4 hq5
            have KK := Lib.hid (show ∀ W, Below wa.heap.size wa W → W.cell? ⟨gx, i, none⟩ = some (.slice D n d) from fun W hW => ((RXa.out.step hW).cell i).trans CL.out)
            have hSc : Below wa.heap.size wa wa.drew := (Below.refl wa.heap.size wa).drew
            go_wp2_with fail
            refine wp_region_held_drew (S := fun W => Below wa.heap.size wa W) (by kernel_rfl) hSc (fun _ => ?_)
            refine held_take 0 ?_ rfl (by kernel_rfl) (by kernel_rfl) (by kernel_rfl) (fun _ _ _ h => h) (by rfl) ?_ hSc ?_
            rotate_left
            · (intro W hSW; go_simp; try rfl)
            try simp only [Act.put, List.setIfInBounds_toArray, List.set_cons_zero, List.set_cons_succ]
            refine held_take 1 ?_ rfl (by kernel_rfl) (by kernel_rfl) (by kernel_rfl) (fun _ _ _ h => h) (by rfl) ?_ hSc ?_
            rotate_left
            · (intro W hSW; go_simp; try rfl)
            try simp only [Act.put, List.setIfInBounds_toArray, List.set_cons_zero, List.set_cons_succ]
            refine held_take 2 ?_ rfl (by kernel_rfl) (by kernel_rfl) (by kernel_rfl) (fun _ _ _ h => h) (by rfl) ?_ hSc ?_
            rotate_left
            · (intro W hSW; have k1 := KK.out W hSW; go_simp; try rfl)
            try simp only [Act.put, List.setIfInBounds_toArray, List.set_cons_zero, List.set_cons_succ]
            refine held_take 3 ?_ rfl (by kernel_rfl) (by kernel_rfl) (by kernel_rfl) (fun _ _ _ h => h) (by rfl) ?_ hSc ?_
            rotate_left
            · (intro W hSW; go_simp; try rfl)
            try simp only [Act.put, List.setIfInBounds_toArray, List.set_cons_zero, List.set_cons_succ]
            refine held_next 4 rfl (by kernel_rfl) (by rfl) ?_
            go_simp
            refine (mruns_p gw _ R _ (GWa.out.step hSc) RL.out).mono ?_
            rintro e wq1 ⟨Aq, cq, rfl, gq, bq⟩
            have hbq : Below wa.heap.size wa wq1 := hSc.trans (bq.mono hSc.size)
            refine ⟨fun W => Below wa.heap.size wa W, fun W hW => hW, hbq, ?_⟩
            have GR := Lib.hid gq
            clear gq
            clear hSc bq
            have hSc : Below wa.heap.size wa wq1 := hbq
            clear hbq
            try simp only [Act.put, List.setIfInBounds_toArray, List.set_cons_zero, List.set_cons_succ]
            refine held_next 5 rfl (by kernel_rfl) (by rfl) ?_
            go_simp
            refine (lsame _ _ R R _ (((OWa.out.below hSc (Nat.le_refl _)).sl).more (Nat.zero_le _) (Nat.le_refl _)) GR.out rfl).mono ?_
            rintro e wq2 ⟨rfl, bq⟩
            have hbq : Below wa.heap.size wa wq2 := hSc.trans (bq.mono hSc.size)
            refine ⟨fun W => Below wa.heap.size wa W, fun W hW => hW, hbq, ?_⟩
            clear GR
            clear hSc bq
            have hSc : Below wa.heap.size wa wq2 := hbq
            clear hbq
            try simp only [Act.put, List.setIfInBounds_toArray, List.set_cons_zero, List.set_cons_succ]
            refine held_next 6 rfl (by kernel_rfl) (by rfl) ?_
            go_simp
            refine ⟨fun W => Below wa.heap.size wa W, fun W hW => hW, hSc, ?_⟩
            refine wpAnyH_done (by kernel_rfl) ?_ _
            have OWz := Lib.hid (OWa.out.below hSc (Nat.le_refl _))
            have RMz := Lib.hid (RMa.out.below hSc)
            have RXz := Lib.hid (RXa.out.step hSc)
            have MAz := Lib.hid (MAa.out.step hSc)
            have MBz := Lib.hid (MBa.out.step hSc)
            have kz := KK.out _ hSc
            have SRz := Lib.hid (SRa.out.trans (hSc.mono SRa.out.size))
            clear hSc KK OWa RMa RXa SRa GWa MAa MBa
            generalize hwz : (wq2 : World) = wz at *
            clear hwz
            go_wp2_with fail
            clear kz
            go_loopw [87] (fun s ws' => ∃ k : Nat, k ≤ n ∧ s = .int .i64 k ∧ wz.grownBy ws' (Value.slice D n d).ownBlock ∧ ∃ L : List Rn, L.length = n ∧ Gw2 eR ws' (bs i) (.slice D n d) L) (fun k _ => ((n : Int) - intOf k).toNat)
            case atStart => exact ⟨0, by omega, rfl, World.grownBy.refl _ _, _, HN.out, OWz.out⟩
            case round =>
              obtain ⟨k, hk, rfl, hg, L, hL, hw⟩ := hrel
              have hrx' := RXz.out.grown hg (fun e => by have := (HB1.out _ e).2; omega)
              by_cases hkl : k < n
              · have k1 := (hrx'.cell i).trans CL.out
                obtain ⟨b', c', e', -, -, -, -, hcl, hfr⟩ := hw.form (by rintro rfl; simp at hL; omega)
                have e1 : D = some ⟨b', 0, none⟩ := (Value.slice.inj e').1
                subst e1
                obtain ⟨x, hx⟩ : ∃ x, L[k]? = some x := ⟨_, List.getElem?_eq_getElem (by omega)⟩
                have k2 := hfr (2 * k)
                have k3 := (hcl k x hx).1
                simp only [eR] at k3
                have hki : (k : Int) < n := by omega
                have HKL := Lib.hid hkl
                have HLL := Lib.hid hL
                have HG := Lib.hid hg
                have HW := Lib.hid hw
                have HX := Lib.hid hx
                obtain ⟨z, hz⟩ : ∃ z : Int, z = (x.1.toNat : Int) := ⟨_, rfl⟩
                rw [← hz] at k3
                have HZ := Lib.hid hz
                rw [Nat.mul_comm 2 k] at k2 k3
                have hnl := OWz.out.sl.len
                have hnn := HN.out
                have wk1 : wrap64 ((k : Int) + 1) = (k : Int) + 1 := by unfold wrap64; omega
                clear hnl hnn
                have WK := Lib.hid wk1
                have e3 : IntKind.u16.wrap (z + 1) = ((x.1 + 1).toNat : Int) := by rw [hz, IntKind.wrap_u16, UInt16.toNat_add]; simp
                have E3' := Lib.hid e3
                clear e3
                clear e' hcl hfr hkl hL hg hw hk hz hrx' hx
                go_wp2
                refine ⟨⟨k + 1, HKL.out, by go_num, grown_own HG.out, L.set k (x.1 + 1, x.2), by rw [List.length_set]; exact HLL.out, ?_⟩, step_less_w HKL.out WK.out⟩
                exact bump_cell HW.out HX.out E3'.out
              · obtain rfl : k = n := by omega
                have MAn := Lib.hid (MAz.out.grown hg (fun e => by have := (HB1.out _ e).2; have := GM.out; omega))
                have MBn := Lib.hid (MBz.out.grown hg (fun e => by have := (HB1.out _ e).2; have := GN.out; omega))
                have RMn := Lib.hid (RMz.out.grown hg (fun j e => (HB1.out j e).1) MONO.out)
                have SRn := Lib.hid (SRz.out.grown hg SRz.out.size (fun j e => Nat.le_trans (Nat.le_trans HB0.out (MONO.out 0 i (Nat.zero_le _))) (hw.lt j e).1))
                have RXn := Lib.hid hrx'
                clear hg hL hw hrx' hk
                go_wp2
                refine ⟨⟨i + 1, HI.out, by go_num, RMn.out, RXn.out, MAn.out, MBn.out, SRn.out⟩, step_less HI.out⟩
        · obtain rfl : i = 5 := by omega
          have XR := Lib.hid (XS.out.step hst)
          have YR := Lib.hid (YS.out.step hst)
          have VR := Lib.hid (HVS.out.step hst)
          have UR := Lib.hid (HUS.out.step hst)
          have BR := Lib.hid (B4.out.trans (hst.mono B4.out.size))
          clear hrem hrx hst hi5 hma hmb
          go_wp2_with fail
          refine (lsame _ _ a a _ XR.out VR.out rfl).mono ?_
          rintro e x1 ⟨rfl, z7⟩
          have YR := Lib.hid (YR.out.step z7)
          have UR := Lib.hid (UR.out.step z7)
          have BR := Lib.hid (BR.out.trans (z7.mono BR.out.size))
          clear z7
          go_wp2_with fail
          refine (lsame _ _ b b _ YR.out UR.out rfl).mono ?_
          rintro e x2 ⟨rfl, z7⟩
          have BR := Lib.hid (BR.out.trans (z7.mono BR.out.size))
          clear z7
          go_wp2_with fail
          refine (known_any _).mono ?_
          rintro e x3 ⟨rfl, z7⟩
          have BR := Lib.hid (BR.out.trans (z7.mono BR.out.size))
          clear z7
          go_wp2_with fail
          go_ret
          exact ⟨rfl, BR.out⟩
end Go.Proofs.Ytgkelfhmpeakkaa
