/- Walks: RoaringCopies. -/
import Derived.Test.YtcmifbjeabkihabGreatDoorJ15
import Derived.Test.YtcmifbjeabkihabGreatDoorJ7
namespace Go.Proofs.YtcmifbjeabkihabGreatDoor
open Go.RowKit
set_option linter.unusedVariables false

theorem add_c {N : Nat → Prop} (v s : Value) (P : Nat → Bool) (b x : Nat) (es : List En) (w : World) (hTO : ∀ W, Off (fun k => k = b ∨ s.ownBlock = some k) w W → Tb W) (hN : ∀ k, w.heap.size ≤ k → N k) (S : Sx N w v P b 65536 s es) (hx : x < 4294967296) :
    Calls Tryz.prog 11 #[v, .int .u32 (x : Int)] w (AddAns N w v (pl P x) b s) := by
  cases hp : P x with
  | true => exact add_has v s P b x es w S hx hp
  | false =>
    cases hz : nz P (x / 65536) with
    | true => exact add_there v s P b x es w hTO hN S hx hp hz
    | false => exact add_new v s P b x es w hTO hN S hx hp hz
theorem cspans_any (v : Value) (l : List Sn) (P : Nat → Bool) (w : World) (hP : P = clp32 l) (hT : Tb w) (hv : Gs2 eSp w 0 w.heap.size v l) (hl : l.length ≤ 1000000) : Calls Tryz.prog 6 #[v] w (OfAns w P) := by
  subst hP
  exact (spans_c (N := fun _ => True) v l w hT (fun _ _ => trivial) hv hl).mono fun e w' h => Made.ans h
theorem one_any (v : Value) (u : UInt32) (O : Nat → Bool) (w : World) (hO : O = mk32 [u]) (hT : Tb w) (hv : Gs e32 w 0 w.heap.size v [u]) : Calls Tryz.prog 13 #[v] w (OfAns w O) := by
  subst hO
  exact (of_small (N := fun _ => True) v [u] w hT (fun _ _ => trivial) hv (by simp) (by simp) (by simp)).mono fun e w' h => h.ans
theorem cor_p (v u : Value) (P Q : Nat → Bool) (w : World) (hT : Tb w) (hv : St (fun _ => True) w v P) (hu : St (fun _ => True) w u Q) : Calls Tryz.prog 14 #[v, u] w (OfAns w fun x => fOr (P x) (Q x)) :=
  (setOr_c (N := fun _ => True) v u P Q w hT (fun _ _ => trivial) hv hu).mono fun e w' h => Made.ans h
theorem cnot_p (v u : Value) (P Q : Nat → Bool) (w : World) (hT : Tb w) (hv : St (fun _ => True) w v P) (hu : St (fun _ => True) w u Q) : Calls Tryz.prog 12 #[v, u] w (OfAns w fun x => fNot (P x) (Q x)) :=
  (setAndNot_c (N := fun _ => True) v u P Q w hT (fun _ _ => trivial) hv hu).mono fun e w' h => Made.ans h
theorem csame_p (v u : Value) (P Q : Nat → Bool) (B : Bool) (w : World) (he : B = true ↔ ∀ x, x < 4294967296 → P x = Q x) (hT : Tb w) (hv : St (fun _ => True) w v P) (hu : St (fun _ => True) w u Q) :
    Calls Tryz.prog 8 #[v, u] w fun e w' => e = .returned (.bool B) ∧ Below w.heap.size w w' :=
  (setsame_c (N := fun _ => True) v u P Q w hT (fun _ _ => trivial) hv hu).mono fun e w' ⟨B', h1, h2, h3⟩ => ⟨by rw [h1, show B' = B from Bool.eq_iff_iff.2 (h2.trans he.symm)], h3⟩
theorem chas_p (v : Value) (P : Nat → Bool) (x : Nat) (B : Bool) (w : World) (hx : x < 4294967296) (hp : P x = B) (h : St (fun _ => True) w v P) :
    Calls Tryz.prog 9 #[v, .int .u32 (x : Int)] w fun e w' => e = .returned (.bool B) ∧ Below w.heap.size w w' := by
  rw [← hp]; exact sethas_c v P x w h hx
theorem ct_less (Q : Nat → Bool) (x : Nat) (hq : Q x = true) : ∀ n, x < n → ct (fun y => fNot (Q y) (decide (x = y))) n + 1 = ct Q n
  | 0, h => absurd h (Nat.not_lt_zero _)
  | n + 1, h => by
    have s1 : ct (fun y => fNot (Q y) (decide (x = y))) (n + 1) = ct (fun y => fNot (Q y) (decide (x = y))) n + (fNot (Q n) (decide (x = n))).toNat := rfl
    have s2 : ct Q (n + 1) = ct Q n + (Q n).toNat := rfl
    rw [s1, s2]
    rcases Nat.lt_or_eq_of_le (Nat.le_of_lt_succ h) with h1 | h1
    · have ih := ct_less Q x hq n h1
      rw [decide_eq_false (by omega : ¬ x = n)]
      have e : (fNot (Q n) false).toNat = (Q n).toNat := by cases Q n <;> rfl
      omega
    · subst h1
      have e1 : ct (fun y => fNot (Q y) (decide (x = y))) x = ct Q x := ct_ext fun j hj => by
        rw [decide_eq_false (by omega : ¬ x = j)]
        cases Q j <;> rfl
      rw [e1, hq, decide_eq_true rfl]
      rfl
theorem mk_one (u : UInt32) (y : Nat) : mk32 [u] y = decide (u.toNat = y) := by simp [mk32]
/-- What is asked of the numbers here. -/
structure CopyN (P Q D O : Nat → Bool) (x n q d : Nat) (h : Bool) : Prop where
  fh : P x = h
  fn : ct P 4294967296 = n
  fq : ct Q 4294967296 = q
  fd : ct D 4294967296 = d
  qx : Q x = true
  dx : D x = false
  s1 : h = true ↔ ∀ y, y < 4294967296 → Q y = P y
  s2 : false = true ↔ ∀ y, y < 4294967296 → D y = Q y
  s3 : true = true ↔ ∀ y, y < 4294967296 → fOr (D y) (O y) = Q y
  w : IntKind.i64.wrap ((q : Int) - 1) = (d : Int) ∧ wrap64 ((q : Int) - 1) = (d : Int)
theorem copyN (P : Nat → Bool) (u : UInt32) : CopyN P (pl P u.toNat) (fun y => fNot (pl P u.toNat y) (mk32 [u] y)) (mk32 [u]) u.toNat (ct P 4294967296) (ct (pl P u.toNat) 4294967296) (ct (fun y => fNot (pl P u.toNat y) (mk32 [u] y)) 4294967296) (P u.toNat) := by
  have hx : u.toNat < 4294967296 := u.toNat_lt
  have hqx : pl P u.toNat u.toNat = true := by unfold pl; simp
  have hct : ct (fun y => fNot (pl P u.toNat y) (mk32 [u] y)) 4294967296 + 1 = ct (pl P u.toNat) 4294967296 := by
    rw [← ct_less (pl P u.toNat) u.toNat hqx _ hx]
    congr 2
    funext y
    rw [mk_one]
  have hq := ct_le (pl P u.toNat) 4294967296
  have hw : ∀ (q d : Nat), d + 1 = q → q ≤ 4294967296 → IntKind.i64.wrap ((q : Int) - 1) = (d : Int) ∧ wrap64 ((q : Int) - 1) = (d : Int) := fun q d h1 h2 => by
    have e : (q : Int) - 1 = d := by omega
    rw [e]
    exact ⟨by rw [IntKind.wrap_i64]; omega, by unfold wrap64; omega⟩
  refine ⟨rfl, rfl, rfl, rfl, hqx, ?_, ⟨fun h y hy => by rw [pl_has h], fun h => (h _ hx).symm.trans hqx⟩, ⟨fun h => absurd h (by simp), fun h => ?_⟩, ⟨fun _ y hy => ?_, fun _ => rfl⟩, hw _ _ hct hq⟩
  · show fNot _ _ = false
    rw [mk_one, hqx]
    simp [fNot]
  · have := h _ hx
    rw [hqx, mk_one] at this
    simp [fNot] at this
  · show fOr (fNot _ _) _ = _
    rw [mk_one]
    by_cases h : u.toNat = y
    · subst h; rw [hqx]; simp [fOr, fNot]
    · rw [decide_eq_false h]
      cases pl P u.toNat y <;> rfl
set_option maxHeartbeats 4000000 in
set_option maxRecDepth 100000 in
theorem copies_great (A : Option Addr) (c : Nat) (l : List Sn) (x : Nat) (w : World) (hT : Tb w) (hv : Gs2 eSp w 0 w.heap.size (.slice A l.length c) l) (hl : l.length ≤ 8796093022209) (hg : grt l = true) :
    Calls Tryz.prog 3 #[.slice A l.length c, .int .u32 (x : Int)] w fun e w' => e = .returned (.bool true) ∧ Below w.heap.size w w' := by
  have CG := Lib.hid (fun (v : Value) (W : World) (h : Gs2 eSp W 0 W.heap.size v l) => great_is v l true W hg hl h)
  have TT := Lib.hid hT
  have HV := Lib.hid hv
  clear hT hv hl hg
  go_enter Tryz.func3, Tryz.ntmps3
  go_wp2_with fail
  refine (CG.out _ w HV.out).mono ?_
  rintro e u1 ⟨rfl, bq1⟩
  have B1 := Lib.hid bq1
  clear bq1 HV
  go_wp2_with fail
  refine (known8 u1 (TT.out.step B1.out)).mono ?_
  rintro e u2 ⟨rfl, bq2⟩
  have B2 := Lib.hid (below_both B1.out bq2)
  clear bq2 
  go_wp2
  go_ret
  exact ⟨rfl, B2.out⟩
set_option maxHeartbeats 40000000 in
set_option maxRecDepth 100000 in
theorem copies_t (A : Option Addr) (c : Nat) (l : List Sn) (x n q d : Nat) (u : UInt32) (P Q D O : Nat → Bool) (w : World) (hT : Tb w) (hv : Gs2 eSp w 0 w.heap.size (.slice A l.length c) l) (hl : l.length ≤ 8796093022209) (hg : grt l = false)
    (hu : x = u.toNat) (hx : x < 4294967296) (hP : P = clp32 l) (hQ : Q = pl P x) (hO : O = mk32 [u]) (hD : D = fun y => fNot (Q y) (O y)) (hN : CopyN P Q D O x n q d true) :
    Calls Tryz.prog 3 #[.slice A l.length c, .int .u32 (x : Int)] w fun e w' => e = .returned (.bool true) ∧ Below w.heap.size w w' := by
  have CG := Lib.hid (fun (v : Value) (W : World) (h : Gs2 eSp W 0 W.heap.size v l) => great_is v l false W hg hl h)
  have h60 := (grt_no hg).1
  have CSP := Lib.hid (fun (v : Value) (W : World) (h1 : Tb W) (h2 : Gs2 eSp W 0 W.heap.size v l) => cspans_any v l P W hP h1 h2 (by omega))
  have COF := Lib.hid (fun (v : Value) (W : World) (h1 : Tb W) (h2 : Gs e32 W 0 W.heap.size v [u]) => one_any v u O W hO h1 h2)
  have CLN := Lib.hid (fun (v : Value) (W : World) (h : St (fun _ => True) W v P) => setlen_c v P n W h hN.fn)
  have CLQ := Lib.hid (fun (v : Value) (W : World) (h : St (fun _ => True) W v Q) => setlen_c v Q q W h hN.fq)
  have CLD := Lib.hid (fun (v : Value) (W : World) (h : St (fun _ => True) W v D) => setlen_c v D d W h hN.fd)
  have CHP := Lib.hid (fun (v : Value) (W : World) (h : St (fun _ => True) W v P) => chas_p v P x true W hx hN.fh h)
  have CHQ := Lib.hid (fun (v : Value) (W : World) (h : St (fun _ => True) W v Q) => chas_p v Q x true W hx hN.qx h)
  have CHD := Lib.hid (fun (v : Value) (W : World) (h : St (fun _ => True) W v D) => chas_p v D x false W hx hN.dx h)
  have CS1 := Lib.hid (fun (v u : Value) (W : World) (h1 : Tb W) (h2 : St (fun _ => True) W v P) (h3 : St (fun _ => True) W u P) => csame_p v u P P true W ⟨fun _ _ _ => rfl, fun _ => rfl⟩ h1 h2 h3)
  have CS2 := Lib.hid (fun (v u : Value) (W : World) (h1 : Tb W) (h2 : St (fun _ => True) W v Q) (h3 : St (fun _ => True) W u P) => csame_p v u Q P true W hN.s1 h1 h2 h3)
  have CS3 := Lib.hid (fun (v u : Value) (W : World) (h1 : Tb W) (h2 : St (fun _ => True) W v D) (h3 : St (fun _ => True) W u Q) => csame_p v u D Q false W hN.s2 h1 h2 h3)
  have CS4 := Lib.hid (fun (v u : Value) (W : World) (h1 : Tb W) (h2 : St (fun _ => True) W v fun y => fOr (D y) (O y)) (h3 : St (fun _ => True) W u Q) => csame_p v u _ Q true W hN.s3 h1 h2 h3)
  have CDN := Lib.hid (fun (v u : Value) (W : World) (h1 : Tb W) (h2 : St (fun _ => True) W v Q) (h3 : St (fun _ => True) W u O) => show Calls Tryz.prog 12 #[v, u] W (OfAns W D) from hD ▸ cnot_p v u Q O W h1 h2 h3)
  have CLIT := Lib.hid (fun (W : World) => show Gs e32 (W.alloc (.cells #[.int .u32 (x : Int)] 23)) 0 (W.alloc (.cells #[.int .u32 (x : Int)] 23)).heap.size (.slice (some ⟨W.heap.size, 0, none⟩) 1 1) [u] from lit32 W [u] #[.int .u32 (x : Int)] 1 (by rw [hu]; rfl) rfl (by omega))
  have HQ := Lib.hid hQ
  obtain ⟨w1, w1b⟩ := hN.w
  have TT := Lib.hid hT
  have HV := Lib.hid hv
  have HX := Lib.hid hx
  clear hT hv hl hg hu hP hQ hO hD hN h60 hx
  go_enter Tryz.func3, Tryz.ntmps3
  go_wp2_with fail
  refine (CG.out _ w HV.out).mono ?_
  rintro e u1 ⟨rfl, bq1⟩
  have A_1 := Lib.hid (HV.out.step bq1)
  have B1 := Lib.hid bq1
  clear bq1 HV
  go_wp2_with fail
  refine (CSP.out _ u1 (TT.out.step B1.out) A_1.out).mono ?_
  rintro e u2 ⟨b2, rfl, t2, bq2⟩
  have S_2 := Lib.hid t2
  have B2 := Lib.hid (below_both B1.out bq2)
  clear bq2 A_1 t2
  have TW := Lib.hid (TT.out.step B2.out)
  go_wp2_with fail
  refine (copy_c (N := fun _ => True) _ P u2 (fun _ _ => trivial) S_2.out).mono ?_
  rintro e u3 ⟨bc, NC, slc, esc, rfl, sc, nxc, hbc, hoc, bq3⟩
  have C_3 := Lib.hid sc
  have B3 := Lib.hid bq3
  clear bq3 sc
  have HNC : Hid (∀ y, u3.heap.size ≤ y → NC y) := Lib.hid (fun y hy => nxc.new y hy trivial)
  have HBC := Lib.hid hbc
  have HOC := Lib.hid hoc
  clear nxc hbc hoc
  go_wp2_with fail
  refine (CS1.out _ _ u3 (TW.out.step B3.out) (C_3.out.st.mono fun _ _ _ => trivial) (S_2.out.step B3.out)).mono ?_
  rintro e u4 ⟨rfl, bq4⟩
  have SZ4 : Hid (u3.heap.size ≤ u4.heap.size) := Lib.hid (Nat.le_trans (Nat.le_refl _) bq4.size)
  have C_4 := Lib.hid (C_3.out.step bq4)
  have B4 := Lib.hid (below_both B3.out bq4)
  clear bq4 C_3
  go_wp2_with fail
  refine (CS1.out _ _ u4 (TW.out.step B4.out) (S_2.out.step B4.out) (C_4.out.st.mono fun _ _ _ => trivial)).mono ?_
  rintro e u5 ⟨rfl, bq5⟩
  have SZ5 : Hid (u3.heap.size ≤ u5.heap.size) := Lib.hid (Nat.le_trans (SZ4.out) bq5.size)
  have C_5 := Lib.hid (C_4.out.step bq5)
  have B5 := Lib.hid (below_both B4.out bq5)
  clear bq5 C_4
  go_wp2_with fail
  refine (CHP.out _ u5 (S_2.out.step B5.out)).mono ?_
  rintro e u6 ⟨rfl, bq6⟩
  have SZ6 : Hid (u3.heap.size ≤ u6.heap.size) := Lib.hid (Nat.le_trans (SZ5.out) bq6.size)
  have C_6 := Lib.hid (C_5.out.step bq6)
  have B6 := Lib.hid (below_both B5.out bq6)
  clear bq6 C_5
  go_wp2_with fail
  refine (CLN.out _ u6 (S_2.out.step B6.out)).mono ?_
  rintro e u7 ⟨rfl, bq7⟩
  have SZ7 : Hid (u3.heap.size ≤ u7.heap.size) := Lib.hid (Nat.le_trans (SZ6.out) bq7.size)
  have C_7 := Lib.hid (C_6.out.step bq7)
  have B7 := Lib.hid (below_both B6.out bq7)
  clear bq7 C_6
  go_wp2_with fail
  have hsz : u3.heap.size ≤ u7.heap.size := SZ7.out
  have hO : ∀ k, k < u7.heap.size → (k = bc ∨ slc.ownBlock = some k) → u2.heap.size ≤ k := fun k _ hk => hk.elim (fun e => by rw [e]; exact HBC.out) (fun e => HOC.out k e)
  refine (add_c _ slc P bc x esc u7 (fun W o => TW.out.step (B7.out.trans (o.below hO B7.out.size))) (fun y hy => HNC.out y (Nat.le_trans hsz hy)) C_7.out HX.out).mono ?_
  rintro e u8 ⟨rfl, N2, s2, es2, sx2, -, oo⟩
  have B8 := Lib.hid (B7.out.trans (oo.below hO B7.out.size))
  have C_8 : Hid (St (fun _ => True) u8 (.pointer (some ⟨bc, 0, none⟩)) Q) := Lib.hid (by rw [HQ.out]; exact sx2.st.mono fun _ _ _ => trivial)
  clear sx2 oo hO hsz C_7
  go_wp2_with fail
  refine (CS2.out _ _ u8 (TW.out.step B8.out) C_8.out (S_2.out.step B8.out)).mono ?_
  rintro e u9 ⟨rfl, bq9⟩
  have C_9 := Lib.hid (C_8.out.step bq9)
  have B9 := Lib.hid (below_both B8.out bq9)
  clear bq9 C_8
  go_wp2_with fail
  refine (CHP.out _ u9 (S_2.out.step B9.out)).mono ?_
  rintro e u10 ⟨rfl, bq10⟩
  have C_10 := Lib.hid (C_9.out.step bq10)
  have B10 := Lib.hid (below_both B9.out bq10)
  clear bq10 C_9
  go_wp2_with fail
  refine (CLN.out _ u10 (S_2.out.step B10.out)).mono ?_
  rintro e u11 ⟨rfl, bq11⟩
  have C_11 := Lib.hid (C_10.out.step bq11)
  have B11 := Lib.hid (below_both B10.out bq11)
  clear bq11 C_10
  go_wp2_with fail
  refine (CHQ.out _ u11 C_11.out).mono ?_
  rintro e u12 ⟨rfl, bq12⟩
  have C_12 := Lib.hid (C_11.out.step bq12)
  have B12 := Lib.hid (below_both B11.out bq12)
  clear bq12 C_11
  go_wp2_with fail
  have bq13 := bx u12 (.cells #[.int .u32 (x : Int)] 23)
  have gL_13 := CLIT.out u12
  generalize u12.alloc (.cells #[.int .u32 (x : Int)] 23) = u13 at *
  have L_13 := Lib.hid gL_13
  have C_13 := Lib.hid (C_12.out.step bq13)
  have B13 := Lib.hid (below_both B12.out bq13)
  clear bq13 C_12 gL_13
  refine (COF.out _ u13 (TW.out.step B13.out) L_13.out).mono ?_
  rintro e u14 ⟨b14, rfl, t14, bq14⟩
  have O_14 := Lib.hid t14
  have C_14 := Lib.hid (C_13.out.step bq14)
  have B14 := Lib.hid (below_both B13.out bq14)
  clear bq14 C_13 L_13 t14
  go_wp2_with fail
  refine (CDN.out _ _ u14 (TW.out.step B14.out) C_14.out O_14.out).mono ?_
  rintro e u15 ⟨b15, rfl, t15, bq15⟩
  have D_15 := Lib.hid t15
  have C_15 := Lib.hid (C_14.out.step bq15)
  have B15 := Lib.hid (below_both B14.out bq15)
  clear bq15 C_14 O_14 t15
  go_wp2_with fail
  refine (CHD.out _ u15 D_15.out).mono ?_
  rintro e u16 ⟨rfl, bq16⟩
  have C_16 := Lib.hid (C_15.out.step bq16)
  have D_16 := Lib.hid (D_15.out.step bq16)
  have B16 := Lib.hid (below_both B15.out bq16)
  clear bq16 C_15 D_15
  go_wp2_with fail
  refine (CLD.out _ u16 D_16.out).mono ?_
  rintro e u17 ⟨rfl, bq17⟩
  have C_17 := Lib.hid (C_16.out.step bq17)
  have D_17 := Lib.hid (D_16.out.step bq17)
  have B17 := Lib.hid (below_both B16.out bq17)
  clear bq17 C_16 D_16
  go_wp2_with fail
  refine (CLQ.out _ u17 C_17.out).mono ?_
  rintro e u18 ⟨rfl, bq18⟩
  have C_18 := Lib.hid (C_17.out.step bq18)
  have D_18 := Lib.hid (D_17.out.step bq18)
  have B18 := Lib.hid (below_both B17.out bq18)
  clear bq18 C_17 D_17
  go_wp2_with fail
  refine (CS3.out _ _ u18 (TW.out.step B18.out) D_18.out C_18.out).mono ?_
  rintro e u19 ⟨rfl, bq19⟩
  have C_19 := Lib.hid (C_18.out.step bq19)
  have D_19 := Lib.hid (D_18.out.step bq19)
  have B19 := Lib.hid (below_both B18.out bq19)
  clear bq19 C_18 D_18
  go_wp2_with fail
  have bq20 := bx u19 (.cells #[.int .u32 (x : Int)] 23)
  have gL_20 := CLIT.out u19
  generalize u19.alloc (.cells #[.int .u32 (x : Int)] 23) = u20 at *
  have L_20 := Lib.hid gL_20
  have C_20 := Lib.hid (C_19.out.step bq20)
  have D_20 := Lib.hid (D_19.out.step bq20)
  have B20 := Lib.hid (below_both B19.out bq20)
  clear bq20 C_19 D_19 gL_20
  refine (COF.out _ u20 (TW.out.step B20.out) L_20.out).mono ?_
  rintro e u21 ⟨b21, rfl, t21, bq21⟩
  have O_21 := Lib.hid t21
  have C_21 := Lib.hid (C_20.out.step bq21)
  have D_21 := Lib.hid (D_20.out.step bq21)
  have B21 := Lib.hid (below_both B20.out bq21)
  clear bq21 C_20 D_20 L_20 t21
  go_wp2_with fail
  refine (cor_p _ _ D O u21 (TW.out.step B21.out) D_21.out O_21.out).mono ?_
  rintro e u22 ⟨b22, rfl, t22, bq22⟩
  have E_22 := Lib.hid t22
  have C_22 := Lib.hid (C_21.out.step bq22)
  have B22 := Lib.hid (below_both B21.out bq22)
  clear bq22 C_21 D_21 O_21 t22
  go_wp2_with fail
  refine (CS4.out _ _ u22 (TW.out.step B22.out) E_22.out C_22.out).mono ?_
  rintro e u23 ⟨rfl, bq23⟩
  have B23 := Lib.hid (below_both B22.out bq23)
  clear bq23 C_22 E_22
  go_wp2_with fail
  refine (known8 u23 (TW.out.step B23.out)).mono ?_
  rintro e u24 ⟨rfl, bq24⟩
  have B24 := Lib.hid (below_both B23.out bq24)
  clear bq24 
  go_wp2
  go_ret
  exact ⟨rfl, below_both B2.out B24.out⟩
set_option maxHeartbeats 40000000 in
set_option maxRecDepth 100000 in
theorem copies_f (A : Option Addr) (c : Nat) (l : List Sn) (x n q d : Nat) (u : UInt32) (P Q D O : Nat → Bool) (w : World) (hT : Tb w) (hv : Gs2 eSp w 0 w.heap.size (.slice A l.length c) l) (hl : l.length ≤ 8796093022209) (hg : grt l = false)
    (hu : x = u.toNat) (hx : x < 4294967296) (hP : P = clp32 l) (hQ : Q = pl P x) (hO : O = mk32 [u]) (hD : D = fun y => fNot (Q y) (O y)) (hN : CopyN P Q D O x n q d false) :
    Calls Tryz.prog 3 #[.slice A l.length c, .int .u32 (x : Int)] w fun e w' => e = .returned (.bool true) ∧ Below w.heap.size w w' := by
  have CG := Lib.hid (fun (v : Value) (W : World) (h : Gs2 eSp W 0 W.heap.size v l) => great_is v l false W hg hl h)
  have h60 := (grt_no hg).1
  have CSP := Lib.hid (fun (v : Value) (W : World) (h1 : Tb W) (h2 : Gs2 eSp W 0 W.heap.size v l) => cspans_any v l P W hP h1 h2 (by omega))
  have COF := Lib.hid (fun (v : Value) (W : World) (h1 : Tb W) (h2 : Gs e32 W 0 W.heap.size v [u]) => one_any v u O W hO h1 h2)
  have CLN := Lib.hid (fun (v : Value) (W : World) (h : St (fun _ => True) W v P) => setlen_c v P n W h hN.fn)
  have CLQ := Lib.hid (fun (v : Value) (W : World) (h : St (fun _ => True) W v Q) => setlen_c v Q q W h hN.fq)
  have CLD := Lib.hid (fun (v : Value) (W : World) (h : St (fun _ => True) W v D) => setlen_c v D d W h hN.fd)
  have CHP := Lib.hid (fun (v : Value) (W : World) (h : St (fun _ => True) W v P) => chas_p v P x false W hx hN.fh h)
  have CHQ := Lib.hid (fun (v : Value) (W : World) (h : St (fun _ => True) W v Q) => chas_p v Q x true W hx hN.qx h)
  have CHD := Lib.hid (fun (v : Value) (W : World) (h : St (fun _ => True) W v D) => chas_p v D x false W hx hN.dx h)
  have CS1 := Lib.hid (fun (v u : Value) (W : World) (h1 : Tb W) (h2 : St (fun _ => True) W v P) (h3 : St (fun _ => True) W u P) => csame_p v u P P true W ⟨fun _ _ _ => rfl, fun _ => rfl⟩ h1 h2 h3)
  have CS2 := Lib.hid (fun (v u : Value) (W : World) (h1 : Tb W) (h2 : St (fun _ => True) W v Q) (h3 : St (fun _ => True) W u P) => csame_p v u Q P false W hN.s1 h1 h2 h3)
  have CS3 := Lib.hid (fun (v u : Value) (W : World) (h1 : Tb W) (h2 : St (fun _ => True) W v D) (h3 : St (fun _ => True) W u Q) => csame_p v u D Q false W hN.s2 h1 h2 h3)
  have CS4 := Lib.hid (fun (v u : Value) (W : World) (h1 : Tb W) (h2 : St (fun _ => True) W v fun y => fOr (D y) (O y)) (h3 : St (fun _ => True) W u Q) => csame_p v u _ Q true W hN.s3 h1 h2 h3)
  have CDN := Lib.hid (fun (v u : Value) (W : World) (h1 : Tb W) (h2 : St (fun _ => True) W v Q) (h3 : St (fun _ => True) W u O) => show Calls Tryz.prog 12 #[v, u] W (OfAns W D) from hD ▸ cnot_p v u Q O W h1 h2 h3)
  have CLIT := Lib.hid (fun (W : World) => show Gs e32 (W.alloc (.cells #[.int .u32 (x : Int)] 23)) 0 (W.alloc (.cells #[.int .u32 (x : Int)] 23)).heap.size (.slice (some ⟨W.heap.size, 0, none⟩) 1 1) [u] from lit32 W [u] #[.int .u32 (x : Int)] 1 (by rw [hu]; rfl) rfl (by omega))
  have HQ := Lib.hid hQ
  obtain ⟨w1, w1b⟩ := hN.w
  have TT := Lib.hid hT
  have HV := Lib.hid hv
  have HX := Lib.hid hx
  clear hT hv hl hg hu hP hQ hO hD hN h60 hx
  go_enter Tryz.func3, Tryz.ntmps3
  go_wp2_with fail
  refine (CG.out _ w HV.out).mono ?_
  rintro e u1 ⟨rfl, bq1⟩
  have A_1 := Lib.hid (HV.out.step bq1)
  have B1 := Lib.hid bq1
  clear bq1 HV
  go_wp2_with fail
  refine (CSP.out _ u1 (TT.out.step B1.out) A_1.out).mono ?_
  rintro e u2 ⟨b2, rfl, t2, bq2⟩
  have S_2 := Lib.hid t2
  have B2 := Lib.hid (below_both B1.out bq2)
  clear bq2 A_1 t2
  have TW := Lib.hid (TT.out.step B2.out)
  go_wp2_with fail
  refine (copy_c (N := fun _ => True) _ P u2 (fun _ _ => trivial) S_2.out).mono ?_
  rintro e u3 ⟨bc, NC, slc, esc, rfl, sc, nxc, hbc, hoc, bq3⟩
  have C_3 := Lib.hid sc
  have B3 := Lib.hid bq3
  clear bq3 sc
  have HNC : Hid (∀ y, u3.heap.size ≤ y → NC y) := Lib.hid (fun y hy => nxc.new y hy trivial)
  have HBC := Lib.hid hbc
  have HOC := Lib.hid hoc
  clear nxc hbc hoc
  go_wp2_with fail
  refine (CS1.out _ _ u3 (TW.out.step B3.out) (C_3.out.st.mono fun _ _ _ => trivial) (S_2.out.step B3.out)).mono ?_
  rintro e u4 ⟨rfl, bq4⟩
  have SZ4 : Hid (u3.heap.size ≤ u4.heap.size) := Lib.hid (Nat.le_trans (Nat.le_refl _) bq4.size)
  have C_4 := Lib.hid (C_3.out.step bq4)
  have B4 := Lib.hid (below_both B3.out bq4)
  clear bq4 C_3
  go_wp2_with fail
  refine (CS1.out _ _ u4 (TW.out.step B4.out) (S_2.out.step B4.out) (C_4.out.st.mono fun _ _ _ => trivial)).mono ?_
  rintro e u5 ⟨rfl, bq5⟩
  have SZ5 : Hid (u3.heap.size ≤ u5.heap.size) := Lib.hid (Nat.le_trans (SZ4.out) bq5.size)
  have C_5 := Lib.hid (C_4.out.step bq5)
  have B5 := Lib.hid (below_both B4.out bq5)
  clear bq5 C_4
  go_wp2_with fail
  refine (CHP.out _ u5 (S_2.out.step B5.out)).mono ?_
  rintro e u6 ⟨rfl, bq6⟩
  have SZ6 : Hid (u3.heap.size ≤ u6.heap.size) := Lib.hid (Nat.le_trans (SZ5.out) bq6.size)
  have C_6 := Lib.hid (C_5.out.step bq6)
  have B6 := Lib.hid (below_both B5.out bq6)
  clear bq6 C_5
  go_wp2_with fail
  refine (CLN.out _ u6 (S_2.out.step B6.out)).mono ?_
  rintro e u7 ⟨rfl, bq7⟩
  have SZ7 : Hid (u3.heap.size ≤ u7.heap.size) := Lib.hid (Nat.le_trans (SZ6.out) bq7.size)
  have C_7 := Lib.hid (C_6.out.step bq7)
  have B7 := Lib.hid (below_both B6.out bq7)
  clear bq7 C_6
  go_wp2_with fail
  have hsz : u3.heap.size ≤ u7.heap.size := SZ7.out
  have hO : ∀ k, k < u7.heap.size → (k = bc ∨ slc.ownBlock = some k) → u2.heap.size ≤ k := fun k _ hk => hk.elim (fun e => by rw [e]; exact HBC.out) (fun e => HOC.out k e)
  refine (add_c _ slc P bc x esc u7 (fun W o => TW.out.step (B7.out.trans (o.below hO B7.out.size))) (fun y hy => HNC.out y (Nat.le_trans hsz hy)) C_7.out HX.out).mono ?_
  rintro e u8 ⟨rfl, N2, s2, es2, sx2, -, oo⟩
  have B8 := Lib.hid (B7.out.trans (oo.below hO B7.out.size))
  have C_8 : Hid (St (fun _ => True) u8 (.pointer (some ⟨bc, 0, none⟩)) Q) := Lib.hid (by rw [HQ.out]; exact sx2.st.mono fun _ _ _ => trivial)
  clear sx2 oo hO hsz C_7
  go_wp2_with fail
  refine (CS2.out _ _ u8 (TW.out.step B8.out) C_8.out (S_2.out.step B8.out)).mono ?_
  rintro e u9 ⟨rfl, bq9⟩
  have C_9 := Lib.hid (C_8.out.step bq9)
  have B9 := Lib.hid (below_both B8.out bq9)
  clear bq9 C_8
  go_wp2_with fail
  refine (CHP.out _ u9 (S_2.out.step B9.out)).mono ?_
  rintro e u10 ⟨rfl, bq10⟩
  have C_10 := Lib.hid (C_9.out.step bq10)
  have B10 := Lib.hid (below_both B9.out bq10)
  clear bq10 C_9
  go_wp2_with fail
  refine (CLN.out _ u10 (S_2.out.step B10.out)).mono ?_
  rintro e u11 ⟨rfl, bq11⟩
  have C_11 := Lib.hid (C_10.out.step bq11)
  have B11 := Lib.hid (below_both B10.out bq11)
  clear bq11 C_10
  go_wp2_with fail
  refine (CHQ.out _ u11 C_11.out).mono ?_
  rintro e u12 ⟨rfl, bq12⟩
  have C_12 := Lib.hid (C_11.out.step bq12)
  have B12 := Lib.hid (below_both B11.out bq12)
  clear bq12 C_11
  go_wp2_with fail
  have bq13 := bx u12 (.cells #[.int .u32 (x : Int)] 23)
  have gL_13 := CLIT.out u12
  generalize u12.alloc (.cells #[.int .u32 (x : Int)] 23) = u13 at *
  have L_13 := Lib.hid gL_13
  have C_13 := Lib.hid (C_12.out.step bq13)
  have B13 := Lib.hid (below_both B12.out bq13)
  clear bq13 C_12 gL_13
  refine (COF.out _ u13 (TW.out.step B13.out) L_13.out).mono ?_
  rintro e u14 ⟨b14, rfl, t14, bq14⟩
  have O_14 := Lib.hid t14
  have C_14 := Lib.hid (C_13.out.step bq14)
  have B14 := Lib.hid (below_both B13.out bq14)
  clear bq14 C_13 L_13 t14
  go_wp2_with fail
  refine (CDN.out _ _ u14 (TW.out.step B14.out) C_14.out O_14.out).mono ?_
  rintro e u15 ⟨b15, rfl, t15, bq15⟩
  have D_15 := Lib.hid t15
  have C_15 := Lib.hid (C_14.out.step bq15)
  have B15 := Lib.hid (below_both B14.out bq15)
  clear bq15 C_14 O_14 t15
  go_wp2_with fail
  refine (CHD.out _ u15 D_15.out).mono ?_
  rintro e u16 ⟨rfl, bq16⟩
  have C_16 := Lib.hid (C_15.out.step bq16)
  have D_16 := Lib.hid (D_15.out.step bq16)
  have B16 := Lib.hid (below_both B15.out bq16)
  clear bq16 C_15 D_15
  go_wp2_with fail
  refine (CLD.out _ u16 D_16.out).mono ?_
  rintro e u17 ⟨rfl, bq17⟩
  have C_17 := Lib.hid (C_16.out.step bq17)
  have D_17 := Lib.hid (D_16.out.step bq17)
  have B17 := Lib.hid (below_both B16.out bq17)
  clear bq17 C_16 D_16
  go_wp2_with fail
  refine (CLQ.out _ u17 C_17.out).mono ?_
  rintro e u18 ⟨rfl, bq18⟩
  have C_18 := Lib.hid (C_17.out.step bq18)
  have D_18 := Lib.hid (D_17.out.step bq18)
  have B18 := Lib.hid (below_both B17.out bq18)
  clear bq18 C_17 D_17
  go_wp2_with fail
  refine (CS3.out _ _ u18 (TW.out.step B18.out) D_18.out C_18.out).mono ?_
  rintro e u19 ⟨rfl, bq19⟩
  have C_19 := Lib.hid (C_18.out.step bq19)
  have D_19 := Lib.hid (D_18.out.step bq19)
  have B19 := Lib.hid (below_both B18.out bq19)
  clear bq19 C_18 D_18
  go_wp2_with fail
  have bq20 := bx u19 (.cells #[.int .u32 (x : Int)] 23)
  have gL_20 := CLIT.out u19
  generalize u19.alloc (.cells #[.int .u32 (x : Int)] 23) = u20 at *
  have L_20 := Lib.hid gL_20
  have C_20 := Lib.hid (C_19.out.step bq20)
  have D_20 := Lib.hid (D_19.out.step bq20)
  have B20 := Lib.hid (below_both B19.out bq20)
  clear bq20 C_19 D_19 gL_20
  refine (COF.out _ u20 (TW.out.step B20.out) L_20.out).mono ?_
  rintro e u21 ⟨b21, rfl, t21, bq21⟩
  have O_21 := Lib.hid t21
  have C_21 := Lib.hid (C_20.out.step bq21)
  have D_21 := Lib.hid (D_20.out.step bq21)
  have B21 := Lib.hid (below_both B20.out bq21)
  clear bq21 C_20 D_20 L_20 t21
  go_wp2_with fail
  refine (cor_p _ _ D O u21 (TW.out.step B21.out) D_21.out O_21.out).mono ?_
  rintro e u22 ⟨b22, rfl, t22, bq22⟩
  have E_22 := Lib.hid t22
  have C_22 := Lib.hid (C_21.out.step bq22)
  have B22 := Lib.hid (below_both B21.out bq22)
  clear bq22 C_21 D_21 O_21 t22
  go_wp2_with fail
  refine (CS4.out _ _ u22 (TW.out.step B22.out) E_22.out C_22.out).mono ?_
  rintro e u23 ⟨rfl, bq23⟩
  have B23 := Lib.hid (below_both B22.out bq23)
  clear bq23 C_22 E_22
  go_wp2_with fail
  refine (known8 u23 (TW.out.step B23.out)).mono ?_
  rintro e u24 ⟨rfl, bq24⟩
  have B24 := Lib.hid (below_both B23.out bq24)
  clear bq24 
  go_wp2
  go_ret
  exact ⟨rfl, below_both B2.out B24.out⟩
theorem copies_any (A : Option Addr) (c : Nat) (l : List Sn) (u : UInt32) (w : World) (hT : Tb w) (hv : Gs2 eSp w 0 w.heap.size (.slice A l.length c) l) (hl : l.length ≤ 8796093022209) :
    Calls Tryz.prog 3 #[.slice A l.length c, .int .u32 (u.toNat : Int)] w fun e w' => e = .returned (.bool true) ∧ Below w.heap.size w w' := by
  cases hg : grt l with
  | true => exact copies_great A c l _ w hT hv hl hg
  | false =>
    have hN := copyN (clp32 l) u
    cases hp : clp32 l u.toNat with
    | true => rw [hp] at hN; exact copies_t A c l _ _ _ _ u _ _ _ _ w hT hv hl hg rfl u.toNat_lt rfl rfl rfl rfl hN
    | false => rw [hp] at hN; exact copies_f A c l _ _ _ _ u _ _ _ _ w hT hv hl hg rfl u.toNat_lt rfl rfl rfl rfl hN
end Go.Proofs.YtcmifbjeabkihabGreatDoor
