/- Proved of WordsArrays: whatever its arguments. -/
import Derived.Test.YtgegpbchjkfdkaaDoorE8
import Derived.Test.YtgegpbchjkfdkaaDoorRg
namespace Go.Proofs.YtgegpbchjkfdkaaDoor
open Go.RowKit
set_option linter.unusedVariables false

set_option maxHeartbeats 400000 in
theorem wa_long (a0 a1 : Option Addr) (len0 cap0 len1 cap1 : Nat) (w : World) (hT : Tb w) (h : 3000 < len0) (h2 : len0 ≤ 9223372036854775807) :
    Calls Tryd.prog 6 #[.slice a0 len0 cap0, .slice a1 len1 cap1] w fun e w' => e = .returned (.bool true) ∧ Below w.heap.size w w' := by
  have hi : (3000 : Int) < len0 := by omega
  clear h
  go_enter Tryd.func6, Tryd.ntmps6
  go_wp2_with (go_at_call 8; refine (known_p _ hT).mono ?_; rintro e w1 ⟨rfl, b1⟩)
  go_ret
  exact ⟨rfl, b1⟩
set_option maxHeartbeats 400000 in
theorem wa_long2 (a0 a1 : Option Addr) (len0 cap0 len1 cap1 : Nat) (w : World) (hT : Tb w) (h0 : len0 ≤ 3000) (h : 3000 < len1) (h2 : len1 ≤ 9223372036854775807) :
    Calls Tryd.prog 6 #[.slice a0 len0 cap0, .slice a1 len1 cap1] w fun e w' => e = .returned (.bool true) ∧ Below w.heap.size w w' := by
  have hi : (3000 : Int) < len1 := by omega
  have hi0 : (len0 : Int) ≤ 3000 := by omega
  clear h h0
  go_enter Tryd.func6, Tryd.ntmps6
  go_wp2_with (go_at_call 8; refine (known_p _ hT).mono ?_; rintro e w1 ⟨rfl, b1⟩)
  go_ret
  exact ⟨rfl, b1⟩

theorem mk_ls (p : Nat → Bool) {x : Nat} (hx : x < 65536) : mk (ls p 65536) x = p x := by
  have e : x = (UInt16.ofNat x).toNat := (u16_of x hx).symm
  rw [e, Bool.eq_iff_iff, mk_iff, ls_mem p 65536 (Nat.le_refl _), u16_of x hx]
  exact ⟨fun h => h.2, fun h => ⟨hx, h⟩⟩
theorem aand_p (v u : Value) (p q : Nat → Bool) (n : Nat) (w : World) (hv : Gs e16 w 0 w.heap.size v (ls p 65536)) (hu : Gs e16 w 0 w.heap.size u (ls q 65536)) (hn : ct (fun x => fAnd (p x) (q x)) 65536 = n) :
    Calls Tryd.prog 30 #[v, u] w fun e w' => ∃ A c, e = .returned (.slice A n c) ∧ Gs e16 w' 0 w'.heap.size (.slice A n c) (ls (fun x => fAnd (p x) (q x)) 65536) ∧ Below w.heap.size w w' := by
  refine (and_any v u _ _ 0 w hv hu (Nat.le_trans (ls_len p 65536) (by omega)) (Nat.le_trans (ls_len q 65536) (by omega))).mono ?_
  rintro e w' ⟨v', rfl, o, b⟩
  rw [ls_mg fAnd rfl (ris_ls p 65536 (Nat.le_refl _)) (ris_ls q 65536 (Nat.le_refl _))] at o
  have e1 : ls (fun i => fAnd (mk (ls p 65536) i) (mk (ls q 65536) i)) 65536 = ls (fun x => fAnd (p x) (q x)) 65536 := ls_ext fun j hj => by rw [mk_ls p hj, mk_ls q hj]
  rw [e1] at o
  have s := o.sl.more (Nat.zero_le _) (Nat.le_refl _)
  obtain ⟨A, c, rfl, -⟩ := o.sl
  rw [ls_ct, hn] at s ⊢
  exact ⟨A, c, rfl, s, b⟩
theorem aor_p (v u : Value) (p q : Nat → Bool) (n : Nat) (w : World) (hv : Gs e16 w 0 w.heap.size v (ls p 65536)) (hu : Gs e16 w 0 w.heap.size u (ls q 65536)) (hn : ct (fun x => fOr (p x) (q x)) 65536 = n) :
    Calls Tryd.prog 31 #[v, u] w fun e w' => ∃ A c, e = .returned (.slice A n c) ∧ Gs e16 w' 0 w'.heap.size (.slice A n c) (ls (fun x => fOr (p x) (q x)) 65536) ∧ Below w.heap.size w w' := by
  refine (or_any v u _ _ 0 w hv hu (Nat.le_trans (ls_len p 65536) (by omega)) (Nat.le_trans (ls_len q 65536) (by omega))).mono ?_
  rintro e w' ⟨v', rfl, o, b⟩
  rw [ls_mg fOr rfl (ris_ls p 65536 (Nat.le_refl _)) (ris_ls q 65536 (Nat.le_refl _))] at o
  have e1 : ls (fun i => fOr (mk (ls p 65536) i) (mk (ls q 65536) i)) 65536 = ls (fun x => fOr (p x) (q x)) 65536 := ls_ext fun j hj => by rw [mk_ls p hj, mk_ls q hj]
  rw [e1] at o
  have s := o.sl.more (Nat.zero_le _) (Nat.le_refl _)
  obtain ⟨A, c, rfl, -⟩ := o.sl
  rw [ls_ct, hn] at s ⊢
  exact ⟨A, c, rfl, s, b⟩
theorem anot_p (v u : Value) (p q : Nat → Bool) (n : Nat) (w : World) (hv : Gs e16 w 0 w.heap.size v (ls p 65536)) (hu : Gs e16 w 0 w.heap.size u (ls q 65536)) (hn : ct (fun x => fNot (p x) (q x)) 65536 = n) :
    Calls Tryd.prog 32 #[v, u] w fun e w' => ∃ A c, e = .returned (.slice A n c) ∧ Gs e16 w' 0 w'.heap.size (.slice A n c) (ls (fun x => fNot (p x) (q x)) 65536) ∧ Below w.heap.size w w' := by
  refine (not_any v u _ _ 0 w hv hu (Nat.le_trans (ls_len p 65536) (by omega)) (Nat.le_trans (ls_len q 65536) (by omega))).mono ?_
  rintro e w' ⟨v', rfl, o, b⟩
  rw [ls_mg fNot rfl (ris_ls p 65536 (Nat.le_refl _)) (ris_ls q 65536 (Nat.le_refl _))] at o
  have e1 : ls (fun i => fNot (mk (ls p 65536) i) (mk (ls q 65536) i)) 65536 = ls (fun x => fNot (p x) (q x)) 65536 := ls_ext fun j hj => by rw [mk_ls p hj, mk_ls q hj]
  rw [e1] at o
  have s := o.sl.more (Nat.zero_le _) (Nat.le_refl _)
  obtain ⟨A, c, rfl, -⟩ := o.sl
  rw [ls_ct, hn] at s ⊢
  exact ⟨A, c, rfl, s, b⟩
theorem axor_p (v u : Value) (p q : Nat → Bool) (n : Nat) (w : World) (hv : Gs e16 w 0 w.heap.size v (ls p 65536)) (hu : Gs e16 w 0 w.heap.size u (ls q 65536)) (hn : ct (fun x => fXor (p x) (q x)) 65536 = n) :
    Calls Tryd.prog 33 #[v, u] w fun e w' => ∃ A c, e = .returned (.slice A n c) ∧ Gs e16 w' 0 w'.heap.size (.slice A n c) (ls (fun x => fXor (p x) (q x)) 65536) ∧ Below w.heap.size w w' := by
  refine (xor_any v u _ _ 0 w hv hu (Nat.le_trans (ls_len p 65536) (by omega)) (Nat.le_trans (ls_len q 65536) (by omega))).mono ?_
  rintro e w' ⟨v', rfl, o, b⟩
  rw [ls_mg fXor rfl (ris_ls p 65536 (Nat.le_refl _)) (ris_ls q 65536 (Nat.le_refl _))] at o
  have e1 : ls (fun i => fXor (mk (ls p 65536) i) (mk (ls q 65536) i)) 65536 = ls (fun x => fXor (p x) (q x)) 65536 := ls_ext fun j hj => by rw [mk_ls p hj, mk_ls q hj]
  rw [e1] at o
  have s := o.sl.more (Nat.zero_le _) (Nat.le_refl _)
  obtain ⟨A, c, rfl, -⟩ := o.sl
  rw [ls_ct, hn] at s ⊢
  exact ⟨A, c, rfl, s, b⟩
theorem aruns_p (v : Value) (p : Nat → Bool) (n : Nat) (W : World) (hv : Gs e16 W 0 W.heap.size v (ls p 65536)) (hn : ct (hm p) 65536 = n) :
    Calls Tryd.prog 34 #[v] W fun e w' => e = .returned (.int .i64 n) ∧ Below W.heap.size W w' := by
  refine (runs_b v _ 0 _ W hv (Nat.le_trans (ls_len p 65536) (by omega))).mono ?_
  rintro e w' ⟨h1, h2⟩
  refine ⟨?_, h2⟩
  have e1 : ct (hm (mk (ls p 65536))) 65536 = ct (hm p) 65536 := ct_ext fun j hj => hm_ext (n := 65536) (fun i hi => mk_ls p hi) j hj
  rw [h1, rn_ls (ris_ls p 65536 (Nat.le_refl _)), ls_ct, e1, hn]

set_option maxHeartbeats 4000000 in
set_option maxRecDepth 100000 in
theorem wa_good (v u : Value) (l m : List UInt16) (w : World) (hv : Gs e16 w 0 w.heap.size v l) (hu : Gs e16 w 0 w.heap.size u m) (hT : Tb w) (hl : l.length ≤ 3000) (hm' : m.length ≤ 3000) :
    Calls Tryd.prog 6 #[v, u] w fun e w' => e = .returned (.bool true) ∧ Below w.heap.size w w' := by
  have HV := Lib.hid hv
  have HU := Lib.hid hu
  have HT := Lib.hid hT
  have B0 := Lib.hid (Below.refl w.heap.size w)
  obtain ⟨A, c, rfl, -⟩ := hv
  obtain ⟨A', c', rfl, -⟩ := hu
  have hli : (l.length : Int) ≤ 3000 := by omega
  have hmi : (m.length : Int) ≤ 3000 := by omega
  have hq1 : decide ((3000 : Int) < l.length) = false := decide_eq_false (by omega)
  have hq2 : decide ((3000 : Int) < m.length) = false := decide_eq_false (by omega)
  obtain ⟨p, hp⟩ : ∃ p, p = mk l := ⟨_, rfl⟩
  obtain ⟨q, hq⟩ : ∃ q, q = mk m := ⟨_, rfl⟩
  have HP := Lib.hid hp
  have HQ := Lib.hid hq
  clear hT hl hm' hp hq
  go_enter Tryd.func6, Tryd.ntmps6
  go_wp2_with fail
  refine (wof_p _ l _ HV.out).mono ?_
  rw [← HP.out]
  rintro e w1 ⟨A1, c1, rfl, g1, b1⟩
  have HV := Lib.hid (HV.out.step b1)
  have HU := Lib.hid (HU.out.step b1)
  have T1 := Lib.hid (HT.out.step b1)
  have B1 := Lib.hid (B0.out.trans (b1.mono B0.out.size))
  have X := Lib.hid g1
  clear g1 b1
  go_wp2_with fail
  refine (wof_p _ m _ HU.out).mono ?_
  rw [← HQ.out]
  rintro e w2 ⟨A2, c2, rfl, g2, b2⟩
  have HV := Lib.hid (HV.out.step b2)
  have HU := Lib.hid (HU.out.step b2)
  have X := Lib.hid (X.out.step b2)
  have T2 := Lib.hid (T1.out.step b2)
  have B2 := Lib.hid (B1.out.trans (b2.mono B1.out.size))
  have Y := Lib.hid g2
  clear g2 b2
  obtain ⟨np, hnp⟩ : ∃ n, n = ct p 65536 := ⟨_, rfl⟩
  obtain ⟨nq, hnq⟩ : ∃ n, n = ct q 65536 := ⟨_, rfl⟩
  have NP := Lib.hid hnp
  have NQ := Lib.hid hnq
  clear hnp hnq
  go_wp2_with fail
  refine (wlist_p _ p np _ X.out T2.out NP.out.symm).mono ?_
  rintro e w3 ⟨A3, c3, rfl, g3, b3⟩
  have HV := Lib.hid (HV.out.step b3)
  have HU := Lib.hid (HU.out.step b3)
  have X := Lib.hid (X.out.step b3)
  have Y := Lib.hid (Y.out.step b3)
  have T3 := Lib.hid (T2.out.step b3)
  have B3 := Lib.hid (B2.out.trans (b3.mono B2.out.size))
  have L := Lib.hid g3
  clear g3 b3
  go_wp2_with fail
  refine (wlist_p _ q nq _ Y.out T3.out NQ.out.symm).mono ?_
  rintro e w4 ⟨A4, c4, rfl, g4, b4⟩
  have HV := Lib.hid (HV.out.step b4)
  have HU := Lib.hid (HU.out.step b4)
  have X := Lib.hid (X.out.step b4)
  have Y := Lib.hid (Y.out.step b4)
  have L := Lib.hid (L.out.step b4)
  have T4 := Lib.hid (T3.out.step b4)
  have B4 := Lib.hid (B3.out.trans (b4.mono B3.out.size))
  have M := Lib.hid g4
  clear g4 b4
  go_wp2_with fail
  refine (wand_p _ _ p q _ X.out Y.out).mono ?_
  rintro e w5 ⟨C0, d0, rfl, g5, b5⟩
  have HV := Lib.hid (HV.out.step b5)
  have HU := Lib.hid (HU.out.step b5)
  have X := Lib.hid (X.out.step b5)
  have Y := Lib.hid (Y.out.step b5)
  have L := Lib.hid (L.out.step b5)
  have M := Lib.hid (M.out.step b5)
  have T5 := Lib.hid (T4.out.step b5)
  have B5 := Lib.hid (B4.out.trans (b5.mono B4.out.size))
  have W0 := Lib.hid g5
  clear g5 b5
  go_wp2_with fail
  refine (wor_p _ _ p q _ X.out Y.out).mono ?_
  rintro e w6 ⟨C1, d1, rfl, g6, b6⟩
  have HV := Lib.hid (HV.out.step b6)
  have HU := Lib.hid (HU.out.step b6)
  have X := Lib.hid (X.out.step b6)
  have Y := Lib.hid (Y.out.step b6)
  have L := Lib.hid (L.out.step b6)
  have M := Lib.hid (M.out.step b6)
  have W0 := Lib.hid (W0.out.step b6)
  have T6 := Lib.hid (T5.out.step b6)
  have B6 := Lib.hid (B5.out.trans (b6.mono B5.out.size))
  have W1 := Lib.hid g6
  clear g6 b6
  go_wp2_with fail
  refine (wnot_p _ _ p q _ X.out Y.out).mono ?_
  rintro e w7 ⟨C2, d2, rfl, g7, b7⟩
  have HV := Lib.hid (HV.out.step b7)
  have HU := Lib.hid (HU.out.step b7)
  have X := Lib.hid (X.out.step b7)
  have Y := Lib.hid (Y.out.step b7)
  have L := Lib.hid (L.out.step b7)
  have M := Lib.hid (M.out.step b7)
  have W0 := Lib.hid (W0.out.step b7)
  have W1 := Lib.hid (W1.out.step b7)
  have T7 := Lib.hid (T6.out.step b7)
  have B7 := Lib.hid (B6.out.trans (b7.mono B6.out.size))
  have W2 := Lib.hid g7
  clear g7 b7
  go_wp2_with fail
  refine (wxor_p _ _ p q _ X.out Y.out).mono ?_
  rintro e w8 ⟨C3, d3, rfl, g8, b8⟩
  have HV := Lib.hid (HV.out.step b8)
  have HU := Lib.hid (HU.out.step b8)
  have X := Lib.hid (X.out.step b8)
  have Y := Lib.hid (Y.out.step b8)
  have L := Lib.hid (L.out.step b8)
  have M := Lib.hid (M.out.step b8)
  have W0 := Lib.hid (W0.out.step b8)
  have W1 := Lib.hid (W1.out.step b8)
  have W2 := Lib.hid (W2.out.step b8)
  have T8 := Lib.hid (T7.out.step b8)
  have B8 := Lib.hid (B7.out.trans (b8.mono B7.out.size))
  have W3 := Lib.hid g8
  clear g8 b8
  go_wp2_with fail
  have r9 := Row.new w8 50 #[.slice C0 1024 d0, .slice C1 1024 d1, .slice C2 1024 d2, .slice C3 1024 d3]
  have b9 : Below w8.heap.size w8 (w8.alloc (.cells #[.slice C0 1024 d0, .slice C1 1024 d1, .slice C2 1024 d2, .slice C3 1024 d3] 50)) := (Below.refl _ _).alloc (Nat.le_refl _) _
  generalize w8.alloc (.cells #[.slice C0 1024 d0, .slice C1 1024 d1, .slice C2 1024 d2, .slice C3 1024 d3] 50) = w9 at *
  have HV := Lib.hid (HV.out.step b9)
  have HU := Lib.hid (HU.out.step b9)
  have X := Lib.hid (X.out.step b9)
  have Y := Lib.hid (Y.out.step b9)
  have L := Lib.hid (L.out.step b9)
  have M := Lib.hid (M.out.step b9)
  have W0 := Lib.hid (W0.out.step b9)
  have W1 := Lib.hid (W1.out.step b9)
  have W2 := Lib.hid (W2.out.step b9)
  have W3 := Lib.hid (W3.out.step b9)
  have T9 := Lib.hid (T8.out.step b9)
  have B9 := Lib.hid (B8.out.trans (b9.mono B8.out.size))
  have RX := Lib.hid r9
  obtain ⟨gx, hgx⟩ : ∃ g, g = w8.heap.size := ⟨_, rfl⟩
  rw [← hgx] at RX ⊢
  clear r9 b9 hgx
  obtain ⟨n0, hn0⟩ : ∃ n, n = ct (fun x => fAnd (p x) (q x)) 65536 := ⟨_, rfl⟩
  have N0 := Lib.hid hn0
  clear hn0
  go_wp2_with fail
  refine (aand_p _ _ p q n0 _ L.out M.out N0.out.symm).mono ?_
  rintro e w10 ⟨E0, f0, rfl, g10, b10⟩
  have HV := Lib.hid (HV.out.step b10)
  have HU := Lib.hid (HU.out.step b10)
  have X := Lib.hid (X.out.step b10)
  have Y := Lib.hid (Y.out.step b10)
  have L := Lib.hid (L.out.step b10)
  have M := Lib.hid (M.out.step b10)
  have W0 := Lib.hid (W0.out.step b10)
  have W1 := Lib.hid (W1.out.step b10)
  have W2 := Lib.hid (W2.out.step b10)
  have W3 := Lib.hid (W3.out.step b10)
  have T10 := Lib.hid (T9.out.step b10)
  have B10 := Lib.hid (B9.out.trans (b10.mono B9.out.size))
  have V0 := Lib.hid g10
  have RX := Lib.hid (RX.out.below b10 RX.out.lt)
  clear g10 b10
  obtain ⟨n1, hn1⟩ : ∃ n, n = ct (fun x => fOr (p x) (q x)) 65536 := ⟨_, rfl⟩
  have N1 := Lib.hid hn1
  clear hn1
  go_wp2_with fail
  refine (aor_p _ _ p q n1 _ L.out M.out N1.out.symm).mono ?_
  rintro e w11 ⟨E1, f1, rfl, g11, b11⟩
  have HV := Lib.hid (HV.out.step b11)
  have HU := Lib.hid (HU.out.step b11)
  have X := Lib.hid (X.out.step b11)
  have Y := Lib.hid (Y.out.step b11)
  have L := Lib.hid (L.out.step b11)
  have M := Lib.hid (M.out.step b11)
  have W0 := Lib.hid (W0.out.step b11)
  have W1 := Lib.hid (W1.out.step b11)
  have W2 := Lib.hid (W2.out.step b11)
  have W3 := Lib.hid (W3.out.step b11)
  have V0 := Lib.hid (V0.out.step b11)
  have T11 := Lib.hid (T10.out.step b11)
  have B11 := Lib.hid (B10.out.trans (b11.mono B10.out.size))
  have V1 := Lib.hid g11
  have RX := Lib.hid (RX.out.below b11 RX.out.lt)
  clear g11 b11
  obtain ⟨n2, hn2⟩ : ∃ n, n = ct (fun x => fNot (p x) (q x)) 65536 := ⟨_, rfl⟩
  have N2 := Lib.hid hn2
  clear hn2
  go_wp2_with fail
  refine (anot_p _ _ p q n2 _ L.out M.out N2.out.symm).mono ?_
  rintro e w12 ⟨E2, f2, rfl, g12, b12⟩
  have HV := Lib.hid (HV.out.step b12)
  have HU := Lib.hid (HU.out.step b12)
  have X := Lib.hid (X.out.step b12)
  have Y := Lib.hid (Y.out.step b12)
  have L := Lib.hid (L.out.step b12)
  have M := Lib.hid (M.out.step b12)
  have W0 := Lib.hid (W0.out.step b12)
  have W1 := Lib.hid (W1.out.step b12)
  have W2 := Lib.hid (W2.out.step b12)
  have W3 := Lib.hid (W3.out.step b12)
  have V0 := Lib.hid (V0.out.step b12)
  have V1 := Lib.hid (V1.out.step b12)
  have T12 := Lib.hid (T11.out.step b12)
  have B12 := Lib.hid (B11.out.trans (b12.mono B11.out.size))
  have V2 := Lib.hid g12
  have RX := Lib.hid (RX.out.below b12 RX.out.lt)
  clear g12 b12
  obtain ⟨n3, hn3⟩ : ∃ n, n = ct (fun x => fXor (p x) (q x)) 65536 := ⟨_, rfl⟩
  have N3 := Lib.hid hn3
  clear hn3
  go_wp2_with fail
  refine (axor_p _ _ p q n3 _ L.out M.out N3.out.symm).mono ?_
  rintro e w13 ⟨E3, f3, rfl, g13, b13⟩
  have HV := Lib.hid (HV.out.step b13)
  have HU := Lib.hid (HU.out.step b13)
  have X := Lib.hid (X.out.step b13)
  have Y := Lib.hid (Y.out.step b13)
  have L := Lib.hid (L.out.step b13)
  have M := Lib.hid (M.out.step b13)
  have W0 := Lib.hid (W0.out.step b13)
  have W1 := Lib.hid (W1.out.step b13)
  have W2 := Lib.hid (W2.out.step b13)
  have W3 := Lib.hid (W3.out.step b13)
  have V0 := Lib.hid (V0.out.step b13)
  have V1 := Lib.hid (V1.out.step b13)
  have V2 := Lib.hid (V2.out.step b13)
  have T13 := Lib.hid (T12.out.step b13)
  have B13 := Lib.hid (B12.out.trans (b13.mono B12.out.size))
  have V3 := Lib.hid g13
  have RX := Lib.hid (RX.out.below b13 RX.out.lt)
  clear g13 b13
  go_wp2_with fail
  have r14 := Row.new w13 52 #[.slice E0 n0 f0, .slice E1 n1 f1, .slice E2 n2 f2, .slice E3 n3 f3]
  have b14 : Below w13.heap.size w13 (w13.alloc (.cells #[.slice E0 n0 f0, .slice E1 n1 f1, .slice E2 n2 f2, .slice E3 n3 f3] 52)) := (Below.refl _ _).alloc (Nat.le_refl _) _
  generalize w13.alloc (.cells #[.slice E0 n0 f0, .slice E1 n1 f1, .slice E2 n2 f2, .slice E3 n3 f3] 52) = w14 at *
  have HV := Lib.hid (HV.out.step b14)
  have HU := Lib.hid (HU.out.step b14)
  have X := Lib.hid (X.out.step b14)
  have Y := Lib.hid (Y.out.step b14)
  have L := Lib.hid (L.out.step b14)
  have M := Lib.hid (M.out.step b14)
  have W0 := Lib.hid (W0.out.step b14)
  have W1 := Lib.hid (W1.out.step b14)
  have W2 := Lib.hid (W2.out.step b14)
  have W3 := Lib.hid (W3.out.step b14)
  have V0 := Lib.hid (V0.out.step b14)
  have V1 := Lib.hid (V1.out.step b14)
  have V2 := Lib.hid (V2.out.step b14)
  have V3 := Lib.hid (V3.out.step b14)
  have T14 := Lib.hid (T13.out.step b14)
  have B14 := Lib.hid (B13.out.trans (b14.mono B13.out.size))
  have RX := Lib.hid (RX.out.below b14 RX.out.lt)
  have RZ := Lib.hid r14
  obtain ⟨gz, hgz⟩ : ∃ g, g = w13.heap.size := ⟨_, rfl⟩
  rw [← hgz] at RZ ⊢
  clear r14 b14 hgz
  have CC := Lib.hid (show ∀ i, i < 4 → ∃ (s : Nat → Bool) (C : Option Addr) (d : Nat) (E : Option Addr) (f n : Nat), w14.cell? ⟨gx, i, none⟩ = some (.slice C 1024 d) ∧ w14.cell? ⟨gz, i, none⟩ = some (.slice E n f) ∧
      Gs e64 w14 0 w14.heap.size (.slice C 1024 d) (wm s) ∧ Gs e16 w14 0 w14.heap.size (.slice E n f) (ls s 65536) ∧ ct s 65536 = n from by
    intro i hi
    have h4 : i = 0 ∨ i = 1 ∨ i = 2 ∨ i = 3 := by omega
    rcases h4 with rfl | rfl | rfl | rfl
    · exact ⟨_, C0, d0, E0, f0, n0, RX.out.cell 0, RZ.out.cell 0, W0.out, V0.out, N0.out.symm⟩
    · exact ⟨_, C1, d1, E1, f1, n1, RX.out.cell 1, RZ.out.cell 1, W1.out, V1.out, N1.out.symm⟩
    · exact ⟨_, C2, d2, E2, f2, n2, RX.out.cell 2, RZ.out.cell 2, W2.out, V2.out, N2.out.symm⟩
    · exact ⟨_, C3, d3, E3, f3, n3, RX.out.cell 3, RZ.out.cell 3, W3.out, V3.out, N3.out.symm⟩)
  have LX := Lib.hid RX.out.lt
  have LZ := Lib.hid RZ.out.lt
  clear RX RZ W0 W1 W2 W3 V0 V1 V2 V3 N0 N1 N2 N3 X Y L M NP NQ HP HQ
  go_loopw [55] (fun s wr => ∃ i : Nat, i ≤ 4 ∧ s = .int .i64 i ∧ Below w14.heap.size w14 wr) (fun i _ => ((4 : Int) - intOf i).toNat)
  case atStart => exact ⟨0, by omega, rfl, Below.refl _ _⟩
  case round =>
    obtain ⟨i, hi4, rfl, hb⟩ := hrel
    have HB := Lib.hid hb
    by_cases hlt : i < 4
    · obtain ⟨s, C, d, E, f, n, k1, k2, s1, s2, hn⟩ := CC.out i hlt
      have KK := Lib.hid (show ∀ W, Below wr.heap.size wr W → W.cell? ⟨gx, i, none⟩ = some (.slice C 1024 d) ∧ W.cell? ⟨gz, i, none⟩ = some (.slice E n f) from fun W hW => by
        have z1 := hb.size
        have z2 := LX.out
        have z3 := LZ.out
        exact ⟨(hW.cell (by show gx < _; omega)).trans ((hb.cell (by show gx < _; omega)).trans k1), (hW.cell (by show gz < _; omega)).trans ((hb.cell (by show gz < _; omega)).trans k2)⟩)
      have GG := Lib.hid (show ∀ W, Below wr.heap.size wr W → Gs e64 W 0 W.heap.size (.slice C 1024 d) (wm s) ∧ Gs e16 W 0 W.heap.size (.slice E n f) (ls s 65536) ∧ Tb W from fun W hW =>
        ⟨(s1.step hb).step hW, (s2.step hb).step hW, (T14.out.step hb).step hW⟩)
      obtain ⟨r, hr⟩ : ∃ r, r = ct (hm s) 65536 := ⟨_, rfl⟩
      have HN := Lib.hid hn
      have HR := Lib.hid hr
      have HI := Lib.hid hlt
      have hii : (i : Int) < 4 := by omega
      have hSc : Below wr.heap.size wr wr.drew := (Below.refl wr.heap.size wr).drew
      clear k1 k2 s1 s2 hn hr hlt hi4 hb
      go_wp2_with fail
      refine wp_region_held_drew (S := fun W => Below wr.heap.size wr W) (by kernel_rfl) hSc (fun _ => ?_)
      refine held_take 0 ?_ rfl (by kernel_rfl) (by kernel_rfl) (by kernel_rfl) (fun _ _ _ h => h) (by rfl) ?_ hSc ?_
      rotate_left
      · (intro W hSW; go_simp; try rfl)
      try simp only [Act.put, List.setIfInBounds_toArray, List.set_cons_zero, List.set_cons_succ]
      refine held_take 1 ?_ rfl (by kernel_rfl) (by kernel_rfl) (by kernel_rfl) (fun _ _ _ h => h) (by rfl) ?_ hSc ?_
      rotate_left
      · (intro W hSW; go_simp; try rfl)
      try simp only [Act.put, List.setIfInBounds_toArray, List.set_cons_zero, List.set_cons_succ]
      refine held_take 2 ?_ rfl (by kernel_rfl) (by kernel_rfl) (by kernel_rfl) (fun _ _ _ h => h) (by rfl) ?_ hSc ?_
      rotate_left
      · (intro W hSW; obtain ⟨k1, k2⟩ := KK.out W hSW; go_simp; try rfl)
      try simp only [Act.put, List.setIfInBounds_toArray, List.set_cons_zero, List.set_cons_succ]
      refine held_take 4 ?_ rfl (by kernel_rfl) (by kernel_rfl) (by kernel_rfl) (fun _ _ _ h => h) (by rfl) ?_ hSc ?_
      rotate_left
      · (intro W hSW; go_simp; try rfl)
      try simp only [Act.put, List.setIfInBounds_toArray, List.set_cons_zero, List.set_cons_succ]
      refine held_take 5 ?_ rfl (by kernel_rfl) (by kernel_rfl) (by kernel_rfl) (fun _ _ _ h => h) (by rfl) ?_ hSc ?_
      rotate_left
      · (intro W hSW; go_simp; try rfl)
      try simp only [Act.put, List.setIfInBounds_toArray, List.set_cons_zero, List.set_cons_succ]
      refine held_take 6 ?_ rfl (by kernel_rfl) (by kernel_rfl) (by kernel_rfl) (fun _ _ _ h => h) (by rfl) ?_ hSc ?_
      rotate_left
      · (intro W hSW; obtain ⟨k1, k2⟩ := KK.out W hSW; go_simp; try rfl)
      try simp only [Act.put, List.setIfInBounds_toArray, List.set_cons_zero, List.set_cons_succ]
      refine held_next 3 rfl (by kernel_rfl) (by rfl) ?_
      go_simp
      refine (wlist_p _ s n _ (GG.out _ hSc).1 (GG.out _ hSc).2.2 HN.out).mono ?_
      rintro e wq1 ⟨Aq, cq, rfl, gq, bq⟩
      have hbq : Below wr.heap.size wr wq1 := hSc.trans (bq.mono hSc.size)
      refine ⟨fun W => Below wr.heap.size wr W, fun W hW => hW, hbq, ?_⟩
      have GR := Lib.hid gq
      clear gq
      clear hSc bq
      have hSc : Below wr.heap.size wr wq1 := hbq
      clear hbq
      try simp only [Act.put, List.setIfInBounds_toArray, List.set_cons_zero, List.set_cons_succ]
      refine held_next 7 rfl (by kernel_rfl) (by rfl) ?_
      go_simp
      refine (same16_p _ _ _ _ _ GR.out (GG.out _ hSc).2.1 rfl).mono ?_
      rintro e wq2 ⟨rfl, bq⟩
      have hbq : Below wr.heap.size wr wq2 := hSc.trans (bq.mono hSc.size)
      refine ⟨fun W => Below wr.heap.size wr W, fun W hW => hW, hbq, ?_⟩
      clear GR
      clear hSc bq
      have hSc : Below wr.heap.size wr wq2 := hbq
      clear hbq
      try simp only [Act.put, List.setIfInBounds_toArray, List.set_cons_zero, List.set_cons_succ]
      refine held_take 8 ?_ rfl (by kernel_rfl) (by kernel_rfl) (by kernel_rfl) (fun _ _ _ h => h) (by rfl) ?_ hSc ?_
      rotate_left
      · (intro W hSW; go_simp; try rfl)
      try simp only [Act.put, List.setIfInBounds_toArray, List.set_cons_zero, List.set_cons_succ]
      refine held_take 9 ?_ rfl (by kernel_rfl) (by kernel_rfl) (by kernel_rfl) (fun _ _ _ h => h) (by rfl) ?_ hSc ?_
      rotate_left
      · (intro W hSW; go_simp; try rfl)
      try simp only [Act.put, List.setIfInBounds_toArray, List.set_cons_zero, List.set_cons_succ]
      refine held_take 10 ?_ rfl (by kernel_rfl) (by kernel_rfl) (by kernel_rfl) (fun _ _ _ h => h) (by rfl) ?_ hSc ?_
      rotate_left
      · (intro W hSW; go_simp; try rfl)
      try simp only [Act.put, List.setIfInBounds_toArray, List.set_cons_zero, List.set_cons_succ]
      refine held_take 11 ?_ rfl (by kernel_rfl) (by kernel_rfl) (by kernel_rfl) (fun _ _ _ h => h) (by rfl) ?_ hSc ?_
      rotate_left
      · (intro W hSW; go_simp; try rfl)
      try simp only [Act.put, List.setIfInBounds_toArray, List.set_cons_zero, List.set_cons_succ]
      refine held_take 12 ?_ rfl (by kernel_rfl) (by kernel_rfl) (by kernel_rfl) (fun _ _ _ h => h) (by rfl) ?_ hSc ?_
      rotate_left
      · (intro W hSW; obtain ⟨k1, k2⟩ := KK.out W hSW; go_simp; try rfl)
      try simp only [Act.put, List.setIfInBounds_toArray, List.set_cons_zero, List.set_cons_succ]
      refine held_take 14 ?_ rfl (by kernel_rfl) (by kernel_rfl) (by kernel_rfl) (fun _ _ _ h => h) (by rfl) ?_ hSc ?_
      rotate_left
      · (intro W hSW; go_simp; try rfl)
      try simp only [Act.put, List.setIfInBounds_toArray, List.set_cons_zero, List.set_cons_succ]
      refine held_take 15 ?_ rfl (by kernel_rfl) (by kernel_rfl) (by kernel_rfl) (fun _ _ _ h => h) (by rfl) ?_ hSc ?_
      rotate_left
      · (intro W hSW; go_simp; try rfl)
      try simp only [Act.put, List.setIfInBounds_toArray, List.set_cons_zero, List.set_cons_succ]
      refine held_take 16 ?_ rfl (by kernel_rfl) (by kernel_rfl) (by kernel_rfl) (fun _ _ _ h => h) (by rfl) ?_ hSc ?_
      rotate_left
      · (intro W hSW; obtain ⟨k1, k2⟩ := KK.out W hSW; go_simp; try rfl)
      try simp only [Act.put, List.setIfInBounds_toArray, List.set_cons_zero, List.set_cons_succ]
      refine held_next 13 rfl (by kernel_rfl) (by rfl) ?_
      go_simp
      refine (wruns_p _ s r _ (GG.out _ hSc).1 HR.out.symm).mono ?_
      rintro e wq ⟨rfl, hz⟩
      have hz := hz.symm
      subst hz
      refine ⟨fun W => Below wr.heap.size wr W, fun W hW => hW, hSc, ?_⟩
      try simp only [Act.put, List.setIfInBounds_toArray, List.set_cons_zero, List.set_cons_succ]
      refine held_next 17 rfl (by kernel_rfl) (by rfl) ?_
      go_simp
      refine (aruns_p _ s r _ (GG.out _ hSc).2.1 HR.out.symm).mono ?_
      rintro e wq3 ⟨rfl, bq⟩
      have hbq : Below wr.heap.size wr wq3 := hSc.trans (bq.mono hSc.size)
      refine ⟨fun W => Below wr.heap.size wr W, fun W hW => hW, hbq, ?_⟩
      clear hSc bq
      have hSc : Below wr.heap.size wr wq3 := hbq
      clear hbq
      try simp only [Act.put, List.setIfInBounds_toArray, List.set_cons_zero, List.set_cons_succ]
      refine held_take 18 ?_ rfl (by kernel_rfl) (by kernel_rfl) (by kernel_rfl) (fun _ _ _ h => h) (by rfl) ?_ hSc ?_
      rotate_left
      · (intro W hSW; go_simp; try rfl)
      try simp only [Act.put, List.setIfInBounds_toArray, List.set_cons_zero, List.set_cons_succ]
      refine held_take 19 ?_ rfl (by kernel_rfl) (by kernel_rfl) (by kernel_rfl) (fun _ _ _ h => h) (by rfl) ?_ hSc ?_
      rotate_left
      · (intro W hSW; go_simp; try rfl)
      try simp only [Act.put, List.setIfInBounds_toArray, List.set_cons_zero, List.set_cons_succ]
      refine held_take 20 ?_ rfl (by kernel_rfl) (by kernel_rfl) (by kernel_rfl) (fun _ _ _ h => h) (by rfl) ?_ hSc ?_
      rotate_left
      · (intro W hSW; go_simp; try rfl)
      try simp only [Act.put, List.setIfInBounds_toArray, List.set_cons_zero, List.set_cons_succ]
      refine held_take 21 ?_ rfl (by kernel_rfl) (by kernel_rfl) (by kernel_rfl) (fun _ _ _ h => h) (by rfl) ?_ hSc ?_
      rotate_left
      · (intro W hSW; go_simp; try rfl)
      try simp only [Act.put, List.setIfInBounds_toArray, List.set_cons_zero, List.set_cons_succ]
      refine held_take 22 ?_ rfl (by kernel_rfl) (by kernel_rfl) (by kernel_rfl) (fun _ _ _ h => h) (by rfl) ?_ hSc ?_
      rotate_left
      · (intro W hSW; go_simp; try rfl)
      try simp only [Act.put, List.setIfInBounds_toArray, List.set_cons_zero, List.set_cons_succ]
      refine held_take 23 ?_ rfl (by kernel_rfl) (by kernel_rfl) (by kernel_rfl) (fun _ _ _ h => h) (by rfl) ?_ hSc ?_
      rotate_left
      · (intro W hSW; obtain ⟨k1, k2⟩ := KK.out W hSW; go_simp; try rfl)
      try simp only [Act.put, List.setIfInBounds_toArray, List.set_cons_zero, List.set_cons_succ]
      refine held_take 25 ?_ rfl (by kernel_rfl) (by kernel_rfl) (by kernel_rfl) (fun _ _ _ h => h) (by rfl) ?_ hSc ?_
      rotate_left
      · (intro W hSW; go_simp; try rfl)
      try simp only [Act.put, List.setIfInBounds_toArray, List.set_cons_zero, List.set_cons_succ]
      refine held_take 26 ?_ rfl (by kernel_rfl) (by kernel_rfl) (by kernel_rfl) (fun _ _ _ h => h) (by rfl) ?_ hSc ?_
      rotate_left
      · (intro W hSW; go_simp; try rfl)
      try simp only [Act.put, List.setIfInBounds_toArray, List.set_cons_zero, List.set_cons_succ]
      refine held_take 27 ?_ rfl (by kernel_rfl) (by kernel_rfl) (by kernel_rfl) (fun _ _ _ h => h) (by rfl) ?_ hSc ?_
      rotate_left
      · (intro W hSW; obtain ⟨k1, k2⟩ := KK.out W hSW; go_simp; try rfl)
      try simp only [Act.put, List.setIfInBounds_toArray, List.set_cons_zero, List.set_cons_succ]
      refine held_take 28 ?_ rfl (by kernel_rfl) (by kernel_rfl) (by kernel_rfl) (fun _ _ _ h => h) (by rfl) ?_ hSc ?_
      rotate_left
      · (intro W hSW; go_simp; try rfl)
      try simp only [Act.put, List.setIfInBounds_toArray, List.set_cons_zero, List.set_cons_succ]
      refine held_next 24 rfl (by kernel_rfl) (by rfl) ?_
      go_simp
      refine (wlen_p _ s n _ (GG.out _ hSc).1 HN.out).mono ?_
      rintro e wq ⟨rfl, hz⟩
      have hz := hz.symm
      subst hz
      refine ⟨fun W => Below wr.heap.size wr W, fun W hW => hW, hSc, ?_⟩
      try simp only [Act.put, List.setIfInBounds_toArray, List.set_cons_zero, List.set_cons_succ]
      refine held_take 29 ?_ rfl (by kernel_rfl) (by kernel_rfl) (by kernel_rfl) (fun _ _ _ h => h) (by rfl) ?_ hSc ?_
      rotate_left
      · (intro W hSW; go_simp; try rfl)
      try simp only [Act.put, List.setIfInBounds_toArray, List.set_cons_zero, List.set_cons_succ]
      refine held_next 30 rfl (by kernel_rfl) (by rfl) ?_
      go_simp
      refine ⟨fun W => Below wr.heap.size wr W, fun W hW => hW, hSc, ?_⟩
      refine wpAnyH_done (by kernel_rfl) ?_ _
      have HS := Lib.hid hSc
      clear hSc
      go_wp2
      refine ⟨⟨i + 1, HI.out, by go_num, HB.out.trans (HS.out.mono HB.out.size)⟩, by simp [intOf]; omega⟩
    · obtain rfl : i = 4 := by omega
      go_wp2_with fail
      refine (known_p _ (T14.out.step hb)).mono ?_
      rintro e w99 ⟨rfl, b99⟩
      have B99 := Lib.hid (B14.out.trans (HB.out.trans (b99.mono HB.out.size) |>.mono B14.out.size))
      clear b99
      go_wp2
      go_ret
      exact ⟨rfl, B99.out⟩
end Go.Proofs.YtgegpbchjkfdkaaDoor
