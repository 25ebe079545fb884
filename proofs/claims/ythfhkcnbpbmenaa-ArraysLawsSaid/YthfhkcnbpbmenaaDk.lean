/- Walks: the law ArraysLaws. -/
import Derived.Test.YthfhkcnbpbmenaaDi
import Derived.Test.YthfhkcnbpbmenaaRg
import Derived.Deep.RegionWith
namespace Go.Proofs.Ythfhkcnbpbmenaa
open Go.RowKit
set_option linter.unusedVariables false

theorem laws_long (a0 a1 : Option Addr) (len0 cap0 len1 cap1 : Nat) (w : World) (h : 3000 < len0) (h2 : len0 ≤ 9223372036854775807) :
    Calls Try.prog 4 #[.slice a0 len0 cap0, .slice a1 len1 cap1] w fun e w' => e = .returned (.bool true) ∧ Below w.heap.size w w' := by
  have hi : (3000 : Int) < len0 := by omega
  clear h
  go_enter Try.func4, Try.ntmps4
  go_wp2_with (go_at_call 8; refine (known_any _).mono ?_; rintro e w1 ⟨rfl, b1⟩)
  go_ret
  exact ⟨rfl, b1⟩
theorem laws_long2 (a0 a1 : Option Addr) (len0 cap0 len1 cap1 : Nat) (w : World) (h0 : len0 ≤ 3000) (h : 3000 < len1) (h2 : len1 ≤ 9223372036854775807) :
    Calls Try.prog 4 #[.slice a0 len0 cap0, .slice a1 len1 cap1] w fun e w' => e = .returned (.bool true) ∧ Below w.heap.size w w' := by
  have hi : (3000 : Int) < len1 := by omega
  have hi0 : (len0 : Int) ≤ 3000 := by omega
  clear h h0
  go_enter Try.func4, Try.ntmps4
  go_wp2_with (go_at_call 8; refine (known_any _).mono ?_; rintro e w1 ⟨rfl, b1⟩)
  go_ret
  exact ⟨rfl, b1⟩
theorem laws_odd (v u : Value) (l m : List UInt16) (w : World) (hv : Gs e16 w 0 w.heap.size v l) (hu : Gs e16 w 0 w.heap.size u m) (h : l.length ≤ 3000) (h' : m.length ≤ 3000) (hr : ris l = false) :
    Calls Try.prog 4 #[v, u] w fun e w' => e = .returned (.bool true) ∧ Below w.heap.size w w' := by
  have HV := Lib.hid hv
  have HU := Lib.hid hu
  obtain ⟨A, c, rfl, -⟩ := hv
  obtain ⟨A1, c1, rfl, -⟩ := hu
  have hi : (l.length : Int) ≤ 3000 := by omega
  have hi' : (m.length : Int) ≤ 3000 := by omega
  clear h h'
  go_enter Try.func4, Try.ntmps4
  go_wp2_with fail
  refine (refMay_b _ l 0 _ _ HV.out).mono ?_
  rintro e w1 ⟨rfl, b1⟩
  have B1 := Lib.hid b1
  clear b1
  rw [hr]
  go_wp2_with fail
  refine (known_any _).mono ?_
  rintro e w9 ⟨rfl, b9⟩
  have B9 := Lib.hid (B1.out.trans (b9.mono B1.out.size))
  clear b9
  go_wp2
  go_ret
  exact ⟨rfl, B9.out⟩
theorem laws_odd2 (v u : Value) (l m : List UInt16) (w : World) (hv : Gs e16 w 0 w.heap.size v l) (hu : Gs e16 w 0 w.heap.size u m) (h : l.length ≤ 3000) (h' : m.length ≤ 3000) (hr : ris l = true) (hr2 : ris m = false) :
    Calls Try.prog 4 #[v, u] w fun e w' => e = .returned (.bool true) ∧ Below w.heap.size w w' := by
  have HV := Lib.hid hv
  have HU := Lib.hid hu
  obtain ⟨A, c, rfl, -⟩ := hv
  obtain ⟨A1, c1, rfl, -⟩ := hu
  have hi : (l.length : Int) ≤ 3000 := by omega
  have hi' : (m.length : Int) ≤ 3000 := by omega
  clear h h'
  go_enter Try.func4, Try.ntmps4
  go_wp2_with fail
  refine (refMay_b _ l 0 _ _ HV.out).mono ?_
  rintro e w1 ⟨rfl, b1⟩
  have B1 := Lib.hid b1
  clear b1
  rw [hr]
  go_wp2_with fail
  refine (refMay_b _ m 0 w.heap.size _ (HU.out.below B1.out)).mono ?_
  rintro e w2 ⟨rfl, b2⟩
  have B2 := Lib.hid (B1.out.trans (b2.mono B1.out.size))
  clear b2 B1
  have B1 := B2
  rw [hr2]
  go_wp2_with fail
  refine (known_any _).mono ?_
  rintro e w9 ⟨rfl, b9⟩
  have B9 := Lib.hid (B1.out.trans (b9.mono B1.out.size))
  clear b9
  go_wp2
  go_ret
  exact ⟨rfl, B9.out⟩

theorem Four.gs {w : World} {base : Nat} {v1 v2 v3 v4 : Value} {l1 l2 l3 l4 : List UInt16} (h : Four w base v1 v2 v3 v4 l1 l2 l3 l4) :
    Gs e16 w 0 w.heap.size v1 l1 ∧ Gs e16 w 0 w.heap.size v2 l2 ∧ Gs e16 w 0 w.heap.size v3 l3 ∧ Gs e16 w 0 w.heap.size v4 l4 := by
  obtain ⟨s1, s2, s3, s4, -, -, -, -, -, x1, -, x2, -, x3, -, x4, -⟩ := h.e
  exact ⟨x1.sl.more (Nat.zero_le _) (Nat.le_refl _), x2.sl.more (Nat.zero_le _) (Nat.le_refl _), x3.sl.more (Nat.zero_le _) (Nat.le_refl _), x4.sl.more (Nat.zero_le _) (Nat.le_refl _)⟩
theorem mg_comm (f : Bool → Bool → Bool) (hf : f false false = false) (hc : ∀ p q, f p q = f q p) {l m : List UInt16} (hl : ris l = true) (hm : ris m = true) : mg f l m = mg f m l :=
  ris_ext (ris_mg f hl hm) (ris_mg f hm hl) fun z => by rw [mg_mem f hf hl hm, mg_mem f hf hm hl, hc]
section
variable {l m : List UInt16} (hl : ris l = true) (hm : ris m = true)
include hl hm
theorem and_or : mg fOr (mg fAnd l m) (mg fXor l m) = mg fOr l m :=
  ris_ext (ris_mg _ (ris_mg _ hl hm) (ris_mg _ hl hm)) (ris_mg _ hl hm) fun z => by
    rw [mg_mem fOr rfl (ris_mg _ hl hm) (ris_mg _ hl hm), mg_mem fOr rfl hl hm]
    simp only [fOr, Bool.or_eq_true, decide_eq_true_eq, mg_mem fAnd rfl hl hm, mg_mem fXor rfl hl hm]
    by_cases h : z ∈ l <;> by_cases h' : z ∈ m <;> simp [fAnd, fXor, h, h']
theorem or_back : mg fOr (mg fNot l m) (mg fAnd l m) = l :=
  ris_ext (ris_mg _ (ris_mg _ hl hm) (ris_mg _ hl hm)) hl fun z => by
    rw [mg_mem fOr rfl (ris_mg _ hl hm) (ris_mg _ hl hm)]
    simp only [fOr, Bool.or_eq_true, decide_eq_true_eq, mg_mem fAnd rfl hl hm, mg_mem fNot rfl hl hm]
    by_cases h : z ∈ l <;> by_cases h' : z ∈ m <;> simp [fAnd, fNot, h, h']
theorem and_none : mg fAnd (mg fNot l m) m = [] :=
  ris_ext (ris_mg _ (ris_mg _ hl hm) hm) rfl fun z => by
    rw [mg_mem fAnd rfl (ris_mg _ hl hm) hm]
    simp only [fAnd, Bool.and_eq_true, decide_eq_true_eq, mg_mem fNot rfl hl hm]
    by_cases h : z ∈ m <;> by_cases h' : z ∈ l <;> simp [fNot, h, h']
theorem xor_back : mg fXor (mg fXor l m) m = l :=
  ris_ext (ris_mg _ (ris_mg _ hl hm) hm) hl fun z => by
    rw [mg_mem fXor rfl (ris_mg _ hl hm) hm]
    have : decide (z ∈ mg fXor l m) = fXor (decide (z ∈ l)) (decide (z ∈ m)) := by rw [Bool.eq_iff_iff, decide_eq_true_eq, mg_mem fXor rfl hl hm]
    rw [this]
    by_cases h : z ∈ l <;> by_cases h' : z ∈ m <;> simp [fXor, h, h']
end

theorem may_t (v : Value) (l : List UInt16) (lo hi : Nat) (W : World) (hv : Gs e16 W lo hi v l) (hr : ris l = true) :
    Calls Try.prog 9 #[v] W fun e w' => e = .returned (.bool true) ∧ ∃ n, w' = W.drewN n := hr ▸ may_any v l lo hi W hv
theorem same_t (v u : Value) (l : List UInt16) (lo hi lo' hi' : Nat) (W : World) (hv : Gs e16 W lo hi v l) (hu : Gs e16 W lo' hi' u l) :
    Calls Try.prog 16 #[v, u] W fun e w' => e = .returned (.bool true) ∧ ∃ n, w' = W.drewN n := by
  have := same_any v u l l lo hi lo' hi' W hv hu
  rwa [decide_eq_true rfl] at this

theorem same_tb (v u : Value) (l : List UInt16) (lo hi lo' hi' : Nat) (W : World) (hv : Gs e16 W lo hi v l) (hu : Gs e16 W lo' hi' u l) :
    Calls Try.prog 16 #[v, u] W fun e w' => e = .returned (.bool true) ∧ Below W.heap.size W w' :=
  (same_t v u l lo hi lo' hi' W hv hu).mono fun e w' ⟨h1, n, h2⟩ => ⟨h1, h2 ▸ below_drew n⟩
theorem told {f : FuncId} {args : Array Value} {W : World} {L : List UInt16} (h : Calls Try.prog f args W fun e w' => ∃ v', e = .returned v' ∧ Gw e16 w' W.heap.size v' L ∧ Below W.heap.size W w') :
    Calls Try.prog f args W fun e w' => ∃ A c, e = .returned (.slice A L.length c) ∧ Gs e16 w' 0 w'.heap.size (.slice A L.length c) L ∧ Below W.heap.size W w' :=
  h.mono fun e w' ⟨v', h1, h2, h3⟩ => by
    obtain ⟨A, c, rfl, -⟩ := h2.sl
    exact ⟨A, c, h1, h2.sl.more (Nat.zero_le _) (Nat.le_refl _), h3⟩

set_option maxHeartbeats 4000000 in
set_option maxRecDepth 100000 in
theorem laws_good (v u : Value) (l m : List UInt16) (w : World) (hv : Gs e16 w 0 w.heap.size v l) (hu : Gs e16 w 0 w.heap.size u m) (h : l.length ≤ 3000) (h' : m.length ≤ 3000) (hr : ris l = true) (hr2 : ris m = true) :
    Calls Try.prog 4 #[v, u] w fun e w' => e = .returned (.bool true) ∧ Below w.heap.size w w' := by
  have HV := Lib.hid hv
  have HU := Lib.hid hu
  obtain ⟨A, c, rfl, -⟩ := hv
  obtain ⟨A0, c0, rfl, -⟩ := hu
  have hi : (l.length : Int) ≤ 3000 := by omega
  have hi' : (m.length : Int) ≤ 3000 := by omega
  have hq1 : decide ((3000 : Int) < l.length) = false := decide_eq_false (by omega)
  have hq2 : decide ((3000 : Int) < m.length) = false := decide_eq_false (by omega)
  have e1 := and_or hr hr2
  have e2 := or_back hr hr2
  have e3 := and_none hr hr2
  have e4 := xor_back hr hr2
  have e5 := mg_len l m
  have y1 := mg_comm fAnd rfl (by intro p q; cases p <;> cases q <;> rfl) hr2 hr
  have y2 := mg_comm fOr rfl (by intro p q; cases p <;> cases q <;> rfl) hr2 hr
  have y4 := mg_comm fXor rfl (by intro p q; cases p <;> cases q <;> rfl) hr2 hr
  have r1 := ris_mg fAnd hr hr2
  have r2 := ris_mg fOr hr hr2
  have r3 := ris_mg fNot hr hr2
  have r4 := ris_mg fXor hr hr2
  have n1 := mg_le fAnd l m
  have n2 := mg_le fOr l m
  have n3 := mg_le fNot l m
  have n4 := mg_le fXor l m
  have D3 := Lib.hid (fun W hv hu => calls_any (.slice A l.length c) (.slice A0 m.length c0) l m W hv hu (by omega) (by omega))
  have D4 := Lib.hid (fun W hv hu => calls_any (.slice A0 m.length c0) (.slice A l.length c) m l W hv hu (by omega) (by omega))
  rw [y1, y2, y4] at D4
  obtain ⟨P, hP⟩ : ∃ P, P = mg fAnd l m := ⟨_, rfl⟩
  obtain ⟨O, hO⟩ : ∃ O, O = mg fOr l m := ⟨_, rfl⟩
  obtain ⟨N, hN⟩ : ∃ N, N = mg fNot l m := ⟨_, rfl⟩
  obtain ⟨Q, hQ⟩ : ∃ Q, Q = mg fXor l m := ⟨_, rfl⟩
  obtain ⟨M, hM⟩ : ∃ M, M = mg fNot m l := ⟨_, rfl⟩
  rw [← hP] at e1 e2 e5 r1 n1 D3 D4
  rw [← hO] at e1 e5 r2 n2 D3 D4
  rw [← hN] at e2 e3 r3 n3 D3
  rw [← hQ] at e1 e4 r4 n4 D3 D4
  rw [← hM] at D4
  have e6 : ((P.length : Int) + O.length == (l.length : Int) + m.length) = true := by rw [beq_iff_eq]; omega
  have E1 := Lib.hid e1
  have E2 := Lib.hid e2
  have E3 := Lib.hid e3
  have E4 := Lib.hid e4
  have R1 := Lib.hid r1
  have R2 := Lib.hid r2
  have R3 := Lib.hid r3
  have R4 := Lib.hid r4
  have i1 : (P.length : Int) ≤ 6000 := by omega
  have i2 : (O.length : Int) ≤ 6000 := by omega
  have i3 : (N.length : Int) ≤ 6000 := by omega
  have i4 : (Q.length : Int) ≤ 6000 := by omega
  clear hP hO hN hQ hM e1 e2 e3 e4 e5 r1 r2 r3 r4 n1 n2 n3 n4 y1 y2 y4 h h'
  go_enter Try.func4, Try.ntmps4
  go_wp2_with fail
  refine (refMay_b _ l 0 _ _ HV.out).mono ?_
  rintro e w1 ⟨rfl, b1⟩
  have B1 := Lib.hid b1
  clear b1
  rw [hr]
  go_wp2_with fail
  refine (refMay_b _ m 0 w.heap.size _ (HU.out.below B1.out)).mono ?_
  rintro e w2 ⟨rfl, b2⟩
  have B2 := Lib.hid (B1.out.trans (b2.mono B1.out.size))
  clear b2 B1
  rw [hr2]
  go_wp2_with fail
  refine (D3.out _ ((HV.out.below B2.out).more (Nat.le_refl _) B2.out.size) ((HU.out.below B2.out).more (Nat.le_refl _) B2.out.size)).mono ?_
  rintro e w3 ⟨x1, x2, x3, x4, rfl, f3, b3⟩
  have B3 := Lib.hid (B2.out.trans (b3.mono B2.out.size))
  have F3 := Lib.hid f3.gs
  clear b3 B2 f3 D3
  obtain ⟨Ax1, cx1, rfl, -⟩ := F3.out.1
  obtain ⟨Ax2, cx2, rfl, -⟩ := F3.out.2.1
  obtain ⟨Ax3, cx3, rfl, -⟩ := F3.out.2.2.1
  obtain ⟨Ax4, cx4, rfl, -⟩ := F3.out.2.2.2
  go_wp2_with fail
  refine (D4.out _ ((HU.out.below B3.out).more (Nat.le_refl _) B3.out.size) ((HV.out.below B3.out).more (Nat.le_refl _) B3.out.size)).mono ?_
  rintro e w4 ⟨z1, z2, z3, z4, rfl, f4, b4⟩
  have B4 := Lib.hid (B3.out.trans (b4.mono B3.out.size))
  have F4 := Lib.hid f4.gs
  have X4 := Lib.hid (And.intro (F3.out.1.below b4) (And.intro (F3.out.2.1.below b4) (And.intro (F3.out.2.2.1.below b4) (F3.out.2.2.2.below b4))))
  have S4 := b4.size
  clear b4 B3 f4 D4 F3
  obtain ⟨Az1, cz1, rfl, -⟩ := F4.out.1
  obtain ⟨Az2, cz2, rfl, -⟩ := F4.out.2.1
  obtain ⟨Az3, cz3, rfl, -⟩ := F4.out.2.2.1
  obtain ⟨Az4, cz4, rfl, -⟩ := F4.out.2.2.2
  go_wp2_with fail
  have RX := Lib.hid ((Row.new w4 26 #[.slice Ax1 P.length cx1, .slice Ax2 O.length cx2, .slice Ax3 N.length cx3, .slice Ax4 Q.length cx4]).alloc (.cells #[.slice Az1 P.length cz1, .slice Az2 O.length cz2, .slice Az3 M.length cz3, .slice Az4 Q.length cz4] 26))
  have RZ : RowKit.Hid (Row _ (w4.heap.size + 1) 26 #[.slice Az1 P.length cz1, .slice Az2 O.length cz2, .slice Az3 M.length cz3, .slice Az4 Q.length cz4]) := Lib.hid (by have := Row.new (w4.alloc (.cells #[.slice Ax1 P.length cx1, .slice Ax2 O.length cx2, .slice Ax3 N.length cx3, .slice Ax4 Q.length cx4] 26)) 26 #[.slice Az1 P.length cz1, .slice Az2 O.length cz2, .slice Az3 M.length cz3, .slice Az4 Q.length cz4]; simpa using this)
  have B5 := Lib.hid ((B4.out.alloc B4.out.size (.cells #[.slice Ax1 P.length cx1, .slice Ax2 O.length cx2, .slice Ax3 N.length cx3, .slice Ax4 Q.length cx4] 26)).alloc (Nat.le_trans B4.out.size (by simp)) (.cells #[.slice Az1 P.length cz1, .slice Az2 O.length cz2, .slice Az3 M.length cz3, .slice Az4 Q.length cz4] 26))
  have C5 := Lib.hid (((Below.refl w4.heap.size w4).alloc (Nat.le_refl _) (.cells #[.slice Ax1 P.length cx1, .slice Ax2 O.length cx2, .slice Ax3 N.length cx3, .slice Ax4 Q.length cx4] 26)).alloc (by simp) (.cells #[.slice Az1 P.length cz1, .slice Az2 O.length cz2, .slice Az3 M.length cz3, .slice Az4 Q.length cz4] 26))
  generalize (w4.alloc (.cells #[.slice Ax1 P.length cx1, .slice Ax2 O.length cx2, .slice Ax3 N.length cx3, .slice Ax4 Q.length cx4] 26)).alloc (.cells #[.slice Az1 P.length cz1, .slice Az2 O.length cz2, .slice Az3 M.length cz3, .slice Az4 Q.length cz4] 26) = W5 at *
  have F1 := Lib.hid (X4.out.1.below (C5.out.mono S4))
  have F2 := Lib.hid (X4.out.2.1.below (C5.out.mono S4))
  have F3 := Lib.hid (X4.out.2.2.1.below (C5.out.mono S4))
  have F4' := Lib.hid (X4.out.2.2.2.below (C5.out.mono S4))
  have G1 := Lib.hid (F4.out.1.below C5.out)
  have G2 := Lib.hid (F4.out.2.1.below C5.out)
  have G3 := Lib.hid (F4.out.2.2.1.below C5.out)
  have G4 := Lib.hid (F4.out.2.2.2.below C5.out)
  have SZ := Lib.hid C5.out.size
  have S5 := Lib.hid S4
  generalize w4.heap.size = g at *
  clear X4 F4 B4 S4 C5
  go_loopw [33] (fun i wr => (i = .int .i64 0 ∨ i = .int .i64 1 ∨ i = .int .i64 2 ∨ i = .int .i64 3 ∨ i = .int .i64 4) ∧ ∃ q : Nat, wr = W5.drewN q) (fun i _ => ((4 : Int) - intOf i).toNat)
  case atStart => exact ⟨.inl rfl, 0, rfl⟩
  case round =>
    obtain ⟨hk, q, hwr⟩ := hrel
    have F1 := Lib.hid (F1.out.drewN q)
    have F2 := Lib.hid (F2.out.drewN q)
    have F3 := Lib.hid (F3.out.drewN q)
    have F4' := Lib.hid (F4'.out.drewN q)
    have G1 := Lib.hid (G1.out.drewN q)
    have G2 := Lib.hid (G2.out.drewN q)
    have G3 := Lib.hid (G3.out.drewN q)
    have G4 := Lib.hid (G4.out.drewN q)
    rw [← hwr] at F1 F2 F3 F4' G1 G2 G3 G4
    have k0 : wr.cell? ⟨g, 0, none⟩ = some (.slice Ax1 P.length cx1) := by rw [hwr]; exact RX.out.cell 0
    have k1 : wr.cell? ⟨g, 1, none⟩ = some (.slice Ax2 O.length cx2) := by rw [hwr]; exact RX.out.cell 1
    have k2 : wr.cell? ⟨g, 2, none⟩ = some (.slice Ax3 N.length cx3) := by rw [hwr]; exact RX.out.cell 2
    have k3 : wr.cell? ⟨g, 3, none⟩ = some (.slice Ax4 Q.length cx4) := by rw [hwr]; exact RX.out.cell 3
    have z0 : wr.cell? ⟨g + 1, 0, none⟩ = some (.slice Az1 P.length cz1) := by rw [hwr]; exact RZ.out.cell 0
    have z1 : wr.cell? ⟨g + 1, 1, none⟩ = some (.slice Az2 O.length cz2) := by rw [hwr]; exact RZ.out.cell 1
    have z3 : wr.cell? ⟨g + 1, 3, none⟩ = some (.slice Az4 Q.length cz4) := by rw [hwr]; exact RZ.out.cell 3
    have HWR := Lib.hid hwr
    clear hwr
    rcases hk with rfl | rfl | rfl | rfl | rfl
    · go_wp2_with fail
      go_quiet (first | (go_at_call 9; exact Calls.quiet_of (may_t _ P _ _ _ (F1.out.drewN _) R1.out)) | (go_at_call 16; exact Calls.quiet_of (same_t _ _ P _ _ _ _ _ (F1.out.drewN _) (G1.out.drewN _))))
      go_wp2
      go_roundw
      case rel => exact ⟨.inr (.inl rfl), _, by rw [HWR.out]; exact World.drewN_drewN ..⟩
      case measure => simp [intOf]
    · go_wp2_with fail
      go_quiet (first | (go_at_call 9; exact Calls.quiet_of (may_t _ O _ _ _ (F2.out.drewN _) R2.out)) | (go_at_call 16; exact Calls.quiet_of (same_t _ _ O _ _ _ _ _ (F2.out.drewN _) (G2.out.drewN _))))
      go_wp2
      go_roundw
      case rel => exact ⟨.inr (.inr (.inl rfl)), _, by rw [HWR.out]; exact World.drewN_drewN ..⟩
      case measure => simp [intOf]
    · go_wp2_with fail
      go_quiet (first | (go_at_call 9; exact Calls.quiet_of (may_t _ N _ _ _ (F3.out.drewN _) R3.out)))
      go_wp2
      go_roundw
      case rel => exact ⟨.inr (.inr (.inr (.inl rfl))), _, by rw [HWR.out]; exact World.drewN_drewN ..⟩
      case measure => simp [intOf]
    · go_wp2_with fail
      go_quiet (first | (go_at_call 9; exact Calls.quiet_of (may_t _ Q _ _ _ (F4'.out.drewN _) R4.out)) | (go_at_call 16; exact Calls.quiet_of (same_t _ _ Q _ _ _ _ _ (F4'.out.drewN _) (G4.out.drewN _))))
      go_wp2
      go_roundw
      case rel => exact ⟨.inr (.inr (.inr (.inr rfl))), _, by rw [HWR.out]; exact World.drewN_drewN ..⟩
      case measure => simp [intOf]
    · have hz := HWR.out
      have KK := Lib.hid (show ∀ W, Below wr.heap.size wr W → W.cell? ⟨g, 0, none⟩ = some (.slice Ax1 P.length cx1) ∧ W.cell? ⟨g, 1, none⟩ = some (.slice Ax2 O.length cx2) ∧ W.cell? ⟨g, 2, none⟩ = some (.slice Ax3 N.length cx3) ∧ W.cell? ⟨g, 3, none⟩ = some (.slice Ax4 Q.length cx4) from
        fun W hW => by
          have hg : g < wr.heap.size := by rw [hz]; exact RX.out.lt
          exact ⟨(hW.cell (by exact hg)).trans k0, (hW.cell (by exact hg)).trans k1, (hW.cell (by exact hg)).trans k2, (hW.cell (by exact hg)).trans k3⟩)
      have hsz : g ≤ wr.heap.size := by rw [hz]; exact SZ.out
      have BW : Below w.heap.size w wr := by rw [hz]; exact below_drewN B5.out q
      have GG := Lib.hid (show ∀ W, Below wr.heap.size wr W → Gs e16 W 0 W.heap.size (.slice Ax1 P.length cx1) P ∧ Gs e16 W 0 W.heap.size (.slice Ax2 O.length cx2) O ∧ Gs e16 W 0 W.heap.size (.slice Ax3 N.length cx3) N ∧ Gs e16 W 0 W.heap.size (.slice Ax4 Q.length cx4) Q ∧ Gs e16 W 0 W.heap.size (.slice A l.length c) l ∧ Gs e16 W 0 W.heap.size (.slice A0 m.length c0) m from
        fun W hW => by
          have h1 := Nat.le_trans S5.out hsz
          have h2 := hW.size
          have h3 := BW.size
          exact ⟨(F1.out.below (hW.mono h1)).more (Nat.le_refl _) (Nat.le_trans h1 h2), (F2.out.below (hW.mono h1)).more (Nat.le_refl _) (Nat.le_trans h1 h2), (F3.out.below (hW.mono h1)).more (Nat.le_refl _) (Nat.le_trans h1 h2), (F4'.out.below (hW.mono h1)).more (Nat.le_refl _) (Nat.le_trans h1 h2),
            (HV.out.below (BW.trans (hW.mono h3))).more (Nat.le_refl _) (Nat.le_trans h3 h2), (HU.out.below (BW.trans (hW.mono h3))).more (Nat.le_refl _) (Nat.le_trans h3 h2)⟩)
      have bP : P.length ≤ 1000000 := by omega
      have bO : O.length ≤ 1000000 := by omega
      have bN : N.length ≤ 1000000 := by omega
      have bQ : Q.length ≤ 1000000 := by omega
      have bl : l.length ≤ 1000000 := by omega
      have bm : m.length ≤ 1000000 := by omega
      have OC1 := Lib.hid (fun W (hW : Below wr.heap.size wr W) => told (E1.out ▸ or_any _ _ P Q 0 W (GG.out W hW).1 (GG.out W hW).2.2.2.1 bP bQ))
      have OC2 := Lib.hid (fun W (hW : Below wr.heap.size wr W) => told (E2.out ▸ or_any _ _ N P 0 W (GG.out W hW).2.2.1 (GG.out W hW).1 bN bP))
      have AC1 := Lib.hid (fun W (hW : Below wr.heap.size wr W) => told (E3.out ▸ and_any _ _ N m 0 W (GG.out W hW).2.2.1 (GG.out W hW).2.2.2.2.2 bN bm))
      have XC1 := Lib.hid (fun W (hW : Below wr.heap.size wr W) => told (E4.out ▸ xor_any _ _ Q m 0 W (GG.out W hW).2.2.2.1 (GG.out W hW).2.2.2.2.2 bQ bm))
      have hSc : Below wr.heap.size wr wr.drew := (Below.refl wr.heap.size wr).drew
      have BWH := Lib.hid BW
      have ww1 : IntKind.i64.wrap ((P.length : Int) + O.length) = (P.length : Int) + O.length := by rw [IntKind.wrap_i64]; omega
      have ww2 : IntKind.i64.wrap ((l.length : Int) + m.length) = (l.length : Int) + m.length := by rw [IntKind.wrap_i64]; omega
      clear hz hsz BW bP bO bN bQ bl bm z0 z1 z3 k0 k1 k2 k3 HWR RX RZ SZ S5 B5 F1 F2 F3 F4' G1 G2 G3 G4 E1 E2 E3 E4 R1 R2 R3 R4 HV HU
      go_wp2_with fail
      refine wp_region_held_drew (S := fun W => Below wr.heap.size wr W) (by kernel_rfl) hSc (fun _ => ?_)
      refine held_take 0 ?_ rfl (by kernel_rfl) (by kernel_rfl) (by kernel_rfl) (fun _ _ _ h => h) (by rfl) ?_ hSc ?_
      rotate_left
      · (intro W hSW; go_simp; try rfl)
      try simp only [Act.put, List.setIfInBounds_toArray, List.set_cons_zero, List.set_cons_succ]
      refine held_take 1 ?_ rfl (by kernel_rfl) (by kernel_rfl) (by kernel_rfl) (fun _ _ _ h => h) (by rfl) ?_ hSc ?_
      rotate_left
      · (intro W hSW; obtain ⟨k0, k1, k2, k3⟩ := KK.out W hSW; go_simp; try rfl)
      try simp only [Act.put, List.setIfInBounds_toArray, List.set_cons_zero, List.set_cons_succ]
      refine held_take 2 ?_ rfl (by kernel_rfl) (by kernel_rfl) (by kernel_rfl) (fun _ _ _ h => h) (by rfl) ?_ hSc ?_
      rotate_left
      · (intro W hSW; go_simp; try rfl)
      try simp only [Act.put, List.setIfInBounds_toArray, List.set_cons_zero, List.set_cons_succ]
      refine held_take 3 ?_ rfl (by kernel_rfl) (by kernel_rfl) (by kernel_rfl) (fun _ _ _ h => h) (by rfl) ?_ hSc ?_
      rotate_left
      · (intro W hSW; obtain ⟨k0, k1, k2, k3⟩ := KK.out W hSW; go_simp; try rfl)
      try simp only [Act.put, List.setIfInBounds_toArray, List.set_cons_zero, List.set_cons_succ]
      refine held_take 5 ?_ rfl (by kernel_rfl) (by kernel_rfl) (by kernel_rfl) (fun _ _ _ h => h) (by rfl) ?_ hSc ?_
      rotate_left
      · (intro W hSW; go_simp; try rfl)
      try simp only [Act.put, List.setIfInBounds_toArray, List.set_cons_zero, List.set_cons_succ]
      refine held_take 6 ?_ rfl (by kernel_rfl) (by kernel_rfl) (by kernel_rfl) (fun _ _ _ h => h) (by rfl) ?_ hSc ?_
      rotate_left
      · (intro W hSW; obtain ⟨k0, k1, k2, k3⟩ := KK.out W hSW; go_simp; try rfl)
      try simp only [Act.put, List.setIfInBounds_toArray, List.set_cons_zero, List.set_cons_succ]
      refine held_next 4 rfl (by kernel_rfl) (by rfl) ?_
      go_simp
      refine (OC1.out _ hSc).mono ?_
      rintro e w6 ⟨A6, c6, rfl, g6, b6⟩
      have hb6 : Below wr.heap.size wr w6 := hSc.trans (b6.mono hSc.size)
      refine ⟨fun W => Below wr.heap.size wr W, fun W hW => hW, hb6, ?_⟩
      clear hSc b6
      have hSc : Below wr.heap.size wr w6 := hb6
      clear hb6
      have GR := Lib.hid g6
      clear g6
      try simp only [Act.put, List.setIfInBounds_toArray, List.set_cons_zero, List.set_cons_succ]
      refine held_next 7 rfl (by kernel_rfl) (by rfl) ?_
      go_simp
      refine (same_tb _ _ O _ _ _ _ _ GR.out (GG.out _ hSc).2.1).mono ?_
      rintro e w7 ⟨rfl, b7⟩
      have hb7 : Below wr.heap.size wr w7 := hSc.trans (b7.mono hSc.size)
      refine ⟨fun W => Below wr.heap.size wr W, fun W hW => hW, hb7, ?_⟩
      clear hSc b7
      have hSc : Below wr.heap.size wr w7 := hb7
      clear hb7
      clear GR
      try simp only [Act.put, List.setIfInBounds_toArray, List.set_cons_zero, List.set_cons_succ]
      refine held_take 8 ?_ rfl (by kernel_rfl) (by kernel_rfl) (by kernel_rfl) (fun _ _ _ h => h) (by rfl) ?_ hSc ?_
      rotate_left
      · (intro W hSW; go_simp; try rfl)
      try simp only [Act.put, List.setIfInBounds_toArray, List.set_cons_zero, List.set_cons_succ]
      refine held_take 9 ?_ rfl (by kernel_rfl) (by kernel_rfl) (by kernel_rfl) (fun _ _ _ h => h) (by rfl) ?_ hSc ?_
      rotate_left
      · (intro W hSW; go_simp; try rfl)
      try simp only [Act.put, List.setIfInBounds_toArray, List.set_cons_zero, List.set_cons_succ]
      refine held_take 10 ?_ rfl (by kernel_rfl) (by kernel_rfl) (by kernel_rfl) (fun _ _ _ h => h) (by rfl) ?_ hSc ?_
      rotate_left
      · (intro W hSW; obtain ⟨k0, k1, k2, k3⟩ := KK.out W hSW; go_simp; try rfl)
      try simp only [Act.put, List.setIfInBounds_toArray, List.set_cons_zero, List.set_cons_succ]
      refine held_take 11 ?_ rfl (by kernel_rfl) (by kernel_rfl) (by kernel_rfl) (fun _ _ _ h => h) (by rfl) ?_ hSc ?_
      rotate_left
      · (intro W hSW; go_simp; try rfl)
      try simp only [Act.put, List.setIfInBounds_toArray, List.set_cons_zero, List.set_cons_succ]
      refine held_take 12 ?_ rfl (by kernel_rfl) (by kernel_rfl) (by kernel_rfl) (fun _ _ _ h => h) (by rfl) ?_ hSc ?_
      rotate_left
      · (intro W hSW; obtain ⟨k0, k1, k2, k3⟩ := KK.out W hSW; go_simp; try rfl)
      try simp only [Act.put, List.setIfInBounds_toArray, List.set_cons_zero, List.set_cons_succ]
      refine held_take 14 ?_ rfl (by kernel_rfl) (by kernel_rfl) (by kernel_rfl) (fun _ _ _ h => h) (by rfl) ?_ hSc ?_
      rotate_left
      · (intro W hSW; go_simp; try rfl)
      try simp only [Act.put, List.setIfInBounds_toArray, List.set_cons_zero, List.set_cons_succ]
      refine held_next 13 rfl (by kernel_rfl) (by rfl) ?_
      go_simp
      refine (OC2.out _ hSc).mono ?_
      rintro e w8 ⟨A8, c8, rfl, g8, b8⟩
      have hb8 : Below wr.heap.size wr w8 := hSc.trans (b8.mono hSc.size)
      refine ⟨fun W => Below wr.heap.size wr W, fun W hW => hW, hb8, ?_⟩
      clear hSc b8
      have hSc : Below wr.heap.size wr w8 := hb8
      clear hb8
      have GR := Lib.hid g8
      clear g8
      try simp only [Act.put, List.setIfInBounds_toArray, List.set_cons_zero, List.set_cons_succ]
      refine held_next 15 rfl (by kernel_rfl) (by rfl) ?_
      go_simp
      refine (same_tb _ _ l _ _ _ _ _ GR.out (GG.out _ hSc).2.2.2.2.1).mono ?_
      rintro e w9 ⟨rfl, b9⟩
      have hb9 : Below wr.heap.size wr w9 := hSc.trans (b9.mono hSc.size)
      refine ⟨fun W => Below wr.heap.size wr W, fun W hW => hW, hb9, ?_⟩
      clear hSc b9
      have hSc : Below wr.heap.size wr w9 := hb9
      clear hb9
      clear GR
      try simp only [Act.put, List.setIfInBounds_toArray, List.set_cons_zero, List.set_cons_succ]
      refine held_take 16 ?_ rfl (by kernel_rfl) (by kernel_rfl) (by kernel_rfl) (fun _ _ _ h => h) (by rfl) ?_ hSc ?_
      rotate_left
      · (intro W hSW; go_simp; try rfl)
      try simp only [Act.put, List.setIfInBounds_toArray, List.set_cons_zero, List.set_cons_succ]
      refine held_take 17 ?_ rfl (by kernel_rfl) (by kernel_rfl) (by kernel_rfl) (fun _ _ _ h => h) (by rfl) ?_ hSc ?_
      rotate_left
      · (intro W hSW; go_simp; try rfl)
      try simp only [Act.put, List.setIfInBounds_toArray, List.set_cons_zero, List.set_cons_succ]
      refine held_take 18 ?_ rfl (by kernel_rfl) (by kernel_rfl) (by kernel_rfl) (fun _ _ _ h => h) (by rfl) ?_ hSc ?_
      rotate_left
      · (intro W hSW; go_simp; try rfl)
      try simp only [Act.put, List.setIfInBounds_toArray, List.set_cons_zero, List.set_cons_succ]
      refine held_take 19 ?_ rfl (by kernel_rfl) (by kernel_rfl) (by kernel_rfl) (fun _ _ _ h => h) (by rfl) ?_ hSc ?_
      rotate_left
      · (intro W hSW; obtain ⟨k0, k1, k2, k3⟩ := KK.out W hSW; go_simp; try rfl)
      try simp only [Act.put, List.setIfInBounds_toArray, List.set_cons_zero, List.set_cons_succ]
      refine held_take 20 ?_ rfl (by kernel_rfl) (by kernel_rfl) (by kernel_rfl) (fun _ _ _ h => h) (by rfl) ?_ hSc ?_
      rotate_left
      · (intro W hSW; go_simp; try rfl)
      try simp only [Act.put, List.setIfInBounds_toArray, List.set_cons_zero, List.set_cons_succ]
      refine held_take 21 ?_ rfl (by kernel_rfl) (by kernel_rfl) (by kernel_rfl) (fun _ _ _ h => h) (by rfl) ?_ hSc ?_
      rotate_left
      · (intro W hSW; go_simp; try rfl)
      try simp only [Act.put, List.setIfInBounds_toArray, List.set_cons_zero, List.set_cons_succ]
      refine held_take 22 ?_ rfl (by kernel_rfl) (by kernel_rfl) (by kernel_rfl) (fun _ _ _ h => h) (by rfl) ?_ hSc ?_
      rotate_left
      · (intro W hSW; obtain ⟨k0, k1, k2, k3⟩ := KK.out W hSW; go_simp; try rfl)
      try simp only [Act.put, List.setIfInBounds_toArray, List.set_cons_zero, List.set_cons_succ]
      refine held_take 23 ?_ rfl (by kernel_rfl) (by kernel_rfl) (by kernel_rfl) (fun _ _ _ h => h) (by rfl) ?_ hSc ?_
      rotate_left
      · (intro W hSW; go_simp; try rfl)
      try simp only [Act.put, List.setIfInBounds_toArray, List.set_cons_zero, List.set_cons_succ]
      refine held_take 24 ?_ rfl (by kernel_rfl) (by kernel_rfl) (by kernel_rfl) (fun _ _ _ h => h) (by rfl) ?_ hSc ?_
      rotate_left
      · (intro W hSW; go_simp; try rfl)
      try simp only [Act.put, List.setIfInBounds_toArray, List.set_cons_zero, List.set_cons_succ]
      refine held_take 25 ?_ rfl (by kernel_rfl) (by kernel_rfl) (by kernel_rfl) (fun _ _ _ h => h) (by rfl) ?_ hSc ?_
      rotate_left
      · (intro W hSW; go_simp; try rfl)
      try simp only [Act.put, List.setIfInBounds_toArray, List.set_cons_zero, List.set_cons_succ]
      refine held_take 26 ?_ rfl (by kernel_rfl) (by kernel_rfl) (by kernel_rfl) (fun _ _ _ h => h) (by rfl) ?_ hSc ?_
      rotate_left
      · (intro W hSW; go_simp; try rfl)
      try simp only [Act.put, List.setIfInBounds_toArray, List.set_cons_zero, List.set_cons_succ]
      refine held_take 27 ?_ rfl (by kernel_rfl) (by kernel_rfl) (by kernel_rfl) (fun _ _ _ h => h) (by rfl) ?_ hSc ?_
      rotate_left
      · (intro W hSW; go_simp; try rfl)
      try simp only [Act.put, List.setIfInBounds_toArray, List.set_cons_zero, List.set_cons_succ]
      refine held_take 28 ?_ rfl (by kernel_rfl) (by kernel_rfl) (by kernel_rfl) (fun _ _ _ h => h) (by rfl) ?_ hSc ?_
      rotate_left
      · (intro W hSW; go_simp; try rfl)
      try simp only [Act.put, List.setIfInBounds_toArray, List.set_cons_zero, List.set_cons_succ]
      refine held_take 29 ?_ rfl (by kernel_rfl) (by kernel_rfl) (by kernel_rfl) (fun _ _ _ h => h) (by rfl) ?_ hSc ?_
      rotate_left
      · (intro W hSW; go_simp; try rfl)
      try simp only [Act.put, List.setIfInBounds_toArray, List.set_cons_zero, List.set_cons_succ]
      refine held_take 30 ?_ rfl (by kernel_rfl) (by kernel_rfl) (by kernel_rfl) (fun _ _ _ h => h) (by rfl) ?_ hSc ?_
      rotate_left
      · (intro W hSW; go_simp; try rfl)
      try simp only [Act.put, List.setIfInBounds_toArray, List.set_cons_zero, List.set_cons_succ]
      refine held_take 31 ?_ rfl (by kernel_rfl) (by kernel_rfl) (by kernel_rfl) (fun _ _ _ h => h) (by rfl) ?_ hSc ?_
      rotate_left
      · (intro W hSW; go_simp; try rfl)
      try simp only [Act.put, List.setIfInBounds_toArray, List.set_cons_zero, List.set_cons_succ]
      refine held_take 32 ?_ rfl (by kernel_rfl) (by kernel_rfl) (by kernel_rfl) (fun _ _ _ h => h) (by rfl) ?_ hSc ?_
      rotate_left
      · (intro W hSW; go_simp; try rfl)
      try simp only [Act.put, List.setIfInBounds_toArray, List.set_cons_zero, List.set_cons_succ]
      refine held_take 33 ?_ rfl (by kernel_rfl) (by kernel_rfl) (by kernel_rfl) (fun _ _ _ h => h) (by rfl) ?_ hSc ?_
      rotate_left
      · (intro W hSW; go_simp; try rfl)
      try simp only [Act.put, List.setIfInBounds_toArray, List.set_cons_zero, List.set_cons_succ]
      refine held_take 34 ?_ rfl (by kernel_rfl) (by kernel_rfl) (by kernel_rfl) (fun _ _ _ h => h) (by rfl) ?_ hSc ?_
      rotate_left
      · (intro W hSW; obtain ⟨k0, k1, k2, k3⟩ := KK.out W hSW; go_simp; try rfl)
      try simp only [Act.put, List.setIfInBounds_toArray, List.set_cons_zero, List.set_cons_succ]
      refine held_take 35 ?_ rfl (by kernel_rfl) (by kernel_rfl) (by kernel_rfl) (fun _ _ _ h => h) (by rfl) ?_ hSc ?_
      rotate_left
      · (intro W hSW; go_simp; try rfl)
      try simp only [Act.put, List.setIfInBounds_toArray, List.set_cons_zero, List.set_cons_succ]
      refine held_next 36 rfl (by kernel_rfl) (by rfl) ?_
      go_simp
      refine (AC1.out _ hSc).mono ?_
      rintro e w10 ⟨A10, c10, rfl, g10, b10⟩
      have hb10 : Below wr.heap.size wr w10 := hSc.trans (b10.mono hSc.size)
      refine ⟨fun W => Below wr.heap.size wr W, fun W hW => hW, hb10, ?_⟩
      clear hSc b10
      have hSc : Below wr.heap.size wr w10 := hb10
      clear hb10
      have GR := Lib.hid g10
      clear g10
      try simp only [Act.put, List.setIfInBounds_toArray, List.set_cons_zero, List.set_cons_succ]
      refine held_take 37 ?_ rfl (by kernel_rfl) (by kernel_rfl) (by kernel_rfl) (fun _ _ _ h => h) (by rfl) ?_ hSc ?_
      rotate_left
      · (intro W hSW; go_simp; try rfl)
      try simp only [Act.put, List.setIfInBounds_toArray, List.set_cons_zero, List.set_cons_succ]
      refine held_take 38 ?_ rfl (by kernel_rfl) (by kernel_rfl) (by kernel_rfl) (fun _ _ _ h => h) (by rfl) ?_ hSc ?_
      rotate_left
      · (intro W hSW; go_simp; try rfl)
      try simp only [Act.put, List.setIfInBounds_toArray, List.set_cons_zero, List.set_cons_succ]
      refine held_take 39 ?_ rfl (by kernel_rfl) (by kernel_rfl) (by kernel_rfl) (fun _ _ _ h => h) (by rfl) ?_ hSc ?_
      rotate_left
      · (intro W hSW; go_simp; try rfl)
      try simp only [Act.put, List.setIfInBounds_toArray, List.set_cons_zero, List.set_cons_succ]
      refine held_take 40 ?_ rfl (by kernel_rfl) (by kernel_rfl) (by kernel_rfl) (fun _ _ _ h => h) (by rfl) ?_ hSc ?_
      rotate_left
      · (intro W hSW; go_simp; try rfl)
      try simp only [Act.put, List.setIfInBounds_toArray, List.set_cons_zero, List.set_cons_succ]
      refine held_take 41 ?_ rfl (by kernel_rfl) (by kernel_rfl) (by kernel_rfl) (fun _ _ _ h => h) (by rfl) ?_ hSc ?_
      rotate_left
      · (intro W hSW; go_simp; try rfl)
      try simp only [Act.put, List.setIfInBounds_toArray, List.set_cons_zero, List.set_cons_succ]
      refine held_take 42 ?_ rfl (by kernel_rfl) (by kernel_rfl) (by kernel_rfl) (fun _ _ _ h => h) (by rfl) ?_ hSc ?_
      rotate_left
      · (intro W hSW; obtain ⟨k0, k1, k2, k3⟩ := KK.out W hSW; go_simp; try rfl)
      try simp only [Act.put, List.setIfInBounds_toArray, List.set_cons_zero, List.set_cons_succ]
      refine held_take 43 ?_ rfl (by kernel_rfl) (by kernel_rfl) (by kernel_rfl) (fun _ _ _ h => h) (by rfl) ?_ hSc ?_
      rotate_left
      · (intro W hSW; go_simp; try rfl)
      try simp only [Act.put, List.setIfInBounds_toArray, List.set_cons_zero, List.set_cons_succ]
      refine held_take 45 ?_ rfl (by kernel_rfl) (by kernel_rfl) (by kernel_rfl) (fun _ _ _ h => h) (by rfl) ?_ hSc ?_
      rotate_left
      · (intro W hSW; go_simp; try rfl)
      try simp only [Act.put, List.setIfInBounds_toArray, List.set_cons_zero, List.set_cons_succ]
      refine held_next 44 rfl (by kernel_rfl) (by rfl) ?_
      go_simp
      refine (XC1.out _ hSc).mono ?_
      rintro e w11 ⟨A11, c11, rfl, g11, b11⟩
      have hb11 : Below wr.heap.size wr w11 := hSc.trans (b11.mono hSc.size)
      refine ⟨fun W => Below wr.heap.size wr W, fun W hW => hW, hb11, ?_⟩
      clear hSc b11
      have hSc : Below wr.heap.size wr w11 := hb11
      clear hb11
      have GR := Lib.hid g11
      clear g11
      try simp only [Act.put, List.setIfInBounds_toArray, List.set_cons_zero, List.set_cons_succ]
      refine held_next 46 rfl (by kernel_rfl) (by rfl) ?_
      go_simp
      refine (same_tb _ _ l _ _ _ _ _ GR.out (GG.out _ hSc).2.2.2.2.1).mono ?_
      rintro e w12 ⟨rfl, b12⟩
      have hb12 : Below wr.heap.size wr w12 := hSc.trans (b12.mono hSc.size)
      refine ⟨fun W => Below wr.heap.size wr W, fun W hW => hW, hb12, ?_⟩
      clear hSc b12
      have hSc : Below wr.heap.size wr w12 := hb12
      clear hb12
      clear GR
      try simp only [Act.put, List.setIfInBounds_toArray, List.set_cons_zero, List.set_cons_succ]
      refine held_take 47 ?_ rfl (by kernel_rfl) (by kernel_rfl) (by kernel_rfl) (fun _ _ _ h => h) (by rfl) ?_ hSc ?_
      rotate_left
      · (intro W hSW; go_simp; try rfl)
      try simp only [Act.put, List.setIfInBounds_toArray, List.set_cons_zero, List.set_cons_succ]
      refine held_take 48 ?_ rfl (by kernel_rfl) (by kernel_rfl) (by kernel_rfl) (fun _ _ _ h => h) (by rfl) ?_ hSc ?_
      rotate_left
      · (intro W hSW; go_simp; try rfl)
      try simp only [Act.put, List.setIfInBounds_toArray, List.set_cons_zero, List.set_cons_succ]
      refine held_next 49 rfl (by kernel_rfl) (by rfl) ?_
      go_simp
      refine (known_any _).mono ?_
      rintro e w13 ⟨rfl, b13⟩
      have hb13 : Below wr.heap.size wr w13 := hSc.trans (b13.mono hSc.size)
      refine ⟨fun W => Below wr.heap.size wr W, fun W hW => hW, hb13, ?_⟩
      clear hSc b13
      have hSc : Below wr.heap.size wr w13 := hb13
      clear hb13
      try simp only [Act.put, List.setIfInBounds_toArray, List.set_cons_zero, List.set_cons_succ]
      refine held_take 50 ?_ rfl (by kernel_rfl) (by kernel_rfl) (by kernel_rfl) (fun _ _ _ h => h) (by rfl) ?_ hSc ?_
      rotate_left
      · (intro W hSW; go_simp; try rfl)
      try simp only [Act.put, List.setIfInBounds_toArray, List.set_cons_zero, List.set_cons_succ]
      refine held_next 51 rfl (by kernel_rfl) (by rfl) ?_
      go_simp
      refine ⟨fun W => Below wr.heap.size wr W, fun W hW => hW, hSc, ?_⟩
      refine wpAnyH_done (by kernel_rfl) ?_ _
      have HS := Lib.hid hSc
      clear hSc
      go_wp2
      go_ret
      exact ⟨rfl, BWH.out.trans (HS.out.mono BWH.out.size)⟩
end Go.Proofs.Ythfhkcnbpbmenaa
