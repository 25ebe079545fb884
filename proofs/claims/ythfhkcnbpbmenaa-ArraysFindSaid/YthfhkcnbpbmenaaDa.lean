/- Walks: whether two rows are the same; what is known; all calls of two rows. -/
import Derived.Test.YthfhkcnbpbmenaaD9
namespace Go.Proofs.Ythfhkcnbpbmenaa
open Go.RowKit
set_option linter.unusedVariables false

theorem take_succ_eq {l m : List UInt16} {k : Nat} (hl : k < l.length) (hm : k < m.length) (h : l.take k = m.take k) (he : at16 l k = at16 m k) : l.take (k + 1) = m.take (k + 1) := by
  rw [List.take_add_one, List.take_add_one, h, at16_get hl, at16_get hm, he]

set_option maxHeartbeats 1000000 in
theorem same_any (v u : Value) (l m : List UInt16) (lo hi lo' hi' : Nat) (W : World) (hv : Gs e16 W lo hi v l) (hu : Gs e16 W lo' hi' u m) :
    Calls Try.prog 16 #[v, u] W fun e w' => e = .returned (.bool (decide (l = m))) ∧ ∃ n, w' = W.drewN n := by
  have hlen := hv.len
  have hv0 := hv
  have hu0 := hu
  obtain ⟨A, c, rfl, -⟩ := hv
  obtain ⟨B, d, rfl, -⟩ := hu
  have HV := Lib.hid hv0
  have HU := Lib.hid hu0
  clear hv0 hu0
  by_cases hlm : l.length = m.length
  · obtain ⟨n, hn⟩ : ∃ n, n = l.length := ⟨_, rfl⟩
    have HN := Lib.hid hn
    have HM := Lib.hid (hn.trans hlm)
    rw [← hlm, ← hn]
    rw [← hn] at hlen
    clear hn hlm
    go_enter Try.func16, Try.ntmps16
    go_wp2
    go_loopw [5] (fun i wr => ∃ k q : Nat, k ≤ n ∧ i = .int .i64 k ∧ wr = W.drewN q ∧ l.take k = m.take k) (fun i _ => n - (intOf i).toNat)
    case atStart => exact ⟨0, 0, Nat.zero_le _, rfl, rfl, rfl⟩
    case round =>
      obtain ⟨k, q, hk, rfl, rfl, ht⟩ := hrel
      by_cases hlt : k < n
      · have hkl : k < l.length := by have := HN.out; omega
        have hkm : k < m.length := by have := HM.out; omega
        obtain ⟨b1, o1, c1, e1, -, -, -, -, hc1⟩ := HV.out.form (by rintro rfl; simp at hkl)
        rw [← HN.out] at e1
        injection e1 with e1 _ e2
        subst e1 e2
        obtain ⟨b2, o2, c2, e1, -, -, -, -, hc2⟩ := HU.out.form (by rintro rfl; simp at hkm)
        rw [← HM.out] at e1
        injection e1 with e1 _ e2
        subst e1 e2
        have k1 := hc1 k _ (at16_get hkl)
        have k2 := hc2 k _ (at16_get hkm)
        simp only [e16, b16] at k1 k2
        obtain ⟨x, hx⟩ : ∃ x : Int, x = ((at16 l k).toNat : Int) := ⟨_, rfl⟩
        obtain ⟨y, hy⟩ : ∃ y : Int, y = ((at16 m k).toNat : Int) := ⟨_, rfl⟩
        have hxy : x = y ↔ at16 l k = at16 m k := by rw [hx, hy, ← UInt16.toNat_inj]; omega
        rw [← hx] at k1
        rw [← hy] at k2
        clear hc1 hc2 hx hy
        by_cases he : x = y
        · have HT := Lib.hid (take_succ_eq hkl hkm ht (hxy.1 he))
          subst he
          clear ht hxy hkl hkm
          go_wp2
          go_quiet (fail)
          go_wp2
          go_roundw
          case rel => exact ⟨k + 1, _, hlt, by go_num, rfl, HT.out⟩
          case measure => simp [intOf]; omega
        · have hF : decide (l = m) = false := decide_eq_false (by rintro rfl; exact he (hxy.2 rfl))
          have HF := Lib.hid hF
          clear ht hxy hF hkl hkm
          go_wp2
          go_quiet (fail)
          go_wp2
          go_ret
          exact ⟨by rw [HF.out]; rfl, _, World.drewN_drewN ..⟩
      · obtain rfl : k = n := by omega
        have hT : decide (l = m) = true := decide_eq_true (by have := HN.out; have := HM.out; rwa [List.take_of_length_le (by omega), List.take_of_length_le (by omega)] at ht)
        have HT := Lib.hid hT
        clear hT ht
        go_wp2
        go_ret
        exact ⟨by rw [HT.out]; rfl, _, rfl⟩
  · have hF : decide (l = m) = false := decide_eq_false (by rintro rfl; exact hlm rfl)
    have HF := Lib.hid hF
    have hlm2 := HU.out.len
    have hlmi : ¬ (l.length : Int) = m.length := by omega
    have q1 : decide ((l.length : Int) = m.length) = false := decide_eq_false hlmi
    have q2 : ((l.length : Int) == m.length) = false := beq_false_of_ne hlmi
    have q3 : ((l.length : Int) != m.length) = true := by simp [bne, q2]
    clear hF
    go_enter Try.func16, Try.ntmps16
    go_wp2
    go_ret
    exact ⟨by rw [HF.out]; rfl, 0, rfl⟩

theorem below_drew {W : World} (n : Nat) : Below W.heap.size W (W.drewN n) := below_drewN (Below.refl _ _) n
theorem same_b (v u : Value) (l m : List UInt16) (lo hi lo' hi' : Nat) (W : World) (hv : Gs e16 W lo hi v l) (hu : Gs e16 W lo' hi' u m) :
    Calls Try.prog 16 #[v, u] W fun e w' => e = .returned (.bool (decide (l = m))) ∧ Below W.heap.size W w' :=
  (same_any v u l m lo hi lo' hi' W hv hu).mono fun e w' ⟨h1, n, h2⟩ => ⟨h1, h2 ▸ below_drew n⟩
theorem may_b (v : Value) (l : List UInt16) (lo hi : Nat) (W : World) (hv : Gs e16 W lo hi v l) :
    Calls Try.prog 9 #[v] W fun e w' => e = .returned (.bool (ris l)) ∧ Below W.heap.size W w' :=
  (may_any v l lo hi W hv).mono fun e w' ⟨h1, n, h2⟩ => ⟨h1, h2 ▸ below_drew n⟩
theorem refMay_b (v : Value) (l : List UInt16) (lo hi : Nat) (W : World) (hv : Gs e16 W lo hi v l) :
    Calls Try.prog 10 #[v] W fun e w' => e = .returned (.bool (ris l)) ∧ Below W.heap.size W w' :=
  (refMay_any v l lo hi W hv).mono fun e w' ⟨h1, n, h2⟩ => ⟨h1, h2 ▸ below_drew n⟩
theorem runs_b (v : Value) (l : List UInt16) (lo hi : Nat) (W : World) (hv : Gs e16 W lo hi v l) (hb : l.length ≤ 100000000) :
    Calls Try.prog 14 #[v] W fun e w' => e = .returned (.int .i64 (rn none l)) ∧ Below W.heap.size W w' :=
  (runs_any v l lo hi W hv hb).mono fun e w' ⟨h1, n, h2⟩ => ⟨h1, h2 ▸ below_drew n⟩
theorem find_b (v : Value) (l : List UInt16) (lo hi : Nat) (X : Int) (x : UInt16) (hx : X = x.toNat) (W : World) (hv : Gs e16 W lo hi v l) (hb : l.length ≤ 100000000) :
    Calls Try.prog 12 #[v, .int .u16 X] W fun e w' => e = .returned (.tuple #[.int .i64 (bs l x), .bool (fd l x)]) ∧ Below W.heap.size W w' :=
  (find_any v l lo hi X x hx W hv hb).mono fun e w' ⟨h1, h2⟩ => ⟨h1, h2 ▸ Below.refl _ _⟩

theorem u16_wf {a : Int} (h : (Lit.int .u16 a).wf = true) : ∃ x : UInt16, a = x.toNat := by
  simp [Lit.wf, IntKind.min, IntKind.max, IntKind.bits, IntKind.signed] at h
  exact ⟨UInt16.ofNat a.toNat, by rw [u16_of _ (by omega)]; omega⟩
theorem lit16 (w : World) (l : List UInt16) (cs : Array Value) (n : Nat) (hcs : cs = (l.map e16.val).toArray) (hn : l.length = n) (hs : n ≤ 1000) :
    Gs e16 (w.alloc (.cells cs 23)) 0 (w.alloc (.cells cs 23)).heap.size (.slice (some ⟨w.heap.size, 0, none⟩) n n) l :=
  (Gw.lit (k := e16) w w.heap.size (Nat.le_refl _) l cs n hcs hn hs).sl.more (Nat.zero_le _) (Nat.le_refl _)
theorem k_bs : bs [1, 2, 3, 7, 9, 10] 8 = 4 := by decide +kernel
theorem k_fd : fd [1, 2, 3, 7, 9, 10] 8 = false := by decide +kernel
theorem k_rn : rn none [1, 2, 3, 7, 9, 10] = 3 := by decide +kernel
theorem k_ris : ris [1, 2, 3, 7, 9, 10] = true := by decide +kernel
theorem k_ris2 : ris [1, 1] = false := by decide +kernel
theorem k_mg : mg fXor [1, 2] [2, 3] = [1, 3] := by simp [mg, fXor]
theorem find_k (v : Value) (W : World) (hv : Gs e16 W 0 W.heap.size v [1, 2, 3, 7, 9, 10]) : Calls Try.prog 12 #[v, .int .u16 8] W fun e w' => e = .returned (.tuple #[.int .i64 4, .bool false]) ∧ Below W.heap.size W w' :=
  (find_b v _ 0 _ 8 8 rfl W hv (by simp)).mono fun e w' ⟨h1, h2⟩ => ⟨by rw [h1, k_bs, k_fd]; rfl, h2⟩
theorem runs_k (v : Value) (W : World) (hv : Gs e16 W 0 W.heap.size v [1, 2, 3, 7, 9, 10]) : Calls Try.prog 14 #[v] W fun e w' => e = .returned (.int .i64 3) ∧ Below W.heap.size W w' :=
  (runs_b v _ 0 _ W hv (by simp)).mono fun e w' ⟨h1, h2⟩ => ⟨by rw [h1, k_rn]; rfl, h2⟩
theorem xor_k (v u : Value) (W : World) (hv : Gs e16 W 0 W.heap.size v [1, 2]) (hu : Gs e16 W 0 W.heap.size u [2, 3]) : Calls Try.prog 23 #[v, u] W fun e w' => ∃ A c, e = .returned (.slice A 2 c) ∧ Gs e16 w' 0 w'.heap.size (.slice A 2 c) [1, 3] ∧ Below W.heap.size W w' := by
  refine (xor_any v u _ _ 0 W hv hu (by simp) (by simp)).mono ?_
  rintro e w' ⟨v', rfl, o, b⟩
  rw [k_mg] at o
  obtain ⟨A, c, rfl, -⟩ := o.sl
  exact ⟨A, c, rfl, o.sl.more (Nat.zero_le _) (Nat.le_refl _), b⟩
theorem same_k (v u : Value) (W : World) (hv : Gs e16 W 0 W.heap.size v [1, 3]) (hu : Gs e16 W 0 W.heap.size u [1, 3]) : Calls Try.prog 16 #[v, u] W fun e w' => e = .returned (.bool true) ∧ Below W.heap.size W w' :=
  (same_b v u _ _ 0 _ 0 _ W hv hu).mono fun e w' ⟨h1, h2⟩ => ⟨by rw [h1, decide_eq_true rfl], h2⟩
theorem may_k (v : Value) (W : World) (hv : Gs e16 W 0 W.heap.size v [1, 2, 3, 7, 9, 10]) : Calls Try.prog 9 #[v] W fun e w' => e = .returned (.bool true) ∧ Below W.heap.size W w' :=
  (may_b v _ 0 _ W hv).mono fun e w' ⟨h1, h2⟩ => ⟨by rw [h1, k_ris], h2⟩
theorem may_k2 (v : Value) (W : World) (hv : Gs e16 W 0 W.heap.size v [1, 1]) : Calls Try.prog 9 #[v] W fun e w' => e = .returned (.bool false) ∧ Below W.heap.size W w' :=
  (may_b v _ 0 _ W hv).mono fun e w' ⟨h1, h2⟩ => ⟨by rw [h1, k_ris2], h2⟩

set_option maxHeartbeats 1000000 in
theorem known_any (w : World) : Calls Try.prog 8 #[] w fun e w' => e = .returned (.bool true) ∧ Below w.heap.size w w' := by
  have G0 := Lib.hid (lit16 w [1, 2, 3, 7, 9, 10] #[.int .u16 1, .int .u16 2, .int .u16 3, .int .u16 7, .int .u16 9, .int .u16 10] 6 (by rfl) rfl (by omega))
  have B0 := Lib.hid ((Below.refl w.heap.size w).alloc (Nat.le_refl _) (.cells #[.int .u16 1, .int .u16 2, .int .u16 3, .int .u16 7, .int .u16 9, .int .u16 10] 23))
  go_enter Try.func8, Try.ntmps8
  go_wp2_with fail
  generalize w.alloc (.cells #[.int .u16 1, .int .u16 2, .int .u16 3, .int .u16 7, .int .u16 9, .int .u16 10] 23) = W0 at *
  refine (find_k _ _ G0.out).mono ?_
  rintro e w1 ⟨rfl, b1⟩
  have B1 := Lib.hid b1
  clear b1
  go_wp2_with fail
  refine (runs_k _ _ ((G0.out.below B1.out).more (Nat.le_refl _) B1.out.size)).mono ?_
  rintro e w2 ⟨rfl, b2⟩
  have B2 := Lib.hid (B1.out.trans (b2.mono B1.out.size))
  clear b2 B1
  go_wp2_with fail
  have L2 := lit16 w2 [1, 2] #[.int .u16 1, .int .u16 2] 2 (by rfl) rfl (by omega)
  have L3 := lit16 (w2.alloc (.cells #[.int .u16 1, .int .u16 2] 23)) [2, 3] #[.int .u16 2, .int .u16 3] 2 (by rfl) rfl (by omega)
  have B3 := Lib.hid ((B2.out.alloc B2.out.size (.cells #[.int .u16 1, .int .u16 2] 23)).alloc (Nat.le_trans B2.out.size (by simp)) (.cells #[.int .u16 2, .int .u16 3] 23))
  have L2b := (L2.alloc (Nat.le_refl _) (.cells #[.int .u16 2, .int .u16 3] 23)).more (Nat.le_refl _) (by simp : _ ≤ ((w2.alloc (.cells #[.int .u16 1, .int .u16 2] 23)).alloc (.cells #[.int .u16 2, .int .u16 3] 23)).heap.size)
  refine (xor_k _ _ _ L2b (by simpa using L3)).mono ?_
  rintro e w3 ⟨A3, c3, rfl, g3, b3⟩
  have G3 := Lib.hid g3
  have B4 := Lib.hid (B3.out.trans (b3.mono B3.out.size))
  clear b3 B3 B2 L2 L3 L2b g3
  go_wp2_with fail
  have L4 := lit16 w3 [1, 3] #[.int .u16 1, .int .u16 3] 2 (by rfl) rfl (by omega)
  have B5 := Lib.hid (B4.out.alloc B4.out.size (.cells #[.int .u16 1, .int .u16 3] 23))
  refine (same_k _ _ _ ((G3.out.alloc (Nat.le_refl _) _).more (Nat.le_refl _) (by simp)) L4).mono ?_
  rintro e w4 ⟨rfl, b4⟩
  have B6 := Lib.hid (B5.out.trans (b4.mono B5.out.size))
  clear b4 B5 B4 G3 L4
  go_wp2_with fail
  refine (may_k _ _ ((G0.out.below B6.out).more (Nat.le_refl _) B6.out.size)).mono ?_
  rintro e w5 ⟨rfl, b5⟩
  have B7 := Lib.hid (B6.out.trans (b5.mono B6.out.size))
  clear b5 B6
  go_wp2_with fail
  have L5 := lit16 w5 [1, 1] #[.int .u16 1, .int .u16 1] 2 (by rfl) rfl (by omega)
  have B8 := Lib.hid (B7.out.alloc B7.out.size (.cells #[.int .u16 1, .int .u16 1] 23))
  refine (may_k2 _ _ L5).mono ?_
  rintro e w6 ⟨rfl, b6⟩
  have B9 := Lib.hid (B8.out.trans (b6.mono B8.out.size))
  clear b6 B8 B7 L5
  go_wp2
  go_ret
  exact ⟨rfl, B0.out.trans (B9.out.mono B0.out.size)⟩
end Go.Proofs.Ythfhkcnbpbmenaa
