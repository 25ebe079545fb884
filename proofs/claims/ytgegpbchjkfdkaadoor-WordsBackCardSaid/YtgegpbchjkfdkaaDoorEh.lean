/- Proved of WordsBack: whatever its arguments. -/
import Derived.Test.YtgegpbchjkfdkaaDoorE8
namespace Go.Proofs.YtgegpbchjkfdkaaDoor
open Go.RowKit
set_option linter.unusedVariables false

set_option maxHeartbeats 400000 in
theorem back_long (a0 : Option Addr) (len0 cap0 : Nat) (lo hi : Int) (w : World) (hT : Tb w) (h : 3000 < len0) (h2 : len0 ≤ 9223372036854775807) :
    Calls Tryd.prog 5 #[.slice a0 len0 cap0, .int .i64 lo, .int .i64 hi] w fun e w' => e = .returned (.bool true) ∧ Below w.heap.size w w' := by
  have hi : (3000 : Int) < len0 := by omega
  clear h
  go_enter Tryd.func5, Tryd.ntmps5
  go_wp2_with (go_at_call 8; refine (known_p _ hT).mono ?_; rintro e w1 ⟨rfl, b1⟩)
  go_ret
  exact ⟨rfl, b1⟩
theorem wm_mk_ls (p : Nat → Bool) : wm (mk (ls p 65536)) = wm p := wm_ext fun x hx => by
  have e : x = (UInt16.ofNat x).toNat := (u16_of x hx).symm
  rw [e, Bool.eq_iff_iff, mk_iff, ls_mem p 65536 (Nat.le_refl _), u16_of x hx]
  exact ⟨fun h => h.2, fun h => ⟨hx, h⟩⟩
theorem ls_nth (p : Nat → Bool) {N k : Nat} (hk : k < ct p N) : ∃ y, y < N ∧ p y = true ∧ ct p y = k ∧ (ls p N)[k]? = some (UInt16.ofNat y) := by
  induction N with
  | zero => simp [ct] at hk
  | succ N ih =>
    by_cases h : k < ct p N
    · obtain ⟨y, h1, h2, h3, h4⟩ := ih h
      refine ⟨y, by omega, h2, h3, ?_⟩
      rw [ls, List.getElem?_append_left (by rw [ls_ct]; exact h)]
      exact h4
    · rw [ct] at hk
      have hp : p N = true := by
        cases hp : p N
        · rw [hp] at hk; simp at hk; omega
        · rfl
      rw [hp] at hk
      simp at hk
      have he : ct p N = k := by omega
      refine ⟨N, by omega, hp, he, ?_⟩
      rw [← he]
      exact ls_at p (Nat.lt_succ_self N) hp
theorem flp_all (p : Nat → Bool) : ct (flp p 0 65536) 65536 = 65536 - ct p 65536 := by
  rw [← ct_not]
  exact ct_ext fun j hj => flp_in (L := 0) (H := 65536) (by omega) hj

set_option maxHeartbeats 4000000 in
set_option maxRecDepth 100000 in
theorem back_good (v : Value) (l : List UInt16) (lo hi : Int) (w : World) (hv : Gs e16 w 0 w.heap.size v l) (hT : Tb w) (hl : l.length ≤ 3000) :
    Calls Tryd.prog 5 #[v, .int .i64 lo, .int .i64 hi] w fun e w' => e = .returned (.bool true) ∧ Below w.heap.size w w' := by
  have HV := Lib.hid hv
  have HT := Lib.hid hT
  obtain ⟨A, c, rfl, -⟩ := hv
  have hli : (l.length : Int) ≤ 3000 := by omega
  obtain ⟨p, hp⟩ : ∃ p, p = mk l := ⟨_, rfl⟩
  obtain ⟨n, hn⟩ : ∃ n, n = ct p 65536 := ⟨_, rfl⟩
  have hn6 : (n : Int) ≤ 65536 := by have := ct_le p 65536; omega
  obtain ⟨m, hm⟩ : ∃ m, m = ct (flp p 0 65536) 65536 := ⟨_, rfl⟩
  have hmn : ((m : Int) == 65536 - (n : Int)) = true := by
    have := flp_all p
    rw [← hm, ← hn] at this
    simp
    omega
  have hm6 : (m : Int) ≤ 65536 := by have := ct_le (flp p 0 65536) 65536; omega
  have HP := Lib.hid hp
  have HN := Lib.hid hn
  have HM := Lib.hid hm
  clear hT hl hp hn hm
  go_enter Tryd.func5, Tryd.ntmps5
  go_wp2_with fail
  refine (wof_p _ l _ HV.out).mono ?_
  rw [← HP.out]
  rintro e w1 ⟨A1, c1, rfl, g1, b1⟩
  have G1 := Lib.hid g1
  have B1 := Lib.hid b1
  have T1 := Lib.hid (HT.out.step b1)
  clear g1 b1
  go_wp2_with fail
  refine (wlist_p _ p n _ G1.out T1.out HN.out.symm).mono ?_
  rintro e w2 ⟨A2, c2, rfl, g2, b2⟩
  have L2 := Lib.hid g2
  have G2 := Lib.hid (G1.out.step b2)
  have B2 := Lib.hid (B1.out.trans (b2.mono B1.out.size))
  have T2 := Lib.hid (T1.out.step b2)
  clear g2 b2
  go_wp2_with fail
  refine (wof_p _ _ _ L2.out).mono ?_
  rw [wm_mk_ls]
  rintro e w3 ⟨A3, c3, rfl, g3, b3⟩
  have G3 := Lib.hid g3
  have G3b := Lib.hid (G2.out.step b3)
  have L3 := Lib.hid (L2.out.step b3)
  have B3 := Lib.hid (B2.out.trans (b3.mono B2.out.size))
  have T3 := Lib.hid (T2.out.step b3)
  clear g3 b3
  go_wp2_with fail
  refine (same64_p _ _ _ _ _ G3.out G3b.out rfl).mono ?_
  rintro e w4 ⟨rfl, b4⟩
  have G4 := Lib.hid (G3b.out.step b4)
  have L4 := Lib.hid (L3.out.step b4)
  have B4 := Lib.hid (B3.out.trans (b4.mono B3.out.size))
  have T4 := Lib.hid (T3.out.step b4)
  clear b4
  go_wp2_with fail
  refine (wflip_p _ p lo hi _ G4.out).mono ?_
  rintro e w5 ⟨A5, c5, rfl, g5, b5⟩
  have F5 := Lib.hid g5
  have G5 := Lib.hid (G4.out.step b5)
  have L5 := Lib.hid (L4.out.step b5)
  have B5 := Lib.hid (B4.out.trans (b5.mono B4.out.size))
  have T5 := Lib.hid (T4.out.step b5)
  clear g5 b5
  go_wp2_with fail
  refine (wflip_p _ _ lo hi _ F5.out).mono ?_
  rw [flp_twice]
  rintro e w6 ⟨A6, c6, rfl, g6, b6⟩
  have F6 := Lib.hid g6
  have G6 := Lib.hid (G5.out.step b6)
  have L6 := Lib.hid (L5.out.step b6)
  have B6 := Lib.hid (B5.out.trans (b6.mono B5.out.size))
  have T6 := Lib.hid (T5.out.step b6)
  clear g6 b6
  go_wp2_with fail
  refine (same64_p _ _ _ _ _ F6.out G6.out rfl).mono ?_
  rintro e w7 ⟨rfl, b7⟩
  have G7 := Lib.hid (G6.out.step b7)
  have L7 := Lib.hid (L6.out.step b7)
  have B7 := Lib.hid (B6.out.trans (b7.mono B6.out.size))
  have T7 := Lib.hid (T6.out.step b7)
  clear b7
  go_wp2_with fail
  refine (wlen_p _ p n _ G7.out HN.out.symm).mono ?_
  rintro e w' ⟨rfl, hz⟩
  have hz := hz.symm
  subst hz
  go_wp2_with fail
  go_loop [46] (fun i => ∃ k : Nat, k ≤ n ∧ i = .int .i64 k) (fun i => n - (intOf i).toNat)
  case atStart => exact ⟨0, Nat.zero_le _, rfl⟩
  case round =>
    obtain ⟨k, hk, rfl⟩ := hrel
    by_cases hlt : k < n
    · obtain ⟨y, hy, y1, y2, y3⟩ := ls_nth p (N := 65536) (k := k) (by rw [← HN.out]; exact hlt)
      have hne : ls p 65536 ≠ [] := by rintro h; rw [h] at y3; simp at y3
      obtain ⟨b, o, c', e1, -, -, -, -, hc⟩ := L7.out.form hne
      have e2 := Option.some.inj ((congrArg some (Value.slice.inj e1).1))
      subst e2
      have k1 := hc k _ y3
      simp only [e16, b16] at k1
      rw [u16_of y hy] at k1
      obtain ⟨s1, s2⟩ := sel_yes (K := (k : Int)) hy y1 (by rw [y2])
      have S1 := Lib.hid (show (sx p (k : Int)).toNat = y by rw [s1, u16_of y hy])
      have S2 := Lib.hid s2
      have R1 := Lib.hid (show ct p (cl (y : Int)) = k by rw [cl_nat (by omega)]; exact y2)
      have Y1 := Lib.hid y1
      have HY := Lib.hid hy
      have hki : (k : Int) < n := by omega
      have wy : wrap64 (y : Int) = y := by unfold wrap64; omega
      clear hc e1 hne y1 y2 y3 s1 s2 hy
      go_wp2_with fail
      refine (wselect_p _ p k y true _ G7.out T7.out (by omega) S1.out S2.out).mono ?_
      rintro e w' ⟨rfl, hz⟩
      have hz := hz.symm
      subst hz
      go_wp2_with fail
      refine (wrank_p _ p _ k _ G7.out R1.out).mono ?_
      rintro e w' ⟨rfl, hz⟩
      have hz := hz.symm
      subst hz
      go_wp2_with fail
      refine (whas_p _ p _ y _ G7.out rfl HY.out).mono ?_
      rw [Y1.out]
      rintro e w' ⟨rfl, hz⟩
      have hz := hz.symm
      subst hz
      go_wp2
      refine ⟨⟨k + 1, hlt, by go_num⟩, by simp [intOf]; omega⟩
    · obtain rfl : k = n := by omega
      go_wp2_with fail
      refine (wflip_p _ p 0 65536 _ G7.out).mono ?_
      rintro e w8 ⟨A8, c8, rfl, g8, b8⟩
      have F8 := Lib.hid g8
      have B8 := Lib.hid (B7.out.trans (b8.mono B7.out.size))
      have T8 := Lib.hid (T7.out.step b8)
      clear g8 b8
      go_wp2_with fail
      refine (wlen_p _ _ m _ F8.out HM.out.symm).mono ?_
      rintro e w' ⟨rfl, hz⟩
      have hz := hz.symm
      subst hz
      go_wp2_with fail
      refine (known_p _ T8.out).mono ?_
      rintro e w9 ⟨rfl, b9⟩
      have B9 := Lib.hid (B8.out.trans (b9.mono B8.out.size))
      clear b9
      go_wp2
      go_ret
      exact ⟨rfl, B9.out⟩
end Go.Proofs.YtgegpbchjkfdkaaDoor
