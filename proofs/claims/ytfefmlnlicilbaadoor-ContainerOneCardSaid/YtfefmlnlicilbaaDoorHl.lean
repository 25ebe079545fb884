/- Proved of ContainerOne: whatever its arguments. -/
import Derived.Test.YtfefmlnlicilbaaDoorHk
import Derived.Test.YtfefmlnlicilbaaDoorHr
import Derived.Deep.CutRange
import Derived.Deep.DeepCutAuto
namespace Go.Proofs.YtfefmlnlicilbaaDoor
open Go.RowKit
set_option linter.unusedVariables false

set_option maxHeartbeats 400000 in
theorem one_long (a0 : Option Addr) (len0 cap0 : Nat) (x y : Int) (w : World) (hT : Tb w) (h : 200 < len0) (h2 : len0 ≤ 9223372036854775807) :
    Calls Tryd.prog 3 #[.slice a0 len0 cap0, .int .i64 x, .int .i64 y] w fun e w' => e = .returned (.bool true) ∧ Below w.heap.size w w' := by
  have hi : (len0 : Int) > 200 := by omega
  clear h
  go_enter Tryd.func3, Tryd.ntmps3
  go_wp2_with (go_at_call 4; refine (known_any _ hT).mono ?_; rintro e w1 ⟨rfl, b1⟩)
  go_ret
  exact ⟨rfl, b1⟩

/-- The container in block g has the marks p; its rows lie elsewhere. -/
def Bxc (g : Nat) (p : Nat → Bool) (W : World) : Prop := ∃ κ A n c A2 n2 c2 A3 n3 c3, Row W g 27 #[.int .u8 κ, .slice A n c, .slice A2 n2 c2, .slice A3 n3 c3] ∧ Cn (fun b => b ≠ g) W (.agg #[.int .u8 κ, .slice A n c, .slice A2 n2 c2, .slice A3 n3 c3]) p (ck p)
theorem Bxc.step {g : Nat} {p : Nat → Bool} {W W' : World} (h : Bxc g p W) (b : Below W.heap.size W W') : Bxc g p W' := by
  obtain ⟨_, _, _, _, _, _, _, _, _, _, h1, h2⟩ := h
  exact ⟨_, _, _, _, _, _, _, _, _, _, h1.below b h1.lt, h2.step b⟩
/-- The container in block g has the marks p, and is of kind q. -/
def Bxd (g : Nat) (p : Nat → Bool) (q : Nat) (W : World) : Prop := ∃ κ A n c A2 n2 c2 A3 n3 c3, Row W g 27 #[.int .u8 κ, .slice A n c, .slice A2 n2 c2, .slice A3 n3 c3] ∧ Cn anyN W (.agg #[.int .u8 κ, .slice A n c, .slice A2 n2 c2, .slice A3 n3 c3]) p q
theorem ck_none : ck (mk []) = 1 := by
  have h : ct (mk []) 65536 = 0 := ct_zero fun _ _ => rfl
  have h2 : ct (hm (mk [])) 65536 = 0 := ct_zero fun _ _ => rfl
  unfold ck; rw [h, h2]; rfl
theorem pls_take (l : List UInt16) (k : Nat) (h : k < l.length) : pls (mk (l.take k)) (at16 l k).toNat = mk (l.take (k + 1)) := by
  funext i
  rw [mk_take l k h, Bool.or_comm]
  unfold pls
  congr 1
  exact decide_eq_decide.2 ⟨fun e => e.symm, fun e => e.symm⟩

theorem marks_list (g : Nat) (p : Nat → Bool) (L : List UInt16) (w : World) (h : Row w g 47 (mA 65536 p)) (hL : ls p 65536 = L) :
    Calls Tryd.prog 8 #[.pointer (some ⟨g, 0, none⟩)] w fun e w' => ∃ A c, e = .returned (.slice A L.length c) ∧ Gs e16 w' 0 w'.heap.size (.slice A L.length c) L ∧ Below w.heap.size w w' := by
  refine (list_any g p w h).mono ?_
  rintro e w' ⟨v', rfl, o, b⟩
  rw [hL] at o
  have s := o.sl.more (Nat.zero_le _) (Nat.le_refl _)
  obtain ⟨A, c, rfl, -⟩ := o.sl
  exact ⟨A, c, rfl, s, b⟩
set_option maxHeartbeats 8000000 in
set_option maxRecDepth 100000 in
theorem one_good (v : Value) (l : List UInt16) (x y : Int) (w : World) (hT : Tb w) (hv : Gs e16 w 0 w.heap.size v l) (hl : l.length ≤ 200) :
    Calls Tryd.prog 3 #[v, .int .i64 x, .int .i64 y] w fun e w' => e = .returned (.bool true) ∧ Below w.heap.size w w' := by
  have HV := Lib.hid hv
  have TT := Lib.hid hT
  have HL := Lib.hid hl
  obtain ⟨A, c, rfl, -⟩ := hv
  have hn0 : ¬ (l.length : Int) > 200 := by omega
  have hd0 : decide ((l.length : Int) > 200) = false := decide_eq_false hn0
  have r0 := Row.new w 27 #[.int .u8 0, .slice none 0 0, .slice none 0 0, .slice none 0 0]
  have b0 := bx w (.cells #[.int .u8 0, .slice none 0 0, .slice none 0 0, .slice none 0 0] 27)
  clear hT hl
  go_enter Tryd.func3, Tryd.ntmps3
  go_wp2_with fail
  generalize w.alloc (.cells #[.int .u8 0, .slice none 0 0, .slice none 0 0, .slice none 0 0] 27) = W0 at *
  have I0 : Hid (Bxc w.heap.size (mk (l.take 0)) W0) := Lib.hid ⟨_, _, _, _, _, _, _, _, _, _, r0, by rw [List.take_zero, ck_none]; exact Cn.zero fun _ _ => rfl⟩
  skip
  have BZ := Lib.hid b0
  clear r0 b0
  go_loopw [21] (fun i wr => ∃ k : Nat, k ≤ l.length ∧ i = .int .i64 k ∧ Bxc w.heap.size (mk (l.take k)) wr ∧ Below w.heap.size w wr) (fun i _ => ((l.length : Int) - intOf i).toNat)
  case atStart => exact ⟨0, Nat.zero_le _, rfl, I0.out, BZ.out⟩
  case round =>
    obtain ⟨k, hk, rfl, hc, hbl⟩ := hrel
    by_cases hlt : k < l.length
    · obtain ⟨κ0, A0, n0, c0, A2, n2, c2, A3, n3, c3, hr, hcn⟩ := hc
      obtain ⟨b, off, cc, e1, -, -, -, hbk, hcell⟩ := HV.out.form (by rintro rfl; simp at hlt)
      injection e1 with e1 _ e2
      subst e1 e2
      have k1 := hcell k _ (at16_get hlt)
      simp only [e16, b16] at k1
      have hlx := u16_lt (at16 l k)
      have PT := pls_take l k hlt
      obtain ⟨z, hz⟩ : ∃ z, z = (at16 l k).toNat := ⟨_, rfl⟩
      rw [← hz] at k1 hlx PT
      have PT := Lib.hid PT
      have K1 : Hid (∀ W, Below w.heap.size w W → W.cell? ⟨b, off + k, none⟩ = some (.int .u16 (z : Int))) := Lib.hid fun W hW => (hW.cell (p := ⟨b, off + k, none⟩) hbk).trans k1
      have HX := Lib.hid hlx
      have HK := Lib.hid hlt
      have RR := Lib.hid (show Row wr.drew _ _ _ from hr)
      have CC := Lib.hid (show Cn _ wr.drew _ _ _ from hcn.step (Below.refl wr.heap.size wr).drew)
      have TT := Lib.hid (TT.out.below hbl.drew (Nat.le_refl _))
      have hki : (k : Int) < (l.length : Int) := by omega
      have hkd : decide ((k : Int) < (l.length : Int)) = true := decide_eq_true hki
      have hk0 : (0 : Int) ≤ (k : Int) := by omega
      have wk2 : wrap64 ((k : Int) + 1) = (k : Int) + 1 := by unfold wrap64; omega
      have WK := Lib.hid wk2
      have hSc : Below w.heap.size w wr.drew := hbl.drew
      have d0 : wr.drew.cell? ⟨w.heap.size, 0, none⟩ = some (.int .u8 κ0) := RR.out.cell 0
      have d1 : wr.drew.cell? ⟨w.heap.size, 1, none⟩ = some (.slice A0 n0 c0) := RR.out.cell 1
      have d2 : wr.drew.cell? ⟨w.heap.size, 2, none⟩ = some (.slice A2 n2 c2) := RR.out.cell 2
      have d3 : wr.drew.cell? ⟨w.heap.size, 3, none⟩ = some (.slice A3 n3 c3) := RR.out.cell 3
      clear hr hcn hcell hbk hlx hz hk hlt hbl k1
      go_wp2_with fail
      refine wp_region_held_drew (S := fun W => Below w.heap.size w W) (by kernel_rfl) hSc (fun _ => ?_)
      refine held_take 1 ?_ rfl (by kernel_rfl) (by kernel_rfl) (by kernel_rfl) (fun _ _ _ h => h) (by rfl) ?_ hSc ?_
      rotate_left
      · (intro W hSW; go_simp; try rfl)
      try simp only [Act.put, List.setIfInBounds_toArray, List.set_cons_zero, List.set_cons_succ]
      refine held_take 2 ?_ rfl (by kernel_rfl) (by kernel_rfl) (by kernel_rfl) (fun _ _ _ h => h) (by rfl) ?_ hSc ?_
      rotate_left
      · (intro W hSW; go_simp; try rfl)
      try simp only [Act.put, List.setIfInBounds_toArray, List.set_cons_zero, List.set_cons_succ]
      refine held_take 3 ?_ rfl (by kernel_rfl) (by kernel_rfl) (by kernel_rfl) (fun _ _ _ h => h) (by rfl) ?_ hSc ?_
      rotate_left
      · (intro W hSW; go_simp; try rfl)
      try simp only [Act.put, List.setIfInBounds_toArray, List.set_cons_zero, List.set_cons_succ]
      refine held_take 4 ?_ rfl (by kernel_rfl) (by kernel_rfl) (by kernel_rfl) (fun _ _ _ h => h) (by rfl) ?_ hSc ?_
      rotate_left
      · (intro W hSW; have k1 := K1.out W hSW; go_simp; try rfl)
      try simp only [Act.put, List.setIfInBounds_toArray, List.set_cons_zero, List.set_cons_succ]
      refine held_next 0 rfl (by kernel_rfl) (by rfl) ?_
      go_simp
      refine ⟨fun W => Below w.heap.size w W, fun W hW => hW, hSc, ?_⟩
      try simp only [Act.put, List.setIfInBounds_toArray, List.set_cons_zero, List.set_cons_succ]
      clear d0 d1 d2 d3
      refine held_next 5 rfl (by kernel_rfl) (by rfl) ?_
      go_simp
      refine (with_c _ _ _ z _ TT.out (fun b hb => by have := RR.out.lt; omega) HX.out CC.out).mono ?_
      rw [PT.out]
      rintro e u1 ⟨v', rfl, g, bq⟩
      obtain ⟨κ5, A5, n5, c5, A6, n6, c6, A7, n7, c7, rfl⟩ := g.form
      have G := Lib.hid g
      have RR := Lib.hid (RR.out.below bq RR.out.lt)
      have hS2 : Below w.heap.size w u1 := hSc.trans (bq.mono hSc.size)
      clear hSc g bq
      have hSc := hS2
      clear hS2
      refine ⟨fun W => Below w.heap.size w W, fun W hW => hW, hSc, ?_⟩
      try simp only [Act.put, List.setIfInBounds_toArray, List.set_cons_zero, List.set_cons_succ]
      have d0 : u1.cell? ⟨w.heap.size, 0, none⟩ = some (.int .u8 κ0) := RR.out.cell 0
      have d1 : u1.cell? ⟨w.heap.size, 1, none⟩ = some (.slice A0 n0 c0) := RR.out.cell 1
      have d2 : u1.cell? ⟨w.heap.size, 2, none⟩ = some (.slice A2 n2 c2) := RR.out.cell 2
      have d3 : u1.cell? ⟨w.heap.size, 3, none⟩ = some (.slice A3 n3 c3) := RR.out.cell 3
      have e0 := RR.out.frozen 0
      have e1 := RR.out.frozen 1
      have e2 := RR.out.frozen 2
      have e3 := RR.out.frozen 3
      refine held_next 6 rfl (by kernel_rfl) (by rfl) ?_
      go_simp
      have S4 := set4 (a' := .int .u8 κ5) (b' := .slice A5 n5 c5) (c' := .slice A6 n6 c6) (d' := .slice A7 n7 c7) RR.out
      have hSd : Below w.heap.size w _ := hSc.grown S4.2 hSc.size (fun j e => by injection e with e; subst e; exact Nat.le_refl _)
      have H5 := Lib.hid (show Bxc w.heap.size _ _ from ⟨_, _, _, _, _, _, _, _, _, _, S4.1, G.out.grown S4.2 (fun hh => hh rfl)⟩)
      refine ⟨fun W => Below w.heap.size w W, fun W hW => hW, hSd, ?_⟩
      have HD := Lib.hid hSd
      clear hSd hSc d0 d1 d2 d3 e0 e1 e2 e3 S4
      refine wpAnyH_done (by kernel_rfl) ?_ _
      go_wp2
      exact ⟨⟨k + 1, HK.out, by go_num, H5.out, HD.out⟩, step_up HK.out (by first | rfl | exact WK.out)⟩
    · obtain rfl : k = l.length := by omega
      rw [List.take_length] at hc
      obtain ⟨p, hp⟩ : ∃ p, mk l = p := ⟨_, rfl⟩
      rw [hp] at hc
      obtain ⟨q, hq⟩ : ∃ q, ck p = q := ⟨_, rfl⟩
      obtain ⟨L, hL⟩ : ∃ L, ls p 65536 = L := ⟨_, rfl⟩
      obtain ⟨m, hm2⟩ : ∃ m, ct p 65536 = m := ⟨_, rfl⟩
      unfold Bxc at hc
      rw [hq] at hc
      obtain ⟨κ0, A0, n0, c0, B0, m0, d0, D0, q0, e0, hr, hcn⟩ := hc
      have HP := Lib.hid hp
      have EQ := Lib.hid hq
      have EL := Lib.hid hL
      have EM := Lib.hid hm2
      have LR := Lib.hid (show ris L = true from hL ▸ ris_ls p _ (Nat.le_refl _))
      have LL := Lib.hid (show L.length ≤ 65536 from hL ▸ ls_small p)
      have RC := Lib.hid hr
      have CC := Lib.hid (hcn.mono (N' := anyN) fun _ _ _ => trivial)
      have TT := Lib.hid (TT.out.below hbl (Nat.le_refl _))
      have BB := Lib.hid hbl
      have GV := Lib.hid ((HV.out.below hbl).more (Nat.le_refl _) hbl.size)
      have LB := Lib.hid (show l.length ≤ 100000000 from Nat.le_trans HL.out (by omega))
      have hki : decide ((l.length : Int) < (l.length : Int)) = false := decide_eq_false (by omega)
      clear hr hcn hbl hp hq hL hm2 hlt hk HL HV
      go_wp2_with fail
      refine (of_any _ l 0 _ GV.out LB.out).mono ?_
      rw [HP.out]
      rintro e u1 ⟨rfl, rm, b⟩
      have RC := Lib.hid (RC.out.below b RC.out.lt)
      have CC := Lib.hid (CC.out.step b)
      have TT := Lib.hid (TT.out.step b)
      have BB := Lib.hid (below_both BB.out b)
      have GV := Lib.hid (GV.out.stp b)
      have RM := Lib.hid (rm)
      clear rm b
      go_wp2_with fail
      refine (marks_list _ p L _ RM.out EL.out).mono ?_
      rintro e u2 ⟨X2, x2, rfl, g, b⟩
      have RC := Lib.hid (RC.out.below b RC.out.lt)
      have CC := Lib.hid (CC.out.step b)
      have TT := Lib.hid (TT.out.step b)
      have BB := Lib.hid (below_both BB.out b)
      have GV := Lib.hid (GV.out.stp b)
      have RM := Lib.hid (RM.out.below b RM.out.lt)
      have G2 := Lib.hid (g)
      clear g b
      go_wp2_with fail
      refine (ofArray_yes _ L p _ (anyN_all _) G2.out LR.out LL.out EL.out).mono ?_
      rintro e u3 ⟨v1, rfl, g, b⟩
      obtain ⟨κa, Aa, na, ca, Ba, ma, da, Da, qa, ea, rfl⟩ := g.form
      have RC := Lib.hid (RC.out.below b RC.out.lt)
      have CC := Lib.hid (CC.out.step b)
      have TT := Lib.hid (TT.out.step b)
      have BB := Lib.hid (below_both BB.out b)
      have GV := Lib.hid (GV.out.stp b)
      have RM := Lib.hid (RM.out.below b RM.out.lt)
      have G2 := Lib.hid (G2.out.stp b)
      have CA := Lib.hid (g)
      clear g b
      go_wp2_with fail
      have rz := Row.new u3 27 #[.int .u8 κa, .slice Aa na ca, .slice Ba ma da, .slice Da qa ea]
      have bz := bx u3 (.cells #[.int .u8 κa, .slice Aa na ca, .slice Ba ma da, .slice Da qa ea] 27)
      generalize u3.alloc (.cells #[.int .u8 κa, .slice Aa na ca, .slice Ba ma da, .slice Da qa ea] 27) = u4 at *
      have RC := Lib.hid (RC.out.below bz RC.out.lt)
      have CC := Lib.hid (CC.out.step bz)
      have TT := Lib.hid (TT.out.step bz)
      have BB := Lib.hid (below_both BB.out bz)
      have GV := Lib.hid (GV.out.stp bz)
      have RM := Lib.hid (RM.out.below bz RM.out.lt)
      have G2 := Lib.hid (G2.out.stp bz)
      have CA := Lib.hid (CA.out.step bz)
      have RA := Lib.hid rz
      clear rz bz
      refine (canonical_c _ p 1 _ TT.out (anyN_all _) CA.out).mono ?_
      rw [EQ.out]
      rintro e u5 ⟨v1, rfl, g, b⟩
      obtain ⟨κz, Az, nz, cz, Bz, mz, dz, Dz, qz, ez, rfl⟩ := g.form
      have RC := Lib.hid (RC.out.below b RC.out.lt)
      have CC := Lib.hid (CC.out.step b)
      have TT := Lib.hid (TT.out.step b)
      have BB := Lib.hid (below_both BB.out b)
      have GV := Lib.hid (GV.out.stp b)
      have RM := Lib.hid (RM.out.below b RM.out.lt)
      have G2 := Lib.hid (G2.out.stp b)
      have CA := Lib.hid (CA.out.step b)
      have RA := Lib.hid (RA.out.below b RA.out.lt)
      have CD := Lib.hid (g)
      clear g b
      go_wp2_with fail
      have rz := Row.new u5 27 #[.int .u8 κz, .slice Az nz cz, .slice Bz mz dz, .slice Dz qz ez]
      have bz := bx u5 (.cells #[.int .u8 κz, .slice Az nz cz, .slice Bz mz dz, .slice Dz qz ez] 27)
      generalize u5.alloc (.cells #[.int .u8 κz, .slice Az nz cz, .slice Bz mz dz, .slice Dz qz ez] 27) = u6 at *
      have RC := Lib.hid (RC.out.below bz RC.out.lt)
      have CC := Lib.hid (CC.out.step bz)
      have TT := Lib.hid (TT.out.step bz)
      have BB := Lib.hid (below_both BB.out bz)
      have GV := Lib.hid (GV.out.stp bz)
      have RM := Lib.hid (RM.out.below bz RM.out.lt)
      have G2 := Lib.hid (G2.out.stp bz)
      have CA := Lib.hid (CA.out.step bz)
      have RA := Lib.hid (RA.out.below bz RA.out.lt)
      have CD := Lib.hid (CD.out.step bz)
      have RD := Lib.hid rz
      clear rz bz
      clear RM
      clear G2
      clear CA
      clear RA
      clear GV
      have K0 : Hid (∀ W, Below u6.heap.size u6 W → W.cell? ⟨w.heap.size, 0, none⟩ = some (.int .u8 κ0) ∧ W.cell? ⟨w.heap.size, 1, none⟩ = some (.slice A0 n0 c0) ∧ W.cell? ⟨w.heap.size, 2, none⟩ = some (.slice B0 m0 d0) ∧ W.cell? ⟨w.heap.size, 3, none⟩ = some (.slice D0 q0 e0)) := Lib.hid fun W hW => by
        have r := RC.out.below hW RC.out.lt
        exact ⟨r.cell 0, r.cell 1, r.cell 2, r.cell 3⟩
      have K1 : Hid (∀ W, Below u6.heap.size u6 W → W.cell? ⟨u5.heap.size, 0, none⟩ = some (.int .u8 κz) ∧ W.cell? ⟨u5.heap.size, 1, none⟩ = some (.slice Az nz cz) ∧ W.cell? ⟨u5.heap.size, 2, none⟩ = some (.slice Bz mz dz) ∧ W.cell? ⟨u5.heap.size, 3, none⟩ = some (.slice Dz qz ez)) := Lib.hid fun W hW => by
        have r := RD.out.below hW RD.out.lt
        exact ⟨r.cell 0, r.cell 1, r.cell 2, r.cell 3⟩
      have hSc : Below u6.heap.size u6 u6.drew := (Below.refl u6.heap.size u6).drew
      refine wp_region_held_drew (S := fun W => Below u6.heap.size u6 W) (by kernel_rfl) hSc (fun _ => ?_)
      refine held_take 0 ?_ rfl (by kernel_rfl) (by kernel_rfl) (by kernel_rfl) (fun _ _ _ h => h) (by rfl) ?_ hSc ?_
      rotate_left
      · (intro W hSW; obtain ⟨k0, k1, k2, k3⟩ := K0.out W hSW; go_simp; try rfl)
      try simp only [Act.put, List.setIfInBounds_toArray, List.set_cons_zero, List.set_cons_succ]
      refine held_take 2 ?_ rfl (by kernel_rfl) (by kernel_rfl) (by kernel_rfl) (fun _ _ _ h => h) (by rfl) ?_ hSc ?_
      rotate_left
      · (intro W hSW; obtain ⟨k0, k1, k2, k3⟩ := K1.out W hSW; go_simp; try rfl)
      try simp only [Act.put, List.setIfInBounds_toArray, List.set_cons_zero, List.set_cons_succ]
      refine held_next 1 rfl (by kernel_rfl) (by rfl) ?_
      go_simp
      refine (kind_c _ p q _ (CC.out.step hSc)).mono ?_
      rintro e wq1 ⟨rfl, bq⟩
      have hbq : Below u6.heap.size u6 wq1 := hSc.trans (bq.mono hSc.size)
      refine ⟨fun W => Below u6.heap.size u6 W, fun W hW => hW, hbq, ?_⟩
      clear hSc bq
      have hSc : Below u6.heap.size u6 wq1 := hbq
      clear hbq
      try simp only [Act.put, List.setIfInBounds_toArray, List.set_cons_zero, List.set_cons_succ]
      refine held_next 3 rfl (by kernel_rfl) (by rfl) ?_
      go_simp
      refine (kind_c _ p q _ (CD.out.step hSc)).mono ?_
      rintro e wq2 ⟨rfl, bq⟩
      have hbq : Below u6.heap.size u6 wq2 := hSc.trans (bq.mono hSc.size)
      refine ⟨fun W => Below u6.heap.size u6 W, fun W hW => hW, hbq, ?_⟩
      clear hSc bq
      have hSc : Below u6.heap.size u6 wq2 := hbq
      clear hbq
      try simp only [Act.put, List.setIfInBounds_toArray, List.set_cons_zero, List.set_cons_succ]
      refine held_take 4 ?_ rfl (by kernel_rfl) (by kernel_rfl) (by kernel_rfl) (fun _ _ _ h => h) (by rfl) ?_ hSc ?_
      rotate_left
      · (intro W hSW; go_simp; try rfl)
      try simp only [Act.put, List.setIfInBounds_toArray, List.set_cons_zero, List.set_cons_succ]
      refine held_take 5 ?_ rfl (by kernel_rfl) (by kernel_rfl) (by kernel_rfl) (fun _ _ _ h => h) (by rfl) ?_ hSc ?_
      rotate_left
      · (intro W hSW; go_simp; try rfl)
      try simp only [Act.put, List.setIfInBounds_toArray, List.set_cons_zero, List.set_cons_succ]
      refine held_take 6 ?_ rfl (by kernel_rfl) (by kernel_rfl) (by kernel_rfl) (fun _ _ _ h => h) (by rfl) ?_ hSc ?_
      rotate_left
      · (intro W hSW; obtain ⟨k0, k1, k2, k3⟩ := K0.out W hSW; go_simp; try rfl)
      try simp only [Act.put, List.setIfInBounds_toArray, List.set_cons_zero, List.set_cons_succ]
      refine held_take 8 ?_ rfl (by kernel_rfl) (by kernel_rfl) (by kernel_rfl) (fun _ _ _ h => h) (by rfl) ?_ hSc ?_
      rotate_left
      · (intro W hSW; obtain ⟨k0, k1, k2, k3⟩ := K1.out W hSW; go_simp; try rfl)
      try simp only [Act.put, List.setIfInBounds_toArray, List.set_cons_zero, List.set_cons_succ]
      refine held_next 7 rfl (by kernel_rfl) (by rfl) ?_
      go_simp
      refine (array_c _ p q m _ (TT.out.step hSc) EM.out (CC.out.step hSc)).mono ?_
      rintro e wq3 ⟨X3, x3, rfl, gq, bq⟩
      have hbq : Below u6.heap.size u6 wq3 := hSc.trans (bq.mono hSc.size)
      refine ⟨fun W => Below u6.heap.size u6 W, fun W hW => hW, hbq, ?_⟩
      have G3 := Lib.hid gq
      clear gq
      clear hSc bq
      have hSc : Below u6.heap.size u6 wq3 := hbq
      clear hbq
      try simp only [Act.put, List.setIfInBounds_toArray, List.set_cons_zero, List.set_cons_succ]
      refine held_next 9 rfl (by kernel_rfl) (by rfl) ?_
      go_simp
      refine (array_c _ p q m _ (TT.out.step hSc) EM.out (CD.out.step hSc)).mono ?_
      rintro e wq4 ⟨X4, x4, rfl, gq, bq⟩
      have hbq : Below u6.heap.size u6 wq4 := hSc.trans (bq.mono hSc.size)
      refine ⟨fun W => Below u6.heap.size u6 W, fun W hW => hW, hbq, ?_⟩
      have G4 := Lib.hid gq
      clear gq
      have G3 := Lib.hid (G3.out.stp bq)
      clear hSc bq
      have hSc : Below u6.heap.size u6 wq4 := hbq
      clear hbq
      try simp only [Act.put, List.setIfInBounds_toArray, List.set_cons_zero, List.set_cons_succ]
      refine held_next 10 rfl (by kernel_rfl) (by rfl) ?_
      go_simp
      refine (same16_p _ _ _ _ _ (G3.out.more (Nat.zero_le _) (Nat.le_refl _)) (G4.out.more (Nat.zero_le _) (Nat.le_refl _)) rfl).mono ?_
      rintro e wq5 ⟨rfl, bq⟩
      have hbq : Below u6.heap.size u6 wq5 := hSc.trans (bq.mono hSc.size)
      refine ⟨fun W => Below u6.heap.size u6 W, fun W hW => hW, hbq, ?_⟩
      clear hSc bq
      have hSc : Below u6.heap.size u6 wq5 := hbq
      clear hbq
      try simp only [Act.put, List.setIfInBounds_toArray, List.set_cons_zero, List.set_cons_succ]
      refine held_take 11 ?_ rfl (by kernel_rfl) (by kernel_rfl) (by kernel_rfl) (fun _ _ _ h => h) (by rfl) ?_ hSc ?_
      rotate_left
      · (intro W hSW; go_simp; try rfl)
      try simp only [Act.put, List.setIfInBounds_toArray, List.set_cons_zero, List.set_cons_succ]
      refine held_next 12 rfl (by kernel_rfl) (by rfl) ?_
      go_simp
      refine ⟨fun W => Below u6.heap.size u6 W, fun W hW => hW, hSc, ?_⟩
      refine wpAnyH_done (by kernel_rfl) ?_ _
      have RC := Lib.hid (RC.out.below hSc RC.out.lt)
      have CC := Lib.hid (CC.out.step hSc)
      have TT := Lib.hid (TT.out.step hSc)
      have BB := Lib.hid (below_both BB.out hSc)
      have CD := Lib.hid (CD.out.step hSc)
      have RD := Lib.hid (RD.out.below hSc RD.out.lt)
      clear hSc G3 G4 K0 K1
      go_upto_region 16 with fail
      generalize wrap64 ((wrap64 (x + y)).tdiv 2) = M at *
      by_cases h1 : x > M
      · have gh1 : decide (x > M) = true := decide_eq_true h1
        go_wp2_with fail
        refine (known_any _ TT.out).mono ?_
        rintro e y1 ⟨rfl, b⟩
        have BB := Lib.hid (below_both BB.out b)
        clear b
        go_wp2
        go_ret
        exact ⟨rfl, BB.out⟩
      · have gh1 : decide (x > M) = false := decide_eq_false h1
        by_cases h2 : M > y
        · have gh2 : decide (M > y) = true := decide_eq_true h2
          go_wp2_with fail
          refine (known_any _ TT.out).mono ?_
          rintro e y1 ⟨rfl, b⟩
          have BB := Lib.hid (below_both BB.out b)
          clear b
          go_wp2
          go_ret
          exact ⟨rfl, BB.out⟩
        · have gh2 : decide (M > y) = false := decide_eq_false h2
          by_cases h3 : x < -100000
          · have gh3 : decide (x < -100000) = true := decide_eq_true h3
            go_wp2_with fail
            refine (known_any _ TT.out).mono ?_
            rintro e y1 ⟨rfl, b⟩
            have BB := Lib.hid (below_both BB.out b)
            clear b
            go_wp2
            go_ret
            exact ⟨rfl, BB.out⟩
          · have gh3 : decide (x < -100000) = false := decide_eq_false h3
            by_cases h4 : y > 100000
            · have gh4 : decide (y > 100000) = true := decide_eq_true h4
              go_wp2_with fail
              refine (known_any _ TT.out).mono ?_
              rintro e y1 ⟨rfl, b⟩
              have BB := Lib.hid (below_both BB.out b)
              clear b
              go_wp2
              go_ret
              exact ⟨rfl, BB.out⟩
            · have gh4 : decide (y > 100000) = false := decide_eq_false h4
              have FJ := Lib.hid (flp_join p (lo := x) (mid := M) (hi := y) (by omega) (by omega))
              obtain ⟨P, hP⟩ : ∃ P, flp p x y = P := ⟨_, rfl⟩
              obtain ⟨Q, hQ⟩ : ∃ Q, ck P = Q := ⟨_, rfl⟩
              rw [hP] at FJ
              have EP := Lib.hid hP
              have EQ2 := Lib.hid hQ
              clear hP hQ
              go_upto_region 18 with fail
              clear h1 h2 h3 h4 gh1 gh2 gh3 gh4
              go_cut [13, 14] from 15 (fun s13 s14 wx => ∃ ge gf, s13 = .pointer (some ⟨ge, 0, none⟩) ∧ s14 = .pointer (some ⟨gf, 0, none⟩) ∧ Bxd ge P Q wx ∧ Bxd gf P Q wx ∧ Below wq5.heap.size wq5 wx)
              case first =>
                refine wp_region_held_drew (S := fun W => Below wq5.drew.heap.size wq5.drew W) (by kernel_rfl) (Below.refl _ _) (fun _ => ?_)
                have bd : Below wq5.heap.size wq5 wq5.drew := (Below.refl wq5.heap.size wq5).drew
                generalize wq5.drew = U0 at *
                have RC := Lib.hid (RC.out.below bd RC.out.lt)
                have CC := Lib.hid (CC.out.step bd)
                have TT := Lib.hid (TT.out.step bd)
                have BB := Lib.hid (below_both BB.out bd)
                have CD := Lib.hid (CD.out.step bd)
                have RD := Lib.hid (RD.out.below bd RD.out.lt)
                have BD := Lib.hid bd
                clear bd
                have K0 : Hid (∀ W, Below U0.heap.size U0 W → W.cell? ⟨w.heap.size, 0, none⟩ = some (.int .u8 κ0) ∧ W.cell? ⟨w.heap.size, 1, none⟩ = some (.slice A0 n0 c0) ∧ W.cell? ⟨w.heap.size, 2, none⟩ = some (.slice B0 m0 d0) ∧ W.cell? ⟨w.heap.size, 3, none⟩ = some (.slice D0 q0 e0)) := Lib.hid fun W hW => by
                  have r := RC.out.below hW RC.out.lt
                  exact ⟨r.cell 0, r.cell 1, r.cell 2, r.cell 3⟩
                have K1 : Hid (∀ W, Below U0.heap.size U0 W → W.cell? ⟨u5.heap.size, 0, none⟩ = some (.int .u8 κz) ∧ W.cell? ⟨u5.heap.size, 1, none⟩ = some (.slice Az nz cz) ∧ W.cell? ⟨u5.heap.size, 2, none⟩ = some (.slice Bz mz dz) ∧ W.cell? ⟨u5.heap.size, 3, none⟩ = some (.slice Dz qz ez)) := Lib.hid fun W hW => by
                  have r := RD.out.below hW RD.out.lt
                  exact ⟨r.cell 0, r.cell 1, r.cell 2, r.cell 3⟩
                have hSc := Below.refl U0.heap.size U0
                have NL := Lib.hid (Nl.nil_ U0 U0)
                refine held_take 0 ?_ rfl (by kernel_rfl) (by kernel_rfl) (by kernel_rfl) (fun _ _ _ h => h) (by rfl) ?_ hSc ?_
                rotate_left
                · (intro W hSW; obtain ⟨k0, k1, k2, k3⟩ := K0.out W hSW; go_simp; try rfl)
                try simp only [Act.put, List.setIfInBounds_toArray, List.set_cons_zero, List.set_cons_succ]
                refine held_take 1 ?_ rfl (by kernel_rfl) (by kernel_rfl) (by kernel_rfl) (fun _ _ _ h => h) (by rfl) ?_ hSc ?_
                rotate_left
                · (intro W hSW; go_simp; try rfl)
                try simp only [Act.put, List.setIfInBounds_toArray, List.set_cons_zero, List.set_cons_succ]
                refine held_take 2 ?_ rfl (by kernel_rfl) (by kernel_rfl) (by kernel_rfl) (fun _ _ _ h => h) (by rfl) ?_ hSc ?_
                rotate_left
                · (intro W hSW; go_simp; try rfl)
                try simp only [Act.put, List.setIfInBounds_toArray, List.set_cons_zero, List.set_cons_succ]
                refine held_take 4 ?_ rfl (by kernel_rfl) (by kernel_rfl) (by kernel_rfl) (fun _ _ _ h => h) (by rfl) ?_ hSc ?_
                rotate_left
                · (intro W hSW; go_simp; try rfl)
                try simp only [Act.put, List.setIfInBounds_toArray, List.set_cons_zero, List.set_cons_succ]
                refine held_take 5 ?_ rfl (by kernel_rfl) (by kernel_rfl) (by kernel_rfl) (fun _ _ _ h => h) (by rfl) ?_ hSc ?_
                rotate_left
                · (intro W hSW; go_simp; try rfl)
                try simp only [Act.put, List.setIfInBounds_toArray, List.set_cons_zero, List.set_cons_succ]
                refine held_take 7 ?_ rfl (by kernel_rfl) (by kernel_rfl) (by kernel_rfl) (fun _ _ _ h => h) (by rfl) ?_ hSc ?_
                rotate_left
                · (intro W hSW; obtain ⟨k0, k1, k2, k3⟩ := K1.out W hSW; go_simp; try rfl)
                try simp only [Act.put, List.setIfInBounds_toArray, List.set_cons_zero, List.set_cons_succ]
                refine held_take 8 ?_ rfl (by kernel_rfl) (by kernel_rfl) (by kernel_rfl) (fun _ _ _ h => h) (by rfl) ?_ hSc ?_
                rotate_left
                · (intro W hSW; go_simp; try rfl)
                try simp only [Act.put, List.setIfInBounds_toArray, List.set_cons_zero, List.set_cons_succ]
                refine held_take 9 ?_ rfl (by kernel_rfl) (by kernel_rfl) (by kernel_rfl) (fun _ _ _ h => h) (by rfl) ?_ hSc ?_
                rotate_left
                · (intro W hSW; go_simp; try rfl)
                try simp only [Act.put, List.setIfInBounds_toArray, List.set_cons_zero, List.set_cons_succ]
                clear K0 K1
                refine held_three 3 11 12 rfl rfl rfl (by kernel_rfl) (by rfl) (by rfl) (by rfl) ?_ ?_ ?_
                · skip
                  go_simp
                  refine (flip_c _ p q x M _ (TT.out.step hSc) NL.out.all (CC.out.old hSc NL.out)).mono ?_
                  rintro e y1 ⟨v', rfl, g, bq⟩
                  obtain ⟨κf, Af, nf, cf, Bf, mf, df, Df, qf, ef, rfl⟩ := g.form
                  have NL := Lib.hid (NL.out.le bq.size)
                  have hS2 : Below U0.heap.size U0 y1 := hSc.trans (bq.mono hSc.size)
                  clear hSc
                  have hSc := hS2
                  clear hS2
                  have C1 := Lib.hid g
                  clear g bq
                  refine ⟨fun W => Below U0.heap.size U0 W, fun W hW => hW, hSc, ?_⟩
                  try simp only [Act.put, List.setIfInBounds_toArray, List.set_cons_zero, List.set_cons_succ]
                  refine held_three 6 11 12 rfl rfl rfl (by kernel_rfl) (by rfl) (by rfl) (by rfl) ?_ ?_ ?_
                  · skip
                    go_simp
                    refine (flip_c _ (flp p x M) _ M y _ (TT.out.step hSc) NL.out.all C1.out).mono ?_
                    rw [FJ.out, EQ2.out]
                    rintro e y2 ⟨v', rfl, g, bq⟩
                    obtain ⟨κg, Ag, ng, cg, Bg, mg, dg, Dg, qg, eg, rfl⟩ := g.form
                    have C1 := Lib.hid (C1.out.step bq)
                    have NL := Lib.hid (NL.out.le bq.size)
                    have hS2 : Below U0.heap.size U0 y2 := hSc.trans (bq.mono hSc.size)
                    clear hSc
                    have hSc := hS2
                    clear hS2
                    have C2 := Lib.hid g
                    clear g bq
                    refine ⟨fun W => Below U0.heap.size U0 W, fun W hW => hW, hSc, ?_⟩
                    try simp only [Act.put, List.setIfInBounds_toArray, List.set_cons_zero, List.set_cons_succ]
                    refine held_three 10 11 12 rfl rfl rfl (by kernel_rfl) (by rfl) (by rfl) (by rfl) ?_ ?_ ?_
                    · skip
                      go_simp
                      refine (flip_c _ p q x y _ (TT.out.step hSc) NL.out.all (CD.out.old hSc NL.out)).mono ?_
                      rw [EP.out, EQ2.out]
                      rintro e y3 ⟨v', rfl, g, bq⟩
                      obtain ⟨κh, Ah, nh, ch, Bh, mh, dh, Dh, qh, eh, rfl⟩ := g.form
                      have C1 := Lib.hid (C1.out.step bq)
                      have C2 := Lib.hid (C2.out.step bq)
                      have NL := Lib.hid (NL.out.le bq.size)
                      have hS2 : Below U0.heap.size U0 y3 := hSc.trans (bq.mono hSc.size)
                      clear hSc
                      have hSc := hS2
                      clear hS2
                      have C3 := Lib.hid g
                      clear g bq
                      refine ⟨fun W => Below U0.heap.size U0 W, fun W hW => hW, hSc, ?_⟩
                      try simp only [Act.put, List.setIfInBounds_toArray, List.set_cons_zero, List.set_cons_succ]
                      refine held_two 11 12 rfl rfl (by kernel_rfl) (by rfl) (by rfl) ?_ ?_
                      · skip
                        go_simp
                        have rz := Row.new y3 27 #[.int .u8 0, .slice none 0 0, .slice none 0 0, .slice none 0 0]
                        have bq := bx y3 (.cells #[.int .u8 0, .slice none 0 0, .slice none 0 0, .slice none 0 0] 27)
                        have hz : y3.heap.size < (y3.alloc (.cells #[.int .u8 0, .slice none 0 0, .slice none 0 0, .slice none 0 0] 27)).heap.size := rz.lt
                        generalize y3.alloc (.cells #[.int .u8 0, .slice none 0 0, .slice none 0 0, .slice none 0 0] 27) = y4 at *
                        have C1 := Lib.hid (C1.out.made bq)
                        have C2 := Lib.hid (C2.out.made bq)
                        have C3 := Lib.hid (C3.out.made bq)
                        have NL := Lib.hid (NL.out.new hSc.size hz)
                        have hS2 : Below U0.heap.size U0 y4 := hSc.trans (bq.mono hSc.size)
                        clear hSc
                        have hSc := hS2
                        clear hS2
                        have RE := Lib.hid rz
                        clear rz bq hz
                        refine ⟨fun W => Below U0.heap.size U0 W, fun W hW => hW, hSc, ?_⟩
                        try simp only [Act.put, List.setIfInBounds_toArray, List.set_cons_zero, List.set_cons_succ]
                        refine held_next 12 rfl (by kernel_rfl) (by rfl) ?_
                        go_simp
                        have rz := Row.new y4 27 #[.int .u8 0, .slice none 0 0, .slice none 0 0, .slice none 0 0]
                        have bq := bx y4 (.cells #[.int .u8 0, .slice none 0 0, .slice none 0 0, .slice none 0 0] 27)
                        have hz : y4.heap.size < (y4.alloc (.cells #[.int .u8 0, .slice none 0 0, .slice none 0 0, .slice none 0 0] 27)).heap.size := rz.lt
                        generalize y4.alloc (.cells #[.int .u8 0, .slice none 0 0, .slice none 0 0, .slice none 0 0] 27) = y5 at *
                        have C1 := Lib.hid (C1.out.made bq)
                        have C2 := Lib.hid (C2.out.made bq)
                        have C3 := Lib.hid (C3.out.made bq)
                        have RE := Lib.hid (RE.out.below bq RE.out.lt)
                        have NL := Lib.hid (NL.out.new hSc.size hz)
                        have hS2 : Below U0.heap.size U0 y5 := hSc.trans (bq.mono hSc.size)
                        clear hSc
                        have hSc := hS2
                        clear hS2
                        have RF := Lib.hid rz
                        clear rz bq hz
                        refine ⟨fun W => Below U0.heap.size U0 W, fun W hW => hW, hSc, ?_⟩
                        try simp only [Act.put, List.setIfInBounds_toArray, List.set_cons_zero, List.set_cons_succ]
                        have d0 : y5.cell? ⟨y3.heap.size, 0, none⟩ = some (.int .u8 0) := RE.out.cell 0
                        have f0 := RE.out.frozen 0
                        have d1 : y5.cell? ⟨y3.heap.size, 1, none⟩ = some (.slice none 0 0) := RE.out.cell 1
                        have f1 := RE.out.frozen 1
                        have d2 : y5.cell? ⟨y3.heap.size, 2, none⟩ = some (.slice none 0 0) := RE.out.cell 2
                        have f2 := RE.out.frozen 2
                        have d3 : y5.cell? ⟨y3.heap.size, 3, none⟩ = some (.slice none 0 0) := RE.out.cell 3
                        have f3 := RE.out.frozen 3
                        refine held_next 13 rfl (by kernel_rfl) (by rfl) ?_
                        go_simp
                        have S4 := set4 (a' := .int .u8 κg) (b' := .slice Ag ng cg) (c' := .slice Bg mg dg) (d' := .slice Dg qg eg) RE.out
                        generalize (((y5.setCell ⟨y3.heap.size, 0, none⟩ (.int .u8 κg)).setCell ⟨y3.heap.size, 1, none⟩ (.slice Ag ng cg)).setCell ⟨y3.heap.size, 2, none⟩ (.slice Bg mg dg)).setCell ⟨y3.heap.size, 3, none⟩ (.slice Dg qg eg) = y6 at *
                        obtain ⟨s4, s5⟩ := S4
                        have C1 := Lib.hid (C1.out.put s5 (by simp))
                        have C2 := Lib.hid (C2.out.put s5 (by simp))
                        have C3 := Lib.hid (C3.out.put s5 (by simp))
                        have RF := Lib.hid (RF.out.grown s5 (by intro e; injection e with e; have := NL.out.2; simp at this; omega))
                        have hS2 : Below U0.heap.size U0 y6 := hSc.grown s5 hSc.size (fun j e => by injection e with e; subst e; exact (NL.out.1 _ (by simp)).1)
                        have NL := Lib.hid (NL.out.le s5.size)
                        have RE := Lib.hid s4
                        clear hSc d0 d1 d2 d3 f0 f1 f2 f3 s4 s5
                        have hSc := hS2
                        clear hS2
                        refine ⟨fun W => Below U0.heap.size U0 W, fun W hW => hW, hSc, ?_⟩
                        try simp only [Act.put, List.setIfInBounds_toArray, List.set_cons_zero, List.set_cons_succ]
                        have d0 : y6.cell? ⟨y4.heap.size, 0, none⟩ = some (.int .u8 0) := RF.out.cell 0
                        have f0 := RF.out.frozen 0
                        have d1 : y6.cell? ⟨y4.heap.size, 1, none⟩ = some (.slice none 0 0) := RF.out.cell 1
                        have f1 := RF.out.frozen 1
                        have d2 : y6.cell? ⟨y4.heap.size, 2, none⟩ = some (.slice none 0 0) := RF.out.cell 2
                        have f2 := RF.out.frozen 2
                        have d3 : y6.cell? ⟨y4.heap.size, 3, none⟩ = some (.slice none 0 0) := RF.out.cell 3
                        have f3 := RF.out.frozen 3
                        refine held_next 14 rfl (by kernel_rfl) (by rfl) ?_
                        go_simp
                        have S4 := set4 (a' := .int .u8 κh) (b' := .slice Ah nh ch) (c' := .slice Bh mh dh) (d' := .slice Dh qh eh) RF.out
                        generalize (((y6.setCell ⟨y4.heap.size, 0, none⟩ (.int .u8 κh)).setCell ⟨y4.heap.size, 1, none⟩ (.slice Ah nh ch)).setCell ⟨y4.heap.size, 2, none⟩ (.slice Bh mh dh)).setCell ⟨y4.heap.size, 3, none⟩ (.slice Dh qh eh) = y7 at *
                        obtain ⟨s4, s5⟩ := S4
                        have C1 := Lib.hid (C1.out.put s5 (by simp))
                        have C2 := Lib.hid (C2.out.put s5 (by simp))
                        have C3 := Lib.hid (C3.out.put s5 (by simp))
                        have RE := Lib.hid (RE.out.grown s5 (by intro e; injection e with e; have := NL.out.2; simp at this; omega))
                        have hS2 : Below U0.heap.size U0 y7 := hSc.grown s5 hSc.size (fun j e => by injection e with e; subst e; exact (NL.out.1 _ (by simp)).1)
                        have NL := Lib.hid (NL.out.le s5.size)
                        have RF := Lib.hid s4
                        clear hSc d0 d1 d2 d3 f0 f1 f2 f3 s4 s5
                        have hSc := hS2
                        clear hS2
                        refine ⟨fun W => Below U0.heap.size U0 W, fun W hW => hW, hSc, ?_⟩
                        try simp only [Act.put, List.setIfInBounds_toArray, List.set_cons_zero, List.set_cons_succ]
                        refine wpAnyH_done (by kernel_rfl) ?_ _
                        go_wp2_with fail
                        go_meet
                        case rel => exact ⟨_, _, rfl, rfl, ⟨_, _, _, _, _, _, _, _, _, _, RE.out, C2.out.mono fun _ _ _ => trivial⟩, ⟨_, _, _, _, _, _, _, _, _, _, RF.out, C3.out.mono fun _ _ _ => trivial⟩, below_both BD.out hSc⟩
                      · skip
                        go_simp
                        have rz := Row.new y3 27 #[.int .u8 0, .slice none 0 0, .slice none 0 0, .slice none 0 0]
                        have bq := bx y3 (.cells #[.int .u8 0, .slice none 0 0, .slice none 0 0, .slice none 0 0] 27)
                        have hz : y3.heap.size < (y3.alloc (.cells #[.int .u8 0, .slice none 0 0, .slice none 0 0, .slice none 0 0] 27)).heap.size := rz.lt
                        generalize y3.alloc (.cells #[.int .u8 0, .slice none 0 0, .slice none 0 0, .slice none 0 0] 27) = y8 at *
                        have C1 := Lib.hid (C1.out.made bq)
                        have C2 := Lib.hid (C2.out.made bq)
                        have C3 := Lib.hid (C3.out.made bq)
                        have NL := Lib.hid (NL.out.new hSc.size hz)
                        have hS2 : Below U0.heap.size U0 y8 := hSc.trans (bq.mono hSc.size)
                        clear hSc
                        have hSc := hS2
                        clear hS2
                        have RF := Lib.hid rz
                        clear rz bq hz
                        refine ⟨fun W => Below U0.heap.size U0 W, fun W hW => hW, hSc, ?_⟩
                        try simp only [Act.put, List.setIfInBounds_toArray, List.set_cons_zero, List.set_cons_succ]
                        refine held_next 11 rfl (by kernel_rfl) (by rfl) ?_
                        go_simp
                        have rz := Row.new y8 27 #[.int .u8 0, .slice none 0 0, .slice none 0 0, .slice none 0 0]
                        have bq := bx y8 (.cells #[.int .u8 0, .slice none 0 0, .slice none 0 0, .slice none 0 0] 27)
                        have hz : y8.heap.size < (y8.alloc (.cells #[.int .u8 0, .slice none 0 0, .slice none 0 0, .slice none 0 0] 27)).heap.size := rz.lt
                        generalize y8.alloc (.cells #[.int .u8 0, .slice none 0 0, .slice none 0 0, .slice none 0 0] 27) = y9 at *
                        have C1 := Lib.hid (C1.out.made bq)
                        have C2 := Lib.hid (C2.out.made bq)
                        have C3 := Lib.hid (C3.out.made bq)
                        have RF := Lib.hid (RF.out.below bq RF.out.lt)
                        have NL := Lib.hid (NL.out.new hSc.size hz)
                        have hS2 : Below U0.heap.size U0 y9 := hSc.trans (bq.mono hSc.size)
                        clear hSc
                        have hSc := hS2
                        clear hS2
                        have RE := Lib.hid rz
                        clear rz bq hz
                        refine ⟨fun W => Below U0.heap.size U0 W, fun W hW => hW, hSc, ?_⟩
                        try simp only [Act.put, List.setIfInBounds_toArray, List.set_cons_zero, List.set_cons_succ]
                        have d0 : y9.cell? ⟨y8.heap.size, 0, none⟩ = some (.int .u8 0) := RE.out.cell 0
                        have f0 := RE.out.frozen 0
                        have d1 : y9.cell? ⟨y8.heap.size, 1, none⟩ = some (.slice none 0 0) := RE.out.cell 1
                        have f1 := RE.out.frozen 1
                        have d2 : y9.cell? ⟨y8.heap.size, 2, none⟩ = some (.slice none 0 0) := RE.out.cell 2
                        have f2 := RE.out.frozen 2
                        have d3 : y9.cell? ⟨y8.heap.size, 3, none⟩ = some (.slice none 0 0) := RE.out.cell 3
                        have f3 := RE.out.frozen 3
                        refine held_next 13 rfl (by kernel_rfl) (by rfl) ?_
                        go_simp
                        have S4 := set4 (a' := .int .u8 κg) (b' := .slice Ag ng cg) (c' := .slice Bg mg dg) (d' := .slice Dg qg eg) RE.out
                        generalize (((y9.setCell ⟨y8.heap.size, 0, none⟩ (.int .u8 κg)).setCell ⟨y8.heap.size, 1, none⟩ (.slice Ag ng cg)).setCell ⟨y8.heap.size, 2, none⟩ (.slice Bg mg dg)).setCell ⟨y8.heap.size, 3, none⟩ (.slice Dg qg eg) = y10 at *
                        obtain ⟨s4, s5⟩ := S4
                        have C1 := Lib.hid (C1.out.put s5 (by simp))
                        have C2 := Lib.hid (C2.out.put s5 (by simp))
                        have C3 := Lib.hid (C3.out.put s5 (by simp))
                        have RF := Lib.hid (RF.out.grown s5 (by intro e; injection e with e; have := NL.out.2; simp at this; omega))
                        have hS2 : Below U0.heap.size U0 y10 := hSc.grown s5 hSc.size (fun j e => by injection e with e; subst e; exact (NL.out.1 _ (by simp)).1)
                        have NL := Lib.hid (NL.out.le s5.size)
                        have RE := Lib.hid s4
                        clear hSc d0 d1 d2 d3 f0 f1 f2 f3 s4 s5
                        have hSc := hS2
                        clear hS2
                        refine ⟨fun W => Below U0.heap.size U0 W, fun W hW => hW, hSc, ?_⟩
                        try simp only [Act.put, List.setIfInBounds_toArray, List.set_cons_zero, List.set_cons_succ]
                        have d0 : y10.cell? ⟨y3.heap.size, 0, none⟩ = some (.int .u8 0) := RF.out.cell 0
                        have f0 := RF.out.frozen 0
                        have d1 : y10.cell? ⟨y3.heap.size, 1, none⟩ = some (.slice none 0 0) := RF.out.cell 1
                        have f1 := RF.out.frozen 1
                        have d2 : y10.cell? ⟨y3.heap.size, 2, none⟩ = some (.slice none 0 0) := RF.out.cell 2
                        have f2 := RF.out.frozen 2
                        have d3 : y10.cell? ⟨y3.heap.size, 3, none⟩ = some (.slice none 0 0) := RF.out.cell 3
                        have f3 := RF.out.frozen 3
                        refine held_next 14 rfl (by kernel_rfl) (by rfl) ?_
                        go_simp
                        have S4 := set4 (a' := .int .u8 κh) (b' := .slice Ah nh ch) (c' := .slice Bh mh dh) (d' := .slice Dh qh eh) RF.out
                        generalize (((y10.setCell ⟨y3.heap.size, 0, none⟩ (.int .u8 κh)).setCell ⟨y3.heap.size, 1, none⟩ (.slice Ah nh ch)).setCell ⟨y3.heap.size, 2, none⟩ (.slice Bh mh dh)).setCell ⟨y3.heap.size, 3, none⟩ (.slice Dh qh eh) = y11 at *
                        obtain ⟨s4, s5⟩ := S4
                        have C1 := Lib.hid (C1.out.put s5 (by simp))
                        have C2 := Lib.hid (C2.out.put s5 (by simp))
                        have C3 := Lib.hid (C3.out.put s5 (by simp))
                        have RE := Lib.hid (RE.out.grown s5 (by intro e; injection e with e; have := NL.out.2; simp at this; omega))
                        have hS2 : Below U0.heap.size U0 y11 := hSc.grown s5 hSc.size (fun j e => by injection e with e; subst e; exact (NL.out.1 _ (by simp)).1)
                        have NL := Lib.hid (NL.out.le s5.size)
                        have RF := Lib.hid s4
                        clear hSc d0 d1 d2 d3 f0 f1 f2 f3 s4 s5
                        have hSc := hS2
                        clear hS2
                        refine ⟨fun W => Below U0.heap.size U0 W, fun W hW => hW, hSc, ?_⟩
                        try simp only [Act.put, List.setIfInBounds_toArray, List.set_cons_zero, List.set_cons_succ]
                        refine wpAnyH_done (by kernel_rfl) ?_ _
                        go_wp2_with fail
                        go_meet
                        case rel => exact ⟨_, _, rfl, rfl, ⟨_, _, _, _, _, _, _, _, _, _, RE.out, C2.out.mono fun _ _ _ => trivial⟩, ⟨_, _, _, _, _, _, _, _, _, _, RF.out, C3.out.mono fun _ _ _ => trivial⟩, below_both BD.out hSc⟩
                    · skip
                      go_simp
                      have rz := Row.new y2 27 #[.int .u8 0, .slice none 0 0, .slice none 0 0, .slice none 0 0]
                      have bq := bx y2 (.cells #[.int .u8 0, .slice none 0 0, .slice none 0 0, .slice none 0 0] 27)
                      have hz : y2.heap.size < (y2.alloc (.cells #[.int .u8 0, .slice none 0 0, .slice none 0 0, .slice none 0 0] 27)).heap.size := rz.lt
                      generalize y2.alloc (.cells #[.int .u8 0, .slice none 0 0, .slice none 0 0, .slice none 0 0] 27) = y12 at *
                      have C1 := Lib.hid (C1.out.made bq)
                      have C2 := Lib.hid (C2.out.made bq)
                      have NL := Lib.hid (NL.out.new hSc.size hz)
                      have hS2 : Below U0.heap.size U0 y12 := hSc.trans (bq.mono hSc.size)
                      clear hSc
                      have hSc := hS2
                      clear hS2
                      have RE := Lib.hid rz
                      clear rz bq hz
                      refine ⟨fun W => Below U0.heap.size U0 W, fun W hW => hW, hSc, ?_⟩
                      try simp only [Act.put, List.setIfInBounds_toArray, List.set_cons_zero, List.set_cons_succ]
                      refine held_two 10 12 rfl rfl (by kernel_rfl) (by rfl) (by rfl) ?_ ?_
                      · skip
                        go_simp
                        refine (flip_c _ p q x y _ (TT.out.step hSc) NL.out.all (CD.out.old hSc NL.out)).mono ?_
                        rw [EP.out, EQ2.out]
                        rintro e y13 ⟨v', rfl, g, bq⟩
                        obtain ⟨κh, Ah, nh, ch, Bh, mh, dh, Dh, qh, eh, rfl⟩ := g.form
                        have C1 := Lib.hid (C1.out.step bq)
                        have C2 := Lib.hid (C2.out.step bq)
                        have RE := Lib.hid (RE.out.below bq RE.out.lt)
                        have NL := Lib.hid (NL.out.le bq.size)
                        have hS2 : Below U0.heap.size U0 y13 := hSc.trans (bq.mono hSc.size)
                        clear hSc
                        have hSc := hS2
                        clear hS2
                        have C3 := Lib.hid g
                        clear g bq
                        refine ⟨fun W => Below U0.heap.size U0 W, fun W hW => hW, hSc, ?_⟩
                        try simp only [Act.put, List.setIfInBounds_toArray, List.set_cons_zero, List.set_cons_succ]
                        refine held_next 12 rfl (by kernel_rfl) (by rfl) ?_
                        go_simp
                        have rz := Row.new y13 27 #[.int .u8 0, .slice none 0 0, .slice none 0 0, .slice none 0 0]
                        have bq := bx y13 (.cells #[.int .u8 0, .slice none 0 0, .slice none 0 0, .slice none 0 0] 27)
                        have hz : y13.heap.size < (y13.alloc (.cells #[.int .u8 0, .slice none 0 0, .slice none 0 0, .slice none 0 0] 27)).heap.size := rz.lt
                        generalize y13.alloc (.cells #[.int .u8 0, .slice none 0 0, .slice none 0 0, .slice none 0 0] 27) = y14 at *
                        have C1 := Lib.hid (C1.out.made bq)
                        have C2 := Lib.hid (C2.out.made bq)
                        have C3 := Lib.hid (C3.out.made bq)
                        have RE := Lib.hid (RE.out.below bq RE.out.lt)
                        have NL := Lib.hid (NL.out.new hSc.size hz)
                        have hS2 : Below U0.heap.size U0 y14 := hSc.trans (bq.mono hSc.size)
                        clear hSc
                        have hSc := hS2
                        clear hS2
                        have RF := Lib.hid rz
                        clear rz bq hz
                        refine ⟨fun W => Below U0.heap.size U0 W, fun W hW => hW, hSc, ?_⟩
                        try simp only [Act.put, List.setIfInBounds_toArray, List.set_cons_zero, List.set_cons_succ]
                        have d0 : y14.cell? ⟨y2.heap.size, 0, none⟩ = some (.int .u8 0) := RE.out.cell 0
                        have f0 := RE.out.frozen 0
                        have d1 : y14.cell? ⟨y2.heap.size, 1, none⟩ = some (.slice none 0 0) := RE.out.cell 1
                        have f1 := RE.out.frozen 1
                        have d2 : y14.cell? ⟨y2.heap.size, 2, none⟩ = some (.slice none 0 0) := RE.out.cell 2
                        have f2 := RE.out.frozen 2
                        have d3 : y14.cell? ⟨y2.heap.size, 3, none⟩ = some (.slice none 0 0) := RE.out.cell 3
                        have f3 := RE.out.frozen 3
                        refine held_next 13 rfl (by kernel_rfl) (by rfl) ?_
                        go_simp
                        have S4 := set4 (a' := .int .u8 κg) (b' := .slice Ag ng cg) (c' := .slice Bg mg dg) (d' := .slice Dg qg eg) RE.out
                        generalize (((y14.setCell ⟨y2.heap.size, 0, none⟩ (.int .u8 κg)).setCell ⟨y2.heap.size, 1, none⟩ (.slice Ag ng cg)).setCell ⟨y2.heap.size, 2, none⟩ (.slice Bg mg dg)).setCell ⟨y2.heap.size, 3, none⟩ (.slice Dg qg eg) = y15 at *
                        obtain ⟨s4, s5⟩ := S4
                        have C1 := Lib.hid (C1.out.put s5 (by simp))
                        have C2 := Lib.hid (C2.out.put s5 (by simp))
                        have C3 := Lib.hid (C3.out.put s5 (by simp))
                        have RF := Lib.hid (RF.out.grown s5 (by intro e; injection e with e; have := NL.out.2; simp at this; omega))
                        have hS2 : Below U0.heap.size U0 y15 := hSc.grown s5 hSc.size (fun j e => by injection e with e; subst e; exact (NL.out.1 _ (by simp)).1)
                        have NL := Lib.hid (NL.out.le s5.size)
                        have RE := Lib.hid s4
                        clear hSc d0 d1 d2 d3 f0 f1 f2 f3 s4 s5
                        have hSc := hS2
                        clear hS2
                        refine ⟨fun W => Below U0.heap.size U0 W, fun W hW => hW, hSc, ?_⟩
                        try simp only [Act.put, List.setIfInBounds_toArray, List.set_cons_zero, List.set_cons_succ]
                        have d0 : y15.cell? ⟨y13.heap.size, 0, none⟩ = some (.int .u8 0) := RF.out.cell 0
                        have f0 := RF.out.frozen 0
                        have d1 : y15.cell? ⟨y13.heap.size, 1, none⟩ = some (.slice none 0 0) := RF.out.cell 1
                        have f1 := RF.out.frozen 1
                        have d2 : y15.cell? ⟨y13.heap.size, 2, none⟩ = some (.slice none 0 0) := RF.out.cell 2
                        have f2 := RF.out.frozen 2
                        have d3 : y15.cell? ⟨y13.heap.size, 3, none⟩ = some (.slice none 0 0) := RF.out.cell 3
                        have f3 := RF.out.frozen 3
                        refine held_next 14 rfl (by kernel_rfl) (by rfl) ?_
                        go_simp
                        have S4 := set4 (a' := .int .u8 κh) (b' := .slice Ah nh ch) (c' := .slice Bh mh dh) (d' := .slice Dh qh eh) RF.out
                        generalize (((y15.setCell ⟨y13.heap.size, 0, none⟩ (.int .u8 κh)).setCell ⟨y13.heap.size, 1, none⟩ (.slice Ah nh ch)).setCell ⟨y13.heap.size, 2, none⟩ (.slice Bh mh dh)).setCell ⟨y13.heap.size, 3, none⟩ (.slice Dh qh eh) = y16 at *
                        obtain ⟨s4, s5⟩ := S4
                        have C1 := Lib.hid (C1.out.put s5 (by simp))
                        have C2 := Lib.hid (C2.out.put s5 (by simp))
                        have C3 := Lib.hid (C3.out.put s5 (by simp))
                        have RE := Lib.hid (RE.out.grown s5 (by intro e; injection e with e; have := NL.out.2; simp at this; omega))
                        have hS2 : Below U0.heap.size U0 y16 := hSc.grown s5 hSc.size (fun j e => by injection e with e; subst e; exact (NL.out.1 _ (by simp)).1)
                        have NL := Lib.hid (NL.out.le s5.size)
                        have RF := Lib.hid s4
                        clear hSc d0 d1 d2 d3 f0 f1 f2 f3 s4 s5
                        have hSc := hS2
                        clear hS2
                        refine ⟨fun W => Below U0.heap.size U0 W, fun W hW => hW, hSc, ?_⟩
                        try simp only [Act.put, List.setIfInBounds_toArray, List.set_cons_zero, List.set_cons_succ]
                        refine wpAnyH_done (by kernel_rfl) ?_ _
                        go_wp2_with fail
                        go_meet
                        case rel => exact ⟨_, _, rfl, rfl, ⟨_, _, _, _, _, _, _, _, _, _, RE.out, C2.out.mono fun _ _ _ => trivial⟩, ⟨_, _, _, _, _, _, _, _, _, _, RF.out, C3.out.mono fun _ _ _ => trivial⟩, below_both BD.out hSc⟩
                      · skip
                        go_simp
                        have rz := Row.new y12 27 #[.int .u8 0, .slice none 0 0, .slice none 0 0, .slice none 0 0]
                        have bq := bx y12 (.cells #[.int .u8 0, .slice none 0 0, .slice none 0 0, .slice none 0 0] 27)
                        have hz : y12.heap.size < (y12.alloc (.cells #[.int .u8 0, .slice none 0 0, .slice none 0 0, .slice none 0 0] 27)).heap.size := rz.lt
                        generalize y12.alloc (.cells #[.int .u8 0, .slice none 0 0, .slice none 0 0, .slice none 0 0] 27) = y17 at *
                        have C1 := Lib.hid (C1.out.made bq)
                        have C2 := Lib.hid (C2.out.made bq)
                        have RE := Lib.hid (RE.out.below bq RE.out.lt)
                        have NL := Lib.hid (NL.out.new hSc.size hz)
                        have hS2 : Below U0.heap.size U0 y17 := hSc.trans (bq.mono hSc.size)
                        clear hSc
                        have hSc := hS2
                        clear hS2
                        have RF := Lib.hid rz
                        clear rz bq hz
                        refine ⟨fun W => Below U0.heap.size U0 W, fun W hW => hW, hSc, ?_⟩
                        try simp only [Act.put, List.setIfInBounds_toArray, List.set_cons_zero, List.set_cons_succ]
                        refine held_next 10 rfl (by kernel_rfl) (by rfl) ?_
                        go_simp
                        refine (flip_c _ p q x y _ (TT.out.step hSc) NL.out.all (CD.out.old hSc NL.out)).mono ?_
                        rw [EP.out, EQ2.out]
                        rintro e y18 ⟨v', rfl, g, bq⟩
                        obtain ⟨κh, Ah, nh, ch, Bh, mh, dh, Dh, qh, eh, rfl⟩ := g.form
                        have C1 := Lib.hid (C1.out.step bq)
                        have C2 := Lib.hid (C2.out.step bq)
                        have RE := Lib.hid (RE.out.below bq RE.out.lt)
                        have RF := Lib.hid (RF.out.below bq RF.out.lt)
                        have NL := Lib.hid (NL.out.le bq.size)
                        have hS2 : Below U0.heap.size U0 y18 := hSc.trans (bq.mono hSc.size)
                        clear hSc
                        have hSc := hS2
                        clear hS2
                        have C3 := Lib.hid g
                        clear g bq
                        refine ⟨fun W => Below U0.heap.size U0 W, fun W hW => hW, hSc, ?_⟩
                        try simp only [Act.put, List.setIfInBounds_toArray, List.set_cons_zero, List.set_cons_succ]
                        have d0 : y18.cell? ⟨y2.heap.size, 0, none⟩ = some (.int .u8 0) := RE.out.cell 0
                        have f0 := RE.out.frozen 0
                        have d1 : y18.cell? ⟨y2.heap.size, 1, none⟩ = some (.slice none 0 0) := RE.out.cell 1
                        have f1 := RE.out.frozen 1
                        have d2 : y18.cell? ⟨y2.heap.size, 2, none⟩ = some (.slice none 0 0) := RE.out.cell 2
                        have f2 := RE.out.frozen 2
                        have d3 : y18.cell? ⟨y2.heap.size, 3, none⟩ = some (.slice none 0 0) := RE.out.cell 3
                        have f3 := RE.out.frozen 3
                        refine held_next 13 rfl (by kernel_rfl) (by rfl) ?_
                        go_simp
                        have S4 := set4 (a' := .int .u8 κg) (b' := .slice Ag ng cg) (c' := .slice Bg mg dg) (d' := .slice Dg qg eg) RE.out
                        generalize (((y18.setCell ⟨y2.heap.size, 0, none⟩ (.int .u8 κg)).setCell ⟨y2.heap.size, 1, none⟩ (.slice Ag ng cg)).setCell ⟨y2.heap.size, 2, none⟩ (.slice Bg mg dg)).setCell ⟨y2.heap.size, 3, none⟩ (.slice Dg qg eg) = y19 at *
                        obtain ⟨s4, s5⟩ := S4
                        have C1 := Lib.hid (C1.out.put s5 (by simp))
                        have C2 := Lib.hid (C2.out.put s5 (by simp))
                        have C3 := Lib.hid (C3.out.put s5 (by simp))
                        have RF := Lib.hid (RF.out.grown s5 (by intro e; injection e with e; have := NL.out.2; simp at this; omega))
                        have hS2 : Below U0.heap.size U0 y19 := hSc.grown s5 hSc.size (fun j e => by injection e with e; subst e; exact (NL.out.1 _ (by simp)).1)
                        have NL := Lib.hid (NL.out.le s5.size)
                        have RE := Lib.hid s4
                        clear hSc d0 d1 d2 d3 f0 f1 f2 f3 s4 s5
                        have hSc := hS2
                        clear hS2
                        refine ⟨fun W => Below U0.heap.size U0 W, fun W hW => hW, hSc, ?_⟩
                        try simp only [Act.put, List.setIfInBounds_toArray, List.set_cons_zero, List.set_cons_succ]
                        have d0 : y19.cell? ⟨y12.heap.size, 0, none⟩ = some (.int .u8 0) := RF.out.cell 0
                        have f0 := RF.out.frozen 0
                        have d1 : y19.cell? ⟨y12.heap.size, 1, none⟩ = some (.slice none 0 0) := RF.out.cell 1
                        have f1 := RF.out.frozen 1
                        have d2 : y19.cell? ⟨y12.heap.size, 2, none⟩ = some (.slice none 0 0) := RF.out.cell 2
                        have f2 := RF.out.frozen 2
                        have d3 : y19.cell? ⟨y12.heap.size, 3, none⟩ = some (.slice none 0 0) := RF.out.cell 3
                        have f3 := RF.out.frozen 3
                        refine held_next 14 rfl (by kernel_rfl) (by rfl) ?_
                        go_simp
                        have S4 := set4 (a' := .int .u8 κh) (b' := .slice Ah nh ch) (c' := .slice Bh mh dh) (d' := .slice Dh qh eh) RF.out
                        generalize (((y19.setCell ⟨y12.heap.size, 0, none⟩ (.int .u8 κh)).setCell ⟨y12.heap.size, 1, none⟩ (.slice Ah nh ch)).setCell ⟨y12.heap.size, 2, none⟩ (.slice Bh mh dh)).setCell ⟨y12.heap.size, 3, none⟩ (.slice Dh qh eh) = y20 at *
                        obtain ⟨s4, s5⟩ := S4
                        have C1 := Lib.hid (C1.out.put s5 (by simp))
                        have C2 := Lib.hid (C2.out.put s5 (by simp))
                        have C3 := Lib.hid (C3.out.put s5 (by simp))
                        have RE := Lib.hid (RE.out.grown s5 (by intro e; injection e with e; have := NL.out.2; simp at this; omega))
                        have hS2 : Below U0.heap.size U0 y20 := hSc.grown s5 hSc.size (fun j e => by injection e with e; subst e; exact (NL.out.1 _ (by simp)).1)
                        have NL := Lib.hid (NL.out.le s5.size)
                        have RF := Lib.hid s4
                        clear hSc d0 d1 d2 d3 f0 f1 f2 f3 s4 s5
                        have hSc := hS2
                        clear hS2
                        refine ⟨fun W => Below U0.heap.size U0 W, fun W hW => hW, hSc, ?_⟩
                        try simp only [Act.put, List.setIfInBounds_toArray, List.set_cons_zero, List.set_cons_succ]
                        refine wpAnyH_done (by kernel_rfl) ?_ _
                        go_wp2_with fail
                        go_meet
                        case rel => exact ⟨_, _, rfl, rfl, ⟨_, _, _, _, _, _, _, _, _, _, RE.out, C2.out.mono fun _ _ _ => trivial⟩, ⟨_, _, _, _, _, _, _, _, _, _, RF.out, C3.out.mono fun _ _ _ => trivial⟩, below_both BD.out hSc⟩
                    · skip
                      go_simp
                      have rz := Row.new y2 27 #[.int .u8 0, .slice none 0 0, .slice none 0 0, .slice none 0 0]
                      have bq := bx y2 (.cells #[.int .u8 0, .slice none 0 0, .slice none 0 0, .slice none 0 0] 27)
                      have hz : y2.heap.size < (y2.alloc (.cells #[.int .u8 0, .slice none 0 0, .slice none 0 0, .slice none 0 0] 27)).heap.size := rz.lt
                      generalize y2.alloc (.cells #[.int .u8 0, .slice none 0 0, .slice none 0 0, .slice none 0 0] 27) = y21 at *
                      have C1 := Lib.hid (C1.out.made bq)
                      have C2 := Lib.hid (C2.out.made bq)
                      have NL := Lib.hid (NL.out.new hSc.size hz)
                      have hS2 : Below U0.heap.size U0 y21 := hSc.trans (bq.mono hSc.size)
                      clear hSc
                      have hSc := hS2
                      clear hS2
                      have RF := Lib.hid rz
                      clear rz bq hz
                      refine ⟨fun W => Below U0.heap.size U0 W, fun W hW => hW, hSc, ?_⟩
                      try simp only [Act.put, List.setIfInBounds_toArray, List.set_cons_zero, List.set_cons_succ]
                      refine held_two 10 11 rfl rfl (by kernel_rfl) (by rfl) (by rfl) ?_ ?_
                      · skip
                        go_simp
                        refine (flip_c _ p q x y _ (TT.out.step hSc) NL.out.all (CD.out.old hSc NL.out)).mono ?_
                        rw [EP.out, EQ2.out]
                        rintro e y22 ⟨v', rfl, g, bq⟩
                        obtain ⟨κh, Ah, nh, ch, Bh, mh, dh, Dh, qh, eh, rfl⟩ := g.form
                        have C1 := Lib.hid (C1.out.step bq)
                        have C2 := Lib.hid (C2.out.step bq)
                        have RF := Lib.hid (RF.out.below bq RF.out.lt)
                        have NL := Lib.hid (NL.out.le bq.size)
                        have hS2 : Below U0.heap.size U0 y22 := hSc.trans (bq.mono hSc.size)
                        clear hSc
                        have hSc := hS2
                        clear hS2
                        have C3 := Lib.hid g
                        clear g bq
                        refine ⟨fun W => Below U0.heap.size U0 W, fun W hW => hW, hSc, ?_⟩
                        try simp only [Act.put, List.setIfInBounds_toArray, List.set_cons_zero, List.set_cons_succ]
                        refine held_next 11 rfl (by kernel_rfl) (by rfl) ?_
                        go_simp
                        have rz := Row.new y22 27 #[.int .u8 0, .slice none 0 0, .slice none 0 0, .slice none 0 0]
                        have bq := bx y22 (.cells #[.int .u8 0, .slice none 0 0, .slice none 0 0, .slice none 0 0] 27)
                        have hz : y22.heap.size < (y22.alloc (.cells #[.int .u8 0, .slice none 0 0, .slice none 0 0, .slice none 0 0] 27)).heap.size := rz.lt
                        generalize y22.alloc (.cells #[.int .u8 0, .slice none 0 0, .slice none 0 0, .slice none 0 0] 27) = y23 at *
                        have C1 := Lib.hid (C1.out.made bq)
                        have C2 := Lib.hid (C2.out.made bq)
                        have C3 := Lib.hid (C3.out.made bq)
                        have RF := Lib.hid (RF.out.below bq RF.out.lt)
                        have NL := Lib.hid (NL.out.new hSc.size hz)
                        have hS2 : Below U0.heap.size U0 y23 := hSc.trans (bq.mono hSc.size)
                        clear hSc
                        have hSc := hS2
                        clear hS2
                        have RE := Lib.hid rz
                        clear rz bq hz
                        refine ⟨fun W => Below U0.heap.size U0 W, fun W hW => hW, hSc, ?_⟩
                        try simp only [Act.put, List.setIfInBounds_toArray, List.set_cons_zero, List.set_cons_succ]
                        have d0 : y23.cell? ⟨y22.heap.size, 0, none⟩ = some (.int .u8 0) := RE.out.cell 0
                        have f0 := RE.out.frozen 0
                        have d1 : y23.cell? ⟨y22.heap.size, 1, none⟩ = some (.slice none 0 0) := RE.out.cell 1
                        have f1 := RE.out.frozen 1
                        have d2 : y23.cell? ⟨y22.heap.size, 2, none⟩ = some (.slice none 0 0) := RE.out.cell 2
                        have f2 := RE.out.frozen 2
                        have d3 : y23.cell? ⟨y22.heap.size, 3, none⟩ = some (.slice none 0 0) := RE.out.cell 3
                        have f3 := RE.out.frozen 3
                        refine held_next 13 rfl (by kernel_rfl) (by rfl) ?_
                        go_simp
                        have S4 := set4 (a' := .int .u8 κg) (b' := .slice Ag ng cg) (c' := .slice Bg mg dg) (d' := .slice Dg qg eg) RE.out
                        generalize (((y23.setCell ⟨y22.heap.size, 0, none⟩ (.int .u8 κg)).setCell ⟨y22.heap.size, 1, none⟩ (.slice Ag ng cg)).setCell ⟨y22.heap.size, 2, none⟩ (.slice Bg mg dg)).setCell ⟨y22.heap.size, 3, none⟩ (.slice Dg qg eg) = y24 at *
                        obtain ⟨s4, s5⟩ := S4
                        have C1 := Lib.hid (C1.out.put s5 (by simp))
                        have C2 := Lib.hid (C2.out.put s5 (by simp))
                        have C3 := Lib.hid (C3.out.put s5 (by simp))
                        have RF := Lib.hid (RF.out.grown s5 (by intro e; injection e with e; have := NL.out.2; simp at this; omega))
                        have hS2 : Below U0.heap.size U0 y24 := hSc.grown s5 hSc.size (fun j e => by injection e with e; subst e; exact (NL.out.1 _ (by simp)).1)
                        have NL := Lib.hid (NL.out.le s5.size)
                        have RE := Lib.hid s4
                        clear hSc d0 d1 d2 d3 f0 f1 f2 f3 s4 s5
                        have hSc := hS2
                        clear hS2
                        refine ⟨fun W => Below U0.heap.size U0 W, fun W hW => hW, hSc, ?_⟩
                        try simp only [Act.put, List.setIfInBounds_toArray, List.set_cons_zero, List.set_cons_succ]
                        have d0 : y24.cell? ⟨y2.heap.size, 0, none⟩ = some (.int .u8 0) := RF.out.cell 0
                        have f0 := RF.out.frozen 0
                        have d1 : y24.cell? ⟨y2.heap.size, 1, none⟩ = some (.slice none 0 0) := RF.out.cell 1
                        have f1 := RF.out.frozen 1
                        have d2 : y24.cell? ⟨y2.heap.size, 2, none⟩ = some (.slice none 0 0) := RF.out.cell 2
                        have f2 := RF.out.frozen 2
                        have d3 : y24.cell? ⟨y2.heap.size, 3, none⟩ = some (.slice none 0 0) := RF.out.cell 3
                        have f3 := RF.out.frozen 3
                        refine held_next 14 rfl (by kernel_rfl) (by rfl) ?_
                        go_simp
                        have S4 := set4 (a' := .int .u8 κh) (b' := .slice Ah nh ch) (c' := .slice Bh mh dh) (d' := .slice Dh qh eh) RF.out
                        generalize (((y24.setCell ⟨y2.heap.size, 0, none⟩ (.int .u8 κh)).setCell ⟨y2.heap.size, 1, none⟩ (.slice Ah nh ch)).setCell ⟨y2.heap.size, 2, none⟩ (.slice Bh mh dh)).setCell ⟨y2.heap.size, 3, none⟩ (.slice Dh qh eh) = y25 at *
                        obtain ⟨s4, s5⟩ := S4
                        have C1 := Lib.hid (C1.out.put s5 (by simp))
                        have C2 := Lib.hid (C2.out.put s5 (by simp))
                        have C3 := Lib.hid (C3.out.put s5 (by simp))
                        have RE := Lib.hid (RE.out.grown s5 (by intro e; injection e with e; have := NL.out.2; simp at this; omega))
                        have hS2 : Below U0.heap.size U0 y25 := hSc.grown s5 hSc.size (fun j e => by injection e with e; subst e; exact (NL.out.1 _ (by simp)).1)
                        have NL := Lib.hid (NL.out.le s5.size)
                        have RF := Lib.hid s4
                        clear hSc d0 d1 d2 d3 f0 f1 f2 f3 s4 s5
                        have hSc := hS2
                        clear hS2
                        refine ⟨fun W => Below U0.heap.size U0 W, fun W hW => hW, hSc, ?_⟩
                        try simp only [Act.put, List.setIfInBounds_toArray, List.set_cons_zero, List.set_cons_succ]
                        refine wpAnyH_done (by kernel_rfl) ?_ _
                        go_wp2_with fail
                        go_meet
                        case rel => exact ⟨_, _, rfl, rfl, ⟨_, _, _, _, _, _, _, _, _, _, RE.out, C2.out.mono fun _ _ _ => trivial⟩, ⟨_, _, _, _, _, _, _, _, _, _, RF.out, C3.out.mono fun _ _ _ => trivial⟩, below_both BD.out hSc⟩
                      · skip
                        go_simp
                        have rz := Row.new y21 27 #[.int .u8 0, .slice none 0 0, .slice none 0 0, .slice none 0 0]
                        have bq := bx y21 (.cells #[.int .u8 0, .slice none 0 0, .slice none 0 0, .slice none 0 0] 27)
                        have hz : y21.heap.size < (y21.alloc (.cells #[.int .u8 0, .slice none 0 0, .slice none 0 0, .slice none 0 0] 27)).heap.size := rz.lt
                        generalize y21.alloc (.cells #[.int .u8 0, .slice none 0 0, .slice none 0 0, .slice none 0 0] 27) = y26 at *
                        have C1 := Lib.hid (C1.out.made bq)
                        have C2 := Lib.hid (C2.out.made bq)
                        have RF := Lib.hid (RF.out.below bq RF.out.lt)
                        have NL := Lib.hid (NL.out.new hSc.size hz)
                        have hS2 : Below U0.heap.size U0 y26 := hSc.trans (bq.mono hSc.size)
                        clear hSc
                        have hSc := hS2
                        clear hS2
                        have RE := Lib.hid rz
                        clear rz bq hz
                        refine ⟨fun W => Below U0.heap.size U0 W, fun W hW => hW, hSc, ?_⟩
                        try simp only [Act.put, List.setIfInBounds_toArray, List.set_cons_zero, List.set_cons_succ]
                        refine held_next 10 rfl (by kernel_rfl) (by rfl) ?_
                        go_simp
                        refine (flip_c _ p q x y _ (TT.out.step hSc) NL.out.all (CD.out.old hSc NL.out)).mono ?_
                        rw [EP.out, EQ2.out]
                        rintro e y27 ⟨v', rfl, g, bq⟩
                        obtain ⟨κh, Ah, nh, ch, Bh, mh, dh, Dh, qh, eh, rfl⟩ := g.form
                        have C1 := Lib.hid (C1.out.step bq)
                        have C2 := Lib.hid (C2.out.step bq)
                        have RF := Lib.hid (RF.out.below bq RF.out.lt)
                        have RE := Lib.hid (RE.out.below bq RE.out.lt)
                        have NL := Lib.hid (NL.out.le bq.size)
                        have hS2 : Below U0.heap.size U0 y27 := hSc.trans (bq.mono hSc.size)
                        clear hSc
                        have hSc := hS2
                        clear hS2
                        have C3 := Lib.hid g
                        clear g bq
                        refine ⟨fun W => Below U0.heap.size U0 W, fun W hW => hW, hSc, ?_⟩
                        try simp only [Act.put, List.setIfInBounds_toArray, List.set_cons_zero, List.set_cons_succ]
                        have d0 : y27.cell? ⟨y21.heap.size, 0, none⟩ = some (.int .u8 0) := RE.out.cell 0
                        have f0 := RE.out.frozen 0
                        have d1 : y27.cell? ⟨y21.heap.size, 1, none⟩ = some (.slice none 0 0) := RE.out.cell 1
                        have f1 := RE.out.frozen 1
                        have d2 : y27.cell? ⟨y21.heap.size, 2, none⟩ = some (.slice none 0 0) := RE.out.cell 2
                        have f2 := RE.out.frozen 2
                        have d3 : y27.cell? ⟨y21.heap.size, 3, none⟩ = some (.slice none 0 0) := RE.out.cell 3
                        have f3 := RE.out.frozen 3
                        refine held_next 13 rfl (by kernel_rfl) (by rfl) ?_
                        go_simp
                        have S4 := set4 (a' := .int .u8 κg) (b' := .slice Ag ng cg) (c' := .slice Bg mg dg) (d' := .slice Dg qg eg) RE.out
                        generalize (((y27.setCell ⟨y21.heap.size, 0, none⟩ (.int .u8 κg)).setCell ⟨y21.heap.size, 1, none⟩ (.slice Ag ng cg)).setCell ⟨y21.heap.size, 2, none⟩ (.slice Bg mg dg)).setCell ⟨y21.heap.size, 3, none⟩ (.slice Dg qg eg) = y28 at *
                        obtain ⟨s4, s5⟩ := S4
                        have C1 := Lib.hid (C1.out.put s5 (by simp))
                        have C2 := Lib.hid (C2.out.put s5 (by simp))
                        have C3 := Lib.hid (C3.out.put s5 (by simp))
                        have RF := Lib.hid (RF.out.grown s5 (by intro e; injection e with e; have := NL.out.2; simp at this; omega))
                        have hS2 : Below U0.heap.size U0 y28 := hSc.grown s5 hSc.size (fun j e => by injection e with e; subst e; exact (NL.out.1 _ (by simp)).1)
                        have NL := Lib.hid (NL.out.le s5.size)
                        have RE := Lib.hid s4
                        clear hSc d0 d1 d2 d3 f0 f1 f2 f3 s4 s5
                        have hSc := hS2
                        clear hS2
                        refine ⟨fun W => Below U0.heap.size U0 W, fun W hW => hW, hSc, ?_⟩
                        try simp only [Act.put, List.setIfInBounds_toArray, List.set_cons_zero, List.set_cons_succ]
                        have d0 : y28.cell? ⟨y2.heap.size, 0, none⟩ = some (.int .u8 0) := RF.out.cell 0
                        have f0 := RF.out.frozen 0
                        have d1 : y28.cell? ⟨y2.heap.size, 1, none⟩ = some (.slice none 0 0) := RF.out.cell 1
                        have f1 := RF.out.frozen 1
                        have d2 : y28.cell? ⟨y2.heap.size, 2, none⟩ = some (.slice none 0 0) := RF.out.cell 2
                        have f2 := RF.out.frozen 2
                        have d3 : y28.cell? ⟨y2.heap.size, 3, none⟩ = some (.slice none 0 0) := RF.out.cell 3
                        have f3 := RF.out.frozen 3
                        refine held_next 14 rfl (by kernel_rfl) (by rfl) ?_
                        go_simp
                        have S4 := set4 (a' := .int .u8 κh) (b' := .slice Ah nh ch) (c' := .slice Bh mh dh) (d' := .slice Dh qh eh) RF.out
                        generalize (((y28.setCell ⟨y2.heap.size, 0, none⟩ (.int .u8 κh)).setCell ⟨y2.heap.size, 1, none⟩ (.slice Ah nh ch)).setCell ⟨y2.heap.size, 2, none⟩ (.slice Bh mh dh)).setCell ⟨y2.heap.size, 3, none⟩ (.slice Dh qh eh) = y29 at *
                        obtain ⟨s4, s5⟩ := S4
                        have C1 := Lib.hid (C1.out.put s5 (by simp))
                        have C2 := Lib.hid (C2.out.put s5 (by simp))
                        have C3 := Lib.hid (C3.out.put s5 (by simp))
                        have RE := Lib.hid (RE.out.grown s5 (by intro e; injection e with e; have := NL.out.2; simp at this; omega))
                        have hS2 : Below U0.heap.size U0 y29 := hSc.grown s5 hSc.size (fun j e => by injection e with e; subst e; exact (NL.out.1 _ (by simp)).1)
                        have NL := Lib.hid (NL.out.le s5.size)
                        have RF := Lib.hid s4
                        clear hSc d0 d1 d2 d3 f0 f1 f2 f3 s4 s5
                        have hSc := hS2
                        clear hS2
                        refine ⟨fun W => Below U0.heap.size U0 W, fun W hW => hW, hSc, ?_⟩
                        try simp only [Act.put, List.setIfInBounds_toArray, List.set_cons_zero, List.set_cons_succ]
                        refine wpAnyH_done (by kernel_rfl) ?_ _
                        go_wp2_with fail
                        go_meet
                        case rel => exact ⟨_, _, rfl, rfl, ⟨_, _, _, _, _, _, _, _, _, _, RE.out, C2.out.mono fun _ _ _ => trivial⟩, ⟨_, _, _, _, _, _, _, _, _, _, RF.out, C3.out.mono fun _ _ _ => trivial⟩, below_both BD.out hSc⟩
                  · skip
                    go_simp
                    have rz := Row.new y1 27 #[.int .u8 0, .slice none 0 0, .slice none 0 0, .slice none 0 0]
                    have bq := bx y1 (.cells #[.int .u8 0, .slice none 0 0, .slice none 0 0, .slice none 0 0] 27)
                    have hz : y1.heap.size < (y1.alloc (.cells #[.int .u8 0, .slice none 0 0, .slice none 0 0, .slice none 0 0] 27)).heap.size := rz.lt
                    generalize y1.alloc (.cells #[.int .u8 0, .slice none 0 0, .slice none 0 0, .slice none 0 0] 27) = y30 at *
                    have C1 := Lib.hid (C1.out.made bq)
                    have NL := Lib.hid (NL.out.new hSc.size hz)
                    have hS2 : Below U0.heap.size U0 y30 := hSc.trans (bq.mono hSc.size)
                    clear hSc
                    have hSc := hS2
                    clear hS2
                    have RE := Lib.hid rz
                    clear rz bq hz
                    refine ⟨fun W => Below U0.heap.size U0 W, fun W hW => hW, hSc, ?_⟩
                    try simp only [Act.put, List.setIfInBounds_toArray, List.set_cons_zero, List.set_cons_succ]
                    refine held_two 6 12 rfl rfl (by kernel_rfl) (by rfl) (by rfl) ?_ ?_
                    · skip
                      go_simp
                      refine (flip_c _ (flp p x M) _ M y _ (TT.out.step hSc) NL.out.all C1.out).mono ?_
                      rw [FJ.out, EQ2.out]
                      rintro e y31 ⟨v', rfl, g, bq⟩
                      obtain ⟨κg, Ag, ng, cg, Bg, mg, dg, Dg, qg, eg, rfl⟩ := g.form
                      have C1 := Lib.hid (C1.out.step bq)
                      have RE := Lib.hid (RE.out.below bq RE.out.lt)
                      have NL := Lib.hid (NL.out.le bq.size)
                      have hS2 : Below U0.heap.size U0 y31 := hSc.trans (bq.mono hSc.size)
                      clear hSc
                      have hSc := hS2
                      clear hS2
                      have C2 := Lib.hid g
                      clear g bq
                      refine ⟨fun W => Below U0.heap.size U0 W, fun W hW => hW, hSc, ?_⟩
                      try simp only [Act.put, List.setIfInBounds_toArray, List.set_cons_zero, List.set_cons_succ]
                      refine held_two 10 12 rfl rfl (by kernel_rfl) (by rfl) (by rfl) ?_ ?_
                      · skip
                        go_simp
                        refine (flip_c _ p q x y _ (TT.out.step hSc) NL.out.all (CD.out.old hSc NL.out)).mono ?_
                        rw [EP.out, EQ2.out]
                        rintro e y32 ⟨v', rfl, g, bq⟩
                        obtain ⟨κh, Ah, nh, ch, Bh, mh, dh, Dh, qh, eh, rfl⟩ := g.form
                        have C1 := Lib.hid (C1.out.step bq)
                        have C2 := Lib.hid (C2.out.step bq)
                        have RE := Lib.hid (RE.out.below bq RE.out.lt)
                        have NL := Lib.hid (NL.out.le bq.size)
                        have hS2 : Below U0.heap.size U0 y32 := hSc.trans (bq.mono hSc.size)
                        clear hSc
                        have hSc := hS2
                        clear hS2
                        have C3 := Lib.hid g
                        clear g bq
                        refine ⟨fun W => Below U0.heap.size U0 W, fun W hW => hW, hSc, ?_⟩
                        try simp only [Act.put, List.setIfInBounds_toArray, List.set_cons_zero, List.set_cons_succ]
                        refine held_next 12 rfl (by kernel_rfl) (by rfl) ?_
                        go_simp
                        have rz := Row.new y32 27 #[.int .u8 0, .slice none 0 0, .slice none 0 0, .slice none 0 0]
                        have bq := bx y32 (.cells #[.int .u8 0, .slice none 0 0, .slice none 0 0, .slice none 0 0] 27)
                        have hz : y32.heap.size < (y32.alloc (.cells #[.int .u8 0, .slice none 0 0, .slice none 0 0, .slice none 0 0] 27)).heap.size := rz.lt
                        generalize y32.alloc (.cells #[.int .u8 0, .slice none 0 0, .slice none 0 0, .slice none 0 0] 27) = y33 at *
                        have C1 := Lib.hid (C1.out.made bq)
                        have C2 := Lib.hid (C2.out.made bq)
                        have C3 := Lib.hid (C3.out.made bq)
                        have RE := Lib.hid (RE.out.below bq RE.out.lt)
                        have NL := Lib.hid (NL.out.new hSc.size hz)
                        have hS2 : Below U0.heap.size U0 y33 := hSc.trans (bq.mono hSc.size)
                        clear hSc
                        have hSc := hS2
                        clear hS2
                        have RF := Lib.hid rz
                        clear rz bq hz
                        refine ⟨fun W => Below U0.heap.size U0 W, fun W hW => hW, hSc, ?_⟩
                        try simp only [Act.put, List.setIfInBounds_toArray, List.set_cons_zero, List.set_cons_succ]
                        have d0 : y33.cell? ⟨y1.heap.size, 0, none⟩ = some (.int .u8 0) := RE.out.cell 0
                        have f0 := RE.out.frozen 0
                        have d1 : y33.cell? ⟨y1.heap.size, 1, none⟩ = some (.slice none 0 0) := RE.out.cell 1
                        have f1 := RE.out.frozen 1
                        have d2 : y33.cell? ⟨y1.heap.size, 2, none⟩ = some (.slice none 0 0) := RE.out.cell 2
                        have f2 := RE.out.frozen 2
                        have d3 : y33.cell? ⟨y1.heap.size, 3, none⟩ = some (.slice none 0 0) := RE.out.cell 3
                        have f3 := RE.out.frozen 3
                        refine held_next 13 rfl (by kernel_rfl) (by rfl) ?_
                        go_simp
                        have S4 := set4 (a' := .int .u8 κg) (b' := .slice Ag ng cg) (c' := .slice Bg mg dg) (d' := .slice Dg qg eg) RE.out
                        generalize (((y33.setCell ⟨y1.heap.size, 0, none⟩ (.int .u8 κg)).setCell ⟨y1.heap.size, 1, none⟩ (.slice Ag ng cg)).setCell ⟨y1.heap.size, 2, none⟩ (.slice Bg mg dg)).setCell ⟨y1.heap.size, 3, none⟩ (.slice Dg qg eg) = y34 at *
                        obtain ⟨s4, s5⟩ := S4
                        have C1 := Lib.hid (C1.out.put s5 (by simp))
                        have C2 := Lib.hid (C2.out.put s5 (by simp))
                        have C3 := Lib.hid (C3.out.put s5 (by simp))
                        have RF := Lib.hid (RF.out.grown s5 (by intro e; injection e with e; have := NL.out.2; simp at this; omega))
                        have hS2 : Below U0.heap.size U0 y34 := hSc.grown s5 hSc.size (fun j e => by injection e with e; subst e; exact (NL.out.1 _ (by simp)).1)
                        have NL := Lib.hid (NL.out.le s5.size)
                        have RE := Lib.hid s4
                        clear hSc d0 d1 d2 d3 f0 f1 f2 f3 s4 s5
                        have hSc := hS2
                        clear hS2
                        refine ⟨fun W => Below U0.heap.size U0 W, fun W hW => hW, hSc, ?_⟩
                        try simp only [Act.put, List.setIfInBounds_toArray, List.set_cons_zero, List.set_cons_succ]
                        have d0 : y34.cell? ⟨y32.heap.size, 0, none⟩ = some (.int .u8 0) := RF.out.cell 0
                        have f0 := RF.out.frozen 0
                        have d1 : y34.cell? ⟨y32.heap.size, 1, none⟩ = some (.slice none 0 0) := RF.out.cell 1
                        have f1 := RF.out.frozen 1
                        have d2 : y34.cell? ⟨y32.heap.size, 2, none⟩ = some (.slice none 0 0) := RF.out.cell 2
                        have f2 := RF.out.frozen 2
                        have d3 : y34.cell? ⟨y32.heap.size, 3, none⟩ = some (.slice none 0 0) := RF.out.cell 3
                        have f3 := RF.out.frozen 3
                        refine held_next 14 rfl (by kernel_rfl) (by rfl) ?_
                        go_simp
                        have S4 := set4 (a' := .int .u8 κh) (b' := .slice Ah nh ch) (c' := .slice Bh mh dh) (d' := .slice Dh qh eh) RF.out
                        generalize (((y34.setCell ⟨y32.heap.size, 0, none⟩ (.int .u8 κh)).setCell ⟨y32.heap.size, 1, none⟩ (.slice Ah nh ch)).setCell ⟨y32.heap.size, 2, none⟩ (.slice Bh mh dh)).setCell ⟨y32.heap.size, 3, none⟩ (.slice Dh qh eh) = y35 at *
                        obtain ⟨s4, s5⟩ := S4
                        have C1 := Lib.hid (C1.out.put s5 (by simp))
                        have C2 := Lib.hid (C2.out.put s5 (by simp))
                        have C3 := Lib.hid (C3.out.put s5 (by simp))
                        have RE := Lib.hid (RE.out.grown s5 (by intro e; injection e with e; have := NL.out.2; simp at this; omega))
                        have hS2 : Below U0.heap.size U0 y35 := hSc.grown s5 hSc.size (fun j e => by injection e with e; subst e; exact (NL.out.1 _ (by simp)).1)
                        have NL := Lib.hid (NL.out.le s5.size)
                        have RF := Lib.hid s4
                        clear hSc d0 d1 d2 d3 f0 f1 f2 f3 s4 s5
                        have hSc := hS2
                        clear hS2
                        refine ⟨fun W => Below U0.heap.size U0 W, fun W hW => hW, hSc, ?_⟩
                        try simp only [Act.put, List.setIfInBounds_toArray, List.set_cons_zero, List.set_cons_succ]
                        refine wpAnyH_done (by kernel_rfl) ?_ _
                        go_wp2_with fail
                        go_meet
                        case rel => exact ⟨_, _, rfl, rfl, ⟨_, _, _, _, _, _, _, _, _, _, RE.out, C2.out.mono fun _ _ _ => trivial⟩, ⟨_, _, _, _, _, _, _, _, _, _, RF.out, C3.out.mono fun _ _ _ => trivial⟩, below_both BD.out hSc⟩
                      · skip
                        go_simp
                        have rz := Row.new y31 27 #[.int .u8 0, .slice none 0 0, .slice none 0 0, .slice none 0 0]
                        have bq := bx y31 (.cells #[.int .u8 0, .slice none 0 0, .slice none 0 0, .slice none 0 0] 27)
                        have hz : y31.heap.size < (y31.alloc (.cells #[.int .u8 0, .slice none 0 0, .slice none 0 0, .slice none 0 0] 27)).heap.size := rz.lt
                        generalize y31.alloc (.cells #[.int .u8 0, .slice none 0 0, .slice none 0 0, .slice none 0 0] 27) = y36 at *
                        have C1 := Lib.hid (C1.out.made bq)
                        have C2 := Lib.hid (C2.out.made bq)
                        have RE := Lib.hid (RE.out.below bq RE.out.lt)
                        have NL := Lib.hid (NL.out.new hSc.size hz)
                        have hS2 : Below U0.heap.size U0 y36 := hSc.trans (bq.mono hSc.size)
                        clear hSc
                        have hSc := hS2
                        clear hS2
                        have RF := Lib.hid rz
                        clear rz bq hz
                        refine ⟨fun W => Below U0.heap.size U0 W, fun W hW => hW, hSc, ?_⟩
                        try simp only [Act.put, List.setIfInBounds_toArray, List.set_cons_zero, List.set_cons_succ]
                        refine held_next 10 rfl (by kernel_rfl) (by rfl) ?_
                        go_simp
                        refine (flip_c _ p q x y _ (TT.out.step hSc) NL.out.all (CD.out.old hSc NL.out)).mono ?_
                        rw [EP.out, EQ2.out]
                        rintro e y37 ⟨v', rfl, g, bq⟩
                        obtain ⟨κh, Ah, nh, ch, Bh, mh, dh, Dh, qh, eh, rfl⟩ := g.form
                        have C1 := Lib.hid (C1.out.step bq)
                        have C2 := Lib.hid (C2.out.step bq)
                        have RE := Lib.hid (RE.out.below bq RE.out.lt)
                        have RF := Lib.hid (RF.out.below bq RF.out.lt)
                        have NL := Lib.hid (NL.out.le bq.size)
                        have hS2 : Below U0.heap.size U0 y37 := hSc.trans (bq.mono hSc.size)
                        clear hSc
                        have hSc := hS2
                        clear hS2
                        have C3 := Lib.hid g
                        clear g bq
                        refine ⟨fun W => Below U0.heap.size U0 W, fun W hW => hW, hSc, ?_⟩
                        try simp only [Act.put, List.setIfInBounds_toArray, List.set_cons_zero, List.set_cons_succ]
                        have d0 : y37.cell? ⟨y1.heap.size, 0, none⟩ = some (.int .u8 0) := RE.out.cell 0
                        have f0 := RE.out.frozen 0
                        have d1 : y37.cell? ⟨y1.heap.size, 1, none⟩ = some (.slice none 0 0) := RE.out.cell 1
                        have f1 := RE.out.frozen 1
                        have d2 : y37.cell? ⟨y1.heap.size, 2, none⟩ = some (.slice none 0 0) := RE.out.cell 2
                        have f2 := RE.out.frozen 2
                        have d3 : y37.cell? ⟨y1.heap.size, 3, none⟩ = some (.slice none 0 0) := RE.out.cell 3
                        have f3 := RE.out.frozen 3
                        refine held_next 13 rfl (by kernel_rfl) (by rfl) ?_
                        go_simp
                        have S4 := set4 (a' := .int .u8 κg) (b' := .slice Ag ng cg) (c' := .slice Bg mg dg) (d' := .slice Dg qg eg) RE.out
                        generalize (((y37.setCell ⟨y1.heap.size, 0, none⟩ (.int .u8 κg)).setCell ⟨y1.heap.size, 1, none⟩ (.slice Ag ng cg)).setCell ⟨y1.heap.size, 2, none⟩ (.slice Bg mg dg)).setCell ⟨y1.heap.size, 3, none⟩ (.slice Dg qg eg) = y38 at *
                        obtain ⟨s4, s5⟩ := S4
                        have C1 := Lib.hid (C1.out.put s5 (by simp))
                        have C2 := Lib.hid (C2.out.put s5 (by simp))
                        have C3 := Lib.hid (C3.out.put s5 (by simp))
                        have RF := Lib.hid (RF.out.grown s5 (by intro e; injection e with e; have := NL.out.2; simp at this; omega))
                        have hS2 : Below U0.heap.size U0 y38 := hSc.grown s5 hSc.size (fun j e => by injection e with e; subst e; exact (NL.out.1 _ (by simp)).1)
                        have NL := Lib.hid (NL.out.le s5.size)
                        have RE := Lib.hid s4
                        clear hSc d0 d1 d2 d3 f0 f1 f2 f3 s4 s5
                        have hSc := hS2
                        clear hS2
                        refine ⟨fun W => Below U0.heap.size U0 W, fun W hW => hW, hSc, ?_⟩
                        try simp only [Act.put, List.setIfInBounds_toArray, List.set_cons_zero, List.set_cons_succ]
                        have d0 : y38.cell? ⟨y31.heap.size, 0, none⟩ = some (.int .u8 0) := RF.out.cell 0
                        have f0 := RF.out.frozen 0
                        have d1 : y38.cell? ⟨y31.heap.size, 1, none⟩ = some (.slice none 0 0) := RF.out.cell 1
                        have f1 := RF.out.frozen 1
                        have d2 : y38.cell? ⟨y31.heap.size, 2, none⟩ = some (.slice none 0 0) := RF.out.cell 2
                        have f2 := RF.out.frozen 2
                        have d3 : y38.cell? ⟨y31.heap.size, 3, none⟩ = some (.slice none 0 0) := RF.out.cell 3
                        have f3 := RF.out.frozen 3
                        refine held_next 14 rfl (by kernel_rfl) (by rfl) ?_
                        go_simp
                        have S4 := set4 (a' := .int .u8 κh) (b' := .slice Ah nh ch) (c' := .slice Bh mh dh) (d' := .slice Dh qh eh) RF.out
                        generalize (((y38.setCell ⟨y31.heap.size, 0, none⟩ (.int .u8 κh)).setCell ⟨y31.heap.size, 1, none⟩ (.slice Ah nh ch)).setCell ⟨y31.heap.size, 2, none⟩ (.slice Bh mh dh)).setCell ⟨y31.heap.size, 3, none⟩ (.slice Dh qh eh) = y39 at *
                        obtain ⟨s4, s5⟩ := S4
                        have C1 := Lib.hid (C1.out.put s5 (by simp))
                        have C2 := Lib.hid (C2.out.put s5 (by simp))
                        have C3 := Lib.hid (C3.out.put s5 (by simp))
                        have RE := Lib.hid (RE.out.grown s5 (by intro e; injection e with e; have := NL.out.2; simp at this; omega))
                        have hS2 : Below U0.heap.size U0 y39 := hSc.grown s5 hSc.size (fun j e => by injection e with e; subst e; exact (NL.out.1 _ (by simp)).1)
                        have NL := Lib.hid (NL.out.le s5.size)
                        have RF := Lib.hid s4
                        clear hSc d0 d1 d2 d3 f0 f1 f2 f3 s4 s5
                        have hSc := hS2
                        clear hS2
                        refine ⟨fun W => Below U0.heap.size U0 W, fun W hW => hW, hSc, ?_⟩
                        try simp only [Act.put, List.setIfInBounds_toArray, List.set_cons_zero, List.set_cons_succ]
                        refine wpAnyH_done (by kernel_rfl) ?_ _
                        go_wp2_with fail
                        go_meet
                        case rel => exact ⟨_, _, rfl, rfl, ⟨_, _, _, _, _, _, _, _, _, _, RE.out, C2.out.mono fun _ _ _ => trivial⟩, ⟨_, _, _, _, _, _, _, _, _, _, RF.out, C3.out.mono fun _ _ _ => trivial⟩, below_both BD.out hSc⟩
                    · skip
                      go_simp
                      have rz := Row.new y30 27 #[.int .u8 0, .slice none 0 0, .slice none 0 0, .slice none 0 0]
                      have bq := bx y30 (.cells #[.int .u8 0, .slice none 0 0, .slice none 0 0, .slice none 0 0] 27)
                      have hz : y30.heap.size < (y30.alloc (.cells #[.int .u8 0, .slice none 0 0, .slice none 0 0, .slice none 0 0] 27)).heap.size := rz.lt
                      generalize y30.alloc (.cells #[.int .u8 0, .slice none 0 0, .slice none 0 0, .slice none 0 0] 27) = y40 at *
                      have C1 := Lib.hid (C1.out.made bq)
                      have RE := Lib.hid (RE.out.below bq RE.out.lt)
                      have NL := Lib.hid (NL.out.new hSc.size hz)
                      have hS2 : Below U0.heap.size U0 y40 := hSc.trans (bq.mono hSc.size)
                      clear hSc
                      have hSc := hS2
                      clear hS2
                      have RF := Lib.hid rz
                      clear rz bq hz
                      refine ⟨fun W => Below U0.heap.size U0 W, fun W hW => hW, hSc, ?_⟩
                      try simp only [Act.put, List.setIfInBounds_toArray, List.set_cons_zero, List.set_cons_succ]
                      refine held_next 6 rfl (by kernel_rfl) (by rfl) ?_
                      go_simp
                      refine (flip_c _ (flp p x M) _ M y _ (TT.out.step hSc) NL.out.all C1.out).mono ?_
                      rw [FJ.out, EQ2.out]
                      rintro e y41 ⟨v', rfl, g, bq⟩
                      obtain ⟨κg, Ag, ng, cg, Bg, mg, dg, Dg, qg, eg, rfl⟩ := g.form
                      have C1 := Lib.hid (C1.out.step bq)
                      have RE := Lib.hid (RE.out.below bq RE.out.lt)
                      have RF := Lib.hid (RF.out.below bq RF.out.lt)
                      have NL := Lib.hid (NL.out.le bq.size)
                      have hS2 : Below U0.heap.size U0 y41 := hSc.trans (bq.mono hSc.size)
                      clear hSc
                      have hSc := hS2
                      clear hS2
                      have C2 := Lib.hid g
                      clear g bq
                      refine ⟨fun W => Below U0.heap.size U0 W, fun W hW => hW, hSc, ?_⟩
                      try simp only [Act.put, List.setIfInBounds_toArray, List.set_cons_zero, List.set_cons_succ]
                      refine held_next 10 rfl (by kernel_rfl) (by rfl) ?_
                      go_simp
                      refine (flip_c _ p q x y _ (TT.out.step hSc) NL.out.all (CD.out.old hSc NL.out)).mono ?_
                      rw [EP.out, EQ2.out]
                      rintro e y42 ⟨v', rfl, g, bq⟩
                      obtain ⟨κh, Ah, nh, ch, Bh, mh, dh, Dh, qh, eh, rfl⟩ := g.form
                      have C1 := Lib.hid (C1.out.step bq)
                      have C2 := Lib.hid (C2.out.step bq)
                      have RE := Lib.hid (RE.out.below bq RE.out.lt)
                      have RF := Lib.hid (RF.out.below bq RF.out.lt)
                      have NL := Lib.hid (NL.out.le bq.size)
                      have hS2 : Below U0.heap.size U0 y42 := hSc.trans (bq.mono hSc.size)
                      clear hSc
                      have hSc := hS2
                      clear hS2
                      have C3 := Lib.hid g
                      clear g bq
                      refine ⟨fun W => Below U0.heap.size U0 W, fun W hW => hW, hSc, ?_⟩
                      try simp only [Act.put, List.setIfInBounds_toArray, List.set_cons_zero, List.set_cons_succ]
                      have d0 : y42.cell? ⟨y1.heap.size, 0, none⟩ = some (.int .u8 0) := RE.out.cell 0
                      have f0 := RE.out.frozen 0
                      have d1 : y42.cell? ⟨y1.heap.size, 1, none⟩ = some (.slice none 0 0) := RE.out.cell 1
                      have f1 := RE.out.frozen 1
                      have d2 : y42.cell? ⟨y1.heap.size, 2, none⟩ = some (.slice none 0 0) := RE.out.cell 2
                      have f2 := RE.out.frozen 2
                      have d3 : y42.cell? ⟨y1.heap.size, 3, none⟩ = some (.slice none 0 0) := RE.out.cell 3
                      have f3 := RE.out.frozen 3
                      refine held_next 13 rfl (by kernel_rfl) (by rfl) ?_
                      go_simp
                      have S4 := set4 (a' := .int .u8 κg) (b' := .slice Ag ng cg) (c' := .slice Bg mg dg) (d' := .slice Dg qg eg) RE.out
                      generalize (((y42.setCell ⟨y1.heap.size, 0, none⟩ (.int .u8 κg)).setCell ⟨y1.heap.size, 1, none⟩ (.slice Ag ng cg)).setCell ⟨y1.heap.size, 2, none⟩ (.slice Bg mg dg)).setCell ⟨y1.heap.size, 3, none⟩ (.slice Dg qg eg) = y43 at *
                      obtain ⟨s4, s5⟩ := S4
                      have C1 := Lib.hid (C1.out.put s5 (by simp))
                      have C2 := Lib.hid (C2.out.put s5 (by simp))
                      have C3 := Lib.hid (C3.out.put s5 (by simp))
                      have RF := Lib.hid (RF.out.grown s5 (by intro e; injection e with e; have := NL.out.2; simp at this; omega))
                      have hS2 : Below U0.heap.size U0 y43 := hSc.grown s5 hSc.size (fun j e => by injection e with e; subst e; exact (NL.out.1 _ (by simp)).1)
                      have NL := Lib.hid (NL.out.le s5.size)
                      have RE := Lib.hid s4
                      clear hSc d0 d1 d2 d3 f0 f1 f2 f3 s4 s5
                      have hSc := hS2
                      clear hS2
                      refine ⟨fun W => Below U0.heap.size U0 W, fun W hW => hW, hSc, ?_⟩
                      try simp only [Act.put, List.setIfInBounds_toArray, List.set_cons_zero, List.set_cons_succ]
                      have d0 : y43.cell? ⟨y30.heap.size, 0, none⟩ = some (.int .u8 0) := RF.out.cell 0
                      have f0 := RF.out.frozen 0
                      have d1 : y43.cell? ⟨y30.heap.size, 1, none⟩ = some (.slice none 0 0) := RF.out.cell 1
                      have f1 := RF.out.frozen 1
                      have d2 : y43.cell? ⟨y30.heap.size, 2, none⟩ = some (.slice none 0 0) := RF.out.cell 2
                      have f2 := RF.out.frozen 2
                      have d3 : y43.cell? ⟨y30.heap.size, 3, none⟩ = some (.slice none 0 0) := RF.out.cell 3
                      have f3 := RF.out.frozen 3
                      refine held_next 14 rfl (by kernel_rfl) (by rfl) ?_
                      go_simp
                      have S4 := set4 (a' := .int .u8 κh) (b' := .slice Ah nh ch) (c' := .slice Bh mh dh) (d' := .slice Dh qh eh) RF.out
                      generalize (((y43.setCell ⟨y30.heap.size, 0, none⟩ (.int .u8 κh)).setCell ⟨y30.heap.size, 1, none⟩ (.slice Ah nh ch)).setCell ⟨y30.heap.size, 2, none⟩ (.slice Bh mh dh)).setCell ⟨y30.heap.size, 3, none⟩ (.slice Dh qh eh) = y44 at *
                      obtain ⟨s4, s5⟩ := S4
                      have C1 := Lib.hid (C1.out.put s5 (by simp))
                      have C2 := Lib.hid (C2.out.put s5 (by simp))
                      have C3 := Lib.hid (C3.out.put s5 (by simp))
                      have RE := Lib.hid (RE.out.grown s5 (by intro e; injection e with e; have := NL.out.2; simp at this; omega))
                      have hS2 : Below U0.heap.size U0 y44 := hSc.grown s5 hSc.size (fun j e => by injection e with e; subst e; exact (NL.out.1 _ (by simp)).1)
                      have NL := Lib.hid (NL.out.le s5.size)
                      have RF := Lib.hid s4
                      clear hSc d0 d1 d2 d3 f0 f1 f2 f3 s4 s5
                      have hSc := hS2
                      clear hS2
                      refine ⟨fun W => Below U0.heap.size U0 W, fun W hW => hW, hSc, ?_⟩
                      try simp only [Act.put, List.setIfInBounds_toArray, List.set_cons_zero, List.set_cons_succ]
                      refine wpAnyH_done (by kernel_rfl) ?_ _
                      go_wp2_with fail
                      go_meet
                      case rel => exact ⟨_, _, rfl, rfl, ⟨_, _, _, _, _, _, _, _, _, _, RE.out, C2.out.mono fun _ _ _ => trivial⟩, ⟨_, _, _, _, _, _, _, _, _, _, RF.out, C3.out.mono fun _ _ _ => trivial⟩, below_both BD.out hSc⟩
                  · skip
                    go_simp
                    have rz := Row.new y1 27 #[.int .u8 0, .slice none 0 0, .slice none 0 0, .slice none 0 0]
                    have bq := bx y1 (.cells #[.int .u8 0, .slice none 0 0, .slice none 0 0, .slice none 0 0] 27)
                    have hz : y1.heap.size < (y1.alloc (.cells #[.int .u8 0, .slice none 0 0, .slice none 0 0, .slice none 0 0] 27)).heap.size := rz.lt
                    generalize y1.alloc (.cells #[.int .u8 0, .slice none 0 0, .slice none 0 0, .slice none 0 0] 27) = y45 at *
                    have C1 := Lib.hid (C1.out.made bq)
                    have NL := Lib.hid (NL.out.new hSc.size hz)
                    have hS2 : Below U0.heap.size U0 y45 := hSc.trans (bq.mono hSc.size)
                    clear hSc
                    have hSc := hS2
                    clear hS2
                    have RF := Lib.hid rz
                    clear rz bq hz
                    refine ⟨fun W => Below U0.heap.size U0 W, fun W hW => hW, hSc, ?_⟩
                    try simp only [Act.put, List.setIfInBounds_toArray, List.set_cons_zero, List.set_cons_succ]
                    refine held_two 6 11 rfl rfl (by kernel_rfl) (by rfl) (by rfl) ?_ ?_
                    · skip
                      go_simp
                      refine (flip_c _ (flp p x M) _ M y _ (TT.out.step hSc) NL.out.all C1.out).mono ?_
                      rw [FJ.out, EQ2.out]
                      rintro e y46 ⟨v', rfl, g, bq⟩
                      obtain ⟨κg, Ag, ng, cg, Bg, mg, dg, Dg, qg, eg, rfl⟩ := g.form
                      have C1 := Lib.hid (C1.out.step bq)
                      have RF := Lib.hid (RF.out.below bq RF.out.lt)
                      have NL := Lib.hid (NL.out.le bq.size)
                      have hS2 : Below U0.heap.size U0 y46 := hSc.trans (bq.mono hSc.size)
                      clear hSc
                      have hSc := hS2
                      clear hS2
                      have C2 := Lib.hid g
                      clear g bq
                      refine ⟨fun W => Below U0.heap.size U0 W, fun W hW => hW, hSc, ?_⟩
                      try simp only [Act.put, List.setIfInBounds_toArray, List.set_cons_zero, List.set_cons_succ]
                      refine held_two 10 11 rfl rfl (by kernel_rfl) (by rfl) (by rfl) ?_ ?_
                      · skip
                        go_simp
                        refine (flip_c _ p q x y _ (TT.out.step hSc) NL.out.all (CD.out.old hSc NL.out)).mono ?_
                        rw [EP.out, EQ2.out]
                        rintro e y47 ⟨v', rfl, g, bq⟩
                        obtain ⟨κh, Ah, nh, ch, Bh, mh, dh, Dh, qh, eh, rfl⟩ := g.form
                        have C1 := Lib.hid (C1.out.step bq)
                        have C2 := Lib.hid (C2.out.step bq)
                        have RF := Lib.hid (RF.out.below bq RF.out.lt)
                        have NL := Lib.hid (NL.out.le bq.size)
                        have hS2 : Below U0.heap.size U0 y47 := hSc.trans (bq.mono hSc.size)
                        clear hSc
                        have hSc := hS2
                        clear hS2
                        have C3 := Lib.hid g
                        clear g bq
                        refine ⟨fun W => Below U0.heap.size U0 W, fun W hW => hW, hSc, ?_⟩
                        try simp only [Act.put, List.setIfInBounds_toArray, List.set_cons_zero, List.set_cons_succ]
                        refine held_next 11 rfl (by kernel_rfl) (by rfl) ?_
                        go_simp
                        have rz := Row.new y47 27 #[.int .u8 0, .slice none 0 0, .slice none 0 0, .slice none 0 0]
                        have bq := bx y47 (.cells #[.int .u8 0, .slice none 0 0, .slice none 0 0, .slice none 0 0] 27)
                        have hz : y47.heap.size < (y47.alloc (.cells #[.int .u8 0, .slice none 0 0, .slice none 0 0, .slice none 0 0] 27)).heap.size := rz.lt
                        generalize y47.alloc (.cells #[.int .u8 0, .slice none 0 0, .slice none 0 0, .slice none 0 0] 27) = y48 at *
                        have C1 := Lib.hid (C1.out.made bq)
                        have C2 := Lib.hid (C2.out.made bq)
                        have C3 := Lib.hid (C3.out.made bq)
                        have RF := Lib.hid (RF.out.below bq RF.out.lt)
                        have NL := Lib.hid (NL.out.new hSc.size hz)
                        have hS2 : Below U0.heap.size U0 y48 := hSc.trans (bq.mono hSc.size)
                        clear hSc
                        have hSc := hS2
                        clear hS2
                        have RE := Lib.hid rz
                        clear rz bq hz
                        refine ⟨fun W => Below U0.heap.size U0 W, fun W hW => hW, hSc, ?_⟩
                        try simp only [Act.put, List.setIfInBounds_toArray, List.set_cons_zero, List.set_cons_succ]
                        have d0 : y48.cell? ⟨y47.heap.size, 0, none⟩ = some (.int .u8 0) := RE.out.cell 0
                        have f0 := RE.out.frozen 0
                        have d1 : y48.cell? ⟨y47.heap.size, 1, none⟩ = some (.slice none 0 0) := RE.out.cell 1
                        have f1 := RE.out.frozen 1
                        have d2 : y48.cell? ⟨y47.heap.size, 2, none⟩ = some (.slice none 0 0) := RE.out.cell 2
                        have f2 := RE.out.frozen 2
                        have d3 : y48.cell? ⟨y47.heap.size, 3, none⟩ = some (.slice none 0 0) := RE.out.cell 3
                        have f3 := RE.out.frozen 3
                        refine held_next 13 rfl (by kernel_rfl) (by rfl) ?_
                        go_simp
                        have S4 := set4 (a' := .int .u8 κg) (b' := .slice Ag ng cg) (c' := .slice Bg mg dg) (d' := .slice Dg qg eg) RE.out
                        generalize (((y48.setCell ⟨y47.heap.size, 0, none⟩ (.int .u8 κg)).setCell ⟨y47.heap.size, 1, none⟩ (.slice Ag ng cg)).setCell ⟨y47.heap.size, 2, none⟩ (.slice Bg mg dg)).setCell ⟨y47.heap.size, 3, none⟩ (.slice Dg qg eg) = y49 at *
                        obtain ⟨s4, s5⟩ := S4
                        have C1 := Lib.hid (C1.out.put s5 (by simp))
                        have C2 := Lib.hid (C2.out.put s5 (by simp))
                        have C3 := Lib.hid (C3.out.put s5 (by simp))
                        have RF := Lib.hid (RF.out.grown s5 (by intro e; injection e with e; have := NL.out.2; simp at this; omega))
                        have hS2 : Below U0.heap.size U0 y49 := hSc.grown s5 hSc.size (fun j e => by injection e with e; subst e; exact (NL.out.1 _ (by simp)).1)
                        have NL := Lib.hid (NL.out.le s5.size)
                        have RE := Lib.hid s4
                        clear hSc d0 d1 d2 d3 f0 f1 f2 f3 s4 s5
                        have hSc := hS2
                        clear hS2
                        refine ⟨fun W => Below U0.heap.size U0 W, fun W hW => hW, hSc, ?_⟩
                        try simp only [Act.put, List.setIfInBounds_toArray, List.set_cons_zero, List.set_cons_succ]
                        have d0 : y49.cell? ⟨y1.heap.size, 0, none⟩ = some (.int .u8 0) := RF.out.cell 0
                        have f0 := RF.out.frozen 0
                        have d1 : y49.cell? ⟨y1.heap.size, 1, none⟩ = some (.slice none 0 0) := RF.out.cell 1
                        have f1 := RF.out.frozen 1
                        have d2 : y49.cell? ⟨y1.heap.size, 2, none⟩ = some (.slice none 0 0) := RF.out.cell 2
                        have f2 := RF.out.frozen 2
                        have d3 : y49.cell? ⟨y1.heap.size, 3, none⟩ = some (.slice none 0 0) := RF.out.cell 3
                        have f3 := RF.out.frozen 3
                        refine held_next 14 rfl (by kernel_rfl) (by rfl) ?_
                        go_simp
                        have S4 := set4 (a' := .int .u8 κh) (b' := .slice Ah nh ch) (c' := .slice Bh mh dh) (d' := .slice Dh qh eh) RF.out
                        generalize (((y49.setCell ⟨y1.heap.size, 0, none⟩ (.int .u8 κh)).setCell ⟨y1.heap.size, 1, none⟩ (.slice Ah nh ch)).setCell ⟨y1.heap.size, 2, none⟩ (.slice Bh mh dh)).setCell ⟨y1.heap.size, 3, none⟩ (.slice Dh qh eh) = y50 at *
                        obtain ⟨s4, s5⟩ := S4
                        have C1 := Lib.hid (C1.out.put s5 (by simp))
                        have C2 := Lib.hid (C2.out.put s5 (by simp))
                        have C3 := Lib.hid (C3.out.put s5 (by simp))
                        have RE := Lib.hid (RE.out.grown s5 (by intro e; injection e with e; have := NL.out.2; simp at this; omega))
                        have hS2 : Below U0.heap.size U0 y50 := hSc.grown s5 hSc.size (fun j e => by injection e with e; subst e; exact (NL.out.1 _ (by simp)).1)
                        have NL := Lib.hid (NL.out.le s5.size)
                        have RF := Lib.hid s4
                        clear hSc d0 d1 d2 d3 f0 f1 f2 f3 s4 s5
                        have hSc := hS2
                        clear hS2
                        refine ⟨fun W => Below U0.heap.size U0 W, fun W hW => hW, hSc, ?_⟩
                        try simp only [Act.put, List.setIfInBounds_toArray, List.set_cons_zero, List.set_cons_succ]
                        refine wpAnyH_done (by kernel_rfl) ?_ _
                        go_wp2_with fail
                        go_meet
                        case rel => exact ⟨_, _, rfl, rfl, ⟨_, _, _, _, _, _, _, _, _, _, RE.out, C2.out.mono fun _ _ _ => trivial⟩, ⟨_, _, _, _, _, _, _, _, _, _, RF.out, C3.out.mono fun _ _ _ => trivial⟩, below_both BD.out hSc⟩
                      · skip
                        go_simp
                        have rz := Row.new y46 27 #[.int .u8 0, .slice none 0 0, .slice none 0 0, .slice none 0 0]
                        have bq := bx y46 (.cells #[.int .u8 0, .slice none 0 0, .slice none 0 0, .slice none 0 0] 27)
                        have hz : y46.heap.size < (y46.alloc (.cells #[.int .u8 0, .slice none 0 0, .slice none 0 0, .slice none 0 0] 27)).heap.size := rz.lt
                        generalize y46.alloc (.cells #[.int .u8 0, .slice none 0 0, .slice none 0 0, .slice none 0 0] 27) = y51 at *
                        have C1 := Lib.hid (C1.out.made bq)
                        have C2 := Lib.hid (C2.out.made bq)
                        have RF := Lib.hid (RF.out.below bq RF.out.lt)
                        have NL := Lib.hid (NL.out.new hSc.size hz)
                        have hS2 : Below U0.heap.size U0 y51 := hSc.trans (bq.mono hSc.size)
                        clear hSc
                        have hSc := hS2
                        clear hS2
                        have RE := Lib.hid rz
                        clear rz bq hz
                        refine ⟨fun W => Below U0.heap.size U0 W, fun W hW => hW, hSc, ?_⟩
                        try simp only [Act.put, List.setIfInBounds_toArray, List.set_cons_zero, List.set_cons_succ]
                        refine held_next 10 rfl (by kernel_rfl) (by rfl) ?_
                        go_simp
                        refine (flip_c _ p q x y _ (TT.out.step hSc) NL.out.all (CD.out.old hSc NL.out)).mono ?_
                        rw [EP.out, EQ2.out]
                        rintro e y52 ⟨v', rfl, g, bq⟩
                        obtain ⟨κh, Ah, nh, ch, Bh, mh, dh, Dh, qh, eh, rfl⟩ := g.form
                        have C1 := Lib.hid (C1.out.step bq)
                        have C2 := Lib.hid (C2.out.step bq)
                        have RF := Lib.hid (RF.out.below bq RF.out.lt)
                        have RE := Lib.hid (RE.out.below bq RE.out.lt)
                        have NL := Lib.hid (NL.out.le bq.size)
                        have hS2 : Below U0.heap.size U0 y52 := hSc.trans (bq.mono hSc.size)
                        clear hSc
                        have hSc := hS2
                        clear hS2
                        have C3 := Lib.hid g
                        clear g bq
                        refine ⟨fun W => Below U0.heap.size U0 W, fun W hW => hW, hSc, ?_⟩
                        try simp only [Act.put, List.setIfInBounds_toArray, List.set_cons_zero, List.set_cons_succ]
                        have d0 : y52.cell? ⟨y46.heap.size, 0, none⟩ = some (.int .u8 0) := RE.out.cell 0
                        have f0 := RE.out.frozen 0
                        have d1 : y52.cell? ⟨y46.heap.size, 1, none⟩ = some (.slice none 0 0) := RE.out.cell 1
                        have f1 := RE.out.frozen 1
                        have d2 : y52.cell? ⟨y46.heap.size, 2, none⟩ = some (.slice none 0 0) := RE.out.cell 2
                        have f2 := RE.out.frozen 2
                        have d3 : y52.cell? ⟨y46.heap.size, 3, none⟩ = some (.slice none 0 0) := RE.out.cell 3
                        have f3 := RE.out.frozen 3
                        refine held_next 13 rfl (by kernel_rfl) (by rfl) ?_
                        go_simp
                        have S4 := set4 (a' := .int .u8 κg) (b' := .slice Ag ng cg) (c' := .slice Bg mg dg) (d' := .slice Dg qg eg) RE.out
                        generalize (((y52.setCell ⟨y46.heap.size, 0, none⟩ (.int .u8 κg)).setCell ⟨y46.heap.size, 1, none⟩ (.slice Ag ng cg)).setCell ⟨y46.heap.size, 2, none⟩ (.slice Bg mg dg)).setCell ⟨y46.heap.size, 3, none⟩ (.slice Dg qg eg) = y53 at *
                        obtain ⟨s4, s5⟩ := S4
                        have C1 := Lib.hid (C1.out.put s5 (by simp))
                        have C2 := Lib.hid (C2.out.put s5 (by simp))
                        have C3 := Lib.hid (C3.out.put s5 (by simp))
                        have RF := Lib.hid (RF.out.grown s5 (by intro e; injection e with e; have := NL.out.2; simp at this; omega))
                        have hS2 : Below U0.heap.size U0 y53 := hSc.grown s5 hSc.size (fun j e => by injection e with e; subst e; exact (NL.out.1 _ (by simp)).1)
                        have NL := Lib.hid (NL.out.le s5.size)
                        have RE := Lib.hid s4
                        clear hSc d0 d1 d2 d3 f0 f1 f2 f3 s4 s5
                        have hSc := hS2
                        clear hS2
                        refine ⟨fun W => Below U0.heap.size U0 W, fun W hW => hW, hSc, ?_⟩
                        try simp only [Act.put, List.setIfInBounds_toArray, List.set_cons_zero, List.set_cons_succ]
                        have d0 : y53.cell? ⟨y1.heap.size, 0, none⟩ = some (.int .u8 0) := RF.out.cell 0
                        have f0 := RF.out.frozen 0
                        have d1 : y53.cell? ⟨y1.heap.size, 1, none⟩ = some (.slice none 0 0) := RF.out.cell 1
                        have f1 := RF.out.frozen 1
                        have d2 : y53.cell? ⟨y1.heap.size, 2, none⟩ = some (.slice none 0 0) := RF.out.cell 2
                        have f2 := RF.out.frozen 2
                        have d3 : y53.cell? ⟨y1.heap.size, 3, none⟩ = some (.slice none 0 0) := RF.out.cell 3
                        have f3 := RF.out.frozen 3
                        refine held_next 14 rfl (by kernel_rfl) (by rfl) ?_
                        go_simp
                        have S4 := set4 (a' := .int .u8 κh) (b' := .slice Ah nh ch) (c' := .slice Bh mh dh) (d' := .slice Dh qh eh) RF.out
                        generalize (((y53.setCell ⟨y1.heap.size, 0, none⟩ (.int .u8 κh)).setCell ⟨y1.heap.size, 1, none⟩ (.slice Ah nh ch)).setCell ⟨y1.heap.size, 2, none⟩ (.slice Bh mh dh)).setCell ⟨y1.heap.size, 3, none⟩ (.slice Dh qh eh) = y54 at *
                        obtain ⟨s4, s5⟩ := S4
                        have C1 := Lib.hid (C1.out.put s5 (by simp))
                        have C2 := Lib.hid (C2.out.put s5 (by simp))
                        have C3 := Lib.hid (C3.out.put s5 (by simp))
                        have RE := Lib.hid (RE.out.grown s5 (by intro e; injection e with e; have := NL.out.2; simp at this; omega))
                        have hS2 : Below U0.heap.size U0 y54 := hSc.grown s5 hSc.size (fun j e => by injection e with e; subst e; exact (NL.out.1 _ (by simp)).1)
                        have NL := Lib.hid (NL.out.le s5.size)
                        have RF := Lib.hid s4
                        clear hSc d0 d1 d2 d3 f0 f1 f2 f3 s4 s5
                        have hSc := hS2
                        clear hS2
                        refine ⟨fun W => Below U0.heap.size U0 W, fun W hW => hW, hSc, ?_⟩
                        try simp only [Act.put, List.setIfInBounds_toArray, List.set_cons_zero, List.set_cons_succ]
                        refine wpAnyH_done (by kernel_rfl) ?_ _
                        go_wp2_with fail
                        go_meet
                        case rel => exact ⟨_, _, rfl, rfl, ⟨_, _, _, _, _, _, _, _, _, _, RE.out, C2.out.mono fun _ _ _ => trivial⟩, ⟨_, _, _, _, _, _, _, _, _, _, RF.out, C3.out.mono fun _ _ _ => trivial⟩, below_both BD.out hSc⟩
                    · skip
                      go_simp
                      have rz := Row.new y45 27 #[.int .u8 0, .slice none 0 0, .slice none 0 0, .slice none 0 0]
                      have bq := bx y45 (.cells #[.int .u8 0, .slice none 0 0, .slice none 0 0, .slice none 0 0] 27)
                      have hz : y45.heap.size < (y45.alloc (.cells #[.int .u8 0, .slice none 0 0, .slice none 0 0, .slice none 0 0] 27)).heap.size := rz.lt
                      generalize y45.alloc (.cells #[.int .u8 0, .slice none 0 0, .slice none 0 0, .slice none 0 0] 27) = y55 at *
                      have C1 := Lib.hid (C1.out.made bq)
                      have RF := Lib.hid (RF.out.below bq RF.out.lt)
                      have NL := Lib.hid (NL.out.new hSc.size hz)
                      have hS2 : Below U0.heap.size U0 y55 := hSc.trans (bq.mono hSc.size)
                      clear hSc
                      have hSc := hS2
                      clear hS2
                      have RE := Lib.hid rz
                      clear rz bq hz
                      refine ⟨fun W => Below U0.heap.size U0 W, fun W hW => hW, hSc, ?_⟩
                      try simp only [Act.put, List.setIfInBounds_toArray, List.set_cons_zero, List.set_cons_succ]
                      refine held_next 6 rfl (by kernel_rfl) (by rfl) ?_
                      go_simp
                      refine (flip_c _ (flp p x M) _ M y _ (TT.out.step hSc) NL.out.all C1.out).mono ?_
                      rw [FJ.out, EQ2.out]
                      rintro e y56 ⟨v', rfl, g, bq⟩
                      obtain ⟨κg, Ag, ng, cg, Bg, mg, dg, Dg, qg, eg, rfl⟩ := g.form
                      have C1 := Lib.hid (C1.out.step bq)
                      have RF := Lib.hid (RF.out.below bq RF.out.lt)
                      have RE := Lib.hid (RE.out.below bq RE.out.lt)
                      have NL := Lib.hid (NL.out.le bq.size)
                      have hS2 : Below U0.heap.size U0 y56 := hSc.trans (bq.mono hSc.size)
                      clear hSc
                      have hSc := hS2
                      clear hS2
                      have C2 := Lib.hid g
                      clear g bq
                      refine ⟨fun W => Below U0.heap.size U0 W, fun W hW => hW, hSc, ?_⟩
                      try simp only [Act.put, List.setIfInBounds_toArray, List.set_cons_zero, List.set_cons_succ]
                      refine held_next 10 rfl (by kernel_rfl) (by rfl) ?_
                      go_simp
                      refine (flip_c _ p q x y _ (TT.out.step hSc) NL.out.all (CD.out.old hSc NL.out)).mono ?_
                      rw [EP.out, EQ2.out]
                      rintro e y57 ⟨v', rfl, g, bq⟩
                      obtain ⟨κh, Ah, nh, ch, Bh, mh, dh, Dh, qh, eh, rfl⟩ := g.form
                      have C1 := Lib.hid (C1.out.step bq)
                      have C2 := Lib.hid (C2.out.step bq)
                      have RF := Lib.hid (RF.out.below bq RF.out.lt)
                      have RE := Lib.hid (RE.out.below bq RE.out.lt)
                      have NL := Lib.hid (NL.out.le bq.size)
                      have hS2 : Below U0.heap.size U0 y57 := hSc.trans (bq.mono hSc.size)
                      clear hSc
                      have hSc := hS2
                      clear hS2
                      have C3 := Lib.hid g
                      clear g bq
                      refine ⟨fun W => Below U0.heap.size U0 W, fun W hW => hW, hSc, ?_⟩
                      try simp only [Act.put, List.setIfInBounds_toArray, List.set_cons_zero, List.set_cons_succ]
                      have d0 : y57.cell? ⟨y45.heap.size, 0, none⟩ = some (.int .u8 0) := RE.out.cell 0
                      have f0 := RE.out.frozen 0
                      have d1 : y57.cell? ⟨y45.heap.size, 1, none⟩ = some (.slice none 0 0) := RE.out.cell 1
                      have f1 := RE.out.frozen 1
                      have d2 : y57.cell? ⟨y45.heap.size, 2, none⟩ = some (.slice none 0 0) := RE.out.cell 2
                      have f2 := RE.out.frozen 2
                      have d3 : y57.cell? ⟨y45.heap.size, 3, none⟩ = some (.slice none 0 0) := RE.out.cell 3
                      have f3 := RE.out.frozen 3
                      refine held_next 13 rfl (by kernel_rfl) (by rfl) ?_
                      go_simp
                      have S4 := set4 (a' := .int .u8 κg) (b' := .slice Ag ng cg) (c' := .slice Bg mg dg) (d' := .slice Dg qg eg) RE.out
                      generalize (((y57.setCell ⟨y45.heap.size, 0, none⟩ (.int .u8 κg)).setCell ⟨y45.heap.size, 1, none⟩ (.slice Ag ng cg)).setCell ⟨y45.heap.size, 2, none⟩ (.slice Bg mg dg)).setCell ⟨y45.heap.size, 3, none⟩ (.slice Dg qg eg) = y58 at *
                      obtain ⟨s4, s5⟩ := S4
                      have C1 := Lib.hid (C1.out.put s5 (by simp))
                      have C2 := Lib.hid (C2.out.put s5 (by simp))
                      have C3 := Lib.hid (C3.out.put s5 (by simp))
                      have RF := Lib.hid (RF.out.grown s5 (by intro e; injection e with e; have := NL.out.2; simp at this; omega))
                      have hS2 : Below U0.heap.size U0 y58 := hSc.grown s5 hSc.size (fun j e => by injection e with e; subst e; exact (NL.out.1 _ (by simp)).1)
                      have NL := Lib.hid (NL.out.le s5.size)
                      have RE := Lib.hid s4
                      clear hSc d0 d1 d2 d3 f0 f1 f2 f3 s4 s5
                      have hSc := hS2
                      clear hS2
                      refine ⟨fun W => Below U0.heap.size U0 W, fun W hW => hW, hSc, ?_⟩
                      try simp only [Act.put, List.setIfInBounds_toArray, List.set_cons_zero, List.set_cons_succ]
                      have d0 : y58.cell? ⟨y1.heap.size, 0, none⟩ = some (.int .u8 0) := RF.out.cell 0
                      have f0 := RF.out.frozen 0
                      have d1 : y58.cell? ⟨y1.heap.size, 1, none⟩ = some (.slice none 0 0) := RF.out.cell 1
                      have f1 := RF.out.frozen 1
                      have d2 : y58.cell? ⟨y1.heap.size, 2, none⟩ = some (.slice none 0 0) := RF.out.cell 2
                      have f2 := RF.out.frozen 2
                      have d3 : y58.cell? ⟨y1.heap.size, 3, none⟩ = some (.slice none 0 0) := RF.out.cell 3
                      have f3 := RF.out.frozen 3
                      refine held_next 14 rfl (by kernel_rfl) (by rfl) ?_
                      go_simp
                      have S4 := set4 (a' := .int .u8 κh) (b' := .slice Ah nh ch) (c' := .slice Bh mh dh) (d' := .slice Dh qh eh) RF.out
                      generalize (((y58.setCell ⟨y1.heap.size, 0, none⟩ (.int .u8 κh)).setCell ⟨y1.heap.size, 1, none⟩ (.slice Ah nh ch)).setCell ⟨y1.heap.size, 2, none⟩ (.slice Bh mh dh)).setCell ⟨y1.heap.size, 3, none⟩ (.slice Dh qh eh) = y59 at *
                      obtain ⟨s4, s5⟩ := S4
                      have C1 := Lib.hid (C1.out.put s5 (by simp))
                      have C2 := Lib.hid (C2.out.put s5 (by simp))
                      have C3 := Lib.hid (C3.out.put s5 (by simp))
                      have RE := Lib.hid (RE.out.grown s5 (by intro e; injection e with e; have := NL.out.2; simp at this; omega))
                      have hS2 : Below U0.heap.size U0 y59 := hSc.grown s5 hSc.size (fun j e => by injection e with e; subst e; exact (NL.out.1 _ (by simp)).1)
                      have NL := Lib.hid (NL.out.le s5.size)
                      have RF := Lib.hid s4
                      clear hSc d0 d1 d2 d3 f0 f1 f2 f3 s4 s5
                      have hSc := hS2
                      clear hS2
                      refine ⟨fun W => Below U0.heap.size U0 W, fun W hW => hW, hSc, ?_⟩
                      try simp only [Act.put, List.setIfInBounds_toArray, List.set_cons_zero, List.set_cons_succ]
                      refine wpAnyH_done (by kernel_rfl) ?_ _
                      go_wp2_with fail
                      go_meet
                      case rel => exact ⟨_, _, rfl, rfl, ⟨_, _, _, _, _, _, _, _, _, _, RE.out, C2.out.mono fun _ _ _ => trivial⟩, ⟨_, _, _, _, _, _, _, _, _, _, RF.out, C3.out.mono fun _ _ _ => trivial⟩, below_both BD.out hSc⟩
                · skip
                  go_simp
                  have rz := Row.new U0 27 #[.int .u8 0, .slice none 0 0, .slice none 0 0, .slice none 0 0]
                  have bq := bx U0 (.cells #[.int .u8 0, .slice none 0 0, .slice none 0 0, .slice none 0 0] 27)
                  have hz : U0.heap.size < (U0.alloc (.cells #[.int .u8 0, .slice none 0 0, .slice none 0 0, .slice none 0 0] 27)).heap.size := rz.lt
                  generalize U0.alloc (.cells #[.int .u8 0, .slice none 0 0, .slice none 0 0, .slice none 0 0] 27) = y60 at *
                  have NL := Lib.hid (NL.out.new hSc.size hz)
                  have hS2 : Below U0.heap.size U0 y60 := hSc.trans (bq.mono hSc.size)
                  clear hSc
                  have hSc := hS2
                  clear hS2
                  have RE := Lib.hid rz
                  clear rz bq hz
                  refine ⟨fun W => Below U0.heap.size U0 W, fun W hW => hW, hSc, ?_⟩
                  try simp only [Act.put, List.setIfInBounds_toArray, List.set_cons_zero, List.set_cons_succ]
                  refine held_two 3 12 rfl rfl (by kernel_rfl) (by rfl) (by rfl) ?_ ?_
                  · skip
                    go_simp
                    refine (flip_c _ p q x M _ (TT.out.step hSc) NL.out.all (CC.out.old hSc NL.out)).mono ?_
                    rintro e y61 ⟨v', rfl, g, bq⟩
                    obtain ⟨κf, Af, nf, cf, Bf, mf, df, Df, qf, ef, rfl⟩ := g.form
                    have RE := Lib.hid (RE.out.below bq RE.out.lt)
                    have NL := Lib.hid (NL.out.le bq.size)
                    have hS2 : Below U0.heap.size U0 y61 := hSc.trans (bq.mono hSc.size)
                    clear hSc
                    have hSc := hS2
                    clear hS2
                    have C1 := Lib.hid g
                    clear g bq
                    refine ⟨fun W => Below U0.heap.size U0 W, fun W hW => hW, hSc, ?_⟩
                    try simp only [Act.put, List.setIfInBounds_toArray, List.set_cons_zero, List.set_cons_succ]
                    refine held_two 6 12 rfl rfl (by kernel_rfl) (by rfl) (by rfl) ?_ ?_
                    · skip
                      go_simp
                      refine (flip_c _ (flp p x M) _ M y _ (TT.out.step hSc) NL.out.all C1.out).mono ?_
                      rw [FJ.out, EQ2.out]
                      rintro e y62 ⟨v', rfl, g, bq⟩
                      obtain ⟨κg, Ag, ng, cg, Bg, mg, dg, Dg, qg, eg, rfl⟩ := g.form
                      have C1 := Lib.hid (C1.out.step bq)
                      have RE := Lib.hid (RE.out.below bq RE.out.lt)
                      have NL := Lib.hid (NL.out.le bq.size)
                      have hS2 : Below U0.heap.size U0 y62 := hSc.trans (bq.mono hSc.size)
                      clear hSc
                      have hSc := hS2
                      clear hS2
                      have C2 := Lib.hid g
                      clear g bq
                      refine ⟨fun W => Below U0.heap.size U0 W, fun W hW => hW, hSc, ?_⟩
                      try simp only [Act.put, List.setIfInBounds_toArray, List.set_cons_zero, List.set_cons_succ]
                      refine held_two 10 12 rfl rfl (by kernel_rfl) (by rfl) (by rfl) ?_ ?_
                      · skip
                        go_simp
                        refine (flip_c _ p q x y _ (TT.out.step hSc) NL.out.all (CD.out.old hSc NL.out)).mono ?_
                        rw [EP.out, EQ2.out]
                        rintro e y63 ⟨v', rfl, g, bq⟩
                        obtain ⟨κh, Ah, nh, ch, Bh, mh, dh, Dh, qh, eh, rfl⟩ := g.form
                        have C1 := Lib.hid (C1.out.step bq)
                        have C2 := Lib.hid (C2.out.step bq)
                        have RE := Lib.hid (RE.out.below bq RE.out.lt)
                        have NL := Lib.hid (NL.out.le bq.size)
                        have hS2 : Below U0.heap.size U0 y63 := hSc.trans (bq.mono hSc.size)
                        clear hSc
                        have hSc := hS2
                        clear hS2
                        have C3 := Lib.hid g
                        clear g bq
                        refine ⟨fun W => Below U0.heap.size U0 W, fun W hW => hW, hSc, ?_⟩
                        try simp only [Act.put, List.setIfInBounds_toArray, List.set_cons_zero, List.set_cons_succ]
                        refine held_next 12 rfl (by kernel_rfl) (by rfl) ?_
                        go_simp
                        have rz := Row.new y63 27 #[.int .u8 0, .slice none 0 0, .slice none 0 0, .slice none 0 0]
                        have bq := bx y63 (.cells #[.int .u8 0, .slice none 0 0, .slice none 0 0, .slice none 0 0] 27)
                        have hz : y63.heap.size < (y63.alloc (.cells #[.int .u8 0, .slice none 0 0, .slice none 0 0, .slice none 0 0] 27)).heap.size := rz.lt
                        generalize y63.alloc (.cells #[.int .u8 0, .slice none 0 0, .slice none 0 0, .slice none 0 0] 27) = y64 at *
                        have C1 := Lib.hid (C1.out.made bq)
                        have C2 := Lib.hid (C2.out.made bq)
                        have C3 := Lib.hid (C3.out.made bq)
                        have RE := Lib.hid (RE.out.below bq RE.out.lt)
                        have NL := Lib.hid (NL.out.new hSc.size hz)
                        have hS2 : Below U0.heap.size U0 y64 := hSc.trans (bq.mono hSc.size)
                        clear hSc
                        have hSc := hS2
                        clear hS2
                        have RF := Lib.hid rz
                        clear rz bq hz
                        refine ⟨fun W => Below U0.heap.size U0 W, fun W hW => hW, hSc, ?_⟩
                        try simp only [Act.put, List.setIfInBounds_toArray, List.set_cons_zero, List.set_cons_succ]
                        have d0 : y64.cell? ⟨U0.heap.size, 0, none⟩ = some (.int .u8 0) := RE.out.cell 0
                        have f0 := RE.out.frozen 0
                        have d1 : y64.cell? ⟨U0.heap.size, 1, none⟩ = some (.slice none 0 0) := RE.out.cell 1
                        have f1 := RE.out.frozen 1
                        have d2 : y64.cell? ⟨U0.heap.size, 2, none⟩ = some (.slice none 0 0) := RE.out.cell 2
                        have f2 := RE.out.frozen 2
                        have d3 : y64.cell? ⟨U0.heap.size, 3, none⟩ = some (.slice none 0 0) := RE.out.cell 3
                        have f3 := RE.out.frozen 3
                        refine held_next 13 rfl (by kernel_rfl) (by rfl) ?_
                        go_simp
                        have S4 := set4 (a' := .int .u8 κg) (b' := .slice Ag ng cg) (c' := .slice Bg mg dg) (d' := .slice Dg qg eg) RE.out
                        generalize (((y64.setCell ⟨U0.heap.size, 0, none⟩ (.int .u8 κg)).setCell ⟨U0.heap.size, 1, none⟩ (.slice Ag ng cg)).setCell ⟨U0.heap.size, 2, none⟩ (.slice Bg mg dg)).setCell ⟨U0.heap.size, 3, none⟩ (.slice Dg qg eg) = y65 at *
                        obtain ⟨s4, s5⟩ := S4
                        have C1 := Lib.hid (C1.out.put s5 (by simp))
                        have C2 := Lib.hid (C2.out.put s5 (by simp))
                        have C3 := Lib.hid (C3.out.put s5 (by simp))
                        have RF := Lib.hid (RF.out.grown s5 (by intro e; injection e with e; have := NL.out.2; simp at this; omega))
                        have hS2 : Below U0.heap.size U0 y65 := hSc.grown s5 hSc.size (fun j e => by injection e with e; subst e; exact (NL.out.1 _ (by simp)).1)
                        have NL := Lib.hid (NL.out.le s5.size)
                        have RE := Lib.hid s4
                        clear hSc d0 d1 d2 d3 f0 f1 f2 f3 s4 s5
                        have hSc := hS2
                        clear hS2
                        refine ⟨fun W => Below U0.heap.size U0 W, fun W hW => hW, hSc, ?_⟩
                        try simp only [Act.put, List.setIfInBounds_toArray, List.set_cons_zero, List.set_cons_succ]
                        have d0 : y65.cell? ⟨y63.heap.size, 0, none⟩ = some (.int .u8 0) := RF.out.cell 0
                        have f0 := RF.out.frozen 0
                        have d1 : y65.cell? ⟨y63.heap.size, 1, none⟩ = some (.slice none 0 0) := RF.out.cell 1
                        have f1 := RF.out.frozen 1
                        have d2 : y65.cell? ⟨y63.heap.size, 2, none⟩ = some (.slice none 0 0) := RF.out.cell 2
                        have f2 := RF.out.frozen 2
                        have d3 : y65.cell? ⟨y63.heap.size, 3, none⟩ = some (.slice none 0 0) := RF.out.cell 3
                        have f3 := RF.out.frozen 3
                        refine held_next 14 rfl (by kernel_rfl) (by rfl) ?_
                        go_simp
                        have S4 := set4 (a' := .int .u8 κh) (b' := .slice Ah nh ch) (c' := .slice Bh mh dh) (d' := .slice Dh qh eh) RF.out
                        generalize (((y65.setCell ⟨y63.heap.size, 0, none⟩ (.int .u8 κh)).setCell ⟨y63.heap.size, 1, none⟩ (.slice Ah nh ch)).setCell ⟨y63.heap.size, 2, none⟩ (.slice Bh mh dh)).setCell ⟨y63.heap.size, 3, none⟩ (.slice Dh qh eh) = y66 at *
                        obtain ⟨s4, s5⟩ := S4
                        have C1 := Lib.hid (C1.out.put s5 (by simp))
                        have C2 := Lib.hid (C2.out.put s5 (by simp))
                        have C3 := Lib.hid (C3.out.put s5 (by simp))
                        have RE := Lib.hid (RE.out.grown s5 (by intro e; injection e with e; have := NL.out.2; simp at this; omega))
                        have hS2 : Below U0.heap.size U0 y66 := hSc.grown s5 hSc.size (fun j e => by injection e with e; subst e; exact (NL.out.1 _ (by simp)).1)
                        have NL := Lib.hid (NL.out.le s5.size)
                        have RF := Lib.hid s4
                        clear hSc d0 d1 d2 d3 f0 f1 f2 f3 s4 s5
                        have hSc := hS2
                        clear hS2
                        refine ⟨fun W => Below U0.heap.size U0 W, fun W hW => hW, hSc, ?_⟩
                        try simp only [Act.put, List.setIfInBounds_toArray, List.set_cons_zero, List.set_cons_succ]
                        refine wpAnyH_done (by kernel_rfl) ?_ _
                        go_wp2_with fail
                        go_meet
                        case rel => exact ⟨_, _, rfl, rfl, ⟨_, _, _, _, _, _, _, _, _, _, RE.out, C2.out.mono fun _ _ _ => trivial⟩, ⟨_, _, _, _, _, _, _, _, _, _, RF.out, C3.out.mono fun _ _ _ => trivial⟩, below_both BD.out hSc⟩
                      · skip
                        go_simp
                        have rz := Row.new y62 27 #[.int .u8 0, .slice none 0 0, .slice none 0 0, .slice none 0 0]
                        have bq := bx y62 (.cells #[.int .u8 0, .slice none 0 0, .slice none 0 0, .slice none 0 0] 27)
                        have hz : y62.heap.size < (y62.alloc (.cells #[.int .u8 0, .slice none 0 0, .slice none 0 0, .slice none 0 0] 27)).heap.size := rz.lt
                        generalize y62.alloc (.cells #[.int .u8 0, .slice none 0 0, .slice none 0 0, .slice none 0 0] 27) = y67 at *
                        have C1 := Lib.hid (C1.out.made bq)
                        have C2 := Lib.hid (C2.out.made bq)
                        have RE := Lib.hid (RE.out.below bq RE.out.lt)
                        have NL := Lib.hid (NL.out.new hSc.size hz)
                        have hS2 : Below U0.heap.size U0 y67 := hSc.trans (bq.mono hSc.size)
                        clear hSc
                        have hSc := hS2
                        clear hS2
                        have RF := Lib.hid rz
                        clear rz bq hz
                        refine ⟨fun W => Below U0.heap.size U0 W, fun W hW => hW, hSc, ?_⟩
                        try simp only [Act.put, List.setIfInBounds_toArray, List.set_cons_zero, List.set_cons_succ]
                        refine held_next 10 rfl (by kernel_rfl) (by rfl) ?_
                        go_simp
                        refine (flip_c _ p q x y _ (TT.out.step hSc) NL.out.all (CD.out.old hSc NL.out)).mono ?_
                        rw [EP.out, EQ2.out]
                        rintro e y68 ⟨v', rfl, g, bq⟩
                        obtain ⟨κh, Ah, nh, ch, Bh, mh, dh, Dh, qh, eh, rfl⟩ := g.form
                        have C1 := Lib.hid (C1.out.step bq)
                        have C2 := Lib.hid (C2.out.step bq)
                        have RE := Lib.hid (RE.out.below bq RE.out.lt)
                        have RF := Lib.hid (RF.out.below bq RF.out.lt)
                        have NL := Lib.hid (NL.out.le bq.size)
                        have hS2 : Below U0.heap.size U0 y68 := hSc.trans (bq.mono hSc.size)
                        clear hSc
                        have hSc := hS2
                        clear hS2
                        have C3 := Lib.hid g
                        clear g bq
                        refine ⟨fun W => Below U0.heap.size U0 W, fun W hW => hW, hSc, ?_⟩
                        try simp only [Act.put, List.setIfInBounds_toArray, List.set_cons_zero, List.set_cons_succ]
                        have d0 : y68.cell? ⟨U0.heap.size, 0, none⟩ = some (.int .u8 0) := RE.out.cell 0
                        have f0 := RE.out.frozen 0
                        have d1 : y68.cell? ⟨U0.heap.size, 1, none⟩ = some (.slice none 0 0) := RE.out.cell 1
                        have f1 := RE.out.frozen 1
                        have d2 : y68.cell? ⟨U0.heap.size, 2, none⟩ = some (.slice none 0 0) := RE.out.cell 2
                        have f2 := RE.out.frozen 2
                        have d3 : y68.cell? ⟨U0.heap.size, 3, none⟩ = some (.slice none 0 0) := RE.out.cell 3
                        have f3 := RE.out.frozen 3
                        refine held_next 13 rfl (by kernel_rfl) (by rfl) ?_
                        go_simp
                        have S4 := set4 (a' := .int .u8 κg) (b' := .slice Ag ng cg) (c' := .slice Bg mg dg) (d' := .slice Dg qg eg) RE.out
                        generalize (((y68.setCell ⟨U0.heap.size, 0, none⟩ (.int .u8 κg)).setCell ⟨U0.heap.size, 1, none⟩ (.slice Ag ng cg)).setCell ⟨U0.heap.size, 2, none⟩ (.slice Bg mg dg)).setCell ⟨U0.heap.size, 3, none⟩ (.slice Dg qg eg) = y69 at *
                        obtain ⟨s4, s5⟩ := S4
                        have C1 := Lib.hid (C1.out.put s5 (by simp))
                        have C2 := Lib.hid (C2.out.put s5 (by simp))
                        have C3 := Lib.hid (C3.out.put s5 (by simp))
                        have RF := Lib.hid (RF.out.grown s5 (by intro e; injection e with e; have := NL.out.2; simp at this; omega))
                        have hS2 : Below U0.heap.size U0 y69 := hSc.grown s5 hSc.size (fun j e => by injection e with e; subst e; exact (NL.out.1 _ (by simp)).1)
                        have NL := Lib.hid (NL.out.le s5.size)
                        have RE := Lib.hid s4
                        clear hSc d0 d1 d2 d3 f0 f1 f2 f3 s4 s5
                        have hSc := hS2
                        clear hS2
                        refine ⟨fun W => Below U0.heap.size U0 W, fun W hW => hW, hSc, ?_⟩
                        try simp only [Act.put, List.setIfInBounds_toArray, List.set_cons_zero, List.set_cons_succ]
                        have d0 : y69.cell? ⟨y62.heap.size, 0, none⟩ = some (.int .u8 0) := RF.out.cell 0
                        have f0 := RF.out.frozen 0
                        have d1 : y69.cell? ⟨y62.heap.size, 1, none⟩ = some (.slice none 0 0) := RF.out.cell 1
                        have f1 := RF.out.frozen 1
                        have d2 : y69.cell? ⟨y62.heap.size, 2, none⟩ = some (.slice none 0 0) := RF.out.cell 2
                        have f2 := RF.out.frozen 2
                        have d3 : y69.cell? ⟨y62.heap.size, 3, none⟩ = some (.slice none 0 0) := RF.out.cell 3
                        have f3 := RF.out.frozen 3
                        refine held_next 14 rfl (by kernel_rfl) (by rfl) ?_
                        go_simp
                        have S4 := set4 (a' := .int .u8 κh) (b' := .slice Ah nh ch) (c' := .slice Bh mh dh) (d' := .slice Dh qh eh) RF.out
                        generalize (((y69.setCell ⟨y62.heap.size, 0, none⟩ (.int .u8 κh)).setCell ⟨y62.heap.size, 1, none⟩ (.slice Ah nh ch)).setCell ⟨y62.heap.size, 2, none⟩ (.slice Bh mh dh)).setCell ⟨y62.heap.size, 3, none⟩ (.slice Dh qh eh) = y70 at *
                        obtain ⟨s4, s5⟩ := S4
                        have C1 := Lib.hid (C1.out.put s5 (by simp))
                        have C2 := Lib.hid (C2.out.put s5 (by simp))
                        have C3 := Lib.hid (C3.out.put s5 (by simp))
                        have RE := Lib.hid (RE.out.grown s5 (by intro e; injection e with e; have := NL.out.2; simp at this; omega))
                        have hS2 : Below U0.heap.size U0 y70 := hSc.grown s5 hSc.size (fun j e => by injection e with e; subst e; exact (NL.out.1 _ (by simp)).1)
                        have NL := Lib.hid (NL.out.le s5.size)
                        have RF := Lib.hid s4
                        clear hSc d0 d1 d2 d3 f0 f1 f2 f3 s4 s5
                        have hSc := hS2
                        clear hS2
                        refine ⟨fun W => Below U0.heap.size U0 W, fun W hW => hW, hSc, ?_⟩
                        try simp only [Act.put, List.setIfInBounds_toArray, List.set_cons_zero, List.set_cons_succ]
                        refine wpAnyH_done (by kernel_rfl) ?_ _
                        go_wp2_with fail
                        go_meet
                        case rel => exact ⟨_, _, rfl, rfl, ⟨_, _, _, _, _, _, _, _, _, _, RE.out, C2.out.mono fun _ _ _ => trivial⟩, ⟨_, _, _, _, _, _, _, _, _, _, RF.out, C3.out.mono fun _ _ _ => trivial⟩, below_both BD.out hSc⟩
                    · skip
                      go_simp
                      have rz := Row.new y61 27 #[.int .u8 0, .slice none 0 0, .slice none 0 0, .slice none 0 0]
                      have bq := bx y61 (.cells #[.int .u8 0, .slice none 0 0, .slice none 0 0, .slice none 0 0] 27)
                      have hz : y61.heap.size < (y61.alloc (.cells #[.int .u8 0, .slice none 0 0, .slice none 0 0, .slice none 0 0] 27)).heap.size := rz.lt
                      generalize y61.alloc (.cells #[.int .u8 0, .slice none 0 0, .slice none 0 0, .slice none 0 0] 27) = y71 at *
                      have C1 := Lib.hid (C1.out.made bq)
                      have RE := Lib.hid (RE.out.below bq RE.out.lt)
                      have NL := Lib.hid (NL.out.new hSc.size hz)
                      have hS2 : Below U0.heap.size U0 y71 := hSc.trans (bq.mono hSc.size)
                      clear hSc
                      have hSc := hS2
                      clear hS2
                      have RF := Lib.hid rz
                      clear rz bq hz
                      refine ⟨fun W => Below U0.heap.size U0 W, fun W hW => hW, hSc, ?_⟩
                      try simp only [Act.put, List.setIfInBounds_toArray, List.set_cons_zero, List.set_cons_succ]
                      refine held_next 6 rfl (by kernel_rfl) (by rfl) ?_
                      go_simp
                      refine (flip_c _ (flp p x M) _ M y _ (TT.out.step hSc) NL.out.all C1.out).mono ?_
                      rw [FJ.out, EQ2.out]
                      rintro e y72 ⟨v', rfl, g, bq⟩
                      obtain ⟨κg, Ag, ng, cg, Bg, mg, dg, Dg, qg, eg, rfl⟩ := g.form
                      have C1 := Lib.hid (C1.out.step bq)
                      have RE := Lib.hid (RE.out.below bq RE.out.lt)
                      have RF := Lib.hid (RF.out.below bq RF.out.lt)
                      have NL := Lib.hid (NL.out.le bq.size)
                      have hS2 : Below U0.heap.size U0 y72 := hSc.trans (bq.mono hSc.size)
                      clear hSc
                      have hSc := hS2
                      clear hS2
                      have C2 := Lib.hid g
                      clear g bq
                      refine ⟨fun W => Below U0.heap.size U0 W, fun W hW => hW, hSc, ?_⟩
                      try simp only [Act.put, List.setIfInBounds_toArray, List.set_cons_zero, List.set_cons_succ]
                      refine held_next 10 rfl (by kernel_rfl) (by rfl) ?_
                      go_simp
                      refine (flip_c _ p q x y _ (TT.out.step hSc) NL.out.all (CD.out.old hSc NL.out)).mono ?_
                      rw [EP.out, EQ2.out]
                      rintro e y73 ⟨v', rfl, g, bq⟩
                      obtain ⟨κh, Ah, nh, ch, Bh, mh, dh, Dh, qh, eh, rfl⟩ := g.form
                      have C1 := Lib.hid (C1.out.step bq)
                      have C2 := Lib.hid (C2.out.step bq)
                      have RE := Lib.hid (RE.out.below bq RE.out.lt)
                      have RF := Lib.hid (RF.out.below bq RF.out.lt)
                      have NL := Lib.hid (NL.out.le bq.size)
                      have hS2 : Below U0.heap.size U0 y73 := hSc.trans (bq.mono hSc.size)
                      clear hSc
                      have hSc := hS2
                      clear hS2
                      have C3 := Lib.hid g
                      clear g bq
                      refine ⟨fun W => Below U0.heap.size U0 W, fun W hW => hW, hSc, ?_⟩
                      try simp only [Act.put, List.setIfInBounds_toArray, List.set_cons_zero, List.set_cons_succ]
                      have d0 : y73.cell? ⟨U0.heap.size, 0, none⟩ = some (.int .u8 0) := RE.out.cell 0
                      have f0 := RE.out.frozen 0
                      have d1 : y73.cell? ⟨U0.heap.size, 1, none⟩ = some (.slice none 0 0) := RE.out.cell 1
                      have f1 := RE.out.frozen 1
                      have d2 : y73.cell? ⟨U0.heap.size, 2, none⟩ = some (.slice none 0 0) := RE.out.cell 2
                      have f2 := RE.out.frozen 2
                      have d3 : y73.cell? ⟨U0.heap.size, 3, none⟩ = some (.slice none 0 0) := RE.out.cell 3
                      have f3 := RE.out.frozen 3
                      refine held_next 13 rfl (by kernel_rfl) (by rfl) ?_
                      go_simp
                      have S4 := set4 (a' := .int .u8 κg) (b' := .slice Ag ng cg) (c' := .slice Bg mg dg) (d' := .slice Dg qg eg) RE.out
                      generalize (((y73.setCell ⟨U0.heap.size, 0, none⟩ (.int .u8 κg)).setCell ⟨U0.heap.size, 1, none⟩ (.slice Ag ng cg)).setCell ⟨U0.heap.size, 2, none⟩ (.slice Bg mg dg)).setCell ⟨U0.heap.size, 3, none⟩ (.slice Dg qg eg) = y74 at *
                      obtain ⟨s4, s5⟩ := S4
                      have C1 := Lib.hid (C1.out.put s5 (by simp))
                      have C2 := Lib.hid (C2.out.put s5 (by simp))
                      have C3 := Lib.hid (C3.out.put s5 (by simp))
                      have RF := Lib.hid (RF.out.grown s5 (by intro e; injection e with e; have := NL.out.2; simp at this; omega))
                      have hS2 : Below U0.heap.size U0 y74 := hSc.grown s5 hSc.size (fun j e => by injection e with e; subst e; exact (NL.out.1 _ (by simp)).1)
                      have NL := Lib.hid (NL.out.le s5.size)
                      have RE := Lib.hid s4
                      clear hSc d0 d1 d2 d3 f0 f1 f2 f3 s4 s5
                      have hSc := hS2
                      clear hS2
                      refine ⟨fun W => Below U0.heap.size U0 W, fun W hW => hW, hSc, ?_⟩
                      try simp only [Act.put, List.setIfInBounds_toArray, List.set_cons_zero, List.set_cons_succ]
                      have d0 : y74.cell? ⟨y61.heap.size, 0, none⟩ = some (.int .u8 0) := RF.out.cell 0
                      have f0 := RF.out.frozen 0
                      have d1 : y74.cell? ⟨y61.heap.size, 1, none⟩ = some (.slice none 0 0) := RF.out.cell 1
                      have f1 := RF.out.frozen 1
                      have d2 : y74.cell? ⟨y61.heap.size, 2, none⟩ = some (.slice none 0 0) := RF.out.cell 2
                      have f2 := RF.out.frozen 2
                      have d3 : y74.cell? ⟨y61.heap.size, 3, none⟩ = some (.slice none 0 0) := RF.out.cell 3
                      have f3 := RF.out.frozen 3
                      refine held_next 14 rfl (by kernel_rfl) (by rfl) ?_
                      go_simp
                      have S4 := set4 (a' := .int .u8 κh) (b' := .slice Ah nh ch) (c' := .slice Bh mh dh) (d' := .slice Dh qh eh) RF.out
                      generalize (((y74.setCell ⟨y61.heap.size, 0, none⟩ (.int .u8 κh)).setCell ⟨y61.heap.size, 1, none⟩ (.slice Ah nh ch)).setCell ⟨y61.heap.size, 2, none⟩ (.slice Bh mh dh)).setCell ⟨y61.heap.size, 3, none⟩ (.slice Dh qh eh) = y75 at *
                      obtain ⟨s4, s5⟩ := S4
                      have C1 := Lib.hid (C1.out.put s5 (by simp))
                      have C2 := Lib.hid (C2.out.put s5 (by simp))
                      have C3 := Lib.hid (C3.out.put s5 (by simp))
                      have RE := Lib.hid (RE.out.grown s5 (by intro e; injection e with e; have := NL.out.2; simp at this; omega))
                      have hS2 : Below U0.heap.size U0 y75 := hSc.grown s5 hSc.size (fun j e => by injection e with e; subst e; exact (NL.out.1 _ (by simp)).1)
                      have NL := Lib.hid (NL.out.le s5.size)
                      have RF := Lib.hid s4
                      clear hSc d0 d1 d2 d3 f0 f1 f2 f3 s4 s5
                      have hSc := hS2
                      clear hS2
                      refine ⟨fun W => Below U0.heap.size U0 W, fun W hW => hW, hSc, ?_⟩
                      try simp only [Act.put, List.setIfInBounds_toArray, List.set_cons_zero, List.set_cons_succ]
                      refine wpAnyH_done (by kernel_rfl) ?_ _
                      go_wp2_with fail
                      go_meet
                      case rel => exact ⟨_, _, rfl, rfl, ⟨_, _, _, _, _, _, _, _, _, _, RE.out, C2.out.mono fun _ _ _ => trivial⟩, ⟨_, _, _, _, _, _, _, _, _, _, RF.out, C3.out.mono fun _ _ _ => trivial⟩, below_both BD.out hSc⟩
                  · skip
                    go_simp
                    have rz := Row.new y60 27 #[.int .u8 0, .slice none 0 0, .slice none 0 0, .slice none 0 0]
                    have bq := bx y60 (.cells #[.int .u8 0, .slice none 0 0, .slice none 0 0, .slice none 0 0] 27)
                    have hz : y60.heap.size < (y60.alloc (.cells #[.int .u8 0, .slice none 0 0, .slice none 0 0, .slice none 0 0] 27)).heap.size := rz.lt
                    generalize y60.alloc (.cells #[.int .u8 0, .slice none 0 0, .slice none 0 0, .slice none 0 0] 27) = y76 at *
                    have RE := Lib.hid (RE.out.below bq RE.out.lt)
                    have NL := Lib.hid (NL.out.new hSc.size hz)
                    have hS2 : Below U0.heap.size U0 y76 := hSc.trans (bq.mono hSc.size)
                    clear hSc
                    have hSc := hS2
                    clear hS2
                    have RF := Lib.hid rz
                    clear rz bq hz
                    refine ⟨fun W => Below U0.heap.size U0 W, fun W hW => hW, hSc, ?_⟩
                    try simp only [Act.put, List.setIfInBounds_toArray, List.set_cons_zero, List.set_cons_succ]
                    refine held_next 3 rfl (by kernel_rfl) (by rfl) ?_
                    go_simp
                    refine (flip_c _ p q x M _ (TT.out.step hSc) NL.out.all (CC.out.old hSc NL.out)).mono ?_
                    rintro e y77 ⟨v', rfl, g, bq⟩
                    obtain ⟨κf, Af, nf, cf, Bf, mf, df, Df, qf, ef, rfl⟩ := g.form
                    have RE := Lib.hid (RE.out.below bq RE.out.lt)
                    have RF := Lib.hid (RF.out.below bq RF.out.lt)
                    have NL := Lib.hid (NL.out.le bq.size)
                    have hS2 : Below U0.heap.size U0 y77 := hSc.trans (bq.mono hSc.size)
                    clear hSc
                    have hSc := hS2
                    clear hS2
                    have C1 := Lib.hid g
                    clear g bq
                    refine ⟨fun W => Below U0.heap.size U0 W, fun W hW => hW, hSc, ?_⟩
                    try simp only [Act.put, List.setIfInBounds_toArray, List.set_cons_zero, List.set_cons_succ]
                    refine held_next 6 rfl (by kernel_rfl) (by rfl) ?_
                    go_simp
                    refine (flip_c _ (flp p x M) _ M y _ (TT.out.step hSc) NL.out.all C1.out).mono ?_
                    rw [FJ.out, EQ2.out]
                    rintro e y78 ⟨v', rfl, g, bq⟩
                    obtain ⟨κg, Ag, ng, cg, Bg, mg, dg, Dg, qg, eg, rfl⟩ := g.form
                    have C1 := Lib.hid (C1.out.step bq)
                    have RE := Lib.hid (RE.out.below bq RE.out.lt)
                    have RF := Lib.hid (RF.out.below bq RF.out.lt)
                    have NL := Lib.hid (NL.out.le bq.size)
                    have hS2 : Below U0.heap.size U0 y78 := hSc.trans (bq.mono hSc.size)
                    clear hSc
                    have hSc := hS2
                    clear hS2
                    have C2 := Lib.hid g
                    clear g bq
                    refine ⟨fun W => Below U0.heap.size U0 W, fun W hW => hW, hSc, ?_⟩
                    try simp only [Act.put, List.setIfInBounds_toArray, List.set_cons_zero, List.set_cons_succ]
                    refine held_next 10 rfl (by kernel_rfl) (by rfl) ?_
                    go_simp
                    refine (flip_c _ p q x y _ (TT.out.step hSc) NL.out.all (CD.out.old hSc NL.out)).mono ?_
                    rw [EP.out, EQ2.out]
                    rintro e y79 ⟨v', rfl, g, bq⟩
                    obtain ⟨κh, Ah, nh, ch, Bh, mh, dh, Dh, qh, eh, rfl⟩ := g.form
                    have C1 := Lib.hid (C1.out.step bq)
                    have C2 := Lib.hid (C2.out.step bq)
                    have RE := Lib.hid (RE.out.below bq RE.out.lt)
                    have RF := Lib.hid (RF.out.below bq RF.out.lt)
                    have NL := Lib.hid (NL.out.le bq.size)
                    have hS2 : Below U0.heap.size U0 y79 := hSc.trans (bq.mono hSc.size)
                    clear hSc
                    have hSc := hS2
                    clear hS2
                    have C3 := Lib.hid g
                    clear g bq
                    refine ⟨fun W => Below U0.heap.size U0 W, fun W hW => hW, hSc, ?_⟩
                    try simp only [Act.put, List.setIfInBounds_toArray, List.set_cons_zero, List.set_cons_succ]
                    have d0 : y79.cell? ⟨U0.heap.size, 0, none⟩ = some (.int .u8 0) := RE.out.cell 0
                    have f0 := RE.out.frozen 0
                    have d1 : y79.cell? ⟨U0.heap.size, 1, none⟩ = some (.slice none 0 0) := RE.out.cell 1
                    have f1 := RE.out.frozen 1
                    have d2 : y79.cell? ⟨U0.heap.size, 2, none⟩ = some (.slice none 0 0) := RE.out.cell 2
                    have f2 := RE.out.frozen 2
                    have d3 : y79.cell? ⟨U0.heap.size, 3, none⟩ = some (.slice none 0 0) := RE.out.cell 3
                    have f3 := RE.out.frozen 3
                    refine held_next 13 rfl (by kernel_rfl) (by rfl) ?_
                    go_simp
                    have S4 := set4 (a' := .int .u8 κg) (b' := .slice Ag ng cg) (c' := .slice Bg mg dg) (d' := .slice Dg qg eg) RE.out
                    generalize (((y79.setCell ⟨U0.heap.size, 0, none⟩ (.int .u8 κg)).setCell ⟨U0.heap.size, 1, none⟩ (.slice Ag ng cg)).setCell ⟨U0.heap.size, 2, none⟩ (.slice Bg mg dg)).setCell ⟨U0.heap.size, 3, none⟩ (.slice Dg qg eg) = y80 at *
                    obtain ⟨s4, s5⟩ := S4
                    have C1 := Lib.hid (C1.out.put s5 (by simp))
                    have C2 := Lib.hid (C2.out.put s5 (by simp))
                    have C3 := Lib.hid (C3.out.put s5 (by simp))
                    have RF := Lib.hid (RF.out.grown s5 (by intro e; injection e with e; have := NL.out.2; simp at this; omega))
                    have hS2 : Below U0.heap.size U0 y80 := hSc.grown s5 hSc.size (fun j e => by injection e with e; subst e; exact (NL.out.1 _ (by simp)).1)
                    have NL := Lib.hid (NL.out.le s5.size)
                    have RE := Lib.hid s4
                    clear hSc d0 d1 d2 d3 f0 f1 f2 f3 s4 s5
                    have hSc := hS2
                    clear hS2
                    refine ⟨fun W => Below U0.heap.size U0 W, fun W hW => hW, hSc, ?_⟩
                    try simp only [Act.put, List.setIfInBounds_toArray, List.set_cons_zero, List.set_cons_succ]
                    have d0 : y80.cell? ⟨y60.heap.size, 0, none⟩ = some (.int .u8 0) := RF.out.cell 0
                    have f0 := RF.out.frozen 0
                    have d1 : y80.cell? ⟨y60.heap.size, 1, none⟩ = some (.slice none 0 0) := RF.out.cell 1
                    have f1 := RF.out.frozen 1
                    have d2 : y80.cell? ⟨y60.heap.size, 2, none⟩ = some (.slice none 0 0) := RF.out.cell 2
                    have f2 := RF.out.frozen 2
                    have d3 : y80.cell? ⟨y60.heap.size, 3, none⟩ = some (.slice none 0 0) := RF.out.cell 3
                    have f3 := RF.out.frozen 3
                    refine held_next 14 rfl (by kernel_rfl) (by rfl) ?_
                    go_simp
                    have S4 := set4 (a' := .int .u8 κh) (b' := .slice Ah nh ch) (c' := .slice Bh mh dh) (d' := .slice Dh qh eh) RF.out
                    generalize (((y80.setCell ⟨y60.heap.size, 0, none⟩ (.int .u8 κh)).setCell ⟨y60.heap.size, 1, none⟩ (.slice Ah nh ch)).setCell ⟨y60.heap.size, 2, none⟩ (.slice Bh mh dh)).setCell ⟨y60.heap.size, 3, none⟩ (.slice Dh qh eh) = y81 at *
                    obtain ⟨s4, s5⟩ := S4
                    have C1 := Lib.hid (C1.out.put s5 (by simp))
                    have C2 := Lib.hid (C2.out.put s5 (by simp))
                    have C3 := Lib.hid (C3.out.put s5 (by simp))
                    have RE := Lib.hid (RE.out.grown s5 (by intro e; injection e with e; have := NL.out.2; simp at this; omega))
                    have hS2 : Below U0.heap.size U0 y81 := hSc.grown s5 hSc.size (fun j e => by injection e with e; subst e; exact (NL.out.1 _ (by simp)).1)
                    have NL := Lib.hid (NL.out.le s5.size)
                    have RF := Lib.hid s4
                    clear hSc d0 d1 d2 d3 f0 f1 f2 f3 s4 s5
                    have hSc := hS2
                    clear hS2
                    refine ⟨fun W => Below U0.heap.size U0 W, fun W hW => hW, hSc, ?_⟩
                    try simp only [Act.put, List.setIfInBounds_toArray, List.set_cons_zero, List.set_cons_succ]
                    refine wpAnyH_done (by kernel_rfl) ?_ _
                    go_wp2_with fail
                    go_meet
                    case rel => exact ⟨_, _, rfl, rfl, ⟨_, _, _, _, _, _, _, _, _, _, RE.out, C2.out.mono fun _ _ _ => trivial⟩, ⟨_, _, _, _, _, _, _, _, _, _, RF.out, C3.out.mono fun _ _ _ => trivial⟩, below_both BD.out hSc⟩
                · skip
                  go_simp
                  have rz := Row.new U0 27 #[.int .u8 0, .slice none 0 0, .slice none 0 0, .slice none 0 0]
                  have bq := bx U0 (.cells #[.int .u8 0, .slice none 0 0, .slice none 0 0, .slice none 0 0] 27)
                  have hz : U0.heap.size < (U0.alloc (.cells #[.int .u8 0, .slice none 0 0, .slice none 0 0, .slice none 0 0] 27)).heap.size := rz.lt
                  generalize U0.alloc (.cells #[.int .u8 0, .slice none 0 0, .slice none 0 0, .slice none 0 0] 27) = y82 at *
                  have NL := Lib.hid (NL.out.new hSc.size hz)
                  have hS2 : Below U0.heap.size U0 y82 := hSc.trans (bq.mono hSc.size)
                  clear hSc
                  have hSc := hS2
                  clear hS2
                  have RF := Lib.hid rz
                  clear rz bq hz
                  refine ⟨fun W => Below U0.heap.size U0 W, fun W hW => hW, hSc, ?_⟩
                  try simp only [Act.put, List.setIfInBounds_toArray, List.set_cons_zero, List.set_cons_succ]
                  refine held_two 3 11 rfl rfl (by kernel_rfl) (by rfl) (by rfl) ?_ ?_
                  · skip
                    go_simp
                    refine (flip_c _ p q x M _ (TT.out.step hSc) NL.out.all (CC.out.old hSc NL.out)).mono ?_
                    rintro e y83 ⟨v', rfl, g, bq⟩
                    obtain ⟨κf, Af, nf, cf, Bf, mf, df, Df, qf, ef, rfl⟩ := g.form
                    have RF := Lib.hid (RF.out.below bq RF.out.lt)
                    have NL := Lib.hid (NL.out.le bq.size)
                    have hS2 : Below U0.heap.size U0 y83 := hSc.trans (bq.mono hSc.size)
                    clear hSc
                    have hSc := hS2
                    clear hS2
                    have C1 := Lib.hid g
                    clear g bq
                    refine ⟨fun W => Below U0.heap.size U0 W, fun W hW => hW, hSc, ?_⟩
                    try simp only [Act.put, List.setIfInBounds_toArray, List.set_cons_zero, List.set_cons_succ]
                    refine held_two 6 11 rfl rfl (by kernel_rfl) (by rfl) (by rfl) ?_ ?_
                    · skip
                      go_simp
                      refine (flip_c _ (flp p x M) _ M y _ (TT.out.step hSc) NL.out.all C1.out).mono ?_
                      rw [FJ.out, EQ2.out]
                      rintro e y84 ⟨v', rfl, g, bq⟩
                      obtain ⟨κg, Ag, ng, cg, Bg, mg, dg, Dg, qg, eg, rfl⟩ := g.form
                      have C1 := Lib.hid (C1.out.step bq)
                      have RF := Lib.hid (RF.out.below bq RF.out.lt)
                      have NL := Lib.hid (NL.out.le bq.size)
                      have hS2 : Below U0.heap.size U0 y84 := hSc.trans (bq.mono hSc.size)
                      clear hSc
                      have hSc := hS2
                      clear hS2
                      have C2 := Lib.hid g
                      clear g bq
                      refine ⟨fun W => Below U0.heap.size U0 W, fun W hW => hW, hSc, ?_⟩
                      try simp only [Act.put, List.setIfInBounds_toArray, List.set_cons_zero, List.set_cons_succ]
                      refine held_two 10 11 rfl rfl (by kernel_rfl) (by rfl) (by rfl) ?_ ?_
                      · skip
                        go_simp
                        refine (flip_c _ p q x y _ (TT.out.step hSc) NL.out.all (CD.out.old hSc NL.out)).mono ?_
                        rw [EP.out, EQ2.out]
                        rintro e y85 ⟨v', rfl, g, bq⟩
                        obtain ⟨κh, Ah, nh, ch, Bh, mh, dh, Dh, qh, eh, rfl⟩ := g.form
                        have C1 := Lib.hid (C1.out.step bq)
                        have C2 := Lib.hid (C2.out.step bq)
                        have RF := Lib.hid (RF.out.below bq RF.out.lt)
                        have NL := Lib.hid (NL.out.le bq.size)
                        have hS2 : Below U0.heap.size U0 y85 := hSc.trans (bq.mono hSc.size)
                        clear hSc
                        have hSc := hS2
                        clear hS2
                        have C3 := Lib.hid g
                        clear g bq
                        refine ⟨fun W => Below U0.heap.size U0 W, fun W hW => hW, hSc, ?_⟩
                        try simp only [Act.put, List.setIfInBounds_toArray, List.set_cons_zero, List.set_cons_succ]
                        refine held_next 11 rfl (by kernel_rfl) (by rfl) ?_
                        go_simp
                        have rz := Row.new y85 27 #[.int .u8 0, .slice none 0 0, .slice none 0 0, .slice none 0 0]
                        have bq := bx y85 (.cells #[.int .u8 0, .slice none 0 0, .slice none 0 0, .slice none 0 0] 27)
                        have hz : y85.heap.size < (y85.alloc (.cells #[.int .u8 0, .slice none 0 0, .slice none 0 0, .slice none 0 0] 27)).heap.size := rz.lt
                        generalize y85.alloc (.cells #[.int .u8 0, .slice none 0 0, .slice none 0 0, .slice none 0 0] 27) = y86 at *
                        have C1 := Lib.hid (C1.out.made bq)
                        have C2 := Lib.hid (C2.out.made bq)
                        have C3 := Lib.hid (C3.out.made bq)
                        have RF := Lib.hid (RF.out.below bq RF.out.lt)
                        have NL := Lib.hid (NL.out.new hSc.size hz)
                        have hS2 : Below U0.heap.size U0 y86 := hSc.trans (bq.mono hSc.size)
                        clear hSc
                        have hSc := hS2
                        clear hS2
                        have RE := Lib.hid rz
                        clear rz bq hz
                        refine ⟨fun W => Below U0.heap.size U0 W, fun W hW => hW, hSc, ?_⟩
                        try simp only [Act.put, List.setIfInBounds_toArray, List.set_cons_zero, List.set_cons_succ]
                        have d0 : y86.cell? ⟨y85.heap.size, 0, none⟩ = some (.int .u8 0) := RE.out.cell 0
                        have f0 := RE.out.frozen 0
                        have d1 : y86.cell? ⟨y85.heap.size, 1, none⟩ = some (.slice none 0 0) := RE.out.cell 1
                        have f1 := RE.out.frozen 1
                        have d2 : y86.cell? ⟨y85.heap.size, 2, none⟩ = some (.slice none 0 0) := RE.out.cell 2
                        have f2 := RE.out.frozen 2
                        have d3 : y86.cell? ⟨y85.heap.size, 3, none⟩ = some (.slice none 0 0) := RE.out.cell 3
                        have f3 := RE.out.frozen 3
                        refine held_next 13 rfl (by kernel_rfl) (by rfl) ?_
                        go_simp
                        have S4 := set4 (a' := .int .u8 κg) (b' := .slice Ag ng cg) (c' := .slice Bg mg dg) (d' := .slice Dg qg eg) RE.out
                        generalize (((y86.setCell ⟨y85.heap.size, 0, none⟩ (.int .u8 κg)).setCell ⟨y85.heap.size, 1, none⟩ (.slice Ag ng cg)).setCell ⟨y85.heap.size, 2, none⟩ (.slice Bg mg dg)).setCell ⟨y85.heap.size, 3, none⟩ (.slice Dg qg eg) = y87 at *
                        obtain ⟨s4, s5⟩ := S4
                        have C1 := Lib.hid (C1.out.put s5 (by simp))
                        have C2 := Lib.hid (C2.out.put s5 (by simp))
                        have C3 := Lib.hid (C3.out.put s5 (by simp))
                        have RF := Lib.hid (RF.out.grown s5 (by intro e; injection e with e; have := NL.out.2; simp at this; omega))
                        have hS2 : Below U0.heap.size U0 y87 := hSc.grown s5 hSc.size (fun j e => by injection e with e; subst e; exact (NL.out.1 _ (by simp)).1)
                        have NL := Lib.hid (NL.out.le s5.size)
                        have RE := Lib.hid s4
                        clear hSc d0 d1 d2 d3 f0 f1 f2 f3 s4 s5
                        have hSc := hS2
                        clear hS2
                        refine ⟨fun W => Below U0.heap.size U0 W, fun W hW => hW, hSc, ?_⟩
                        try simp only [Act.put, List.setIfInBounds_toArray, List.set_cons_zero, List.set_cons_succ]
                        have d0 : y87.cell? ⟨U0.heap.size, 0, none⟩ = some (.int .u8 0) := RF.out.cell 0
                        have f0 := RF.out.frozen 0
                        have d1 : y87.cell? ⟨U0.heap.size, 1, none⟩ = some (.slice none 0 0) := RF.out.cell 1
                        have f1 := RF.out.frozen 1
                        have d2 : y87.cell? ⟨U0.heap.size, 2, none⟩ = some (.slice none 0 0) := RF.out.cell 2
                        have f2 := RF.out.frozen 2
                        have d3 : y87.cell? ⟨U0.heap.size, 3, none⟩ = some (.slice none 0 0) := RF.out.cell 3
                        have f3 := RF.out.frozen 3
                        refine held_next 14 rfl (by kernel_rfl) (by rfl) ?_
                        go_simp
                        have S4 := set4 (a' := .int .u8 κh) (b' := .slice Ah nh ch) (c' := .slice Bh mh dh) (d' := .slice Dh qh eh) RF.out
                        generalize (((y87.setCell ⟨U0.heap.size, 0, none⟩ (.int .u8 κh)).setCell ⟨U0.heap.size, 1, none⟩ (.slice Ah nh ch)).setCell ⟨U0.heap.size, 2, none⟩ (.slice Bh mh dh)).setCell ⟨U0.heap.size, 3, none⟩ (.slice Dh qh eh) = y88 at *
                        obtain ⟨s4, s5⟩ := S4
                        have C1 := Lib.hid (C1.out.put s5 (by simp))
                        have C2 := Lib.hid (C2.out.put s5 (by simp))
                        have C3 := Lib.hid (C3.out.put s5 (by simp))
                        have RE := Lib.hid (RE.out.grown s5 (by intro e; injection e with e; have := NL.out.2; simp at this; omega))
                        have hS2 : Below U0.heap.size U0 y88 := hSc.grown s5 hSc.size (fun j e => by injection e with e; subst e; exact (NL.out.1 _ (by simp)).1)
                        have NL := Lib.hid (NL.out.le s5.size)
                        have RF := Lib.hid s4
                        clear hSc d0 d1 d2 d3 f0 f1 f2 f3 s4 s5
                        have hSc := hS2
                        clear hS2
                        refine ⟨fun W => Below U0.heap.size U0 W, fun W hW => hW, hSc, ?_⟩
                        try simp only [Act.put, List.setIfInBounds_toArray, List.set_cons_zero, List.set_cons_succ]
                        refine wpAnyH_done (by kernel_rfl) ?_ _
                        go_wp2_with fail
                        go_meet
                        case rel => exact ⟨_, _, rfl, rfl, ⟨_, _, _, _, _, _, _, _, _, _, RE.out, C2.out.mono fun _ _ _ => trivial⟩, ⟨_, _, _, _, _, _, _, _, _, _, RF.out, C3.out.mono fun _ _ _ => trivial⟩, below_both BD.out hSc⟩
                      · skip
                        go_simp
                        have rz := Row.new y84 27 #[.int .u8 0, .slice none 0 0, .slice none 0 0, .slice none 0 0]
                        have bq := bx y84 (.cells #[.int .u8 0, .slice none 0 0, .slice none 0 0, .slice none 0 0] 27)
                        have hz : y84.heap.size < (y84.alloc (.cells #[.int .u8 0, .slice none 0 0, .slice none 0 0, .slice none 0 0] 27)).heap.size := rz.lt
                        generalize y84.alloc (.cells #[.int .u8 0, .slice none 0 0, .slice none 0 0, .slice none 0 0] 27) = y89 at *
                        have C1 := Lib.hid (C1.out.made bq)
                        have C2 := Lib.hid (C2.out.made bq)
                        have RF := Lib.hid (RF.out.below bq RF.out.lt)
                        have NL := Lib.hid (NL.out.new hSc.size hz)
                        have hS2 : Below U0.heap.size U0 y89 := hSc.trans (bq.mono hSc.size)
                        clear hSc
                        have hSc := hS2
                        clear hS2
                        have RE := Lib.hid rz
                        clear rz bq hz
                        refine ⟨fun W => Below U0.heap.size U0 W, fun W hW => hW, hSc, ?_⟩
                        try simp only [Act.put, List.setIfInBounds_toArray, List.set_cons_zero, List.set_cons_succ]
                        refine held_next 10 rfl (by kernel_rfl) (by rfl) ?_
                        go_simp
                        refine (flip_c _ p q x y _ (TT.out.step hSc) NL.out.all (CD.out.old hSc NL.out)).mono ?_
                        rw [EP.out, EQ2.out]
                        rintro e y90 ⟨v', rfl, g, bq⟩
                        obtain ⟨κh, Ah, nh, ch, Bh, mh, dh, Dh, qh, eh, rfl⟩ := g.form
                        have C1 := Lib.hid (C1.out.step bq)
                        have C2 := Lib.hid (C2.out.step bq)
                        have RF := Lib.hid (RF.out.below bq RF.out.lt)
                        have RE := Lib.hid (RE.out.below bq RE.out.lt)
                        have NL := Lib.hid (NL.out.le bq.size)
                        have hS2 : Below U0.heap.size U0 y90 := hSc.trans (bq.mono hSc.size)
                        clear hSc
                        have hSc := hS2
                        clear hS2
                        have C3 := Lib.hid g
                        clear g bq
                        refine ⟨fun W => Below U0.heap.size U0 W, fun W hW => hW, hSc, ?_⟩
                        try simp only [Act.put, List.setIfInBounds_toArray, List.set_cons_zero, List.set_cons_succ]
                        have d0 : y90.cell? ⟨y84.heap.size, 0, none⟩ = some (.int .u8 0) := RE.out.cell 0
                        have f0 := RE.out.frozen 0
                        have d1 : y90.cell? ⟨y84.heap.size, 1, none⟩ = some (.slice none 0 0) := RE.out.cell 1
                        have f1 := RE.out.frozen 1
                        have d2 : y90.cell? ⟨y84.heap.size, 2, none⟩ = some (.slice none 0 0) := RE.out.cell 2
                        have f2 := RE.out.frozen 2
                        have d3 : y90.cell? ⟨y84.heap.size, 3, none⟩ = some (.slice none 0 0) := RE.out.cell 3
                        have f3 := RE.out.frozen 3
                        refine held_next 13 rfl (by kernel_rfl) (by rfl) ?_
                        go_simp
                        have S4 := set4 (a' := .int .u8 κg) (b' := .slice Ag ng cg) (c' := .slice Bg mg dg) (d' := .slice Dg qg eg) RE.out
                        generalize (((y90.setCell ⟨y84.heap.size, 0, none⟩ (.int .u8 κg)).setCell ⟨y84.heap.size, 1, none⟩ (.slice Ag ng cg)).setCell ⟨y84.heap.size, 2, none⟩ (.slice Bg mg dg)).setCell ⟨y84.heap.size, 3, none⟩ (.slice Dg qg eg) = y91 at *
                        obtain ⟨s4, s5⟩ := S4
                        have C1 := Lib.hid (C1.out.put s5 (by simp))
                        have C2 := Lib.hid (C2.out.put s5 (by simp))
                        have C3 := Lib.hid (C3.out.put s5 (by simp))
                        have RF := Lib.hid (RF.out.grown s5 (by intro e; injection e with e; have := NL.out.2; simp at this; omega))
                        have hS2 : Below U0.heap.size U0 y91 := hSc.grown s5 hSc.size (fun j e => by injection e with e; subst e; exact (NL.out.1 _ (by simp)).1)
                        have NL := Lib.hid (NL.out.le s5.size)
                        have RE := Lib.hid s4
                        clear hSc d0 d1 d2 d3 f0 f1 f2 f3 s4 s5
                        have hSc := hS2
                        clear hS2
                        refine ⟨fun W => Below U0.heap.size U0 W, fun W hW => hW, hSc, ?_⟩
                        try simp only [Act.put, List.setIfInBounds_toArray, List.set_cons_zero, List.set_cons_succ]
                        have d0 : y91.cell? ⟨U0.heap.size, 0, none⟩ = some (.int .u8 0) := RF.out.cell 0
                        have f0 := RF.out.frozen 0
                        have d1 : y91.cell? ⟨U0.heap.size, 1, none⟩ = some (.slice none 0 0) := RF.out.cell 1
                        have f1 := RF.out.frozen 1
                        have d2 : y91.cell? ⟨U0.heap.size, 2, none⟩ = some (.slice none 0 0) := RF.out.cell 2
                        have f2 := RF.out.frozen 2
                        have d3 : y91.cell? ⟨U0.heap.size, 3, none⟩ = some (.slice none 0 0) := RF.out.cell 3
                        have f3 := RF.out.frozen 3
                        refine held_next 14 rfl (by kernel_rfl) (by rfl) ?_
                        go_simp
                        have S4 := set4 (a' := .int .u8 κh) (b' := .slice Ah nh ch) (c' := .slice Bh mh dh) (d' := .slice Dh qh eh) RF.out
                        generalize (((y91.setCell ⟨U0.heap.size, 0, none⟩ (.int .u8 κh)).setCell ⟨U0.heap.size, 1, none⟩ (.slice Ah nh ch)).setCell ⟨U0.heap.size, 2, none⟩ (.slice Bh mh dh)).setCell ⟨U0.heap.size, 3, none⟩ (.slice Dh qh eh) = y92 at *
                        obtain ⟨s4, s5⟩ := S4
                        have C1 := Lib.hid (C1.out.put s5 (by simp))
                        have C2 := Lib.hid (C2.out.put s5 (by simp))
                        have C3 := Lib.hid (C3.out.put s5 (by simp))
                        have RE := Lib.hid (RE.out.grown s5 (by intro e; injection e with e; have := NL.out.2; simp at this; omega))
                        have hS2 : Below U0.heap.size U0 y92 := hSc.grown s5 hSc.size (fun j e => by injection e with e; subst e; exact (NL.out.1 _ (by simp)).1)
                        have NL := Lib.hid (NL.out.le s5.size)
                        have RF := Lib.hid s4
                        clear hSc d0 d1 d2 d3 f0 f1 f2 f3 s4 s5
                        have hSc := hS2
                        clear hS2
                        refine ⟨fun W => Below U0.heap.size U0 W, fun W hW => hW, hSc, ?_⟩
                        try simp only [Act.put, List.setIfInBounds_toArray, List.set_cons_zero, List.set_cons_succ]
                        refine wpAnyH_done (by kernel_rfl) ?_ _
                        go_wp2_with fail
                        go_meet
                        case rel => exact ⟨_, _, rfl, rfl, ⟨_, _, _, _, _, _, _, _, _, _, RE.out, C2.out.mono fun _ _ _ => trivial⟩, ⟨_, _, _, _, _, _, _, _, _, _, RF.out, C3.out.mono fun _ _ _ => trivial⟩, below_both BD.out hSc⟩
                    · skip
                      go_simp
                      have rz := Row.new y83 27 #[.int .u8 0, .slice none 0 0, .slice none 0 0, .slice none 0 0]
                      have bq := bx y83 (.cells #[.int .u8 0, .slice none 0 0, .slice none 0 0, .slice none 0 0] 27)
                      have hz : y83.heap.size < (y83.alloc (.cells #[.int .u8 0, .slice none 0 0, .slice none 0 0, .slice none 0 0] 27)).heap.size := rz.lt
                      generalize y83.alloc (.cells #[.int .u8 0, .slice none 0 0, .slice none 0 0, .slice none 0 0] 27) = y93 at *
                      have C1 := Lib.hid (C1.out.made bq)
                      have RF := Lib.hid (RF.out.below bq RF.out.lt)
                      have NL := Lib.hid (NL.out.new hSc.size hz)
                      have hS2 : Below U0.heap.size U0 y93 := hSc.trans (bq.mono hSc.size)
                      clear hSc
                      have hSc := hS2
                      clear hS2
                      have RE := Lib.hid rz
                      clear rz bq hz
                      refine ⟨fun W => Below U0.heap.size U0 W, fun W hW => hW, hSc, ?_⟩
                      try simp only [Act.put, List.setIfInBounds_toArray, List.set_cons_zero, List.set_cons_succ]
                      refine held_next 6 rfl (by kernel_rfl) (by rfl) ?_
                      go_simp
                      refine (flip_c _ (flp p x M) _ M y _ (TT.out.step hSc) NL.out.all C1.out).mono ?_
                      rw [FJ.out, EQ2.out]
                      rintro e y94 ⟨v', rfl, g, bq⟩
                      obtain ⟨κg, Ag, ng, cg, Bg, mg, dg, Dg, qg, eg, rfl⟩ := g.form
                      have C1 := Lib.hid (C1.out.step bq)
                      have RF := Lib.hid (RF.out.below bq RF.out.lt)
                      have RE := Lib.hid (RE.out.below bq RE.out.lt)
                      have NL := Lib.hid (NL.out.le bq.size)
                      have hS2 : Below U0.heap.size U0 y94 := hSc.trans (bq.mono hSc.size)
                      clear hSc
                      have hSc := hS2
                      clear hS2
                      have C2 := Lib.hid g
                      clear g bq
                      refine ⟨fun W => Below U0.heap.size U0 W, fun W hW => hW, hSc, ?_⟩
                      try simp only [Act.put, List.setIfInBounds_toArray, List.set_cons_zero, List.set_cons_succ]
                      refine held_next 10 rfl (by kernel_rfl) (by rfl) ?_
                      go_simp
                      refine (flip_c _ p q x y _ (TT.out.step hSc) NL.out.all (CD.out.old hSc NL.out)).mono ?_
                      rw [EP.out, EQ2.out]
                      rintro e y95 ⟨v', rfl, g, bq⟩
                      obtain ⟨κh, Ah, nh, ch, Bh, mh, dh, Dh, qh, eh, rfl⟩ := g.form
                      have C1 := Lib.hid (C1.out.step bq)
                      have C2 := Lib.hid (C2.out.step bq)
                      have RF := Lib.hid (RF.out.below bq RF.out.lt)
                      have RE := Lib.hid (RE.out.below bq RE.out.lt)
                      have NL := Lib.hid (NL.out.le bq.size)
                      have hS2 : Below U0.heap.size U0 y95 := hSc.trans (bq.mono hSc.size)
                      clear hSc
                      have hSc := hS2
                      clear hS2
                      have C3 := Lib.hid g
                      clear g bq
                      refine ⟨fun W => Below U0.heap.size U0 W, fun W hW => hW, hSc, ?_⟩
                      try simp only [Act.put, List.setIfInBounds_toArray, List.set_cons_zero, List.set_cons_succ]
                      have d0 : y95.cell? ⟨y83.heap.size, 0, none⟩ = some (.int .u8 0) := RE.out.cell 0
                      have f0 := RE.out.frozen 0
                      have d1 : y95.cell? ⟨y83.heap.size, 1, none⟩ = some (.slice none 0 0) := RE.out.cell 1
                      have f1 := RE.out.frozen 1
                      have d2 : y95.cell? ⟨y83.heap.size, 2, none⟩ = some (.slice none 0 0) := RE.out.cell 2
                      have f2 := RE.out.frozen 2
                      have d3 : y95.cell? ⟨y83.heap.size, 3, none⟩ = some (.slice none 0 0) := RE.out.cell 3
                      have f3 := RE.out.frozen 3
                      refine held_next 13 rfl (by kernel_rfl) (by rfl) ?_
                      go_simp
                      have S4 := set4 (a' := .int .u8 κg) (b' := .slice Ag ng cg) (c' := .slice Bg mg dg) (d' := .slice Dg qg eg) RE.out
                      generalize (((y95.setCell ⟨y83.heap.size, 0, none⟩ (.int .u8 κg)).setCell ⟨y83.heap.size, 1, none⟩ (.slice Ag ng cg)).setCell ⟨y83.heap.size, 2, none⟩ (.slice Bg mg dg)).setCell ⟨y83.heap.size, 3, none⟩ (.slice Dg qg eg) = y96 at *
                      obtain ⟨s4, s5⟩ := S4
                      have C1 := Lib.hid (C1.out.put s5 (by simp))
                      have C2 := Lib.hid (C2.out.put s5 (by simp))
                      have C3 := Lib.hid (C3.out.put s5 (by simp))
                      have RF := Lib.hid (RF.out.grown s5 (by intro e; injection e with e; have := NL.out.2; simp at this; omega))
                      have hS2 : Below U0.heap.size U0 y96 := hSc.grown s5 hSc.size (fun j e => by injection e with e; subst e; exact (NL.out.1 _ (by simp)).1)
                      have NL := Lib.hid (NL.out.le s5.size)
                      have RE := Lib.hid s4
                      clear hSc d0 d1 d2 d3 f0 f1 f2 f3 s4 s5
                      have hSc := hS2
                      clear hS2
                      refine ⟨fun W => Below U0.heap.size U0 W, fun W hW => hW, hSc, ?_⟩
                      try simp only [Act.put, List.setIfInBounds_toArray, List.set_cons_zero, List.set_cons_succ]
                      have d0 : y96.cell? ⟨U0.heap.size, 0, none⟩ = some (.int .u8 0) := RF.out.cell 0
                      have f0 := RF.out.frozen 0
                      have d1 : y96.cell? ⟨U0.heap.size, 1, none⟩ = some (.slice none 0 0) := RF.out.cell 1
                      have f1 := RF.out.frozen 1
                      have d2 : y96.cell? ⟨U0.heap.size, 2, none⟩ = some (.slice none 0 0) := RF.out.cell 2
                      have f2 := RF.out.frozen 2
                      have d3 : y96.cell? ⟨U0.heap.size, 3, none⟩ = some (.slice none 0 0) := RF.out.cell 3
                      have f3 := RF.out.frozen 3
                      refine held_next 14 rfl (by kernel_rfl) (by rfl) ?_
                      go_simp
                      have S4 := set4 (a' := .int .u8 κh) (b' := .slice Ah nh ch) (c' := .slice Bh mh dh) (d' := .slice Dh qh eh) RF.out
                      generalize (((y96.setCell ⟨U0.heap.size, 0, none⟩ (.int .u8 κh)).setCell ⟨U0.heap.size, 1, none⟩ (.slice Ah nh ch)).setCell ⟨U0.heap.size, 2, none⟩ (.slice Bh mh dh)).setCell ⟨U0.heap.size, 3, none⟩ (.slice Dh qh eh) = y97 at *
                      obtain ⟨s4, s5⟩ := S4
                      have C1 := Lib.hid (C1.out.put s5 (by simp))
                      have C2 := Lib.hid (C2.out.put s5 (by simp))
                      have C3 := Lib.hid (C3.out.put s5 (by simp))
                      have RE := Lib.hid (RE.out.grown s5 (by intro e; injection e with e; have := NL.out.2; simp at this; omega))
                      have hS2 : Below U0.heap.size U0 y97 := hSc.grown s5 hSc.size (fun j e => by injection e with e; subst e; exact (NL.out.1 _ (by simp)).1)
                      have NL := Lib.hid (NL.out.le s5.size)
                      have RF := Lib.hid s4
                      clear hSc d0 d1 d2 d3 f0 f1 f2 f3 s4 s5
                      have hSc := hS2
                      clear hS2
                      refine ⟨fun W => Below U0.heap.size U0 W, fun W hW => hW, hSc, ?_⟩
                      try simp only [Act.put, List.setIfInBounds_toArray, List.set_cons_zero, List.set_cons_succ]
                      refine wpAnyH_done (by kernel_rfl) ?_ _
                      go_wp2_with fail
                      go_meet
                      case rel => exact ⟨_, _, rfl, rfl, ⟨_, _, _, _, _, _, _, _, _, _, RE.out, C2.out.mono fun _ _ _ => trivial⟩, ⟨_, _, _, _, _, _, _, _, _, _, RF.out, C3.out.mono fun _ _ _ => trivial⟩, below_both BD.out hSc⟩
                  · skip
                    go_simp
                    have rz := Row.new y82 27 #[.int .u8 0, .slice none 0 0, .slice none 0 0, .slice none 0 0]
                    have bq := bx y82 (.cells #[.int .u8 0, .slice none 0 0, .slice none 0 0, .slice none 0 0] 27)
                    have hz : y82.heap.size < (y82.alloc (.cells #[.int .u8 0, .slice none 0 0, .slice none 0 0, .slice none 0 0] 27)).heap.size := rz.lt
                    generalize y82.alloc (.cells #[.int .u8 0, .slice none 0 0, .slice none 0 0, .slice none 0 0] 27) = y98 at *
                    have RF := Lib.hid (RF.out.below bq RF.out.lt)
                    have NL := Lib.hid (NL.out.new hSc.size hz)
                    have hS2 : Below U0.heap.size U0 y98 := hSc.trans (bq.mono hSc.size)
                    clear hSc
                    have hSc := hS2
                    clear hS2
                    have RE := Lib.hid rz
                    clear rz bq hz
                    refine ⟨fun W => Below U0.heap.size U0 W, fun W hW => hW, hSc, ?_⟩
                    try simp only [Act.put, List.setIfInBounds_toArray, List.set_cons_zero, List.set_cons_succ]
                    refine held_next 3 rfl (by kernel_rfl) (by rfl) ?_
                    go_simp
                    refine (flip_c _ p q x M _ (TT.out.step hSc) NL.out.all (CC.out.old hSc NL.out)).mono ?_
                    rintro e y99 ⟨v', rfl, g, bq⟩
                    obtain ⟨κf, Af, nf, cf, Bf, mf, df, Df, qf, ef, rfl⟩ := g.form
                    have RF := Lib.hid (RF.out.below bq RF.out.lt)
                    have RE := Lib.hid (RE.out.below bq RE.out.lt)
                    have NL := Lib.hid (NL.out.le bq.size)
                    have hS2 : Below U0.heap.size U0 y99 := hSc.trans (bq.mono hSc.size)
                    clear hSc
                    have hSc := hS2
                    clear hS2
                    have C1 := Lib.hid g
                    clear g bq
                    refine ⟨fun W => Below U0.heap.size U0 W, fun W hW => hW, hSc, ?_⟩
                    try simp only [Act.put, List.setIfInBounds_toArray, List.set_cons_zero, List.set_cons_succ]
                    refine held_next 6 rfl (by kernel_rfl) (by rfl) ?_
                    go_simp
                    refine (flip_c _ (flp p x M) _ M y _ (TT.out.step hSc) NL.out.all C1.out).mono ?_
                    rw [FJ.out, EQ2.out]
                    rintro e y100 ⟨v', rfl, g, bq⟩
                    obtain ⟨κg, Ag, ng, cg, Bg, mg, dg, Dg, qg, eg, rfl⟩ := g.form
                    have C1 := Lib.hid (C1.out.step bq)
                    have RF := Lib.hid (RF.out.below bq RF.out.lt)
                    have RE := Lib.hid (RE.out.below bq RE.out.lt)
                    have NL := Lib.hid (NL.out.le bq.size)
                    have hS2 : Below U0.heap.size U0 y100 := hSc.trans (bq.mono hSc.size)
                    clear hSc
                    have hSc := hS2
                    clear hS2
                    have C2 := Lib.hid g
                    clear g bq
                    refine ⟨fun W => Below U0.heap.size U0 W, fun W hW => hW, hSc, ?_⟩
                    try simp only [Act.put, List.setIfInBounds_toArray, List.set_cons_zero, List.set_cons_succ]
                    refine held_next 10 rfl (by kernel_rfl) (by rfl) ?_
                    go_simp
                    refine (flip_c _ p q x y _ (TT.out.step hSc) NL.out.all (CD.out.old hSc NL.out)).mono ?_
                    rw [EP.out, EQ2.out]
                    rintro e y101 ⟨v', rfl, g, bq⟩
                    obtain ⟨κh, Ah, nh, ch, Bh, mh, dh, Dh, qh, eh, rfl⟩ := g.form
                    have C1 := Lib.hid (C1.out.step bq)
                    have C2 := Lib.hid (C2.out.step bq)
                    have RF := Lib.hid (RF.out.below bq RF.out.lt)
                    have RE := Lib.hid (RE.out.below bq RE.out.lt)
                    have NL := Lib.hid (NL.out.le bq.size)
                    have hS2 : Below U0.heap.size U0 y101 := hSc.trans (bq.mono hSc.size)
                    clear hSc
                    have hSc := hS2
                    clear hS2
                    have C3 := Lib.hid g
                    clear g bq
                    refine ⟨fun W => Below U0.heap.size U0 W, fun W hW => hW, hSc, ?_⟩
                    try simp only [Act.put, List.setIfInBounds_toArray, List.set_cons_zero, List.set_cons_succ]
                    have d0 : y101.cell? ⟨y82.heap.size, 0, none⟩ = some (.int .u8 0) := RE.out.cell 0
                    have f0 := RE.out.frozen 0
                    have d1 : y101.cell? ⟨y82.heap.size, 1, none⟩ = some (.slice none 0 0) := RE.out.cell 1
                    have f1 := RE.out.frozen 1
                    have d2 : y101.cell? ⟨y82.heap.size, 2, none⟩ = some (.slice none 0 0) := RE.out.cell 2
                    have f2 := RE.out.frozen 2
                    have d3 : y101.cell? ⟨y82.heap.size, 3, none⟩ = some (.slice none 0 0) := RE.out.cell 3
                    have f3 := RE.out.frozen 3
                    refine held_next 13 rfl (by kernel_rfl) (by rfl) ?_
                    go_simp
                    have S4 := set4 (a' := .int .u8 κg) (b' := .slice Ag ng cg) (c' := .slice Bg mg dg) (d' := .slice Dg qg eg) RE.out
                    generalize (((y101.setCell ⟨y82.heap.size, 0, none⟩ (.int .u8 κg)).setCell ⟨y82.heap.size, 1, none⟩ (.slice Ag ng cg)).setCell ⟨y82.heap.size, 2, none⟩ (.slice Bg mg dg)).setCell ⟨y82.heap.size, 3, none⟩ (.slice Dg qg eg) = y102 at *
                    obtain ⟨s4, s5⟩ := S4
                    have C1 := Lib.hid (C1.out.put s5 (by simp))
                    have C2 := Lib.hid (C2.out.put s5 (by simp))
                    have C3 := Lib.hid (C3.out.put s5 (by simp))
                    have RF := Lib.hid (RF.out.grown s5 (by intro e; injection e with e; have := NL.out.2; simp at this; omega))
                    have hS2 : Below U0.heap.size U0 y102 := hSc.grown s5 hSc.size (fun j e => by injection e with e; subst e; exact (NL.out.1 _ (by simp)).1)
                    have NL := Lib.hid (NL.out.le s5.size)
                    have RE := Lib.hid s4
                    clear hSc d0 d1 d2 d3 f0 f1 f2 f3 s4 s5
                    have hSc := hS2
                    clear hS2
                    refine ⟨fun W => Below U0.heap.size U0 W, fun W hW => hW, hSc, ?_⟩
                    try simp only [Act.put, List.setIfInBounds_toArray, List.set_cons_zero, List.set_cons_succ]
                    have d0 : y102.cell? ⟨U0.heap.size, 0, none⟩ = some (.int .u8 0) := RF.out.cell 0
                    have f0 := RF.out.frozen 0
                    have d1 : y102.cell? ⟨U0.heap.size, 1, none⟩ = some (.slice none 0 0) := RF.out.cell 1
                    have f1 := RF.out.frozen 1
                    have d2 : y102.cell? ⟨U0.heap.size, 2, none⟩ = some (.slice none 0 0) := RF.out.cell 2
                    have f2 := RF.out.frozen 2
                    have d3 : y102.cell? ⟨U0.heap.size, 3, none⟩ = some (.slice none 0 0) := RF.out.cell 3
                    have f3 := RF.out.frozen 3
                    refine held_next 14 rfl (by kernel_rfl) (by rfl) ?_
                    go_simp
                    have S4 := set4 (a' := .int .u8 κh) (b' := .slice Ah nh ch) (c' := .slice Bh mh dh) (d' := .slice Dh qh eh) RF.out
                    generalize (((y102.setCell ⟨U0.heap.size, 0, none⟩ (.int .u8 κh)).setCell ⟨U0.heap.size, 1, none⟩ (.slice Ah nh ch)).setCell ⟨U0.heap.size, 2, none⟩ (.slice Bh mh dh)).setCell ⟨U0.heap.size, 3, none⟩ (.slice Dh qh eh) = y103 at *
                    obtain ⟨s4, s5⟩ := S4
                    have C1 := Lib.hid (C1.out.put s5 (by simp))
                    have C2 := Lib.hid (C2.out.put s5 (by simp))
                    have C3 := Lib.hid (C3.out.put s5 (by simp))
                    have RE := Lib.hid (RE.out.grown s5 (by intro e; injection e with e; have := NL.out.2; simp at this; omega))
                    have hS2 : Below U0.heap.size U0 y103 := hSc.grown s5 hSc.size (fun j e => by injection e with e; subst e; exact (NL.out.1 _ (by simp)).1)
                    have NL := Lib.hid (NL.out.le s5.size)
                    have RF := Lib.hid s4
                    clear hSc d0 d1 d2 d3 f0 f1 f2 f3 s4 s5
                    have hSc := hS2
                    clear hS2
                    refine ⟨fun W => Below U0.heap.size U0 W, fun W hW => hW, hSc, ?_⟩
                    try simp only [Act.put, List.setIfInBounds_toArray, List.set_cons_zero, List.set_cons_succ]
                    refine wpAnyH_done (by kernel_rfl) ?_ _
                    go_wp2_with fail
                    go_meet
                    case rel => exact ⟨_, _, rfl, rfl, ⟨_, _, _, _, _, _, _, _, _, _, RE.out, C2.out.mono fun _ _ _ => trivial⟩, ⟨_, _, _, _, _, _, _, _, _, _, RF.out, C3.out.mono fun _ _ _ => trivial⟩, below_both BD.out hSc⟩
              case rest =>
                obtain ⟨ge, gf, rfl, rfl, ⟨κu, Au, nu, cu, Bu, mu, du, Du, qu, eu, hre, hce⟩, ⟨κv, Av, nv, cv, Bv, mv, dv, Dv, qv, ev, hrf, hcf⟩, bd⟩ := hcut
                have RC := Lib.hid (RC.out.below bd RC.out.lt)
                have CC := Lib.hid (CC.out.step bd)
                have TT := Lib.hid (TT.out.step bd)
                have BB := Lib.hid (below_both BB.out bd)
                have CD := Lib.hid (CD.out.step bd)
                have RD := Lib.hid (RD.out.below bd RD.out.lt)
                have RE := Lib.hid hre
                have RF := Lib.hid hrf
                have CE := Lib.hid hce
                have CF := Lib.hid hcf
                clear hre hrf hce hcf bd RC RD CC CD
                obtain ⟨mm, hmm⟩ : ∃ m, ct P 65536 = m := ⟨_, rfl⟩
                have EM2 := Lib.hid hmm
                clear hmm
                have K0 : Hid (∀ W, Below wc.heap.size wc W → W.cell? ⟨ge, 0, none⟩ = some (.int .u8 κu) ∧ W.cell? ⟨ge, 1, none⟩ = some (.slice Au nu cu) ∧ W.cell? ⟨ge, 2, none⟩ = some (.slice Bu mu du) ∧ W.cell? ⟨ge, 3, none⟩ = some (.slice Du qu eu)) := Lib.hid fun W hW => by
                  have r := RE.out.below hW RE.out.lt
                  exact ⟨r.cell 0, r.cell 1, r.cell 2, r.cell 3⟩
                have K1 : Hid (∀ W, Below wc.heap.size wc W → W.cell? ⟨gf, 0, none⟩ = some (.int .u8 κv) ∧ W.cell? ⟨gf, 1, none⟩ = some (.slice Av nv cv) ∧ W.cell? ⟨gf, 2, none⟩ = some (.slice Bv mv dv) ∧ W.cell? ⟨gf, 3, none⟩ = some (.slice Dv qv ev)) := Lib.hid fun W hW => by
                  have r := RF.out.below hW RF.out.lt
                  exact ⟨r.cell 0, r.cell 1, r.cell 2, r.cell 3⟩
                have hSc : Below wc.heap.size wc wc.drew := (Below.refl wc.heap.size wc).drew
                go_wp2_with fail
                refine wp_region_held_drew (S := fun W => Below wc.heap.size wc W) (by kernel_rfl) hSc (fun _ => ?_)
                refine held_take 0 ?_ rfl (by kernel_rfl) (by kernel_rfl) (by kernel_rfl) (fun _ _ _ h => h) (by rfl) ?_ hSc ?_
                rotate_left
                · (intro W hSW; obtain ⟨k0, k1, k2, k3⟩ := K0.out W hSW; go_simp; try rfl)
                try simp only [Act.put, List.setIfInBounds_toArray, List.set_cons_zero, List.set_cons_succ]
                refine held_take 2 ?_ rfl (by kernel_rfl) (by kernel_rfl) (by kernel_rfl) (fun _ _ _ h => h) (by rfl) ?_ hSc ?_
                rotate_left
                · (intro W hSW; obtain ⟨k0, k1, k2, k3⟩ := K1.out W hSW; go_simp; try rfl)
                try simp only [Act.put, List.setIfInBounds_toArray, List.set_cons_zero, List.set_cons_succ]
                refine held_next 1 rfl (by kernel_rfl) (by rfl) ?_
                go_simp
                refine (kind_c _ P Q _ (CE.out.step hSc)).mono ?_
                rintro e wq21 ⟨rfl, bq⟩
                have hbq : Below wc.heap.size wc wq21 := hSc.trans (bq.mono hSc.size)
                refine ⟨fun W => Below wc.heap.size wc W, fun W hW => hW, hbq, ?_⟩
                clear hSc bq
                have hSc : Below wc.heap.size wc wq21 := hbq
                clear hbq
                try simp only [Act.put, List.setIfInBounds_toArray, List.set_cons_zero, List.set_cons_succ]
                refine held_next 3 rfl (by kernel_rfl) (by rfl) ?_
                go_simp
                refine (kind_c _ P Q _ (CF.out.step hSc)).mono ?_
                rintro e wq22 ⟨rfl, bq⟩
                have hbq : Below wc.heap.size wc wq22 := hSc.trans (bq.mono hSc.size)
                refine ⟨fun W => Below wc.heap.size wc W, fun W hW => hW, hbq, ?_⟩
                clear hSc bq
                have hSc : Below wc.heap.size wc wq22 := hbq
                clear hbq
                try simp only [Act.put, List.setIfInBounds_toArray, List.set_cons_zero, List.set_cons_succ]
                refine held_take 4 ?_ rfl (by kernel_rfl) (by kernel_rfl) (by kernel_rfl) (fun _ _ _ h => h) (by rfl) ?_ hSc ?_
                rotate_left
                · (intro W hSW; go_simp; try rfl)
                try simp only [Act.put, List.setIfInBounds_toArray, List.set_cons_zero, List.set_cons_succ]
                refine held_take 5 ?_ rfl (by kernel_rfl) (by kernel_rfl) (by kernel_rfl) (fun _ _ _ h => h) (by rfl) ?_ hSc ?_
                rotate_left
                · (intro W hSW; go_simp; try rfl)
                try simp only [Act.put, List.setIfInBounds_toArray, List.set_cons_zero, List.set_cons_succ]
                refine held_take 6 ?_ rfl (by kernel_rfl) (by kernel_rfl) (by kernel_rfl) (fun _ _ _ h => h) (by rfl) ?_ hSc ?_
                rotate_left
                · (intro W hSW; obtain ⟨k0, k1, k2, k3⟩ := K0.out W hSW; go_simp; try rfl)
                try simp only [Act.put, List.setIfInBounds_toArray, List.set_cons_zero, List.set_cons_succ]
                refine held_take 8 ?_ rfl (by kernel_rfl) (by kernel_rfl) (by kernel_rfl) (fun _ _ _ h => h) (by rfl) ?_ hSc ?_
                rotate_left
                · (intro W hSW; obtain ⟨k0, k1, k2, k3⟩ := K1.out W hSW; go_simp; try rfl)
                try simp only [Act.put, List.setIfInBounds_toArray, List.set_cons_zero, List.set_cons_succ]
                refine held_next 7 rfl (by kernel_rfl) (by rfl) ?_
                go_simp
                refine (array_c _ P Q mm _ (TT.out.step hSc) EM2.out (CE.out.step hSc)).mono ?_
                rintro e wq23 ⟨X3, x3, rfl, gq, bq⟩
                have hbq : Below wc.heap.size wc wq23 := hSc.trans (bq.mono hSc.size)
                refine ⟨fun W => Below wc.heap.size wc W, fun W hW => hW, hbq, ?_⟩
                have G3 := Lib.hid gq
                clear gq
                clear hSc bq
                have hSc : Below wc.heap.size wc wq23 := hbq
                clear hbq
                try simp only [Act.put, List.setIfInBounds_toArray, List.set_cons_zero, List.set_cons_succ]
                refine held_next 9 rfl (by kernel_rfl) (by rfl) ?_
                go_simp
                refine (array_c _ P Q mm _ (TT.out.step hSc) EM2.out (CF.out.step hSc)).mono ?_
                rintro e wq24 ⟨X4, x4, rfl, gq, bq⟩
                have hbq : Below wc.heap.size wc wq24 := hSc.trans (bq.mono hSc.size)
                refine ⟨fun W => Below wc.heap.size wc W, fun W hW => hW, hbq, ?_⟩
                have G4 := Lib.hid gq
                clear gq
                have G3 := Lib.hid (G3.out.stp bq)
                clear hSc bq
                have hSc : Below wc.heap.size wc wq24 := hbq
                clear hbq
                try simp only [Act.put, List.setIfInBounds_toArray, List.set_cons_zero, List.set_cons_succ]
                refine held_next 10 rfl (by kernel_rfl) (by rfl) ?_
                go_simp
                refine (same16_p _ _ _ _ _ (G3.out.more (Nat.zero_le _) (Nat.le_refl _)) (G4.out.more (Nat.zero_le _) (Nat.le_refl _)) rfl).mono ?_
                rintro e wq25 ⟨rfl, bq⟩
                have hbq : Below wc.heap.size wc wq25 := hSc.trans (bq.mono hSc.size)
                refine ⟨fun W => Below wc.heap.size wc W, fun W hW => hW, hbq, ?_⟩
                clear hSc bq
                have hSc : Below wc.heap.size wc wq25 := hbq
                clear hbq
                try simp only [Act.put, List.setIfInBounds_toArray, List.set_cons_zero, List.set_cons_succ]
                refine held_take 11 ?_ rfl (by kernel_rfl) (by kernel_rfl) (by kernel_rfl) (fun _ _ _ h => h) (by rfl) ?_ hSc ?_
                rotate_left
                · (intro W hSW; go_simp; try rfl)
                try simp only [Act.put, List.setIfInBounds_toArray, List.set_cons_zero, List.set_cons_succ]
                refine held_take 12 ?_ rfl (by kernel_rfl) (by kernel_rfl) (by kernel_rfl) (fun _ _ _ h => h) (by rfl) ?_ hSc ?_
                rotate_left
                · (intro W hSW; go_simp; try rfl)
                try simp only [Act.put, List.setIfInBounds_toArray, List.set_cons_zero, List.set_cons_succ]
                refine held_next 13 rfl (by kernel_rfl) (by rfl) ?_
                go_simp
                refine (known_any _ (TT.out.step hSc)).mono ?_
                rintro e wq26 ⟨rfl, bq⟩
                have hbq : Below wc.heap.size wc wq26 := hSc.trans (bq.mono hSc.size)
                refine ⟨fun W => Below wc.heap.size wc W, fun W hW => hW, hbq, ?_⟩
                clear hSc bq
                have hSc : Below wc.heap.size wc wq26 := hbq
                clear hbq
                try simp only [Act.put, List.setIfInBounds_toArray, List.set_cons_zero, List.set_cons_succ]
                refine held_take 14 ?_ rfl (by kernel_rfl) (by kernel_rfl) (by kernel_rfl) (fun _ _ _ h => h) (by rfl) ?_ hSc ?_
                rotate_left
                · (intro W hSW; go_simp; try rfl)
                try simp only [Act.put, List.setIfInBounds_toArray, List.set_cons_zero, List.set_cons_succ]
                refine held_next 15 rfl (by kernel_rfl) (by rfl) ?_
                go_simp
                refine ⟨fun W => Below wc.heap.size wc W, fun W hW => hW, hSc, ?_⟩
                refine wpAnyH_done (by kernel_rfl) ?_ _
                go_wp2
                go_ret
                exact ⟨rfl, below_both BB.out hSc⟩
end Go.Proofs.YtfefmlnlicilbaaDoor
