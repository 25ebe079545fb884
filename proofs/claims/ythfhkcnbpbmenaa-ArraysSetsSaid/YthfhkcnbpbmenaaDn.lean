/- Walks: the law ArraysSets, of arrays. -/
import Derived.Test.YthfhkcnbpbmenaaDm
namespace Go.Proofs.Ythfhkcnbpbmenaa
open Go.RowKit
set_option linter.unusedVariables false

set_option maxHeartbeats 4000000 in
set_option maxRecDepth 100000 in
theorem sets_good (v u : Value) (l m : List UInt16) (xn : Nat) (x : UInt16) (hX : (xn : Int) = x.toNat) (w : World) (hv : Gs e16 w 0 w.heap.size v l) (hu : Gs e16 w 0 w.heap.size u m) (h : l.length ≤ 3000) (h' : m.length ≤ 3000) (hr : ris l = true) (hr2 : ris m = true) :
    Calls Try.prog 3 #[v, u, .int .u16 xn] w fun e w' => e = .returned (.bool true) ∧ Below w.heap.size w w' := by
  have HX := Lib.hid hX
  have HV := Lib.hid hv
  have HU := Lib.hid hu
  have HVa := Lib.hid hv
  have HUa := Lib.hid hu
  obtain ⟨A, c, rfl, -⟩ := hv
  obtain ⟨A0, c0, rfl, -⟩ := hu
  have hi : (l.length : Int) ≤ 3000 := by omega
  have hi' : (m.length : Int) ≤ 3000 := by omega
  have hq1 : decide ((3000 : Int) < l.length) = false := decide_eq_false (by omega)
  have hq2 : decide ((3000 : Int) < m.length) = false := decide_eq_false (by omega)
  clear h h' hX
  go_enter Try.func3, Try.ntmps3
  go_wp2_with (first
    | (at_builtin; refine wpList_gapp e16 _ rfl _ _ _ rfl w.heap.size sli16 inf16 _ [] rfl (Gw.empty_ _ _ (Nat.le_refl _)) 0 w.heap.size _ l rfl (HVa.out.alloc (Nat.le_refl _) _) (by simp; omega) (by simp) ?_; intro v2 w2 o2 g2 hj; clear HVa hj; rw [List.nil_append] at o2; obtain ⟨A2, c2, rfl, -⟩ := o2.sl; have O2 := Lib.hid o2; have B2 := Lib.hid (((Below.refl _ _).alloc (Nat.le_refl _) _).grown g2 (by simp) (fun k h => by injection h with h; subst h; exact Nat.le_refl _) : Below w.heap.size w w2); clear o2 g2)
    | (at_builtin; refine wpList_gapp e16 _ rfl _ _ _ rfl w2.heap.size sli16 inf16 _ [] rfl (Gw.empty_ _ _ (Nat.le_refl _)) 0 w.heap.size _ m rfl ((HUa.out.below B2.out).alloc B2.out.size _) (by simp; omega) (by simp) ?_; intro v3 w3 o3 g3 hj; clear HUa hj; rw [List.nil_append] at o3; obtain ⟨A3, c3, rfl, -⟩ := o3.sl; have O3 := Lib.hid o3; have B3 := Lib.hid (((Below.refl _ _).alloc (Nat.le_refl _) _).grown g3 (by simp) (fun k h => by injection h with h; subst h; exact Nat.le_refl _) : Below w2.heap.size w2 w3); clear o3 g3))
  have C3 := Lib.hid (B2.out.trans (B3.out.mono B2.out.size))
  have I3 := Lib.hid ((O2.out.below B3.out (Nat.le_refl _)).sl.more (Nat.zero_le _) (Nat.le_refl _))
  have A3' := Lib.hid (O3.out.sl.more (Nat.zero_le _) (Nat.le_refl _))
  have a3 := Lib.hid ((HV.out.below C3.out).more (Nat.le_refl _) C3.out.size)
  have b3 := Lib.hid ((HU.out.below C3.out).more (Nat.le_refl _) C3.out.size)
  have N3 := Lib.hid C3.out.size
  clear B2 B3 O2 O3
  refine (may_b _ l 0 _ _ I3.out).mono ?_
  rintro e w4 ⟨rfl, b4⟩
  rw [hr]
  have D4 := Lib.hid b4
  clear b4
  go_wp2_with fail
  refine (refMay_b _ l 0 w3.heap.size _ (a3.out.below D4.out)).mono ?_
  rintro e w5 ⟨rfl, b5⟩
  rw [hr]
  have D5 := Lib.hid (D4.out.trans (b5.mono D4.out.size))
  clear b5 D4
  go_wp2_with fail
  refine (calls_any _ _ l m _ ((I3.out.below D5.out).more (Nat.le_refl _) D5.out.size) ((A3'.out.below D5.out).more (Nat.le_refl _) D5.out.size) (by omega) (by omega)).mono ?_
  rintro e w6 ⟨x1, x2, x3, x4, rfl, f6, b6⟩
  obtain ⟨Ax1, cx1, rfl, -⟩ := f6.gs.1
  obtain ⟨Ax2, cx2, rfl, -⟩ := f6.gs.2.1
  obtain ⟨Ax3, cx3, rfl, -⟩ := f6.gs.2.2.1
  obtain ⟨Ax4, cx4, rfl, -⟩ := f6.gs.2.2.2
  obtain ⟨bs4, sl, hs1, hs2, hs3, hs4, hm0, hm1, hm2, rem6, hm3⟩ := f6.fn
  have HS1 := Lib.hid hs1
  have HS2 := Lib.hid hs2
  have HS3 := Lib.hid hs3
  have HS4 := Lib.hid hs4
  have D6 := Lib.hid (D5.out.trans (b6.mono D5.out.size))
  have hm4 : w3.heap.size ≤ bs4 0 := Nat.le_trans D5.out.size hm1
  have HM0 := Lib.hid hm0
  have HM2 := Lib.hid hm2
  have HM3 := Lib.hid hm3
  have HM4 := Lib.hid hm4
  have E6 := Lib.hid rem6
  clear b6 D5 hm0 hm1 hm2 hm3 hm4 rem6 f6 hs1 hs2 hs3 hs4
  go_wp2_with fail
  have R7 := Lib.hid (Row.new w6 26 #[.slice Ax1 (mg fAnd l m).length cx1, .slice Ax2 (mg fOr l m).length cx2, .slice Ax3 (mg fNot l m).length cx3, .slice Ax4 (mg fXor l m).length cx4])
  have D7 := Lib.hid (D6.out.alloc D6.out.size (.cells #[.slice Ax1 (mg fAnd l m).length cx1, .slice Ax2 (mg fOr l m).length cx2, .slice Ax3 (mg fNot l m).length cx3, .slice Ax4 (mg fXor l m).length cx4] 26))
  have E7 := Lib.hid (E6.out.below ((Below.refl w6.heap.size w6).alloc (Nat.le_refl _) (.cells #[.slice Ax1 (mg fAnd l m).length cx1, .slice Ax2 (mg fOr l m).length cx2, .slice Ax3 (mg fNot l m).length cx3, .slice Ax4 (mg fXor l m).length cx4] 26)))
  have G7 := Lib.hid (show w6.heap.size < (w6.alloc (.cells #[.slice Ax1 (mg fAnd l m).length cx1, .slice Ax2 (mg fOr l m).length cx2, .slice Ax3 (mg fNot l m).length cx3, .slice Ax4 (mg fXor l m).length cx4] 26)).heap.size by simp)
  have G6 := Lib.hid D6.out.size
  generalize w6.alloc (.cells #[.slice Ax1 (mg fAnd l m).length cx1, .slice Ax2 (mg fOr l m).length cx2, .slice Ax3 (mg fNot l m).length cx3, .slice Ax4 (mg fXor l m).length cx4] 26) = w7 at *
  clear E6 D6
  rw [← HS1.out, ← HS2.out, ← HS3.out, ← HS4.out] at R7
  clear HS1 HS2 HS3 HS4
  obtain ⟨g, hg⟩ : ∃ g, g = w6.heap.size := ⟨_, rfl⟩
  rw [← hg] at R7 G7 G6 HM2 ⊢
  clear hg
  refine (find_b _ l 0 w3.heap.size _ x HX.out _ (I3.out.below D7.out) (by omega)).mono ?_
  rintro e w8 ⟨rfl, b8⟩
  have D8 := Lib.hid (D7.out.trans (b8.mono D7.out.size))
  have R8 := Lib.hid (R7.out.below b8 R7.out.lt)
  have E8 := Lib.hid (E7.out.below b8)
  have G8 := Lib.hid (Nat.lt_of_lt_of_le G7.out b8.size)
  clear b8 D7 R7 E7 G7
  go_wp2_with fail
  refine (with_any _ l 0 _ x HX.out _ ((I3.out.below D8.out).more (Nat.le_refl _) D8.out.size) (by omega)).mono ?_
  rintro e w9 ⟨v9, rfl, o9, b9⟩
  obtain ⟨A9, c9, rfl, -⟩ := o9.sl
  have O9 := Lib.hid o9
  have HO9 := Lib.hid o9.lt
  have D9 := Lib.hid (D8.out.trans (b9.mono D8.out.size))
  have R9 := Lib.hid (R8.out.below b9 R8.out.lt)
  have E9 := Lib.hid (E8.out.below b9)
  have G9 := Lib.hid b9.size
  clear b9 o9 D8 R8 E8
  go_wp2_with fail
  refine (runs_b _ l 0 w3.heap.size _ (I3.out.below D9.out) (by omega)).mono ?_
  rintro e w10 ⟨rfl, b10⟩
  have D10 := Lib.hid (D9.out.trans (b10.mono D9.out.size))
  have R10 := Lib.hid (R9.out.below b10 R9.out.lt)
  have E10 := Lib.hid (E9.out.below b10)
  have O10 := Lib.hid (O9.out.below b10 (Nat.le_refl _))
  have G10 := Lib.hid (Nat.le_trans G9.out b10.size)
  have K10 := Lib.hid b10.size
  clear b10 D9 R9 E9 G9 O9
  go_wp2_with fail
  refine (refMay_b _ l 0 w3.heap.size _ (a3.out.below D10.out)).mono ?_
  rintro e w11 ⟨rfl, b11⟩
  rw [hr]
  have D11 := Lib.hid (D10.out.trans (b11.mono D10.out.size))
  have R11 := Lib.hid (R10.out.below b11 R10.out.lt)
  have E11 := Lib.hid (E10.out.below b11)
  have O11 := Lib.hid (O10.out.below b11 (Nat.le_refl _))
  have G11 := Lib.hid (Nat.le_trans G10.out b11.size)
  have K11 := Lib.hid (Nat.le_trans K10.out b11.size)
  clear b11 D10 R10 E10 G10 O10
  go_wp2_with fail
  refine (refMay_b _ m 0 w3.heap.size _ (b3.out.below D11.out)).mono ?_
  rintro e w12 ⟨rfl, b12⟩
  rw [hr2]
  have D12 := Lib.hid (D11.out.trans (b12.mono D11.out.size))
  have R12 := Lib.hid (R11.out.below b12 R11.out.lt)
  have E12 := Lib.hid (E11.out.below b12)
  have O12 := Lib.hid (O11.out.below b12 (Nat.le_refl _))
  have G12 := Lib.hid (Nat.le_trans G11.out b12.size)
  have K12 := Lib.hid (Nat.le_trans K11.out b12.size)
  clear b12 D11 R11 E11 G11 O11
  go_wp2_with fail
  refine (of_any _ l 0 _ ((a3.out.below D12.out).more (Nat.le_refl _) D12.out.size) (by omega)).mono ?_
  rintro e w13 ⟨rfl, r13, b13⟩
  have D13 := Lib.hid (D12.out.trans (b13.mono D12.out.size))
  have R13 := Lib.hid (R12.out.below b13 R12.out.lt)
  have E13 := Lib.hid (E12.out.below b13)
  have O13 := Lib.hid (O12.out.below b13 (Nat.le_refl _))
  have M13 := Lib.hid r13
  clear b13 r13 D12 R12 E12 O12
  go_wp2_with fail
  refine (of_any _ m 0 _ ((b3.out.below D13.out).more (Nat.le_refl _) D13.out.size) (by omega)).mono ?_
  rintro e w14 ⟨rfl, r14, b14⟩
  have S14 := Lib.hid (show St w w3.heap.size g w8.heap.size w12.heap.size w13.heap.size (.slice A2 l.length c2) (.slice A3 m.length c3) (.slice A l.length c) (.slice A0 m.length c0) (.slice A9 (wi l x).length c9) l m (wi l x) sl w14 from by
    have D14 := D13.out.trans (b14.mono D13.out.size)
    have h1 := G12.out
    have h2 := G8.out
    have h3 := M13.out.lt
    exact ⟨I3.out.below D14, A3'.out.below D14, a3.out.below D14, b3.out.below D14, R13.out.below b14 R13.out.lt, M13.out.below b14 M13.out.lt, r14, O13.out.below b14 (Nat.le_refl _), C3.out.trans (D14.mono N3.out), N3.out, G6.out, h2, by omega, by omega, h1, h3⟩)
  have E14 := Lib.hid (E13.out.below b14)
  have HW := Lib.hid (show ∀ k, (Value.slice A9 (wi l x).length c9).ownBlock = some k → w8.heap.size ≤ k ∧ k < w12.heap.size from fun k hk => ⟨(HO9.out k hk).1, Nat.lt_of_lt_of_le (HO9.out k hk).2 K12.out⟩)
  have LC := Lib.hid (show ∀ k, ls (fun j => fs k (mk l j) (mk m j)) 65536 = mg (fs k) l m from fun k => (ls_mg (fs k) (fs_ff k) hr hr2).symm)
  have HRN := Lib.hid (rn_ls hr)
  have HBS := Lib.hid (bs_ls hr x)
  have HFD := Lib.hid (show fd l x = mk l x.toNat from by rw [fd_mem hr, mk_dec])
  have HLW := Lib.hid (show ls (fun i => if i = x.toNat then true else mk l i) 65536 = wi l x from by
    rw [ls_wi hr]
    congr 1
    funext i
    by_cases hx : i = x.toNat <;> simp [hx])
  have hx2 := x.toNat_lt
  have hxn : xn = x.toNat := by have := HX.out; omega
  rw [← hxn] at HBS HFD HLW
  have HX2 := Lib.hid (show xn < 65536 by omega)
  have hX2 : (xn : Int) < 65536 := by omega
  have hwl : (wi l x).length ≤ 3001 := by rw [wi_len]; split <;> omega
  clear b14 r14 D13 R13 E13 O13 M13 I3 A3' a3 b3 G6 G8 G12 HO9 K12 K10 K11 N3 C3 HV HU hx2 hxn HX
  generalize w3.heap.size = N3 at *
  generalize w8.heap.size = N8 at *
  generalize w12.heap.size = gm at *
  generalize w13.heap.size = gO at *
  obtain ⟨L, hL⟩ : ∃ L : Nat → List UInt16, L = fun i => mg (fs i) l m := ⟨_, rfl⟩
  have hLk : ∀ k, mg (fs k) l m = L k := fun k => by rw [hL]
  have HLL := Lib.hid (show ∀ k, (L k).length ≤ 6000 from fun k => by rw [← hLk]; have := mg_le (fs k) l m; omega)
  rw [← hL] at E14
  simp only [hLk] at LC
  clear hL hLk
  obtain ⟨Z, hZ⟩ : ∃ Z, Z = wi l x := ⟨_, rfl⟩
  rw [← hZ] at S14 HW HLW hwl ⊢
  clear hZ
  go_wp2
  go_loopw [66] (fun i wr => ∃ k : Nat, k ≤ 4 ∧ i = .int .i64 k ∧ St w N3 g N8 gm gO (.slice A2 l.length c2) (.slice A3 m.length c3) (.slice A l.length c) (.slice A0 m.length c0) (.slice A9 Z.length c9) l m Z sl wr ∧ Rem bs4 sl L k wr) (fun i _ => ((4 : Int) - intOf i).toNat)
  case atStart => exact ⟨0, by omega, rfl, S14.out, E14.out⟩
  case round =>
    obtain ⟨k, hk, rfl, hst, hrem⟩ := hrel
    have HST := Lib.hid hst
    by_cases hlt : k < 4
    · have HREM := Lib.hid hrem
      have hg := hrem k (Nat.le_refl _) hlt
      obtain ⟨Ak, ck, hsl, -⟩ := hg.sl
      obtain ⟨n, hn⟩ : ∃ n, n = (L k).length := ⟨_, rfl⟩
      rw [← hn] at hsl
      have hni : (n : Int) ≤ 6000 := by have := HLL.out k; omega
      have HN := Lib.hid hn
      have HSL := Lib.hid hsl
      have KK := Lib.hid (show ∀ W, Below wr.heap.size wr W → W.cell? ⟨g, k, none⟩ = some (.slice Ak n ck) from fun W hW => (hW.cell hst.R.lt).trans (by rw [hst.R.cell k, arr4 sl hlt, hsl]))
      have cg := KK.out wr (Below.refl _ _)
      have hgm := hst.RM.lt
      have hgO := hst.RO.lt
      have HGM := Lib.hid hgm
      have HGO := Lib.hid hgO
      have HK := Lib.hid hlt
      have hki : (k : Int) < 4 := by omega
      have hwk : IntKind.i64.wrap ((k : Int) + 1) = (k : Int) + 1 := by rw [IntKind.wrap_i64]; omega
      have hSc : Below wr.heap.size wr wr.drew := (Below.refl wr.heap.size wr).drew
      clear hst hrem hg hn hsl hgm hgO hlt hk cg
      go_wp2_with fail
      refine wp_region_held_drew (S := fun W => Below wr.heap.size wr W) (by kernel_rfl) hSc (fun _ => ?_)
      refine held_take 0 ?_ rfl (by kernel_rfl) (by kernel_rfl) (by kernel_rfl) (fun _ _ _ h => h) (by rfl) ?_ hSc ?_
      rotate_left
      · (intro W hSW; go_simp; try rfl)
      try simp only [Act.put, List.setIfInBounds_toArray, List.set_cons_zero, List.set_cons_succ]
      refine held_take 1 ?_ rfl (by kernel_rfl) (by kernel_rfl) (by kernel_rfl) (fun _ _ _ h => h) (by rfl) ?_ hSc ?_
      rotate_left
      · (intro W hSW; go_simp; try rfl)
      try simp only [Act.put, List.setIfInBounds_toArray, List.set_cons_zero, List.set_cons_succ]
      refine held_take 2 ?_ rfl (by kernel_rfl) (by kernel_rfl) (by kernel_rfl) (fun _ _ _ h => h) (by rfl) ?_ hSc ?_
      rotate_left
      · (intro W hSW; have cv := KK.out W hSW; go_simp; try rfl)
      try simp only [Act.put, List.setIfInBounds_toArray, List.set_cons_zero, List.set_cons_succ]
      refine held_take 3 ?_ rfl (by kernel_rfl) (by kernel_rfl) (by kernel_rfl) (fun _ _ _ h => h) (by rfl) ?_ hSc ?_
      rotate_left
      · (intro W hSW; go_simp; try rfl)
      try simp only [Act.put, List.setIfInBounds_toArray, List.set_cons_zero, List.set_cons_succ]
      refine held_take 4 ?_ rfl (by kernel_rfl) (by kernel_rfl) (by kernel_rfl) (fun _ _ _ h => h) (by rfl) ?_ hSc ?_
      rotate_left
      · (intro W hSW; go_simp; try rfl)
      try simp only [Act.put, List.setIfInBounds_toArray, List.set_cons_zero, List.set_cons_succ]
      refine held_take 5 ?_ rfl (by kernel_rfl) (by kernel_rfl) (by kernel_rfl) (fun _ _ _ h => h) (by rfl) ?_ hSc ?_
      rotate_left
      · (intro W hSW; go_simp; try rfl)
      try simp only [Act.put, List.setIfInBounds_toArray, List.set_cons_zero, List.set_cons_succ]
      refine held_take 6 ?_ rfl (by kernel_rfl) (by kernel_rfl) (by kernel_rfl) (fun _ _ _ h => h) (by rfl) ?_ hSc ?_
      rotate_left
      · (intro W hSW; go_simp; try rfl)
      try simp only [Act.put, List.setIfInBounds_toArray, List.set_cons_zero, List.set_cons_succ]
      refine held_next 7 rfl (by kernel_rfl) (by rfl) ?_
      go_simp
      refine (both_all k HK.out gm gO _ _ _ (HST.out.RM.below hSc HGM.out) (HST.out.RO.below hSc HGO.out)).mono ?_
      rintro e w15 ⟨rfl, r15, b15⟩
      have hb15 : Below wr.heap.size wr w15 := hSc.trans (b15.mono hSc.size)
      refine ⟨fun W => Below wr.heap.size wr W, fun W hW => hW, hb15, ?_⟩
      clear hSc b15
      have hSc : Below wr.heap.size wr w15 := hb15
      clear hb15
      have R15 := Lib.hid r15
      clear r15
      try simp only [Act.put, List.setIfInBounds_toArray, List.set_cons_zero, List.set_cons_succ]
      refine held_next 8 rfl (by kernel_rfl) (by rfl) ?_
      go_simp
      refine (list_any _ _ _ R15.out).mono ?_
      rintro e w16 ⟨v16, rfl, o16, b16⟩
      have hb16 : Below wr.heap.size wr w16 := hSc.trans (b16.mono hSc.size)
      refine ⟨fun W => Below wr.heap.size wr W, fun W hW => hW, hb16, ?_⟩
      clear hSc b16
      have hSc : Below wr.heap.size wr w16 := hb16
      clear hb16
      rw [LC.out k] at o16
      obtain ⟨A16, c16, rfl, -⟩ := o16.sl
      have O16 := Lib.hid o16
      clear o16 R15
      try simp only [Act.put, List.setIfInBounds_toArray, List.set_cons_zero, List.set_cons_succ]
      refine held_next 9 rfl (by kernel_rfl) (by rfl) ?_
      go_simp
      refine (same_tb _ _ (L k) _ _ _ _ _ (by have := (HREM.out k (Nat.le_refl _) HK.out).below hSc (Nat.le_refl _); rw [HSL.out] at this; exact this.sl) O16.out.sl).mono ?_
      rintro e w17 ⟨rfl, b17⟩
      have hb17 : Below wr.heap.size wr w17 := hSc.trans (b17.mono hSc.size)
      refine ⟨fun W => Below wr.heap.size wr W, fun W hW => hW, hb17, ?_⟩
      clear hSc b17
      have hSc : Below wr.heap.size wr w17 := hb17
      clear hb17
      clear O16
      try simp only [Act.put, List.setIfInBounds_toArray, List.set_cons_zero, List.set_cons_succ]
      refine held_take 10 ?_ rfl (by kernel_rfl) (by kernel_rfl) (by kernel_rfl) (fun _ _ _ h => h) (by rfl) ?_ hSc ?_
      rotate_left
      · (intro W hSW; go_simp; try rfl)
      try simp only [Act.put, List.setIfInBounds_toArray, List.set_cons_zero, List.set_cons_succ]
      refine wpAnyH_done (by kernel_rfl) ?_ _
      have ST := Lib.hid (HST.out.below hSc)
      have RE := Lib.hid (HREM.out.below hSc)
      have CG := Lib.hid (KK.out _ hSc)
      have GL := Lib.hid (ST.out.R.lt)
      clear hSc HST HREM KK HGM HGO
      have cg := CG.out
      go_wp2
      clear cg
      go_loopw [84] (fun i wq => ∃ (q : Nat) (ns : List UInt16), q ≤ n ∧ i = .int .i64 q ∧ ns.length = n ∧ Gw e16 wq (bs4 k) (.slice Ak n ck) ns ∧ w17.grownBy wq (Value.slice Ak n ck).ownBlock) (fun i _ => n - (intOf i).toNat)
      case atStart => exact ⟨0, L k, by omega, rfl, HN.out.symm, by have := RE.out k (Nat.le_refl _) HK.out; rw [HSL.out] at this; exact this, World.grownBy.refl _ _⟩
      case round =>
        obtain ⟨q, ns, hq, rfl, hnl, on, gn⟩ := hrel
        have hown : ∀ j, (Value.slice Ak n ck).ownBlock = some j → N3 ≤ j ∧ j < g := fun j hj => by
          have h1 := (RE.out k (Nat.le_refl _) HK.out).lt j (by rw [HSL.out]; exact hj)
          have h2 := HM3.out k HK.out j (by rw [HSL.out]; exact hj)
          have h3 := HM0.out 0 k (Nat.zero_le _)
          have h4 := HM0.out (k + 1) 4 HK.out
          have h5 := HM4.out
          have h6 := HM2.out
          omega
        by_cases hq2 : q < n
        · have cg2 : wr.cell? ⟨g, k, none⟩ = some (.slice Ak n ck) := (gn.cell_far _ (by exact GL.out) (fun e => absurd (hown _ e.symm).2 (Nat.lt_irrefl _))).trans CG.out
          obtain ⟨b, c9', hV, hlc, -, -, -, hcell, hfr⟩ := on.form (by rintro rfl; simp at hnl; omega)
          rw [hnl] at hV hlc
          injection hV with hV1 _ hV2
          subst hV1 hV2
          have cb := hcell q _ (at16_get (by omega))
          have fb := hfr q
          have st := Gw.stored on q (at16 ns q + 1)
          simp only [e16, b16] at cb st
          obtain ⟨Y, hY⟩ : ∃ Y : Int, Y = ((at16 ns q).toNat : Int) := ⟨_, rfl⟩
          obtain ⟨Y2, hY2⟩ : ∃ Y : Int, Y = ((at16 ns q + 1).toNat : Int) := ⟨_, rfl⟩
          have hYl := (at16 ns q).toNat_lt
          have hw16 : IntKind.u16.wrap (Y + 1) = Y2 := by rw [hY2, UInt16.toNat_add]; simp [IntKind.wrap, IntKind.bits, IntKind.signed]; omega
          rw [← hY] at cb
          rw [← hY2] at st
          have HO := Lib.hid st
          have HG := Lib.hid gn
          have HL2 := Lib.hid hnl
          have hqi : (q : Int) < n := by omega
          clear on gn hnl hcell hfr st hY hY2 hown hYl
          go_wp2
          go_roundw
          case rel => exact ⟨q + 1, ns.set q (at16 ns q + 1), by omega, by go_num, by rw [List.length_set]; exact HL2.out, HO.out, HG.out.trans (grown_set _ _ _ _)⟩
          case measure => simp [intOf]; omega
        · have hqi : decide ((q : Int) < n) = false := decide_eq_false (by omega)
          have SQ := Lib.hid (ST.out.grown gn hown)
          have RQ := Lib.hid (RE.out.grown gn (fun j hj => HM3.out k HK.out j (by rw [HSL.out]; exact hj)) HM0.out)
          clear on gn hnl hown
          go_wp2
          go_roundw
          case rel => exact ⟨k + 1, HK.out, by go_num, SQ.out, RQ.out⟩
          case measure => simp [intOf]; omega
    · obtain rfl : k = 4 := by omega
      have w1 : IntKind.i64.wrap (xn : Int) = xn := by rw [IntKind.wrap_i64]; omega
      have c1 : wr.cell? ⟨gm, xn, none⟩ = some (.bool (fd l x)) := by rw [hst.RM.cell xn, mA_at _ _ _ HX2.out, HFD.out]
      have c2 := hst.RM.frozen xn
      clear hst hrem hk hlt
      go_wp2_with fail
      refine (refBelow_any gm (mk l) _ xn rfl _ HST.out.RM HX2.out).mono ?_
      rintro e wz ⟨rfl, hz⟩
      have hz := hz.symm
      subst hz
      rw [← HBS.out]
      go_wp2_with fail
      refine (refRuns_any gm (mk l) _ HST.out.RM).mono ?_
      rintro e wz ⟨rfl, hz⟩
      have hz := hz.symm
      subst hz
      rw [← HRN.out]
      go_wp2_with fail
      have RM2 : Row (wr.setCell ⟨gm, xn, none⟩ (.bool true)) gm 45 (mA 65536 fun i => if i = xn then true else mk l i) := by rw [← mA_set]; exact HST.out.RM.set_ xn _
      have gr := grown_set wr gm xn (.bool true)
      have ho := HST.out.o
      have F1 := Lib.hid (HST.out.ft.grown gr (fun k e => by injection e with e; omega))
      have W1 := Lib.hid (HST.out.W.kept gr (fun k hk e => by have := (HW.out k hk).2; injection e with e; omega))
      have N38 : N3 ≤ N8 := by omega
      have H38 := Lib.hid N38
      generalize wr.setCell ⟨gm, xn, none⟩ (.bool true) = w21 at *
      have RM3 := Lib.hid RM2
      clear RM2 gr ho c1 c2 N38 HST
      refine (list_any gm _ _ RM3.out).mono ?_
      rintro e w22 ⟨v22, rfl, o22, b22⟩
      rw [HLW.out] at o22
      obtain ⟨A22, c22, rfl, -⟩ := o22.sl
      have O22 := Lib.hid o22
      have F2 := Lib.hid (F1.out.below b22)
      have W2 := Lib.hid (W1.out.below b22 (Nat.le_refl _))
      clear o22 b22 F1 W1 RM3
      go_wp2_with fail
      refine (same_tb _ _ Z _ _ _ _ _ W2.out.sl O22.out.sl).mono ?_
      rintro e w23 ⟨rfl, b23⟩
      have F3 := Lib.hid (F2.out.below b23)
      have W3 := Lib.hid (W2.out.below b23 (Nat.le_refl _))
      clear b23 O22 F2 W2
      have hwli : (Z.length : Int) ≤ 3001 := by omega
      go_wp2
      go_loopw [129] (fun i wq => ∃ (q : Nat) (ns : List UInt16), q ≤ Z.length ∧ i = .int .i64 q ∧ ns.length = Z.length ∧ Gw e16 wq N8 (.slice A9 Z.length c9) ns ∧ w23.grownBy wq (Value.slice A9 Z.length c9).ownBlock) (fun i _ => Z.length - (intOf i).toNat)
      case atStart => exact ⟨0, Z, by omega, rfl, rfl, W3.out, World.grownBy.refl _ _⟩
      case round =>
        obtain ⟨q, ns, hq, rfl, hnl, on, gn⟩ := hrel
        by_cases hq2 : q < Z.length
        · obtain ⟨b, c9', hV, hlc, -, -, -, hcell, hfr⟩ := on.form (by rintro rfl; simp at hnl; omega)
          rw [hnl] at hV hlc
          injection hV with hV1 _ hV2
          subst hV1 hV2
          have cb := hcell q _ (at16_get (by omega))
          have fb := hfr q
          have st := Gw.stored on q (at16 ns q + 1)
          simp only [e16, b16] at cb st
          obtain ⟨Y, hY⟩ : ∃ Y : Int, Y = ((at16 ns q).toNat : Int) := ⟨_, rfl⟩
          obtain ⟨Y2, hY2⟩ : ∃ Y : Int, Y = ((at16 ns q + 1).toNat : Int) := ⟨_, rfl⟩
          have hYl := (at16 ns q).toNat_lt
          have hw16 : IntKind.u16.wrap (Y + 1) = Y2 := by rw [hY2, UInt16.toNat_add]; simp [IntKind.wrap, IntKind.bits, IntKind.signed]; omega
          rw [← hY] at cb
          rw [← hY2] at st
          have HO := Lib.hid st
          have HG := Lib.hid gn
          have HL2 := Lib.hid hnl
          have hqi : (q : Int) < Z.length := by omega
          clear on gn hnl hcell hfr st hY hY2 hYl
          go_wp2
          go_roundw
          case rel => exact ⟨q + 1, ns.set q (at16 ns q + 1), by omega, by go_num, by rw [List.length_set]; exact HL2.out, HO.out, HG.out.trans (grown_set _ _ _ _)⟩
          case measure => simp [intOf]; omega
        · have hqi : decide ((q : Int) < Z.length) = false := decide_eq_false (by omega)
          have F4 := Lib.hid (F3.out.grown gn (fun k hk => by have := (HW.out k hk).1; have := H38.out; omega))
          clear on gn hnl F3
          go_wp2_with fail
          refine (same_tb _ _ l _ _ _ _ _ F4.out.I F4.out.a).mono ?_
          rintro e w24 ⟨rfl, b24⟩
          have F5 := Lib.hid (F4.out.below b24)
          clear b24 F4
          go_wp2_with fail
          refine (same_tb _ _ m _ _ _ _ _ F5.out.A F5.out.b).mono ?_
          rintro e w25 ⟨rfl, b25⟩
          have F6 := Lib.hid (F5.out.below b25)
          clear b25 F5
          go_wp2_with fail
          refine (known_any _).mono ?_
          rintro e w26 ⟨rfl, b26⟩
          have F7 := Lib.hid (F6.out.below b26)
          clear b26 F6
          go_wp2
          go_ret
          exact ⟨rfl, F7.out.B⟩
end Go.Proofs.Ythfhkcnbpbmenaa
