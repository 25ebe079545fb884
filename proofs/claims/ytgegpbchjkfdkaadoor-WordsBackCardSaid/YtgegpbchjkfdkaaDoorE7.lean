/- Walks: what layer 5's statements know. -/
import Derived.Test.YtgegpbchjkfdkaaDoorE6
namespace Go.Proofs.YtgegpbchjkfdkaaDoor
open Go.RowKit
set_option linter.unusedVariables false

theorem ls_wb (p : Nat → Bool) {n : Nat} (h : n ≤ 65536) : ls (wb (wm p)) n = ls p n := ls_ext fun j hj => wb_wm p j (by omega)
theorem ct_wb (p : Nat → Bool) {n : Nat} (h : n ≤ 65536) : ct (wb (wm p)) n = ct p n := ct_ext fun j hj => wb_wm p j (by omega)
theorem hm_wb (p : Nat → Bool) {n : Nat} (h : n ≤ 65536) : ct (hm (wb (wm p))) n = ct (hm p) n := ct_ext fun j hj => hm_ext (n := 65536) (fun i hi => wb_wm p i hi) j (by omega)
theorem sx_wb (p : Nat → Bool) (K : Int) : sx (wb (wm p)) K = sx p K := by unfold sx; rw [ls_wb p (Nat.le_refl _)]
theorem so_wb (p : Nat → Bool) (K : Int) : so (wb (wm p)) K = so p K := by unfold so; rw [ct_wb p (Nat.le_refl _)]
theorem flp_wb (p : Nat → Bool) (lo hi : Int) : wm (flp (wb (wm p)) lo hi) = wm (flp p lo hi) := wm_ext fun x hx => by unfold flp; rw [wb_wm p x hx]
theorem mix_wb (f : Bool → Bool → Bool) (p q : Nat → Bool) : wm (fun x => f (wb (wm p) x) (wb (wm q) x)) = wm fun x => f (p x) (q x) := wm_ext fun x hx => by rw [wb_wm p x hx, wb_wm q x hx]
theorem wm_wb {w : List UInt64} (h : w.length = 1024) : w = wm (wb w) := wm_of h fun x hx => rfl
theorem gw_wm {w : World} {base : Nat} {v : Value} {p : Nat → Bool} (h : Gw e64 w base v (wm p)) : ∃ A c, v = .slice A 1024 c := by
  obtain ⟨A, c, e, -⟩ := h.sl
  exact ⟨A, c, by rw [e, wm_length]⟩

def K1 : Nat → Bool := mk [9, 1, 5, 1]
def K2 : Nat → Bool := mk [1]
theorem k_ls1 : ls K1 65536 = [1, 5, 9] := by
  rw [ls_skip K1 (a := 10) (b := 65536) (by omega) (fun j h1 h2 => by simp [K1, mk]; omega)]
  decide +kernel
theorem k_ct1 : ct K1 65536 = 3 := by rw [← ls_ct, k_ls1]; rfl
theorem k_ct6 : ct K1 6 = 2 := by decide +kernel
theorem cl_6 : cl 6 = 6 := by decide
theorem k_ls2 : ls (flp K2 0 3) 65536 = [0, 2] := by
  rw [ls_skip (flp K2 0 3) (a := 3) (b := 65536) (by omega) (fun j h1 h2 => by
    unfold flp
    rw [decide_eq_false (show ¬ ((j : Nat) : Int) < 3 by omega), Bool.and_false]
    simp [K2, mk]
    omega)]
  decide +kernel
theorem wof_k (l : List UInt16) (p : Nat → Bool) (hp : p = mk l) (v : Value) (w : World) (hv : Gs e16 w 0 w.heap.size v l) :
    Calls Tryd.prog 9 #[v] w fun e w' => ∃ A c, e = .returned (.slice A 1024 c) ∧ Gs e64 w' 0 w'.heap.size (.slice A 1024 c) (wm p) ∧ Below w.heap.size w w' := by
  subst hp
  refine (wof_any v l 0 w hv).mono ?_
  rintro e w' ⟨v', rfl, o, b⟩
  obtain ⟨A, c, rfl⟩ := gw_wm o
  exact ⟨A, c, rfl, o.sl.more (Nat.zero_le _) (Nat.le_refl _), b⟩
theorem wsel_k (v : Value) (W : World) (hv : Gs e64 W 0 W.heap.size v (wm K1)) (hT : Tb W) : Calls Tryd.prog 22 #[v, .int .i64 2] W fun e w' => e = .returned (.tuple #[.int .u16 9, .bool true]) ∧ w' = W := by
  refine (wselect_any v _ 0 _ 2 W hv hT (by omega)).mono ?_
  rintro e w' ⟨h1, h2⟩
  refine ⟨?_, h2⟩
  have e1 : sx K1 2 = 9 := by unfold sx; rw [k_ls1]; rfl
  have e2 : so K1 2 = true := by unfold so; rw [k_ct1]; rfl
  rw [h1, sx_wb, so_wb, e1, e2]
  rfl
theorem wsel_k3 (v : Value) (W : World) (hv : Gs e64 W 0 W.heap.size v (wm K1)) (hT : Tb W) : Calls Tryd.prog 22 #[v, .int .i64 3] W fun e w' => e = .returned (.tuple #[.int .u16 0, .bool false]) ∧ w' = W := by
  refine (wselect_any v _ 0 _ 3 W hv hT (by omega)).mono ?_
  rintro e w' ⟨h1, h2⟩
  refine ⟨?_, h2⟩
  have e1 : sx K1 3 = 0 := by unfold sx; rw [k_ls1]; rfl
  have e2 : so K1 3 = false := by unfold so; rw [k_ct1]; rfl
  rw [h1, sx_wb, so_wb, e1, e2]
  rfl
theorem wlen_k (v : Value) (W : World) (hv : Gs e64 W 0 W.heap.size v (wm K1)) : Calls Tryd.prog 16 #[v] W fun e w' => e = .returned (.int .i64 3) ∧ w' = W := by
  refine (wlen_any v _ 0 _ W hv).mono ?_
  rintro e w' ⟨h1, h2⟩
  refine ⟨?_, h2⟩
  rw [h1, ct_wb _ (Nat.le_refl _), k_ct1]
  rfl
theorem wrank_k (v : Value) (W : World) (hv : Gs e64 W 0 W.heap.size v (wm K1)) : Calls Tryd.prog 18 #[v, .int .i64 6] W fun e w' => e = .returned (.int .i64 2) ∧ w' = W := by
  refine (wrank_any v _ 0 _ 6 W hv).mono ?_
  rintro e w' ⟨h1, h2⟩
  refine ⟨?_, h2⟩
  rw [h1, cl_6, ct_wb _ (by omega), k_ct6]
  rfl
theorem wflip_k (v : Value) (w : World) (hv : Gs e64 w 0 w.heap.size v (wm K2)) :
    Calls Tryd.prog 23 #[v, .int .i64 0, .int .i64 3] w fun e w' => ∃ A c, e = .returned (.slice A 1024 c) ∧ Gs e64 w' 0 w'.heap.size (.slice A 1024 c) (wm (flp K2 0 3)) ∧ Below w.heap.size w w' := by
  refine (wflip_any v _ 0 0 3 w hv).mono ?_
  rintro e w' ⟨v', rfl, o, b⟩
  rw [flp_wb] at o
  obtain ⟨A, c, rfl⟩ := gw_wm o
  exact ⟨A, c, rfl, o.sl.more (Nat.zero_le _) (Nat.le_refl _), b⟩
theorem wlist_k (v : Value) (w : World) (hv : Gs e64 w 0 w.heap.size v (wm (flp K2 0 3))) (hT : Tb w) :
    Calls Tryd.prog 15 #[v] w fun e w' => ∃ b c, e = .returned (.slice (some ⟨b, 0, none⟩) 2 c) ∧ w'.cell? ⟨b, 0, none⟩ = some (.int .u16 0) ∧ w'.cell? ⟨b, 1, none⟩ = some (.int .u16 2) ∧ Below w.heap.size w w' := by
  refine (wlist_any v _ 0 w hv hT).mono ?_
  rintro e w' ⟨v', rfl, o, b⟩
  rw [ls_wb _ (Nat.le_refl _), k_ls2] at o
  obtain ⟨b', c, rfl, -, -, -, -, hc, -⟩ := o.form (by simp)
  exact ⟨b', c, rfl, hc 0 0 rfl, hc 1 2 rfl, b⟩

set_option maxHeartbeats 1000000 in
theorem known_any (w : World) (hT : Tb w) : Calls Tryd.prog 8 #[] w fun e w' => e = .returned (.bool true) ∧ Below w.heap.size w w' := by
  have G0 := Lib.hid (lit16 w [9, 1, 5, 1] #[.int .u16 9, .int .u16 1, .int .u16 5, .int .u16 1] 4 (by rfl) rfl (by omega))
  have B0 := Lib.hid ((Below.refl w.heap.size w).alloc (Nat.le_refl _) (.cells #[.int .u16 9, .int .u16 1, .int .u16 5, .int .u16 1] 23))
  have HT := Lib.hid hT
  clear hT
  go_enter Tryd.func8, Tryd.ntmps8
  go_wp2_with fail
  generalize w.alloc (.cells #[.int .u16 9, .int .u16 1, .int .u16 5, .int .u16 1] 23) = W0 at *
  refine (wof_k _ K1 rfl _ _ G0.out).mono ?_
  rintro e w1 ⟨A1, c1, rfl, g1, b1⟩
  have G1 := Lib.hid g1
  have B1 := Lib.hid (B0.out.trans (b1.mono B0.out.size))
  have T1 := Lib.hid (HT.out.below B1.out (Nat.le_refl _))
  clear b1 g1
  go_wp2_with fail
  refine (wsel_k _ _ G1.out T1.out).mono ?_
  rintro e w1' ⟨rfl, hz⟩
  have hz := hz.symm
  subst hz
  go_wp2_with fail
  refine (wsel_k3 _ _ G1.out T1.out).mono ?_
  rintro e w1' ⟨rfl, hz⟩
  have hz := hz.symm
  subst hz
  go_wp2_with fail
  have L2 := lit16 w1 [1] #[.int .u16 1] 1 (by rfl) rfl (by omega)
  have B2 := Lib.hid (B1.out.alloc B1.out.size (.cells #[.int .u16 1] 23))
  refine (wof_k _ K2 rfl _ _ L2).mono ?_
  rintro e w2 ⟨A2, c2, rfl, g2, b2⟩
  have G2 := Lib.hid g2
  have B3 := Lib.hid (B2.out.trans (b2.mono B2.out.size))
  have G12 := Lib.hid ((((G1.out.alloc (Nat.le_refl _) (.cells #[.int .u16 1] 23)).more (Nat.le_refl _) (by simp : _ ≤ (w1.alloc (.cells #[.int .u16 1] 23)).heap.size)).below b2).more (Nat.le_refl _) b2.size)
  clear b2 g2 L2
  go_wp2_with fail
  refine (wflip_k _ _ G2.out).mono ?_
  rintro e w3 ⟨A3, c3, rfl, g3, b3⟩
  have G3 := Lib.hid g3
  have B4 := Lib.hid (B3.out.trans (b3.mono B3.out.size))
  have G13 := Lib.hid ((G12.out.below b3).more (Nat.le_refl _) b3.size)
  have T3 := Lib.hid (HT.out.below B4.out (Nat.le_refl _))
  clear b3 g3
  go_wp2_with fail
  refine (wlist_k _ _ G3.out T3.out).mono ?_
  rintro e w4 ⟨A4, c4, rfl, k0, k1, b4⟩
  have B5 := Lib.hid (B4.out.trans (b4.mono B4.out.size))
  have G14 := Lib.hid ((G13.out.below b4).more (Nat.le_refl _) b4.size)
  clear b4
  go_wp2_with fail
  refine (wlen_k _ _ G14.out).mono ?_
  rintro e w4' ⟨rfl, hz⟩
  have hz := hz.symm
  subst hz
  go_wp2_with fail
  refine (wrank_k _ _ G14.out).mono ?_
  rintro e w4' ⟨rfl, hz⟩
  have hz := hz.symm
  subst hz
  go_wp2
  go_ret
  exact ⟨rfl, B5.out⟩
end Go.Proofs.YtgegpbchjkfdkaaDoor
