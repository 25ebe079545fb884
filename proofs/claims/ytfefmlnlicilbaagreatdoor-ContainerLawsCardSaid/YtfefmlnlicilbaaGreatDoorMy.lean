/- Proved: for every three slices of numbers and every byte the law ContainerLaws returns true, and its arguments read as they did; the table of lowest bits of math/bits is as the program's text lays it (the card ties it); no condition of ours. -/
import Derived.Test.YtfefmlnlicilbaaGreatDoorMh
import Derived.Test.YtfefmlnlicilbaaGreatDoorMf
/- Proved of ContainerLaws: whatever its arguments. -/
namespace Go.Proofs.YtfefmlnlicilbaaGreatDoor
open Go.RowKit
set_option linter.unusedVariables false

set_option maxHeartbeats 2000000 in
theorem same_c (v u : Value) (p q : Nat → Bool) (w : World) (h : Cn anyN w v p (ck p)) (g : Cn anyN w u q (ck q)) (e0 : ∀ x, x < 65536 → p x = q x) :
    Calls Tryz.prog 27 #[v, u] w fun e w' => e = .returned (.bool true) ∧ Below w.heap.size w w' := by
  obtain ⟨κa, Aa, na, ca, Ba, ma, da, Da, qa, ea, rfl⟩ := h.form
  obtain ⟨κb, Ab, nb, cb, Bb, mb, db, Db, qb, eb, rfl⟩ := g.form
  obtain ⟨K, hK⟩ : ∃ n, ck p = n := ⟨_, rfl⟩
  have hK2 : ck q = K := (ck_ext e0).symm.trans hK
  rw [hK] at h
  rw [hK2] at g
  have CA := Lib.hid h
  have CB := Lib.hid (g.ext fun x hx => (e0 x hx).symm)
  have X := two_blocks w #[.int .u8 κa, .slice Aa na ca, .slice Ba ma da, .slice Da qa ea] #[.int .u8 κb, .slice Ab nb cb, .slice Bb mb db, .slice Db qb eb] 28 28
  clear h g hK hK2 e0
  go_enter Tryz.func27, Tryz.ntmps27
  go_wp2_with fail
  generalize (w.alloc (.cells #[.int .u8 κa, .slice Aa na ca, .slice Ba ma da, .slice Da qa ea] 28)).alloc (.cells #[.int .u8 κb, .slice Ab nb cb, .slice Bb mb db, .slice Db qb eb] 28) = W0 at *
  obtain ⟨b0, r0, r1⟩ := X
  have RA := Lib.hid r0
  have RB := Lib.hid r1
  have BB := Lib.hid b0
  have CA := Lib.hid (CA.out.step b0)
  have CB := Lib.hid (CB.out.step b0)
  clear b0 r0 r1
  have KA : Hid (∀ W, Below W0.heap.size W0 W → W.cell? ⟨w.heap.size, 0, none⟩ = some (.int .u8 κa) ∧ W.cell? ⟨w.heap.size, 1, none⟩ = some (.slice Aa na ca) ∧ W.cell? ⟨w.heap.size, 2, none⟩ = some (.slice Ba ma da) ∧ W.cell? ⟨w.heap.size, 3, none⟩ = some (.slice Da qa ea)) := Lib.hid fun W hW => by
    have r := RA.out.below hW RA.out.lt
    exact ⟨r.cell 0, r.cell 1, r.cell 2, r.cell 3⟩
  have KB : Hid (∀ W, Below W0.heap.size W0 W → W.cell? ⟨w.heap.size + 1, 0, none⟩ = some (.int .u8 κb) ∧ W.cell? ⟨w.heap.size + 1, 1, none⟩ = some (.slice Ab nb cb) ∧ W.cell? ⟨w.heap.size + 1, 2, none⟩ = some (.slice Bb mb db) ∧ W.cell? ⟨w.heap.size + 1, 3, none⟩ = some (.slice Db qb eb)) := Lib.hid fun W hW => by
    have r := RB.out.below hW RB.out.lt
    exact ⟨r.cell 0, r.cell 1, r.cell 2, r.cell 3⟩
  have hSc : Below W0.heap.size W0 W0.drew := (Below.refl W0.heap.size W0).drew
  refine wp_region_held_drew (S := fun W => Below W0.heap.size W0 W) (by kernel_rfl) hSc (fun _ => ?_)
  refine held_take 0 ?_ rfl (by kernel_rfl) (by kernel_rfl) (by kernel_rfl) (fun _ _ _ h => h) (by rfl) ?_ hSc ?_
  rotate_left
  · (intro W hSW; obtain ⟨k0, k1, k2, k3⟩ := KA.out W hSW; go_simp; try rfl)
  try simp only [Act.put, List.setIfInBounds_toArray, List.set_cons_zero, List.set_cons_succ]
  refine held_take 2 ?_ rfl (by kernel_rfl) (by kernel_rfl) (by kernel_rfl) (fun _ _ _ h => h) (by rfl) ?_ hSc ?_
  rotate_left
  · (intro W hSW; obtain ⟨k0, k1, k2, k3⟩ := KB.out W hSW; go_simp; try rfl)
  try simp only [Act.put, List.setIfInBounds_toArray, List.set_cons_zero, List.set_cons_succ]
  refine held_next 1 rfl (by kernel_rfl) (by rfl) ?_
  go_simp
  refine (kind_c _ p K _ (CA.out.step hSc)).mono ?_
  rintro e wq1 ⟨rfl, bq⟩
  have hbq : Below W0.heap.size W0 wq1 := hSc.trans (bq.mono hSc.size)
  refine ⟨fun W => Below W0.heap.size W0 W, fun W hW => hW, hbq, ?_⟩
  clear hSc bq
  have hSc : Below W0.heap.size W0 wq1 := hbq
  clear hbq
  try simp only [Act.put, List.setIfInBounds_toArray, List.set_cons_zero, List.set_cons_succ]
  refine held_next 3 rfl (by kernel_rfl) (by rfl) ?_
  go_simp
  refine (kind_c _ p K _ (CB.out.step hSc)).mono ?_
  rintro e wq2 ⟨rfl, bq⟩
  have hbq : Below W0.heap.size W0 wq2 := hSc.trans (bq.mono hSc.size)
  refine ⟨fun W => Below W0.heap.size W0 W, fun W hW => hW, hbq, ?_⟩
  clear hSc bq
  have hSc : Below W0.heap.size W0 wq2 := hbq
  clear hbq
  try simp only [Act.put, List.setIfInBounds_toArray, List.set_cons_zero, List.set_cons_succ]
  refine held_take 4 ?_ rfl (by kernel_rfl) (by kernel_rfl) (by kernel_rfl) (fun _ _ _ h => h) (by rfl) ?_ hSc ?_
  rotate_left
  · (intro W hSW; go_simp; try rfl)
  try simp only [Act.put, List.setIfInBounds_toArray, List.set_cons_zero, List.set_cons_succ]
  refine held_take 5 ?_ rfl (by kernel_rfl) (by kernel_rfl) (by kernel_rfl) (fun _ _ _ h => h) (by rfl) ?_ hSc ?_
  rotate_left
  · (intro W hSW; go_simp; try rfl)
  try simp only [Act.put, List.setIfInBounds_toArray, List.set_cons_zero, List.set_cons_succ]
  refine held_take 6 ?_ rfl (by kernel_rfl) (by kernel_rfl) (by kernel_rfl) (fun _ _ _ h => h) (by rfl) ?_ hSc ?_
  rotate_left
  · (intro W hSW; obtain ⟨k0, k1, k2, k3⟩ := KA.out W hSW; go_simp; try rfl)
  try simp only [Act.put, List.setIfInBounds_toArray, List.set_cons_zero, List.set_cons_succ]
  refine held_take 8 ?_ rfl (by kernel_rfl) (by kernel_rfl) (by kernel_rfl) (fun _ _ _ h => h) (by rfl) ?_ hSc ?_
  rotate_left
  · (intro W hSW; obtain ⟨k0, k1, k2, k3⟩ := KB.out W hSW; go_simp; try rfl)
  try simp only [Act.put, List.setIfInBounds_toArray, List.set_cons_zero, List.set_cons_succ]
  refine held_next 7 rfl (by kernel_rfl) (by rfl) ?_
  go_simp
  refine (words_c _ p K _ (CA.out.step hSc)).mono ?_
  rintro e wq3 ⟨X3, x3, rfl, gq, bq⟩
  have hbq : Below W0.heap.size W0 wq3 := hSc.trans (bq.mono hSc.size)
  refine ⟨fun W => Below W0.heap.size W0 W, fun W hW => hW, hbq, ?_⟩
  have G3 := Lib.hid gq
  clear gq
  clear hSc bq
  have hSc : Below W0.heap.size W0 wq3 := hbq
  clear hbq
  try simp only [Act.put, List.setIfInBounds_toArray, List.set_cons_zero, List.set_cons_succ]
  refine held_next 9 rfl (by kernel_rfl) (by rfl) ?_
  go_simp
  refine (words_c _ p K _ (CB.out.step hSc)).mono ?_
  rintro e wq4 ⟨X4, x4, rfl, gq, bq⟩
  have hbq : Below W0.heap.size W0 wq4 := hSc.trans (bq.mono hSc.size)
  refine ⟨fun W => Below W0.heap.size W0 W, fun W hW => hW, hbq, ?_⟩
  have G4 := Lib.hid gq
  clear gq
  have G3 := Lib.hid (G3.out.stp bq)
  clear hSc bq
  have hSc : Below W0.heap.size W0 wq4 := hbq
  clear hbq
  try simp only [Act.put, List.setIfInBounds_toArray, List.set_cons_zero, List.set_cons_succ]
  refine held_next 10 rfl (by kernel_rfl) (by rfl) ?_
  go_simp
  refine (same64_p _ _ _ _ _ (G3.out.more (Nat.zero_le _) (Nat.le_refl _)) (G4.out.more (Nat.zero_le _) (Nat.le_refl _)) rfl).mono ?_
  rintro e wq5 ⟨rfl, bq⟩
  have hbq : Below W0.heap.size W0 wq5 := hSc.trans (bq.mono hSc.size)
  refine ⟨fun W => Below W0.heap.size W0 W, fun W hW => hW, hbq, ?_⟩
  clear hSc bq
  have hSc : Below W0.heap.size W0 wq5 := hbq
  clear hbq
  try simp only [Act.put, List.setIfInBounds_toArray, List.set_cons_zero, List.set_cons_succ]
  refine held_take 11 ?_ rfl (by kernel_rfl) (by kernel_rfl) (by kernel_rfl) (fun _ _ _ h => h) (by rfl) ?_ hSc ?_
  rotate_left
  · (intro W hSW; go_simp; try rfl)
  try simp only [Act.put, List.setIfInBounds_toArray, List.set_cons_zero, List.set_cons_succ]
  refine held_next 12 rfl (by kernel_rfl) (by rfl) ?_
  go_simp
  refine ⟨fun W => Below W0.heap.size W0 W, fun W hW => hW, hSc, ?_⟩
  refine wpAnyH_done (by kernel_rfl) ?_ _
  have B1 := Lib.hid (BB.out.trans (hSc.mono BB.out.size))
  go_wp2
  go_ret
  exact ⟨rfl, B1.out⟩

set_option maxHeartbeats 1000000 in
theorem not_c (v : Value) (p : Nat → Bool) (k : Nat) (w : World) (hT : Tb w) (h : Cn anyN w v p k) :
    Calls Tryz.prog 30 #[v] w fun e w' => ∃ v', e = .returned v' ∧ Cn anyN w' v' (flp p 0 65536) (ck (flp p 0 65536)) ∧ Below w.heap.size w w' := by
  obtain ⟨κa, Aa, na, ca, Ba, ma, da, Da, qa, ea, rfl⟩ := h.form
  have CA := Lib.hid h
  have TT := Lib.hid hT
  have X := two_blocks w #[.int .u8 κa, .slice Aa na ca, .slice Ba ma da, .slice Da qa ea] #[.int .u8 0, .slice none 0 0, .slice none 0 0, .slice none 0 0] 28 28
  clear h hT
  go_enter Tryz.func30, Tryz.ntmps30
  go_wp2_with fail
  generalize (w.alloc (.cells #[.int .u8 κa, .slice Aa na ca, .slice Ba ma da, .slice Da qa ea] 28)).alloc (.cells #[.int .u8 0, .slice none 0 0, .slice none 0 0, .slice none 0 0] 28) = W0 at *
  obtain ⟨b0, r0, r1⟩ := X
  have lg := r1.lt
  have RR := Lib.hid r1
  have BB := Lib.hid b0
  refine (flip_c (N := fun b => b ≠ w.heap.size + 1) _ p k 0 65536 _ (TT.out.step b0) (fun b hb => by omega) ((CA.out.mono (N' := fun b => b ≠ w.heap.size + 1) fun b hb _ => by omega).step b0)).mono ?_
  rintro e u1 ⟨v', rfl, g, b⟩
  obtain ⟨κ5, A5, n5, c5, A6, n6, c6, A7, n7, c7, rfl⟩ := g.form
  have G := Lib.hid g
  have RR := Lib.hid (RR.out.below b RR.out.lt)
  have BB := Lib.hid (below_both BB.out b)
  clear b g b0 r0 r1
  have d0 : u1.cell? ⟨w.heap.size + 1, 0, none⟩ = some (.int .u8 0) := RR.out.cell 0
  have f0 := RR.out.frozen 0
  have d1 : u1.cell? ⟨w.heap.size + 1, 1, none⟩ = some (.slice none 0 0) := RR.out.cell 1
  have f1 := RR.out.frozen 1
  have d2 : u1.cell? ⟨w.heap.size + 1, 2, none⟩ = some (.slice none 0 0) := RR.out.cell 2
  have f2 := RR.out.frozen 2
  have d3 : u1.cell? ⟨w.heap.size + 1, 3, none⟩ = some (.slice none 0 0) := RR.out.cell 3
  have f3 := RR.out.frozen 3
  go_wp2
  have S4 := set4 (a' := .int .u8 κ5) (b' := .slice A5 n5 c5) (c' := .slice A6 n6 c6) (d' := .slice A7 n7 c7) RR.out
  have B5 := Lib.hid (BB.out.grown S4.2 BB.out.size (fun j e => by injection e with e; subst e; omega))
  have H5 := Lib.hid ((G.out.grown S4.2 (fun hh => hh rfl)).mono (N' := anyN) fun b _ hn => trivial)
  exact bodyPost_ret (ret_row rfl rfl S4.1) rfl ⟨_, rfl, H5.out, B5.out⟩

set_option maxHeartbeats 400000 in
theorem laws_long0 (a0 a1 a2 : Option Addr) (len0 cap0 len1 cap1 len2 cap2 : Nat) (z : Int) (w : World) (hT : Tb w) (h : 1000 < len0) (h2 : len0 ≤ 9223372036854775807) :
    Calls Tryz.prog 5 #[.slice a0 len0 cap0, .slice a1 len1 cap1, .slice a2 len2 cap2, .int .u8 z] w fun e w' => e = .returned (.bool true) ∧ Below w.heap.size w w' := by
  have hi : (len0 : Int) > 1000 := by omega
  have hj : decide ((len0 : Int) > 1000) = true := decide_eq_true hi
  clear h
  go_enter Tryz.func5, Tryz.ntmps5
  go_wp2_with (go_at_call 6; refine (known_any _ hT).mono ?_; rintro e w1 ⟨rfl, b1⟩)
  go_ret
  exact ⟨rfl, b1⟩

set_option maxHeartbeats 400000 in
theorem laws_long1 (a0 a1 a2 : Option Addr) (len0 cap0 len1 cap1 len2 cap2 : Nat) (z : Int) (w : World) (hT : Tb w) (g0 : len0 ≤ 1000) (h : 1000 < len1) (h2 : len1 ≤ 9223372036854775807) :
    Calls Tryz.prog 5 #[.slice a0 len0 cap0, .slice a1 len1 cap1, .slice a2 len2 cap2, .int .u8 z] w fun e w' => e = .returned (.bool true) ∧ Below w.heap.size w w' := by
  have hi : (len1 : Int) > 1000 := by omega
  have hj : decide ((len1 : Int) > 1000) = true := decide_eq_true hi
  have i0 : ¬ (len0 : Int) > 1000 := by omega
  have j0 : decide ((len0 : Int) > 1000) = false := decide_eq_false i0
  clear g0
  clear h
  go_enter Tryz.func5, Tryz.ntmps5
  go_wp2_with (go_at_call 6; refine (known_any _ hT).mono ?_; rintro e w1 ⟨rfl, b1⟩)
  go_ret
  exact ⟨rfl, b1⟩

set_option maxHeartbeats 400000 in
theorem laws_long2 (a0 a1 a2 : Option Addr) (len0 cap0 len1 cap1 len2 cap2 : Nat) (z : Int) (w : World) (hT : Tb w) (g0 : len0 ≤ 1000) (g1 : len1 ≤ 1000) (h : 1000 < len2) (h2 : len2 ≤ 9223372036854775807) :
    Calls Tryz.prog 5 #[.slice a0 len0 cap0, .slice a1 len1 cap1, .slice a2 len2 cap2, .int .u8 z] w fun e w' => e = .returned (.bool true) ∧ Below w.heap.size w w' := by
  have hi : (len2 : Int) > 1000 := by omega
  have hj : decide ((len2 : Int) > 1000) = true := decide_eq_true hi
  have i0 : ¬ (len0 : Int) > 1000 := by omega
  have j0 : decide ((len0 : Int) > 1000) = false := decide_eq_false i0
  have i1 : ¬ (len1 : Int) > 1000 := by omega
  have j1 : decide ((len1 : Int) > 1000) = false := decide_eq_false i1
  clear g0 g1
  clear h
  go_enter Tryz.func5, Tryz.ntmps5
  go_wp2_with (go_at_call 6; refine (known_any _ hT).mono ?_; rintro e w1 ⟨rfl, b1⟩)
  go_ret
  exact ⟨rfl, b1⟩

set_option maxHeartbeats 16000000 in
set_option maxRecDepth 100000 in
theorem laws_good (va vb vc : Value) (a b c : List UInt16) (z : Int) (w : World) (hT : Tb w) (h0 : Gs e16 w 0 w.heap.size va a) (h1 : Gs e16 w 0 w.heap.size vb b) (h2 : Gs e16 w 0 w.heap.size vc c) (l0 : a.length ≤ 1000) (l1 : b.length ≤ 1000) (l2 : c.length ≤ 1000) (z0 : 0 ≤ z) (z1 : z ≤ 255) :
    Calls Tryz.prog 5 #[va, vb, vc, .int .u8 z] w fun e w' => e = .returned (.bool true) ∧ Below w.heap.size w w' := by
  have GA := Lib.hid h0
  have GB := Lib.hid h1
  have GC := Lib.hid h2
  have TT := Lib.hid hT
  have BB := Lib.hid (Below.refl w.heap.size w)
  have LA := Lib.hid (show a.length ≤ 3000 by omega)
  have LB := Lib.hid (show b.length ≤ 3000 by omega)
  have LC := Lib.hid (show c.length ≤ 3000 by omega)
  obtain ⟨Aa, ca, rfl, -⟩ := h0
  obtain ⟨Ab, cb, rfl, -⟩ := h1
  obtain ⟨Ac, cc, rfl, -⟩ := h2
  have i0 : ¬ (a.length : Int) > 1000 := by omega
  have i1 : ¬ (b.length : Int) > 1000 := by omega
  have i2 : ¬ (c.length : Int) > 1000 := by omega
  have j0 : decide ((a.length : Int) > 1000) = false := decide_eq_false i0
  have j1 : decide ((b.length : Int) > 1000) = false := decide_eq_false i1
  have j2 : decide ((c.length : Int) > 1000) = false := decide_eq_false i2
  obtain ⟨p, hp⟩ : ∃ p, mk a = p := ⟨_, rfl⟩
  obtain ⟨q, hq⟩ : ∃ p, mk b = p := ⟨_, rfl⟩
  obtain ⟨r, hr⟩ : ∃ p, mk c = p := ⟨_, rfl⟩
  obtain ⟨k0, hk0⟩ : ∃ n : Nat, (n : Int) = 1 + z % 3 := ⟨(1 + z % 3).toNat, by omega⟩
  obtain ⟨k1, hk1⟩ : ∃ n : Nat, (n : Int) = 1 + z / 3 % 3 := ⟨(1 + z / 3 % 3).toNat, by omega⟩
  obtain ⟨k2, hk2⟩ : ∃ n : Nat, (n : Int) = 1 + z / 9 % 3 := ⟨(1 + z / 9 % 3).toNat, by omega⟩
  have K0 := Lib.hid (show 1 ≤ k0 ∧ k0 ≤ 3 by omega)
  have K1 := Lib.hid (show 1 ≤ k1 ∧ k1 ≤ 3 by omega)
  have K2 := Lib.hid (show 1 ≤ k2 ∧ k2 ≤ 3 by omega)
  have HP := Lib.hid hp
  have HQ := Lib.hid hq
  have HR := Lib.hid hr
  clear hT l0 l1 l2 hp hq hr
  go_enter Tryz.func5, Tryz.ntmps5
  go_wp2_with fail
  rw [← hk0]
  refine (make3_c _ a p k0 _ TT.out GA.out LA.out HP.out K0.out).mono ?_
  rintro e u1 ⟨v4, gm0, rfl, -, -, g, b⟩
  obtain ⟨κx, Ax, nx, cx, Bx, mx, dx, Dx, qx, ex, rfl⟩ := g.form
  have TT := Lib.hid (TT.out.step b)
  have BB := Lib.hid (below_both BB.out b)
  have GA := Lib.hid (GA.out.stp b)
  have GB := Lib.hid (GB.out.stp b)
  have GC := Lib.hid (GC.out.stp b)
  have Cx := Lib.hid (g.mono (N' := anyN) fun _ _ _ => trivial)
  clear g b
  go_wp2_with fail
  have rz := Row.new u1 28 #[.int .u8 κx, .slice Ax nx cx, .slice Bx mx dx, .slice Dx qx ex]
  have bz := bx u1 (.cells #[.int .u8 κx, .slice Ax nx cx, .slice Bx mx dx, .slice Dx qx ex] 28)
  generalize u1.alloc (.cells #[.int .u8 κx, .slice Ax nx cx, .slice Bx mx dx, .slice Dx qx ex] 28) = u2 at *
  have TT := Lib.hid (TT.out.step bz)
  have BB := Lib.hid (below_both BB.out bz)
  have GA := Lib.hid (GA.out.stp bz)
  have GB := Lib.hid (GB.out.stp bz)
  have GC := Lib.hid (GC.out.stp bz)
  have Cx := Lib.hid (Cx.out.step bz)
  have Rx := Lib.hid rz
  clear rz bz
  rw [← hk1]
  refine (make3_c _ b q k1 _ TT.out GB.out LB.out HQ.out K1.out).mono ?_
  rintro e u3 ⟨v4, gm1, rfl, -, -, g, b⟩
  obtain ⟨κy, Ay, ny, cy, By, my, dy, Dy, qy, ey, rfl⟩ := g.form
  have TT := Lib.hid (TT.out.step b)
  have BB := Lib.hid (below_both BB.out b)
  have GA := Lib.hid (GA.out.stp b)
  have GB := Lib.hid (GB.out.stp b)
  have GC := Lib.hid (GC.out.stp b)
  have Cx := Lib.hid (Cx.out.step b)
  have Rx := Lib.hid (Rx.out.below b Rx.out.lt)
  have Cy := Lib.hid (g.mono (N' := anyN) fun _ _ _ => trivial)
  clear g b
  go_wp2_with fail
  have rz := Row.new u3 28 #[.int .u8 κy, .slice Ay ny cy, .slice By my dy, .slice Dy qy ey]
  have bz := bx u3 (.cells #[.int .u8 κy, .slice Ay ny cy, .slice By my dy, .slice Dy qy ey] 28)
  generalize u3.alloc (.cells #[.int .u8 κy, .slice Ay ny cy, .slice By my dy, .slice Dy qy ey] 28) = u4 at *
  have TT := Lib.hid (TT.out.step bz)
  have BB := Lib.hid (below_both BB.out bz)
  have GA := Lib.hid (GA.out.stp bz)
  have GB := Lib.hid (GB.out.stp bz)
  have GC := Lib.hid (GC.out.stp bz)
  have Cx := Lib.hid (Cx.out.step bz)
  have Rx := Lib.hid (Rx.out.below bz Rx.out.lt)
  have Cy := Lib.hid (Cy.out.step bz)
  have Ry := Lib.hid rz
  clear rz bz
  rw [← hk2]
  refine (make3_c _ c r k2 _ TT.out GC.out LC.out HR.out K2.out).mono ?_
  rintro e u5 ⟨v4, gm2, rfl, -, -, g, b⟩
  obtain ⟨κz, Az, nz, cz, Bz, mz, dz, Dz, qz, ez, rfl⟩ := g.form
  have TT := Lib.hid (TT.out.step b)
  have BB := Lib.hid (below_both BB.out b)
  have GA := Lib.hid (GA.out.stp b)
  have GB := Lib.hid (GB.out.stp b)
  have GC := Lib.hid (GC.out.stp b)
  have Cx := Lib.hid (Cx.out.step b)
  have Rx := Lib.hid (Rx.out.below b Rx.out.lt)
  have Cy := Lib.hid (Cy.out.step b)
  have Ry := Lib.hid (Ry.out.below b Ry.out.lt)
  have Cz := Lib.hid (g.mono (N' := anyN) fun _ _ _ => trivial)
  clear g b
  go_wp2_with fail
  have rz := Row.new u5 28 #[.int .u8 κz, .slice Az nz cz, .slice Bz mz dz, .slice Dz qz ez]
  have bz := bx u5 (.cells #[.int .u8 κz, .slice Az nz cz, .slice Bz mz dz, .slice Dz qz ez] 28)
  generalize u5.alloc (.cells #[.int .u8 κz, .slice Az nz cz, .slice Bz mz dz, .slice Dz qz ez] 28) = u6 at *
  have TT := Lib.hid (TT.out.step bz)
  have BB := Lib.hid (below_both BB.out bz)
  have GA := Lib.hid (GA.out.stp bz)
  have GB := Lib.hid (GB.out.stp bz)
  have GC := Lib.hid (GC.out.stp bz)
  have Cx := Lib.hid (Cx.out.step bz)
  have Rx := Lib.hid (Rx.out.below bz Rx.out.lt)
  have Cy := Lib.hid (Cy.out.step bz)
  have Ry := Lib.hid (Ry.out.below bz Ry.out.lt)
  have Cz := Lib.hid (Cz.out.step bz)
  have Rz := Lib.hid rz
  clear rz bz
  clear GA GB GC i0 i1 i2 j0 j1 j2
  have Lx : Hid (∀ W, Below u6.heap.size u6 W → W.cell? ⟨u1.heap.size, 0, none⟩ = some (.int .u8 κx) ∧ W.cell? ⟨u1.heap.size, 1, none⟩ = some (.slice Ax nx cx) ∧ W.cell? ⟨u1.heap.size, 2, none⟩ = some (.slice Bx mx dx) ∧ W.cell? ⟨u1.heap.size, 3, none⟩ = some (.slice Dx qx ex)) := Lib.hid fun W hW => by
    have r := Rx.out.below hW Rx.out.lt
    exact ⟨r.cell 0, r.cell 1, r.cell 2, r.cell 3⟩
  have Ly : Hid (∀ W, Below u6.heap.size u6 W → W.cell? ⟨u3.heap.size, 0, none⟩ = some (.int .u8 κy) ∧ W.cell? ⟨u3.heap.size, 1, none⟩ = some (.slice Ay ny cy) ∧ W.cell? ⟨u3.heap.size, 2, none⟩ = some (.slice By my dy) ∧ W.cell? ⟨u3.heap.size, 3, none⟩ = some (.slice Dy qy ey)) := Lib.hid fun W hW => by
    have r := Ry.out.below hW Ry.out.lt
    exact ⟨r.cell 0, r.cell 1, r.cell 2, r.cell 3⟩
  have Lz : Hid (∀ W, Below u6.heap.size u6 W → W.cell? ⟨u5.heap.size, 0, none⟩ = some (.int .u8 κz) ∧ W.cell? ⟨u5.heap.size, 1, none⟩ = some (.slice Az nz cz) ∧ W.cell? ⟨u5.heap.size, 2, none⟩ = some (.slice Bz mz dz) ∧ W.cell? ⟨u5.heap.size, 3, none⟩ = some (.slice Dz qz ez)) := Lib.hid fun W hW => by
    have r := Rz.out.below hW Rz.out.lt
    exact ⟨r.cell 0, r.cell 1, r.cell 2, r.cell 3⟩
  have hSc : Below u6.heap.size u6 u6.drew := (Below.refl u6.heap.size u6).drew
  refine wp_region_held_drew (S := fun W => Below u6.heap.size u6 W) (by kernel_rfl) hSc (fun _ => ?_)
  refine held_take 1 ?_ rfl (by kernel_rfl) (by kernel_rfl) (by kernel_rfl) (fun _ _ _ h => h) (by rfl) ?_ hSc ?_
  rotate_left
  · (intro W hSW; obtain ⟨k0, k1, k2, k3⟩ := Lx.out W hSW; go_simp; try rfl)
  try simp only [Act.put, List.setIfInBounds_toArray, List.set_cons_zero, List.set_cons_succ]
  refine held_take 2 ?_ rfl (by kernel_rfl) (by kernel_rfl) (by kernel_rfl) (fun _ _ _ h => h) (by rfl) ?_ hSc ?_
  rotate_left
  · (intro W hSW; obtain ⟨k0, k1, k2, k3⟩ := Ly.out W hSW; go_simp; try rfl)
  try simp only [Act.put, List.setIfInBounds_toArray, List.set_cons_zero, List.set_cons_succ]
  refine held_take 3 ?_ rfl (by kernel_rfl) (by kernel_rfl) (by kernel_rfl) (fun _ _ _ h => h) (by rfl) ?_ hSc ?_
  rotate_left
  · (intro W hSW; obtain ⟨k0, k1, k2, k3⟩ := Lz.out W hSW; go_simp; try rfl)
  try simp only [Act.put, List.setIfInBounds_toArray, List.set_cons_zero, List.set_cons_succ]
  refine held_take 0 ?_ rfl (by kernel_rfl) (by kernel_rfl) (by kernel_rfl) (fun _ _ _ h => h) (by rfl) ?_ hSc ?_
  rotate_left
  · (intro W hSW; go_simp; try rfl)
  try simp only [Act.put, List.setIfInBounds_toArray, List.set_cons_zero, List.set_cons_succ]
  refine held_take 6 ?_ rfl (by kernel_rfl) (by kernel_rfl) (by kernel_rfl) (fun _ _ _ h => h) (by rfl) ?_ hSc ?_
  rotate_left
  · (intro W hSW; obtain ⟨k0, k1, k2, k3⟩ := Lx.out W hSW; go_simp; try rfl)
  try simp only [Act.put, List.setIfInBounds_toArray, List.set_cons_zero, List.set_cons_succ]
  refine held_take 7 ?_ rfl (by kernel_rfl) (by kernel_rfl) (by kernel_rfl) (fun _ _ _ h => h) (by rfl) ?_ hSc ?_
  rotate_left
  · (intro W hSW; obtain ⟨k0, k1, k2, k3⟩ := Ly.out W hSW; go_simp; try rfl)
  try simp only [Act.put, List.setIfInBounds_toArray, List.set_cons_zero, List.set_cons_succ]
  refine held_take 9 ?_ rfl (by kernel_rfl) (by kernel_rfl) (by kernel_rfl) (fun _ _ _ h => h) (by rfl) ?_ hSc ?_
  rotate_left
  · (intro W hSW; obtain ⟨k0, k1, k2, k3⟩ := Lx.out W hSW; go_simp; try rfl)
  try simp only [Act.put, List.setIfInBounds_toArray, List.set_cons_zero, List.set_cons_succ]
  refine held_take 10 ?_ rfl (by kernel_rfl) (by kernel_rfl) (by kernel_rfl) (fun _ _ _ h => h) (by rfl) ?_ hSc ?_
  rotate_left
  · (intro W hSW; obtain ⟨k0, k1, k2, k3⟩ := Lz.out W hSW; go_simp; try rfl)
  try simp only [Act.put, List.setIfInBounds_toArray, List.set_cons_zero, List.set_cons_succ]
  refine held_next 4 rfl (by kernel_rfl) (by rfl) ?_
  go_simp
  refine (cor _ _ _ _ _ _ _ (TT.out.step hSc) (anyN_all _) (Cy.out.step hSc) (Cz.out.step hSc)).mono ?_
  rintro e wq41 ⟨v5, rfl, gq, bq⟩
  obtain ⟨κf, Af, nf, cf, Bf, mf, df, Df, qf, ef, rfl⟩ := gq.form
  have hbq : Below u6.heap.size u6 wq41 := hSc.trans (bq.mono hSc.size)
  refine ⟨fun W => Below u6.heap.size u6 W, fun W hW => hW, hbq, ?_⟩
  have Ef := Lib.hid gq
  clear gq hSc bq
  have hSc : Below u6.heap.size u6 wq41 := hbq
  clear hbq
  try simp only [Act.put, List.setIfInBounds_toArray, List.set_cons_zero, List.set_cons_succ]
  refine held_next 5 rfl (by kernel_rfl) (by rfl) ?_
  go_simp
  refine (cand _ _ _ _ _ _ _ (TT.out.step hSc) (anyN_all _) (Cx.out.step hSc) Ef.out).mono ?_
  rintro e wq42 ⟨v5, rfl, gq, bq⟩
  obtain ⟨κg, Ag, ng, cg, Bg, mg, dg, Dg, qg, eg, rfl⟩ := gq.form
  have hbq : Below u6.heap.size u6 wq42 := hSc.trans (bq.mono hSc.size)
  refine ⟨fun W => Below u6.heap.size u6 W, fun W hW => hW, hbq, ?_⟩
  have Ef := Lib.hid (Ef.out.step bq)
  have Eg := Lib.hid gq
  clear gq hSc bq
  have hSc : Below u6.heap.size u6 wq42 := hbq
  clear hbq
  try simp only [Act.put, List.setIfInBounds_toArray, List.set_cons_zero, List.set_cons_succ]
  refine held_next 8 rfl (by kernel_rfl) (by rfl) ?_
  go_simp
  refine (cand _ _ _ _ _ _ _ (TT.out.step hSc) (anyN_all _) (Cx.out.step hSc) (Cy.out.step hSc)).mono ?_
  rintro e wq43 ⟨v5, rfl, gq, bq⟩
  obtain ⟨κh, Ah, nh, ch, Bh, mh, dh, Dh, qh, eh, rfl⟩ := gq.form
  have hbq : Below u6.heap.size u6 wq43 := hSc.trans (bq.mono hSc.size)
  refine ⟨fun W => Below u6.heap.size u6 W, fun W hW => hW, hbq, ?_⟩
  have Ef := Lib.hid (Ef.out.step bq)
  have Eg := Lib.hid (Eg.out.step bq)
  have Eh := Lib.hid gq
  clear gq hSc bq
  have hSc : Below u6.heap.size u6 wq43 := hbq
  clear hbq
  try simp only [Act.put, List.setIfInBounds_toArray, List.set_cons_zero, List.set_cons_succ]
  refine held_next 11 rfl (by kernel_rfl) (by rfl) ?_
  go_simp
  refine (cand _ _ _ _ _ _ _ (TT.out.step hSc) (anyN_all _) (Cx.out.step hSc) (Cz.out.step hSc)).mono ?_
  rintro e wq44 ⟨v5, rfl, gq, bq⟩
  obtain ⟨κi, Ai, ni, ci, Bi, mi, di, Di, qi, ei, rfl⟩ := gq.form
  have hbq : Below u6.heap.size u6 wq44 := hSc.trans (bq.mono hSc.size)
  refine ⟨fun W => Below u6.heap.size u6 W, fun W hW => hW, hbq, ?_⟩
  have Ef := Lib.hid (Ef.out.step bq)
  have Eg := Lib.hid (Eg.out.step bq)
  have Eh := Lib.hid (Eh.out.step bq)
  have Ei := Lib.hid gq
  clear gq hSc bq
  have hSc : Below u6.heap.size u6 wq44 := hbq
  clear hbq
  try simp only [Act.put, List.setIfInBounds_toArray, List.set_cons_zero, List.set_cons_succ]
  refine held_next 12 rfl (by kernel_rfl) (by rfl) ?_
  go_simp
  refine (cor _ _ _ _ _ _ _ (TT.out.step hSc) (anyN_all _) Eh.out Ei.out).mono ?_
  rintro e wq45 ⟨v5, rfl, gq, bq⟩
  obtain ⟨κj, Aj, nj, cj, Bj, mj, dj, Dj, qj, ej, rfl⟩ := gq.form
  have hbq : Below u6.heap.size u6 wq45 := hSc.trans (bq.mono hSc.size)
  refine ⟨fun W => Below u6.heap.size u6 W, fun W hW => hW, hbq, ?_⟩
  have Ef := Lib.hid (Ef.out.step bq)
  have Eg := Lib.hid (Eg.out.step bq)
  have Eh := Lib.hid (Eh.out.step bq)
  have Ei := Lib.hid (Ei.out.step bq)
  have Ej := Lib.hid gq
  clear gq hSc bq
  have hSc : Below u6.heap.size u6 wq45 := hbq
  clear hbq
  try simp only [Act.put, List.setIfInBounds_toArray, List.set_cons_zero, List.set_cons_succ]
  refine held_next 13 rfl (by kernel_rfl) (by rfl) ?_
  go_simp
  refine (same_c _ _ _ _ _ Eg.out Ej.out (fun i hi => by show fAnd (p i) (fOr (q i) (r i)) = fOr (fAnd (p i) (q i)) (fAnd (p i) (r i)); cases p i <;> cases q i <;> cases r i <;> rfl)).mono ?_
  rintro e wq46 ⟨rfl, bq⟩
  have hbq : Below u6.heap.size u6 wq46 := hSc.trans (bq.mono hSc.size)
  refine ⟨fun W => Below u6.heap.size u6 W, fun W hW => hW, hbq, ?_⟩
  clear hSc bq
  have hSc : Below u6.heap.size u6 wq46 := hbq
  clear hbq
  try simp only [Act.put, List.setIfInBounds_toArray, List.set_cons_zero, List.set_cons_succ]
  clear Ef Eg Eh Ei Ej
  refine held_take 14 ?_ rfl (by kernel_rfl) (by kernel_rfl) (by kernel_rfl) (fun _ _ _ h => h) (by rfl) ?_ hSc ?_
  rotate_left
  · (intro W hSW; go_simp; try rfl)
  try simp only [Act.put, List.setIfInBounds_toArray, List.set_cons_zero, List.set_cons_succ]
  refine held_take 15 ?_ rfl (by kernel_rfl) (by kernel_rfl) (by kernel_rfl) (fun _ _ _ h => h) (by rfl) ?_ hSc ?_
  rotate_left
  · (intro W hSW; go_simp; try rfl)
  try simp only [Act.put, List.setIfInBounds_toArray, List.set_cons_zero, List.set_cons_succ]
  refine held_take 16 ?_ rfl (by kernel_rfl) (by kernel_rfl) (by kernel_rfl) (fun _ _ _ h => h) (by rfl) ?_ hSc ?_
  rotate_left
  · (intro W hSW; go_simp; try rfl)
  try simp only [Act.put, List.setIfInBounds_toArray, List.set_cons_zero, List.set_cons_succ]
  refine held_take 17 ?_ rfl (by kernel_rfl) (by kernel_rfl) (by kernel_rfl) (fun _ _ _ h => h) (by rfl) ?_ hSc ?_
  rotate_left
  · (intro W hSW; obtain ⟨k0, k1, k2, k3⟩ := Lx.out W hSW; go_simp; try rfl)
  try simp only [Act.put, List.setIfInBounds_toArray, List.set_cons_zero, List.set_cons_succ]
  refine held_take 18 ?_ rfl (by kernel_rfl) (by kernel_rfl) (by kernel_rfl) (fun _ _ _ h => h) (by rfl) ?_ hSc ?_
  rotate_left
  · (intro W hSW; obtain ⟨k0, k1, k2, k3⟩ := Ly.out W hSW; go_simp; try rfl)
  try simp only [Act.put, List.setIfInBounds_toArray, List.set_cons_zero, List.set_cons_succ]
  refine held_take 22 ?_ rfl (by kernel_rfl) (by kernel_rfl) (by kernel_rfl) (fun _ _ _ h => h) (by rfl) ?_ hSc ?_
  rotate_left
  · (intro W hSW; obtain ⟨k0, k1, k2, k3⟩ := Lx.out W hSW; go_simp; try rfl)
  try simp only [Act.put, List.setIfInBounds_toArray, List.set_cons_zero, List.set_cons_succ]
  refine held_take 25 ?_ rfl (by kernel_rfl) (by kernel_rfl) (by kernel_rfl) (fun _ _ _ h => h) (by rfl) ?_ hSc ?_
  rotate_left
  · (intro W hSW; obtain ⟨k0, k1, k2, k3⟩ := Ly.out W hSW; go_simp; try rfl)
  try simp only [Act.put, List.setIfInBounds_toArray, List.set_cons_zero, List.set_cons_succ]
  refine held_take 21 ?_ rfl (by kernel_rfl) (by kernel_rfl) (by kernel_rfl) (fun _ _ _ h => h) (by rfl) ?_ hSc ?_
  rotate_left
  · (intro W hSW; go_simp; try rfl)
  try simp only [Act.put, List.setIfInBounds_toArray, List.set_cons_zero, List.set_cons_succ]
  refine held_take 24 ?_ rfl (by kernel_rfl) (by kernel_rfl) (by kernel_rfl) (fun _ _ _ h => h) (by rfl) ?_ hSc ?_
  rotate_left
  · (intro W hSW; go_simp; try rfl)
  try simp only [Act.put, List.setIfInBounds_toArray, List.set_cons_zero, List.set_cons_succ]
  refine held_next 19 rfl (by kernel_rfl) (by rfl) ?_
  go_simp
  refine (cor _ _ _ _ _ _ _ (TT.out.step hSc) (anyN_all _) (Cx.out.step hSc) (Cy.out.step hSc)).mono ?_
  rintro e wq47 ⟨v5, rfl, gq, bq⟩
  obtain ⟨κf, Af, nf, cf, Bf, mf, df, Df, qf, ef, rfl⟩ := gq.form
  have hbq : Below u6.heap.size u6 wq47 := hSc.trans (bq.mono hSc.size)
  refine ⟨fun W => Below u6.heap.size u6 W, fun W hW => hW, hbq, ?_⟩
  have Ef := Lib.hid gq
  clear gq hSc bq
  have hSc : Below u6.heap.size u6 wq47 := hbq
  clear hbq
  try simp only [Act.put, List.setIfInBounds_toArray, List.set_cons_zero, List.set_cons_succ]
  refine held_next 20 rfl (by kernel_rfl) (by rfl) ?_
  go_simp
  refine (not_c _ _ _ _ (TT.out.step hSc) Ef.out).mono ?_
  rintro e wq48 ⟨v5, rfl, gq, bq⟩
  obtain ⟨κg, Ag, ng, cg, Bg, mg, dg, Dg, qg, eg, rfl⟩ := gq.form
  have hbq : Below u6.heap.size u6 wq48 := hSc.trans (bq.mono hSc.size)
  refine ⟨fun W => Below u6.heap.size u6 W, fun W hW => hW, hbq, ?_⟩
  have Ef := Lib.hid (Ef.out.step bq)
  have Eg := Lib.hid gq
  clear gq hSc bq
  have hSc : Below u6.heap.size u6 wq48 := hbq
  clear hbq
  try simp only [Act.put, List.setIfInBounds_toArray, List.set_cons_zero, List.set_cons_succ]
  refine held_next 23 rfl (by kernel_rfl) (by rfl) ?_
  go_simp
  refine (not_c _ _ _ _ (TT.out.step hSc) (Cx.out.step hSc)).mono ?_
  rintro e wq49 ⟨v5, rfl, gq, bq⟩
  obtain ⟨κh, Ah, nh, ch, Bh, mh, dh, Dh, qh, eh, rfl⟩ := gq.form
  have hbq : Below u6.heap.size u6 wq49 := hSc.trans (bq.mono hSc.size)
  refine ⟨fun W => Below u6.heap.size u6 W, fun W hW => hW, hbq, ?_⟩
  have Ef := Lib.hid (Ef.out.step bq)
  have Eg := Lib.hid (Eg.out.step bq)
  have Eh := Lib.hid gq
  clear gq hSc bq
  have hSc : Below u6.heap.size u6 wq49 := hbq
  clear hbq
  try simp only [Act.put, List.setIfInBounds_toArray, List.set_cons_zero, List.set_cons_succ]
  refine held_next 26 rfl (by kernel_rfl) (by rfl) ?_
  go_simp
  refine (not_c _ _ _ _ (TT.out.step hSc) (Cy.out.step hSc)).mono ?_
  rintro e wq50 ⟨v5, rfl, gq, bq⟩
  obtain ⟨κi, Ai, ni, ci, Bi, mi, di, Di, qi, ei, rfl⟩ := gq.form
  have hbq : Below u6.heap.size u6 wq50 := hSc.trans (bq.mono hSc.size)
  refine ⟨fun W => Below u6.heap.size u6 W, fun W hW => hW, hbq, ?_⟩
  have Ef := Lib.hid (Ef.out.step bq)
  have Eg := Lib.hid (Eg.out.step bq)
  have Eh := Lib.hid (Eh.out.step bq)
  have Ei := Lib.hid gq
  clear gq hSc bq
  have hSc : Below u6.heap.size u6 wq50 := hbq
  clear hbq
  try simp only [Act.put, List.setIfInBounds_toArray, List.set_cons_zero, List.set_cons_succ]
  refine held_next 27 rfl (by kernel_rfl) (by rfl) ?_
  go_simp
  refine (cand _ _ _ _ _ _ _ (TT.out.step hSc) (anyN_all _) Eh.out Ei.out).mono ?_
  rintro e wq51 ⟨v5, rfl, gq, bq⟩
  obtain ⟨κj, Aj, nj, cj, Bj, mj, dj, Dj, qj, ej, rfl⟩ := gq.form
  have hbq : Below u6.heap.size u6 wq51 := hSc.trans (bq.mono hSc.size)
  refine ⟨fun W => Below u6.heap.size u6 W, fun W hW => hW, hbq, ?_⟩
  have Ef := Lib.hid (Ef.out.step bq)
  have Eg := Lib.hid (Eg.out.step bq)
  have Eh := Lib.hid (Eh.out.step bq)
  have Ei := Lib.hid (Ei.out.step bq)
  have Ej := Lib.hid gq
  clear gq hSc bq
  have hSc : Below u6.heap.size u6 wq51 := hbq
  clear hbq
  try simp only [Act.put, List.setIfInBounds_toArray, List.set_cons_zero, List.set_cons_succ]
  refine held_next 28 rfl (by kernel_rfl) (by rfl) ?_
  go_simp
  refine (same_c _ _ _ _ _ Eg.out Ej.out (fun i hi => by show flp (fun x => fOr (p x) (q x)) 0 65536 i = fAnd (flp p 0 65536 i) (flp q 0 65536 i); rw [flp_all _ i hi, flp_all _ i hi, flp_all _ i hi]; show (!fOr (p i) (q i)) = fAnd (!p i) (!q i); cases p i <;> cases q i <;> cases r i <;> rfl)).mono ?_
  rintro e wq52 ⟨rfl, bq⟩
  have hbq : Below u6.heap.size u6 wq52 := hSc.trans (bq.mono hSc.size)
  refine ⟨fun W => Below u6.heap.size u6 W, fun W hW => hW, hbq, ?_⟩
  clear hSc bq
  have hSc : Below u6.heap.size u6 wq52 := hbq
  clear hbq
  try simp only [Act.put, List.setIfInBounds_toArray, List.set_cons_zero, List.set_cons_succ]
  clear Ef Eg Eh Ei Ej
  refine held_take 29 ?_ rfl (by kernel_rfl) (by kernel_rfl) (by kernel_rfl) (fun _ _ _ h => h) (by rfl) ?_ hSc ?_
  rotate_left
  · (intro W hSW; go_simp; try rfl)
  try simp only [Act.put, List.setIfInBounds_toArray, List.set_cons_zero, List.set_cons_succ]
  refine held_take 30 ?_ rfl (by kernel_rfl) (by kernel_rfl) (by kernel_rfl) (fun _ _ _ h => h) (by rfl) ?_ hSc ?_
  rotate_left
  · (intro W hSW; go_simp; try rfl)
  try simp only [Act.put, List.setIfInBounds_toArray, List.set_cons_zero, List.set_cons_succ]
  refine held_take 31 ?_ rfl (by kernel_rfl) (by kernel_rfl) (by kernel_rfl) (fun _ _ _ h => h) (by rfl) ?_ hSc ?_
  rotate_left
  · (intro W hSW; go_simp; try rfl)
  try simp only [Act.put, List.setIfInBounds_toArray, List.set_cons_zero, List.set_cons_succ]
  refine held_take 32 ?_ rfl (by kernel_rfl) (by kernel_rfl) (by kernel_rfl) (fun _ _ _ h => h) (by rfl) ?_ hSc ?_
  rotate_left
  · (intro W hSW; obtain ⟨k0, k1, k2, k3⟩ := Lx.out W hSW; go_simp; try rfl)
  try simp only [Act.put, List.setIfInBounds_toArray, List.set_cons_zero, List.set_cons_succ]
  refine held_take 33 ?_ rfl (by kernel_rfl) (by kernel_rfl) (by kernel_rfl) (fun _ _ _ h => h) (by rfl) ?_ hSc ?_
  rotate_left
  · (intro W hSW; obtain ⟨k0, k1, k2, k3⟩ := Ly.out W hSW; go_simp; try rfl)
  try simp only [Act.put, List.setIfInBounds_toArray, List.set_cons_zero, List.set_cons_succ]
  refine held_take 35 ?_ rfl (by kernel_rfl) (by kernel_rfl) (by kernel_rfl) (fun _ _ _ h => h) (by rfl) ?_ hSc ?_
  rotate_left
  · (intro W hSW; obtain ⟨k0, k1, k2, k3⟩ := Lz.out W hSW; go_simp; try rfl)
  try simp only [Act.put, List.setIfInBounds_toArray, List.set_cons_zero, List.set_cons_succ]
  refine held_take 37 ?_ rfl (by kernel_rfl) (by kernel_rfl) (by kernel_rfl) (fun _ _ _ h => h) (by rfl) ?_ hSc ?_
  rotate_left
  · (intro W hSW; obtain ⟨k0, k1, k2, k3⟩ := Lx.out W hSW; go_simp; try rfl)
  try simp only [Act.put, List.setIfInBounds_toArray, List.set_cons_zero, List.set_cons_succ]
  refine held_take 38 ?_ rfl (by kernel_rfl) (by kernel_rfl) (by kernel_rfl) (fun _ _ _ h => h) (by rfl) ?_ hSc ?_
  rotate_left
  · (intro W hSW; obtain ⟨k0, k1, k2, k3⟩ := Ly.out W hSW; go_simp; try rfl)
  try simp only [Act.put, List.setIfInBounds_toArray, List.set_cons_zero, List.set_cons_succ]
  refine held_take 39 ?_ rfl (by kernel_rfl) (by kernel_rfl) (by kernel_rfl) (fun _ _ _ h => h) (by rfl) ?_ hSc ?_
  rotate_left
  · (intro W hSW; obtain ⟨k0, k1, k2, k3⟩ := Lz.out W hSW; go_simp; try rfl)
  try simp only [Act.put, List.setIfInBounds_toArray, List.set_cons_zero, List.set_cons_succ]
  refine held_next 34 rfl (by kernel_rfl) (by rfl) ?_
  go_simp
  refine (cxor _ _ _ _ _ _ _ (TT.out.step hSc) (anyN_all _) (Cx.out.step hSc) (Cy.out.step hSc)).mono ?_
  rintro e wq53 ⟨v5, rfl, gq, bq⟩
  obtain ⟨κf, Af, nf, cf, Bf, mf, df, Df, qf, ef, rfl⟩ := gq.form
  have hbq : Below u6.heap.size u6 wq53 := hSc.trans (bq.mono hSc.size)
  refine ⟨fun W => Below u6.heap.size u6 W, fun W hW => hW, hbq, ?_⟩
  have Ef := Lib.hid gq
  clear gq hSc bq
  have hSc : Below u6.heap.size u6 wq53 := hbq
  clear hbq
  try simp only [Act.put, List.setIfInBounds_toArray, List.set_cons_zero, List.set_cons_succ]
  refine held_next 36 rfl (by kernel_rfl) (by rfl) ?_
  go_simp
  refine (cxor _ _ _ _ _ _ _ (TT.out.step hSc) (anyN_all _) Ef.out (Cz.out.step hSc)).mono ?_
  rintro e wq54 ⟨v5, rfl, gq, bq⟩
  obtain ⟨κg, Ag, ng, cg, Bg, mg, dg, Dg, qg, eg, rfl⟩ := gq.form
  have hbq : Below u6.heap.size u6 wq54 := hSc.trans (bq.mono hSc.size)
  refine ⟨fun W => Below u6.heap.size u6 W, fun W hW => hW, hbq, ?_⟩
  have Ef := Lib.hid (Ef.out.step bq)
  have Eg := Lib.hid gq
  clear gq hSc bq
  have hSc : Below u6.heap.size u6 wq54 := hbq
  clear hbq
  try simp only [Act.put, List.setIfInBounds_toArray, List.set_cons_zero, List.set_cons_succ]
  refine held_next 40 rfl (by kernel_rfl) (by rfl) ?_
  go_simp
  refine (cxor _ _ _ _ _ _ _ (TT.out.step hSc) (anyN_all _) (Cy.out.step hSc) (Cz.out.step hSc)).mono ?_
  rintro e wq55 ⟨v5, rfl, gq, bq⟩
  obtain ⟨κh, Ah, nh, ch, Bh, mh, dh, Dh, qh, eh, rfl⟩ := gq.form
  have hbq : Below u6.heap.size u6 wq55 := hSc.trans (bq.mono hSc.size)
  refine ⟨fun W => Below u6.heap.size u6 W, fun W hW => hW, hbq, ?_⟩
  have Ef := Lib.hid (Ef.out.step bq)
  have Eg := Lib.hid (Eg.out.step bq)
  have Eh := Lib.hid gq
  clear gq hSc bq
  have hSc : Below u6.heap.size u6 wq55 := hbq
  clear hbq
  try simp only [Act.put, List.setIfInBounds_toArray, List.set_cons_zero, List.set_cons_succ]
  refine held_next 41 rfl (by kernel_rfl) (by rfl) ?_
  go_simp
  refine (cxor _ _ _ _ _ _ _ (TT.out.step hSc) (anyN_all _) (Cx.out.step hSc) Eh.out).mono ?_
  rintro e wq56 ⟨v5, rfl, gq, bq⟩
  obtain ⟨κi, Ai, ni, ci, Bi, mi, di, Di, qi, ei, rfl⟩ := gq.form
  have hbq : Below u6.heap.size u6 wq56 := hSc.trans (bq.mono hSc.size)
  refine ⟨fun W => Below u6.heap.size u6 W, fun W hW => hW, hbq, ?_⟩
  have Ef := Lib.hid (Ef.out.step bq)
  have Eg := Lib.hid (Eg.out.step bq)
  have Eh := Lib.hid (Eh.out.step bq)
  have Ei := Lib.hid gq
  clear gq hSc bq
  have hSc : Below u6.heap.size u6 wq56 := hbq
  clear hbq
  try simp only [Act.put, List.setIfInBounds_toArray, List.set_cons_zero, List.set_cons_succ]
  refine held_next 42 rfl (by kernel_rfl) (by rfl) ?_
  go_simp
  refine (same_c _ _ _ _ _ Eg.out Ei.out (fun i hi => by show fXor (fXor (p i) (q i)) (r i) = fXor (p i) (fXor (q i) (r i)); cases p i <;> cases q i <;> cases r i <;> rfl)).mono ?_
  rintro e wq57 ⟨rfl, bq⟩
  have hbq : Below u6.heap.size u6 wq57 := hSc.trans (bq.mono hSc.size)
  refine ⟨fun W => Below u6.heap.size u6 W, fun W hW => hW, hbq, ?_⟩
  clear hSc bq
  have hSc : Below u6.heap.size u6 wq57 := hbq
  clear hbq
  try simp only [Act.put, List.setIfInBounds_toArray, List.set_cons_zero, List.set_cons_succ]
  clear Ef Eg Eh Ei
  refine held_take 43 ?_ rfl (by kernel_rfl) (by kernel_rfl) (by kernel_rfl) (fun _ _ _ h => h) (by rfl) ?_ hSc ?_
  rotate_left
  · (intro W hSW; go_simp; try rfl)
  try simp only [Act.put, List.setIfInBounds_toArray, List.set_cons_zero, List.set_cons_succ]
  refine held_take 44 ?_ rfl (by kernel_rfl) (by kernel_rfl) (by kernel_rfl) (fun _ _ _ h => h) (by rfl) ?_ hSc ?_
  rotate_left
  · (intro W hSW; go_simp; try rfl)
  try simp only [Act.put, List.setIfInBounds_toArray, List.set_cons_zero, List.set_cons_succ]
  refine held_take 45 ?_ rfl (by kernel_rfl) (by kernel_rfl) (by kernel_rfl) (fun _ _ _ h => h) (by rfl) ?_ hSc ?_
  rotate_left
  · (intro W hSW; go_simp; try rfl)
  try simp only [Act.put, List.setIfInBounds_toArray, List.set_cons_zero, List.set_cons_succ]
  refine held_take 46 ?_ rfl (by kernel_rfl) (by kernel_rfl) (by kernel_rfl) (fun _ _ _ h => h) (by rfl) ?_ hSc ?_
  rotate_left
  · (intro W hSW; obtain ⟨k0, k1, k2, k3⟩ := Lx.out W hSW; go_simp; try rfl)
  try simp only [Act.put, List.setIfInBounds_toArray, List.set_cons_zero, List.set_cons_succ]
  refine held_take 47 ?_ rfl (by kernel_rfl) (by kernel_rfl) (by kernel_rfl) (fun _ _ _ h => h) (by rfl) ?_ hSc ?_
  rotate_left
  · (intro W hSW; obtain ⟨k0, k1, k2, k3⟩ := Ly.out W hSW; go_simp; try rfl)
  try simp only [Act.put, List.setIfInBounds_toArray, List.set_cons_zero, List.set_cons_succ]
  refine held_take 49 ?_ rfl (by kernel_rfl) (by kernel_rfl) (by kernel_rfl) (fun _ _ _ h => h) (by rfl) ?_ hSc ?_
  rotate_left
  · (intro W hSW; obtain ⟨k0, k1, k2, k3⟩ := Lx.out W hSW; go_simp; try rfl)
  try simp only [Act.put, List.setIfInBounds_toArray, List.set_cons_zero, List.set_cons_succ]
  refine held_take 51 ?_ rfl (by kernel_rfl) (by kernel_rfl) (by kernel_rfl) (fun _ _ _ h => h) (by rfl) ?_ hSc ?_
  rotate_left
  · (intro W hSW; obtain ⟨k0, k1, k2, k3⟩ := Ly.out W hSW; go_simp; try rfl)
  try simp only [Act.put, List.setIfInBounds_toArray, List.set_cons_zero, List.set_cons_succ]
  refine held_take 50 ?_ rfl (by kernel_rfl) (by kernel_rfl) (by kernel_rfl) (fun _ _ _ h => h) (by rfl) ?_ hSc ?_
  rotate_left
  · (intro W hSW; go_simp; try rfl)
  try simp only [Act.put, List.setIfInBounds_toArray, List.set_cons_zero, List.set_cons_succ]
  refine held_next 48 rfl (by kernel_rfl) (by rfl) ?_
  go_simp
  refine (cnot _ _ _ _ _ _ _ (TT.out.step hSc) (anyN_all _) (Cx.out.step hSc) (Cy.out.step hSc)).mono ?_
  rintro e wq58 ⟨v5, rfl, gq, bq⟩
  obtain ⟨κf, Af, nf, cf, Bf, mf, df, Df, qf, ef, rfl⟩ := gq.form
  have hbq : Below u6.heap.size u6 wq58 := hSc.trans (bq.mono hSc.size)
  refine ⟨fun W => Below u6.heap.size u6 W, fun W hW => hW, hbq, ?_⟩
  have Ef := Lib.hid gq
  clear gq hSc bq
  have hSc : Below u6.heap.size u6 wq58 := hbq
  clear hbq
  try simp only [Act.put, List.setIfInBounds_toArray, List.set_cons_zero, List.set_cons_succ]
  refine held_next 52 rfl (by kernel_rfl) (by rfl) ?_
  go_simp
  refine (not_c _ _ _ _ (TT.out.step hSc) (Cy.out.step hSc)).mono ?_
  rintro e wq59 ⟨v5, rfl, gq, bq⟩
  obtain ⟨κg, Ag, ng, cg, Bg, mg, dg, Dg, qg, eg, rfl⟩ := gq.form
  have hbq : Below u6.heap.size u6 wq59 := hSc.trans (bq.mono hSc.size)
  refine ⟨fun W => Below u6.heap.size u6 W, fun W hW => hW, hbq, ?_⟩
  have Ef := Lib.hid (Ef.out.step bq)
  have Eg := Lib.hid gq
  clear gq hSc bq
  have hSc : Below u6.heap.size u6 wq59 := hbq
  clear hbq
  try simp only [Act.put, List.setIfInBounds_toArray, List.set_cons_zero, List.set_cons_succ]
  refine held_next 53 rfl (by kernel_rfl) (by rfl) ?_
  go_simp
  refine (cand _ _ _ _ _ _ _ (TT.out.step hSc) (anyN_all _) (Cx.out.step hSc) Eg.out).mono ?_
  rintro e wq60 ⟨v5, rfl, gq, bq⟩
  obtain ⟨κh, Ah, nh, ch, Bh, mh, dh, Dh, qh, eh, rfl⟩ := gq.form
  have hbq : Below u6.heap.size u6 wq60 := hSc.trans (bq.mono hSc.size)
  refine ⟨fun W => Below u6.heap.size u6 W, fun W hW => hW, hbq, ?_⟩
  have Ef := Lib.hid (Ef.out.step bq)
  have Eg := Lib.hid (Eg.out.step bq)
  have Eh := Lib.hid gq
  clear gq hSc bq
  have hSc : Below u6.heap.size u6 wq60 := hbq
  clear hbq
  try simp only [Act.put, List.setIfInBounds_toArray, List.set_cons_zero, List.set_cons_succ]
  refine held_next 54 rfl (by kernel_rfl) (by rfl) ?_
  go_simp
  refine (same_c _ _ _ _ _ Ef.out Eh.out (fun i hi => by show fNot (p i) (q i) = fAnd (p i) (flp q 0 65536 i); rw [flp_all _ i hi]; cases p i <;> cases q i <;> cases r i <;> rfl)).mono ?_
  rintro e wq61 ⟨rfl, bq⟩
  have hbq : Below u6.heap.size u6 wq61 := hSc.trans (bq.mono hSc.size)
  refine ⟨fun W => Below u6.heap.size u6 W, fun W hW => hW, hbq, ?_⟩
  clear hSc bq
  have hSc : Below u6.heap.size u6 wq61 := hbq
  clear hbq
  try simp only [Act.put, List.setIfInBounds_toArray, List.set_cons_zero, List.set_cons_succ]
  clear Ef Eg Eh
  refine held_take 55 ?_ rfl (by kernel_rfl) (by kernel_rfl) (by kernel_rfl) (fun _ _ _ h => h) (by rfl) ?_ hSc ?_
  rotate_left
  · (intro W hSW; go_simp; try rfl)
  try simp only [Act.put, List.setIfInBounds_toArray, List.set_cons_zero, List.set_cons_succ]
  refine held_take 56 ?_ rfl (by kernel_rfl) (by kernel_rfl) (by kernel_rfl) (fun _ _ _ h => h) (by rfl) ?_ hSc ?_
  rotate_left
  · (intro W hSW; go_simp; try rfl)
  try simp only [Act.put, List.setIfInBounds_toArray, List.set_cons_zero, List.set_cons_succ]
  refine held_next 57 rfl (by kernel_rfl) (by rfl) ?_
  go_simp
  refine (known_any _ (TT.out.step hSc)).mono ?_
  rintro e wq62 ⟨rfl, bq⟩
  have hbq : Below u6.heap.size u6 wq62 := hSc.trans (bq.mono hSc.size)
  refine ⟨fun W => Below u6.heap.size u6 W, fun W hW => hW, hbq, ?_⟩
  clear hSc bq
  have hSc : Below u6.heap.size u6 wq62 := hbq
  clear hbq
  try simp only [Act.put, List.setIfInBounds_toArray, List.set_cons_zero, List.set_cons_succ]
  refine held_take 58 ?_ rfl (by kernel_rfl) (by kernel_rfl) (by kernel_rfl) (fun _ _ _ h => h) (by rfl) ?_ hSc ?_
  rotate_left
  · (intro W hSW; go_simp; try rfl)
  try simp only [Act.put, List.setIfInBounds_toArray, List.set_cons_zero, List.set_cons_succ]
  refine held_next 59 rfl (by kernel_rfl) (by rfl) ?_
  go_simp
  refine ⟨fun W => Below u6.heap.size u6 W, fun W hW => hW, hSc, ?_⟩
  refine wpAnyH_done (by kernel_rfl) ?_ _
  have B1 := Lib.hid (below_both BB.out hSc)
  go_wp2
  go_ret
  exact ⟨rfl, B1.out⟩
end Go.Proofs.YtfefmlnlicilbaaGreatDoor
namespace Go.Proofs.YtfefmlnlicilbaaGreatDoor
open Go.ChangeShapes Go.WideShapes Go.ChangeAt Go.RowKit
open Go.ChangeMaps (open_string shut_string)
set_option linter.unusedVariables false

theorem containerLaws_walk (a0 : Option Addr) (len0 cap0 : Nat) (z0 : List Int) (a1 : Option Addr) (len1 cap1 : Nat) (z1 : List Int) (a2 : Option Addr) (len2 cap2 : Nat) (z2 : List Int) (a3 : Int) (w : World) (hT : Tb w) (w0 : IsRow .u16 w a0 len0 cap0 z0) (w1 : IsRow .u16 w a1 len1 cap1 z1) (w2 : IsRow .u16 w a2 len2 cap2 z2) (w3 : (Lit.int .u8 a3).wf = true) :
    Calls Tryz.prog 5 #[.slice a0 len0 cap0, .slice a1 len1 cap1, .slice a2 len2 cap2, .int .u8 a3] w fun e w' => e = .returned (.bool true) ∧ Below w.heap.size w w' := by
  obtain ⟨l0, rfl, g0⟩ := gs16_of_row w0
  obtain ⟨l1, rfl, g1⟩ := gs16_of_row w1
  obtain ⟨l2, rfl, g2⟩ := gs16_of_row w2
  have r0 := g0.len
  have r1 := g1.len
  have r2 := g2.len
  have hz : 0 ≤ a3 ∧ a3 ≤ 255 := by
    simp [Lit.wf, IntKind.min, IntKind.max, IntKind.bits, IntKind.signed] at w3
    omega
  by_cases h0 : 1000 < l0.length
  · exact laws_long0 a0 a1 a2 l0.length cap0 l1.length cap1 l2.length cap2 a3 w hT h0 r0
  · by_cases h1 : 1000 < l1.length
    · exact laws_long1 a0 a1 a2 l0.length cap0 l1.length cap1 l2.length cap2 a3 w hT (by omega) h1 r1
    · by_cases h2 : 1000 < l2.length
      · exact laws_long2 a0 a1 a2 l0.length cap0 l1.length cap1 l2.length cap2 a3 w hT (by omega) (by omega) h2 r2
      · exact laws_good _ _ _ l0 l1 l2 a3 w hT g0 g1 g2 (by omega) (by omega) (by omega) hz.1 hz.2

set_option maxRecDepth 100000 in
theorem containerLaws_lifted (os : Os) (started : os.Started) (H : Type) (enc : TypeId × Value → H) :
    ReturnsInHanded {} Tryz.checked os 5 .any (fun w args => (Rows.containerLawsSpec.pre enc Tryz.prog Tryz.f5 [] false w args ∧ laidMetH Tryz.prog laidAll w) ∧ sizedMet enc Tryz.prog Tryz.f5 (OpenSpec.ofChange Rows.containerLawsSpec) false w args) (Rows.containerLawsSpec.post enc Tryz.prog Tryz.f5 false true false false) := by
  refine returnsInHanded_of_change_and (C := Tryz.checked) (X := fun w _ => laidMetH Tryz.prog laidAll w) (fun _ _ _ hh h => h.of_heap hh) own_knob started (by kernel_rfl) Tryz.func5
    (ChangeSpec.witness_shaped (enc := enc) (C := Tryz.checked) (os := os) (X := fun w _ => laidMetH Tryz.prog laidAll w) false (World.doorLaid Tryz.prog 14 os) #[.slice none 0 0, .slice none 0 0, .slice none 0 0, .int .u8 0] 8 rfl (World.shaped_of_RefB (by kernel_rfl) (by kernel_rfl)) (by kernel_rfl) (by kernel_rfl) (by kernel_rfl) (door_met os _)) ?_
  intro W base args ds gs before hval0 hW _ _ hL _
  have hval : ∀ (j : Nat) t v, Tryz.f5.params[j]? = some t → args[j]? = some v → Value.okWide Tryz.prog W .any base t v := hval0
  have hW' := hW
  obtain ⟨p, q, hA0, hV, rfl, hfz, hnd⟩ := hW
  have hA : DataW.TrodAll enc Tryz.prog W 0 (fun _ => true) true Tryz.f5.params.toList args.toList ds p := hA0
  rw [Tryz.params5] at hA hval
  obtain ⟨v0, vs0, d0, ds0, p0, q0, hargs, rfl, rfl, h0, r0⟩ := trodAll_cons hA
  obtain ⟨v1, vs1, d1, ds1, p1, q1, rfl, rfl, rfl, h1, r1⟩ := trodAll_cons r0
  obtain ⟨v2, vs2, d2, ds2, p2, q2, rfl, rfl, rfl, h2, r2⟩ := trodAll_cons r1
  obtain ⟨v3, vs3, d3, ds3, p3, q3, rfl, rfl, rfl, h3, r3⟩ := trodAll_cons r2
  obtain ⟨rfl, rfl, rfl⟩ := trodAll_nil r3
  obtain rfl : args = #[v0, v1, v2, v3] := by cases args; simp_all
  obtain ⟨rfl, rfl⟩ := trodVars_none hV
  obtain ⟨a0, len0, cap0, rfl⟩ := okWide_slice Tryz.underlying22 (hval 0 22 v0 rfl rfl)
  have k0 := h0
  have lt0 : ∀ x ∈ p0, x.block < W.heap.size := by obtain ⟨m, hm⟩ := k0; exact DataW.trod_lt m _ _ _ hm
  obtain ⟨z0, w0⟩ : ∃ zs, IsRow .u16 W a0 len0 cap0 zs := by
    obtain ⟨fuel, hf⟩ := h0
    rcases open_ints Tryz.underlying22 Tryz.underlying23 (by kernel_rfl) hf with ⟨hcs, _⟩ | ⟨x, l, c, zs, hcs, _, hl, hm, hz, _, hcell, hwz⟩
    · simp [Value.cells] at hcs
      obtain ⟨rfl, rfl, rfl⟩ := hcs
      exact ⟨[], .inl ⟨rfl, rfl, rfl, rfl⟩⟩
    · simp [Value.cells] at hcs
      obtain ⟨rfl, rfl, rfl⟩ := hcs
      exact ⟨zs, .inr ⟨_, rfl, hl, hm, by simpa using hz, hcell, hwz⟩⟩
  obtain ⟨a1, len1, cap1, rfl⟩ := okWide_slice Tryz.underlying22 (hval 1 22 v1 rfl rfl)
  have k1 := h1
  have lt1 : ∀ x ∈ p1, x.block < W.heap.size := by obtain ⟨m, hm⟩ := k1; exact DataW.trod_lt m _ _ _ hm
  obtain ⟨z1, w1⟩ : ∃ zs, IsRow .u16 W a1 len1 cap1 zs := by
    obtain ⟨fuel, hf⟩ := h1
    rcases open_ints Tryz.underlying22 Tryz.underlying23 (by kernel_rfl) hf with ⟨hcs, _⟩ | ⟨x, l, c, zs, hcs, _, hl, hm, hz, _, hcell, hwz⟩
    · simp [Value.cells] at hcs
      obtain ⟨rfl, rfl, rfl⟩ := hcs
      exact ⟨[], .inl ⟨rfl, rfl, rfl, rfl⟩⟩
    · simp [Value.cells] at hcs
      obtain ⟨rfl, rfl, rfl⟩ := hcs
      exact ⟨zs, .inr ⟨_, rfl, hl, hm, by simpa using hz, hcell, hwz⟩⟩
  obtain ⟨a2, len2, cap2, rfl⟩ := okWide_slice Tryz.underlying22 (hval 2 22 v2 rfl rfl)
  have k2 := h2
  have lt2 : ∀ x ∈ p2, x.block < W.heap.size := by obtain ⟨m, hm⟩ := k2; exact DataW.trod_lt m _ _ _ hm
  obtain ⟨z2, w2⟩ : ∃ zs, IsRow .u16 W a2 len2 cap2 zs := by
    obtain ⟨fuel, hf⟩ := h2
    rcases open_ints Tryz.underlying22 Tryz.underlying23 (by kernel_rfl) hf with ⟨hcs, _⟩ | ⟨x, l, c, zs, hcs, _, hl, hm, hz, _, hcell, hwz⟩
    · simp [Value.cells] at hcs
      obtain ⟨rfl, rfl, rfl⟩ := hcs
      exact ⟨[], .inl ⟨rfl, rfl, rfl, rfl⟩⟩
    · simp [Value.cells] at hcs
      obtain ⟨rfl, rfl, rfl⟩ := hcs
      exact ⟨zs, .inr ⟨_, rfl, hl, hm, by simpa using hz, hcell, hwz⟩⟩
  obtain ⟨a3, rfl, rfl, rfl, w3⟩ := open_int Tryz.underlying5 (hval 3 5 v3 rfl rfl) h3
  clear hA0 hval0
  refine (containerLaws_walk a0 len0 cap0 z0 a1 len1 cap1 z1 a2 len2 cap2 z2 a3 W (tb_of_laid hL) w0 w1 w2 w3).mono fun e W' ⟨he, bel⟩ => ?_
  subst he
  exact ⟨_, rfl, _, _, _, [], _, [], hW', trodAll_mk1 (shut_bool Tryz.underlying4 _), (trodAll_cons_mk (Below.trod laid_out (by kernel_rfl) (of_decide_eq_true (by kernel_rfl)) k0 bel lt0) (trodAll_cons_mk (Below.trod laid_out (by kernel_rfl) (of_decide_eq_true (by kernel_rfl)) k1 bel lt1) (trodAll_cons_mk (Below.trod laid_out (by kernel_rfl) (of_decide_eq_true (by kernel_rfl)) k2 bel lt2) (trodAll_cons_mk (shut_int Tryz.underlying5 w3) trodAll_mk0)))), rfl, bel.frame _, fun h => by cases h⟩

theorem containerLaws_over : Rows.containerLawsRow.holds Tryz.pinned (OpenSpec.ofChange Rows.containerLawsSpec) :=
  OpenClaim.holds_of_wide 5 Tryz.f5 rfl rfl rfl rfl rfl rfl rfl ⟨rfl, rfl, rfl, rfl, rfl⟩ rfl rfl rfl rfl rfl (by kernel_rfl) Tryz.func5 (by kernel_rfl)
    (of_decide_eq_true (by kernel_rfl)) (by unfold Func.isWrapper; first | (rw [if_pos (by decide +kernel)]; kernel_rfl) | (rw [if_neg (by decide +kernel)]; exact ⟨rfl, rfl⟩))
    (fun os started H enc _ => containerLaws_lifted os started H enc)


theorem containerLaws_holds : Rows.ContainerLawsCardSaid :=
  Claim7.holds_tied_plain_at .later [] [.data] true _ false
    containerLaws_over (fun _ h => by cases h) (by kernel_rfl) (fun _ h => by cases h) containerLaws_row_tie rfl ⟨rfl, rfl⟩ (by kernel_rfl) rfl
    (fun f fn hf hfn => by
      obtain rfl : f = 5 := Option.some.inj ((show Tryz.prog.funcNamed "isinglass/isinglasslaw07.ContainerLaws" = some 5 by kernel_rfl).symm.trans hf) |>.symm
      obtain rfl : fn = Tryz.f5 := (Option.some.inj (Tryz.func5.symm.trans hfn)).symm
      exact ⟨by kernel_rfl, fun j t ht => by
        rw [Tryz.params5] at ht
        have hm : t ∈ [22, 5] := by have := Array.mem_of_getElem? ht; simp at this ⊢; omega
        have hall : ([22, 5].all fun u => !Tryz.prog.wantsStandIn u) = true := by kernel_rfl
        exact (show Tryz.prog.wantsStandIn t = false by simpa using List.all_eq_true.1 hall t hm)⟩)
    (by kernel_rfl)
#print axioms containerLaws_holds
end Go.Proofs.YtfefmlnlicilbaaGreatDoor
