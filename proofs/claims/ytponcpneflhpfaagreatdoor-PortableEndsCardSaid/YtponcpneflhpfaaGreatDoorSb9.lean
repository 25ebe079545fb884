/- Walks: OfArray. -/
import Derived.Test.YtponcpneflhpfaaGreatDoorSb8
namespace Go.Proofs.YtponcpneflhpfaaGreatDoor
open Go.RowKit
set_option linter.unusedVariables false

/-- Behind w: block g1 and block g2 are as told. -/
structure Bx (w : World) (g1 : Nat) (t1 : TypeId) (o1 : Array Value) (g2 : Nat) (t2 : TypeId) (o2 : Array Value) (W : World) : Prop where
  bel : Below w.heap.size w W
  r1 : Row W g1 t1 o1
  r2 : Row W g2 t2 o2
theorem Bx.step {w W W' : World} {g1 g2 : Nat} {t1 t2 : TypeId} {o1 o2 : Array Value} (h : Bx w g1 t1 o1 g2 t2 o2 W) (b : Below W.heap.size W W') : Bx w g1 t1 o1 g2 t2 o2 W' :=
  ⟨below_both h.bel b, h.r1.below b h.r1.lt, h.r2.below b h.r2.lt⟩
theorem Bx.stored {w W W' : World} {g1 g2 g : Nat} {t1 t2 : TypeId} {o1 o2 : Array Value} (h : Bx w g1 t1 o1 g2 t2 o2 W) (hg : W.grownBy W' (some g)) (h0 : w.heap.size ≤ g) (n1 : g ≠ g1) (n2 : g ≠ g2) : Bx w g1 t1 o1 g2 t2 o2 W' :=
  ⟨h.bel.grown hg h.bel.size (fun j e => by injection e with e; omega), h.r1.grown hg (by intro e; injection e with e; exact n1 e), h.r2.grown hg (by intro e; injection e with e; exact n2 e)⟩

set_option maxHeartbeats 2000000 in
theorem canonical_same {N : Nat → Prop} (v : Value) (p : Nat → Bool) (k : Nat) (w : World) (hT : Tb w) (hN : ∀ b, w.heap.size ≤ b → N b) (hk : ck p = k) (h : Cn N w v p k) :
    Calls Tryz.prog 112 #[v] w fun e w' => ∃ v', e = .returned v' ∧ Cn N w' v' p (ck p) ∧ Below w.heap.size w w' := by
  obtain ⟨κ, A, n, c, A2, n2, c2, A3, n3, c3, rfl⟩ := h.form
  have H := Lib.hid (h.mono (N' := fun b => N b ∧ b < w.heap.size) fun b hb hn => ⟨hn, hb⟩)
  have TT := Lib.hid hT
  have NN := Lib.hid hN
  have KK := Lib.hid h.kind
  obtain ⟨cc, hcc⟩ : ∃ x, ct p 65536 = x := ⟨_, rfl⟩
  obtain ⟨rr, hrr⟩ : ∃ x, ct (hm p) 65536 = x := ⟨_, rfl⟩
  obtain ⟨q, hq⟩ : ∃ x, ck p = x := ⟨_, rfl⟩
  have CC := Lib.hid (show cc ≤ 65536 from hcc ▸ ct_le _ _)
  have CR := Lib.hid (show rr ≤ 65536 from hrr ▸ ct_le _ _)
  have EQ := Lib.hid (show ckn cc rr = q by rw [← hq, ← hcc, ← hrr]; rfl)
  have EC := Lib.hid hcc
  have ER := Lib.hid hrr
  have hqk : k = q := hk.symm.trans hq
  subst hqk
  clear hk
  rw [hq]
  have hqq : ((k : Int) == (k : Int)) = true := by simp
  have T := two_blocks w #[.int .u8 κ, .slice A n c, .slice A2 n2 c2, .slice A3 n3 c3] #[.int .u8 0, .slice none 0 0, .slice none 0 0, .slice none 0 0] 65 65
  clear h hT hN hcc hrr
  go_enter Tryz.func112, Tryz.ntmps112
  go_wp2_with fail
  generalize (w.alloc (.cells #[.int .u8 κ, .slice A n c, .slice A2 n2 c2, .slice A3 n3 c3] 65)).alloc (.cells #[.int .u8 0, .slice none 0 0, .slice none 0 0, .slice none 0 0] 65) = W0 at *
  obtain ⟨b0, r0, r1⟩ := T
  have lg := r1.lt
  have BX := Lib.hid (show Bx w w.heap.size 65 #[.int .u8 κ, .slice A n c, .slice A2 n2 c2, .slice A3 n3 c3] (w.heap.size + 1) 65 #[.int .u8 0, .slice none 0 0, .slice none 0 0, .slice none 0 0] W0 from ⟨b0, r0, r1⟩)
  have K0 : Hid (∀ W, Below W0.heap.size W0 W → W.cell? ⟨w.heap.size, 0, none⟩ = some (.int .u8 κ) ∧ W.cell? ⟨w.heap.size, 1, none⟩ = some (.slice A n c) ∧ W.cell? ⟨w.heap.size, 2, none⟩ = some (.slice A2 n2 c2) ∧ W.cell? ⟨w.heap.size, 3, none⟩ = some (.slice A3 n3 c3)) := Lib.hid fun W hW => by
    have r := r0.below hW r0.lt
    exact ⟨r.cell 0, r.cell 1, r.cell 2, r.cell 3⟩
  have B0 := Lib.hid b0
  have hSc : Below W0.heap.size W0 W0.drew := (Below.refl W0.heap.size W0).drew
  clear b0 r0 r1
  refine wp_region_held_drew (S := fun W => Below W0.heap.size W0 W) (by kernel_rfl) hSc (fun _ => ?_)
  refine held_take 0 ?_ rfl (by kernel_rfl) (by kernel_rfl) (by kernel_rfl) (fun _ _ _ h => h) (by rfl) ?_ hSc ?_
  rotate_left
  · (intro W hSW; obtain ⟨k0, k1, k2, k3⟩ := K0.out W hSW; go_simp; try rfl)
  try simp only [Act.put, List.setIfInBounds_toArray, List.set_cons_zero, List.set_cons_succ]
  refine held_take 2 ?_ rfl (by kernel_rfl) (by kernel_rfl) (by kernel_rfl) (fun _ _ _ h => h) (by rfl) ?_ hSc ?_
  rotate_left
  · (intro W hSW; obtain ⟨k0, k1, k2, k3⟩ := K0.out W hSW; go_simp; try rfl)
  try simp only [Act.put, List.setIfInBounds_toArray, List.set_cons_zero, List.set_cons_succ]
  refine held_next 1 rfl (by kernel_rfl) (by rfl) ?_
  go_simp
  refine (len_c _ p k cc _ EC.out ((H.out.step B0.out).step hSc)).mono ?_
  rintro e wq1 ⟨rfl, bq⟩
  have hbq : Below W0.heap.size W0 wq1 := hSc.trans (bq.mono hSc.size)
  refine ⟨fun W => Below W0.heap.size W0 W, fun W hW => hW, hbq, ?_⟩
  clear hSc bq
  have hSc : Below W0.heap.size W0 wq1 := hbq
  clear hbq
  try simp only [Act.put, List.setIfInBounds_toArray, List.set_cons_zero, List.set_cons_succ]
  refine held_next 3 rfl (by kernel_rfl) (by rfl) ?_
  go_simp
  refine (runCount_c _ p k rr _ ER.out ((H.out.step B0.out).step hSc)).mono ?_
  rintro e wq2 ⟨rfl, bq⟩
  have hbq : Below W0.heap.size W0 wq2 := hSc.trans (bq.mono hSc.size)
  refine ⟨fun W => Below W0.heap.size W0 W, fun W hW => hW, hbq, ?_⟩
  clear hSc bq
  have hSc : Below W0.heap.size W0 wq2 := hbq
  clear hbq
  try simp only [Act.put, List.setIfInBounds_toArray, List.set_cons_zero, List.set_cons_succ]
  refine held_next 4 rfl (by kernel_rfl) (by rfl) ?_
  go_simp
  refine (canonicalKind_c cc rr _ CC.out CR.out).mono ?_
  rw [EQ.out]
  rintro e wq ⟨rfl, hz⟩
  have hz := hz.symm
  subst hz
  refine ⟨fun W => Below W0.heap.size W0 W, fun W hW => hW, hSc, ?_⟩
  try simp only [Act.put, List.setIfInBounds_toArray, List.set_cons_zero, List.set_cons_succ]
  refine held_next 5 rfl (by kernel_rfl) (by rfl) ?_
  go_simp
  refine ⟨fun W => Below W0.heap.size W0 W, fun W hW => hW, hSc, ?_⟩
  refine wpAnyH_done (by kernel_rfl) ?_ _
  have H1 := Lib.hid ((H.out.step B0.out).step hSc)
  have T1 := Lib.hid ((TT.out.step B0.out).step hSc)
  have X1 := Lib.hid (BX.out.step hSc)
  obtain ⟨k0, k1, k2, k3⟩ := K0.out _ hSc
  clear hSc H TT BX B0 K0
  go_wp2_with fail
  refine (kind_c _ p k _ H1.out).mono ?_
  rintro e u1 ⟨rfl, b⟩
  have H1 := Lib.hid (H1.out.step b)
  have T1 := Lib.hid (T1.out.step b)
  have X1 := Lib.hid (X1.out.step b)
  have k0 : u1.cell? ⟨w.heap.size, 0, none⟩ = some (.int .u8 κ) := X1.out.r1.cell 0
  have k1 : u1.cell? ⟨w.heap.size, 1, none⟩ = some (.slice A n c) := X1.out.r1.cell 1
  have k2 : u1.cell? ⟨w.heap.size, 2, none⟩ = some (.slice A2 n2 c2) := X1.out.r1.cell 2
  have k3 : u1.cell? ⟨w.heap.size, 3, none⟩ = some (.slice A3 n3 c3) := X1.out.r1.cell 3
  clear b
  have d0 : u1.cell? ⟨w.heap.size + 1, 0, none⟩ = some (.int .u8 0) := X1.out.r2.cell 0
  have d1 : u1.cell? ⟨w.heap.size + 1, 1, none⟩ = some (.slice none 0 0) := X1.out.r2.cell 1
  have d2 : u1.cell? ⟨w.heap.size + 1, 2, none⟩ = some (.slice none 0 0) := X1.out.r2.cell 2
  have d3 : u1.cell? ⟨w.heap.size + 1, 3, none⟩ = some (.slice none 0 0) := X1.out.r2.cell 3
  have e0 := X1.out.r2.frozen 0
  have e1 := X1.out.r2.frozen 1
  have e2 := X1.out.r2.frozen 2
  have e3 := X1.out.r2.frozen 3
  go_wp2
  have S4 := set4 (a' := .int .u8 κ) (b' := .slice A n c) (c' := .slice A2 n2 c2) (d' := .slice A3 n3 c3) X1.out.r2
  have B5 := Lib.hid (X1.out.bel.grown S4.2 X1.out.bel.size (fun j e => by injection e with e; subst e; omega))
  have H5 := Lib.hid ((H1.out.grown S4.2 (fun hh => by have := hh.2; omega)).mono fun b _ hn => hn.1)
  exact bodyPost_ret (ret_row rfl rfl S4.1) rfl ⟨_, rfl, H5.out, B5.out⟩

set_option maxHeartbeats 2000000 in
theorem canonical_1 {N : Nat → Prop} (v : Value) (p : Nat → Bool) (k : Nat) (w : World) (hT : Tb w) (hN : ∀ b, w.heap.size ≤ b → N b) (hj : ck p = 1) (hk : 1 ≠ k) (h : Cn N w v p k) :
    Calls Tryz.prog 112 #[v] w fun e w' => ∃ v', e = .returned v' ∧ Cn N w' v' p (ck p) ∧ Below w.heap.size w w' := by
  obtain ⟨κ, A, n, c, A2, n2, c2, A3, n3, c3, rfl⟩ := h.form
  have H := Lib.hid (h.mono (N' := fun b => N b ∧ b < w.heap.size) fun b hb hn => ⟨hn, hb⟩)
  have TT := Lib.hid hT
  have NN := Lib.hid hN
  have KK := Lib.hid h.kind
  obtain ⟨cc, hcc⟩ : ∃ x, ct p 65536 = x := ⟨_, rfl⟩
  obtain ⟨rr, hrr⟩ : ∃ x, ct (hm p) 65536 = x := ⟨_, rfl⟩
  obtain ⟨q, hq⟩ : ∃ x, ck p = x := ⟨_, rfl⟩
  have CC := Lib.hid (show cc ≤ 65536 from hcc ▸ ct_le _ _)
  have CR := Lib.hid (show rr ≤ 65536 from hrr ▸ ct_le _ _)
  have EQ := Lib.hid (show ckn cc rr = q by rw [← hq, ← hcc, ← hrr]; rfl)
  have EC := Lib.hid hcc
  have ER := Lib.hid hrr
  obtain rfl : q = 1 := hq.symm.trans hj
  clear hj
  rw [hq]
  have hqq : (((1 : Nat) : Int) == (k : Int)) = false := by rw [beq_eq_false_iff_ne]; omega
  have T := two_blocks w #[.int .u8 κ, .slice A n c, .slice A2 n2 c2, .slice A3 n3 c3] #[.int .u8 0, .slice none 0 0, .slice none 0 0, .slice none 0 0] 65 65
  clear h hT hN hcc hrr
  go_enter Tryz.func112, Tryz.ntmps112
  go_wp2_with fail
  generalize (w.alloc (.cells #[.int .u8 κ, .slice A n c, .slice A2 n2 c2, .slice A3 n3 c3] 65)).alloc (.cells #[.int .u8 0, .slice none 0 0, .slice none 0 0, .slice none 0 0] 65) = W0 at *
  obtain ⟨b0, r0, r1⟩ := T
  have lg := r1.lt
  have BX := Lib.hid (show Bx w w.heap.size 65 #[.int .u8 κ, .slice A n c, .slice A2 n2 c2, .slice A3 n3 c3] (w.heap.size + 1) 65 #[.int .u8 0, .slice none 0 0, .slice none 0 0, .slice none 0 0] W0 from ⟨b0, r0, r1⟩)
  have K0 : Hid (∀ W, Below W0.heap.size W0 W → W.cell? ⟨w.heap.size, 0, none⟩ = some (.int .u8 κ) ∧ W.cell? ⟨w.heap.size, 1, none⟩ = some (.slice A n c) ∧ W.cell? ⟨w.heap.size, 2, none⟩ = some (.slice A2 n2 c2) ∧ W.cell? ⟨w.heap.size, 3, none⟩ = some (.slice A3 n3 c3)) := Lib.hid fun W hW => by
    have r := r0.below hW r0.lt
    exact ⟨r.cell 0, r.cell 1, r.cell 2, r.cell 3⟩
  have B0 := Lib.hid b0
  have hSc : Below W0.heap.size W0 W0.drew := (Below.refl W0.heap.size W0).drew
  clear b0 r0 r1
  refine wp_region_held_drew (S := fun W => Below W0.heap.size W0 W) (by kernel_rfl) hSc (fun _ => ?_)
  refine held_take 0 ?_ rfl (by kernel_rfl) (by kernel_rfl) (by kernel_rfl) (fun _ _ _ h => h) (by rfl) ?_ hSc ?_
  rotate_left
  · (intro W hSW; obtain ⟨k0, k1, k2, k3⟩ := K0.out W hSW; go_simp; try rfl)
  try simp only [Act.put, List.setIfInBounds_toArray, List.set_cons_zero, List.set_cons_succ]
  refine held_take 2 ?_ rfl (by kernel_rfl) (by kernel_rfl) (by kernel_rfl) (fun _ _ _ h => h) (by rfl) ?_ hSc ?_
  rotate_left
  · (intro W hSW; obtain ⟨k0, k1, k2, k3⟩ := K0.out W hSW; go_simp; try rfl)
  try simp only [Act.put, List.setIfInBounds_toArray, List.set_cons_zero, List.set_cons_succ]
  refine held_next 1 rfl (by kernel_rfl) (by rfl) ?_
  go_simp
  refine (len_c _ p k cc _ EC.out ((H.out.step B0.out).step hSc)).mono ?_
  rintro e wq1 ⟨rfl, bq⟩
  have hbq : Below W0.heap.size W0 wq1 := hSc.trans (bq.mono hSc.size)
  refine ⟨fun W => Below W0.heap.size W0 W, fun W hW => hW, hbq, ?_⟩
  clear hSc bq
  have hSc : Below W0.heap.size W0 wq1 := hbq
  clear hbq
  try simp only [Act.put, List.setIfInBounds_toArray, List.set_cons_zero, List.set_cons_succ]
  refine held_next 3 rfl (by kernel_rfl) (by rfl) ?_
  go_simp
  refine (runCount_c _ p k rr _ ER.out ((H.out.step B0.out).step hSc)).mono ?_
  rintro e wq2 ⟨rfl, bq⟩
  have hbq : Below W0.heap.size W0 wq2 := hSc.trans (bq.mono hSc.size)
  refine ⟨fun W => Below W0.heap.size W0 W, fun W hW => hW, hbq, ?_⟩
  clear hSc bq
  have hSc : Below W0.heap.size W0 wq2 := hbq
  clear hbq
  try simp only [Act.put, List.setIfInBounds_toArray, List.set_cons_zero, List.set_cons_succ]
  refine held_next 4 rfl (by kernel_rfl) (by rfl) ?_
  go_simp
  refine (canonicalKind_c cc rr _ CC.out CR.out).mono ?_
  rw [EQ.out]
  rintro e wq ⟨rfl, hz⟩
  have hz := hz.symm
  subst hz
  refine ⟨fun W => Below W0.heap.size W0 W, fun W hW => hW, hSc, ?_⟩
  try simp only [Act.put, List.setIfInBounds_toArray, List.set_cons_zero, List.set_cons_succ]
  refine held_next 5 rfl (by kernel_rfl) (by rfl) ?_
  go_simp
  refine ⟨fun W => Below W0.heap.size W0 W, fun W hW => hW, hSc, ?_⟩
  refine wpAnyH_done (by kernel_rfl) ?_ _
  have H1 := Lib.hid ((H.out.step B0.out).step hSc)
  have T1 := Lib.hid ((TT.out.step B0.out).step hSc)
  have X1 := Lib.hid (BX.out.step hSc)
  obtain ⟨k0, k1, k2, k3⟩ := K0.out _ hSc
  clear hSc H TT BX B0 K0
  go_wp2_with fail
  refine (kind_c _ p k _ H1.out).mono ?_
  rintro e u1 ⟨rfl, b⟩
  have H1 := Lib.hid (H1.out.step b)
  have T1 := Lib.hid (T1.out.step b)
  have X1 := Lib.hid (X1.out.step b)
  have k0 : u1.cell? ⟨w.heap.size, 0, none⟩ = some (.int .u8 κ) := X1.out.r1.cell 0
  have k1 : u1.cell? ⟨w.heap.size, 1, none⟩ = some (.slice A n c) := X1.out.r1.cell 1
  have k2 : u1.cell? ⟨w.heap.size, 2, none⟩ = some (.slice A2 n2 c2) := X1.out.r1.cell 2
  have k3 : u1.cell? ⟨w.heap.size, 3, none⟩ = some (.slice A3 n3 c3) := X1.out.r1.cell 3
  clear b
  go_wp2_with fail
  have RT := Row.new u1 213 #[.nilFunc, .func (.func 181) #[] #[], .func (.func 182) #[] #[], .func (.func 183) #[] #[]]
  have bt := bx u1 (.cells #[.nilFunc, .func (.func 181) #[] #[], .func (.func 182) #[] #[], .func (.func 183) #[] #[]] 213)
  have hsz : u1.heap.size < (u1.alloc (.cells #[.nilFunc, .func (.func 181) #[] #[], .func (.func 182) #[] #[], .func (.func 183) #[] #[]] 213)).heap.size := RT.lt
  generalize u1.alloc (.cells #[.nilFunc, .func (.func 181) #[] #[], .func (.func 182) #[] #[], .func (.func 183) #[] #[]] 213) = W1 at *
  have RR := Lib.hid (X1.out.r2.below bt X1.out.r2.lt)
  have hlt := X1.out.r2.lt
  have hlu := X1.out.bel.size
  have hSc : Bx w w.heap.size 65 #[.int .u8 κ, .slice A n c, .slice A2 n2 c2, .slice A3 n3 c3] u1.heap.size 213 #[.nilFunc, .func (.func 181) #[] #[], .func (.func 182) #[] #[], .func (.func 183) #[] #[]] W1.drew := ⟨(below_both X1.out.bel bt).drew, X1.out.r1.below bt.drew X1.out.r1.lt, RT⟩
  have H2 := Lib.hid (Cn.mono (N' := fun b => N b ∧ b ≠ w.heap.size + 1) (H1.out.step bt.drew) fun b _ hn => ⟨hn.1, by have := hn.2; omega⟩)
  have T2 := Lib.hid (T1.out.step bt.drew)
  have RR := Lib.hid (show Row W1.drew (w.heap.size + 1) _ _ from RR.out)
  have N2 : Hid (∀ b, W1.drew.heap.size ≤ b → N b ∧ b ≠ w.heap.size + 1) := Lib.hid fun b hb => by
    have hb' : W1.heap.size ≤ b := hb
    exact ⟨NN.out b (by omega), by omega⟩
  clear bt RT H1 T1 X1 k0 k1 k2 k3
  refine wp_region_held_drew (S := fun W => Bx w w.heap.size 65 #[.int .u8 κ, .slice A n c, .slice A2 n2 c2, .slice A3 n3 c3] u1.heap.size 213 #[.nilFunc, .func (.func 181) #[] #[], .func (.func 182) #[] #[], .func (.func 183) #[] #[]] W) (by kernel_rfl) hSc (fun _ => ?_)
  refine held_take 0 ?_ rfl (by kernel_rfl) (by kernel_rfl) (by kernel_rfl) (fun _ _ _ h => h) (by rfl) ?_ hSc ?_
  rotate_left
  · (intro W hSW; go_simp; try rfl)
  try simp only [Act.put, List.setIfInBounds_toArray, List.set_cons_zero, List.set_cons_succ]
  refine held_take 1 ?_ rfl (by kernel_rfl) (by kernel_rfl) (by kernel_rfl) (fun _ _ _ h => h) (by rfl) ?_ hSc ?_
  rotate_left
  · (intro W hSW; go_simp; try rfl)
  try simp only [Act.put, List.setIfInBounds_toArray, List.set_cons_zero, List.set_cons_succ]
  refine held_take 2 ?_ rfl (by kernel_rfl) (by kernel_rfl) (by kernel_rfl) (fun _ _ _ h => h) (by rfl) ?_ hSc ?_
  rotate_left
  · (intro W hSW; have k0 : W.cell? ⟨u1.heap.size, 1, none⟩ = some (.func (.func 181) #[] #[]) := hSW.r2.cell 1; go_simp; try rfl)
  try simp only [Act.put, List.setIfInBounds_toArray, List.set_cons_zero, List.set_cons_succ]
  refine held_take 3 ?_ rfl (by kernel_rfl) (by kernel_rfl) (by kernel_rfl) (fun _ _ _ h => h) (by rfl) ?_ hSc ?_
  rotate_left
  · (intro W hSW; have k0 : W.cell? ⟨w.heap.size, 0, none⟩ = some (.int .u8 κ) := hSW.r1.cell 0; have k1 : W.cell? ⟨w.heap.size, 1, none⟩ = some (.slice A n c) := hSW.r1.cell 1; have k2 : W.cell? ⟨w.heap.size, 2, none⟩ = some (.slice A2 n2 c2) := hSW.r1.cell 2; have k3 : W.cell? ⟨w.heap.size, 3, none⟩ = some (.slice A3 n3 c3) := hSW.r1.cell 3; go_simp; try rfl)
  try simp only [Act.put, List.setIfInBounds_toArray, List.set_cons_zero, List.set_cons_succ]
  refine held_next 4 rfl (by kernel_rfl) (by rfl) ?_
  go_simp
  refine (toArrays_c _ p k _ T2.out N2.out H2.out).mono ?_
  rintro e u2 ⟨v', rfl, gq, bq⟩
  obtain ⟨κ5, A5, n5, c5, A6, n6, c6, A7, n7, c7, rfl⟩ := gq.form
  have hS2 := hSc.step bq
  have RR := Lib.hid (RR.out.below bq RR.out.lt)
  have G := Lib.hid gq
  clear hSc gq bq
  have hSc := hS2
  clear hS2
  refine ⟨fun W => Bx w w.heap.size 65 #[.int .u8 κ, .slice A n c, .slice A2 n2 c2, .slice A3 n3 c3] u1.heap.size 213 #[.nilFunc, .func (.func 181) #[] #[], .func (.func 182) #[] #[], .func (.func 183) #[] #[]] W, fun W hW => hW, hSc, ?_⟩
  try simp only [Act.put, List.setIfInBounds_toArray, List.set_cons_zero, List.set_cons_succ]
  have d0 : u2.cell? ⟨w.heap.size + 1, 0, none⟩ = some (.int .u8 0) := RR.out.cell 0
  have d1 : u2.cell? ⟨w.heap.size + 1, 1, none⟩ = some (.slice none 0 0) := RR.out.cell 1
  have d2 : u2.cell? ⟨w.heap.size + 1, 2, none⟩ = some (.slice none 0 0) := RR.out.cell 2
  have d3 : u2.cell? ⟨w.heap.size + 1, 3, none⟩ = some (.slice none 0 0) := RR.out.cell 3
  have e0 := RR.out.frozen 0
  have e1 := RR.out.frozen 1
  have e2 := RR.out.frozen 2
  have e3 := RR.out.frozen 3
  refine held_next 5 rfl (by kernel_rfl) (by rfl) ?_
  go_simp
  have S4 := set4 (a' := .int .u8 κ5) (b' := .slice A5 n5 c5) (c' := .slice A6 n6 c6) (d' := .slice A7 n7 c7) RR.out
  have hSd := hSc.stored S4.2 (by omega) (by omega) (by omega)
  have H5 := Lib.hid ((G.out.grown S4.2 (fun hh => hh.2 rfl)).mono fun b _ hn => hn.1)
  refine ⟨fun W => Bx w w.heap.size 65 #[.int .u8 κ, .slice A n c, .slice A2 n2 c2, .slice A3 n3 c3] u1.heap.size 213 #[.nilFunc, .func (.func 181) #[] #[], .func (.func 182) #[] #[], .func (.func 183) #[] #[]] W, fun W hW => hW, hSd, ?_⟩
  refine wpAnyH_done (by kernel_rfl) ?_ _
  go_wp2
  exact bodyPost_ret (ret_row rfl rfl S4.1) rfl ⟨_, rfl, H5.out, hSd.bel⟩

set_option maxHeartbeats 2000000 in
theorem canonical_2 {N : Nat → Prop} (v : Value) (p : Nat → Bool) (k : Nat) (w : World) (hT : Tb w) (hN : ∀ b, w.heap.size ≤ b → N b) (hj : ck p = 2) (hk : 2 ≠ k) (h : Cn N w v p k) :
    Calls Tryz.prog 112 #[v] w fun e w' => ∃ v', e = .returned v' ∧ Cn N w' v' p (ck p) ∧ Below w.heap.size w w' := by
  obtain ⟨κ, A, n, c, A2, n2, c2, A3, n3, c3, rfl⟩ := h.form
  have H := Lib.hid (h.mono (N' := fun b => N b ∧ b < w.heap.size) fun b hb hn => ⟨hn, hb⟩)
  have TT := Lib.hid hT
  have NN := Lib.hid hN
  have KK := Lib.hid h.kind
  obtain ⟨cc, hcc⟩ : ∃ x, ct p 65536 = x := ⟨_, rfl⟩
  obtain ⟨rr, hrr⟩ : ∃ x, ct (hm p) 65536 = x := ⟨_, rfl⟩
  obtain ⟨q, hq⟩ : ∃ x, ck p = x := ⟨_, rfl⟩
  have CC := Lib.hid (show cc ≤ 65536 from hcc ▸ ct_le _ _)
  have CR := Lib.hid (show rr ≤ 65536 from hrr ▸ ct_le _ _)
  have EQ := Lib.hid (show ckn cc rr = q by rw [← hq, ← hcc, ← hrr]; rfl)
  have EC := Lib.hid hcc
  have ER := Lib.hid hrr
  obtain rfl : q = 2 := hq.symm.trans hj
  clear hj
  rw [hq]
  have hqq : (((2 : Nat) : Int) == (k : Int)) = false := by rw [beq_eq_false_iff_ne]; omega
  have T := two_blocks w #[.int .u8 κ, .slice A n c, .slice A2 n2 c2, .slice A3 n3 c3] #[.int .u8 0, .slice none 0 0, .slice none 0 0, .slice none 0 0] 65 65
  clear h hT hN hcc hrr
  go_enter Tryz.func112, Tryz.ntmps112
  go_wp2_with fail
  generalize (w.alloc (.cells #[.int .u8 κ, .slice A n c, .slice A2 n2 c2, .slice A3 n3 c3] 65)).alloc (.cells #[.int .u8 0, .slice none 0 0, .slice none 0 0, .slice none 0 0] 65) = W0 at *
  obtain ⟨b0, r0, r1⟩ := T
  have lg := r1.lt
  have BX := Lib.hid (show Bx w w.heap.size 65 #[.int .u8 κ, .slice A n c, .slice A2 n2 c2, .slice A3 n3 c3] (w.heap.size + 1) 65 #[.int .u8 0, .slice none 0 0, .slice none 0 0, .slice none 0 0] W0 from ⟨b0, r0, r1⟩)
  have K0 : Hid (∀ W, Below W0.heap.size W0 W → W.cell? ⟨w.heap.size, 0, none⟩ = some (.int .u8 κ) ∧ W.cell? ⟨w.heap.size, 1, none⟩ = some (.slice A n c) ∧ W.cell? ⟨w.heap.size, 2, none⟩ = some (.slice A2 n2 c2) ∧ W.cell? ⟨w.heap.size, 3, none⟩ = some (.slice A3 n3 c3)) := Lib.hid fun W hW => by
    have r := r0.below hW r0.lt
    exact ⟨r.cell 0, r.cell 1, r.cell 2, r.cell 3⟩
  have B0 := Lib.hid b0
  have hSc : Below W0.heap.size W0 W0.drew := (Below.refl W0.heap.size W0).drew
  clear b0 r0 r1
  refine wp_region_held_drew (S := fun W => Below W0.heap.size W0 W) (by kernel_rfl) hSc (fun _ => ?_)
  refine held_take 0 ?_ rfl (by kernel_rfl) (by kernel_rfl) (by kernel_rfl) (fun _ _ _ h => h) (by rfl) ?_ hSc ?_
  rotate_left
  · (intro W hSW; obtain ⟨k0, k1, k2, k3⟩ := K0.out W hSW; go_simp; try rfl)
  try simp only [Act.put, List.setIfInBounds_toArray, List.set_cons_zero, List.set_cons_succ]
  refine held_take 2 ?_ rfl (by kernel_rfl) (by kernel_rfl) (by kernel_rfl) (fun _ _ _ h => h) (by rfl) ?_ hSc ?_
  rotate_left
  · (intro W hSW; obtain ⟨k0, k1, k2, k3⟩ := K0.out W hSW; go_simp; try rfl)
  try simp only [Act.put, List.setIfInBounds_toArray, List.set_cons_zero, List.set_cons_succ]
  refine held_next 1 rfl (by kernel_rfl) (by rfl) ?_
  go_simp
  refine (len_c _ p k cc _ EC.out ((H.out.step B0.out).step hSc)).mono ?_
  rintro e wq1 ⟨rfl, bq⟩
  have hbq : Below W0.heap.size W0 wq1 := hSc.trans (bq.mono hSc.size)
  refine ⟨fun W => Below W0.heap.size W0 W, fun W hW => hW, hbq, ?_⟩
  clear hSc bq
  have hSc : Below W0.heap.size W0 wq1 := hbq
  clear hbq
  try simp only [Act.put, List.setIfInBounds_toArray, List.set_cons_zero, List.set_cons_succ]
  refine held_next 3 rfl (by kernel_rfl) (by rfl) ?_
  go_simp
  refine (runCount_c _ p k rr _ ER.out ((H.out.step B0.out).step hSc)).mono ?_
  rintro e wq2 ⟨rfl, bq⟩
  have hbq : Below W0.heap.size W0 wq2 := hSc.trans (bq.mono hSc.size)
  refine ⟨fun W => Below W0.heap.size W0 W, fun W hW => hW, hbq, ?_⟩
  clear hSc bq
  have hSc : Below W0.heap.size W0 wq2 := hbq
  clear hbq
  try simp only [Act.put, List.setIfInBounds_toArray, List.set_cons_zero, List.set_cons_succ]
  refine held_next 4 rfl (by kernel_rfl) (by rfl) ?_
  go_simp
  refine (canonicalKind_c cc rr _ CC.out CR.out).mono ?_
  rw [EQ.out]
  rintro e wq ⟨rfl, hz⟩
  have hz := hz.symm
  subst hz
  refine ⟨fun W => Below W0.heap.size W0 W, fun W hW => hW, hSc, ?_⟩
  try simp only [Act.put, List.setIfInBounds_toArray, List.set_cons_zero, List.set_cons_succ]
  refine held_next 5 rfl (by kernel_rfl) (by rfl) ?_
  go_simp
  refine ⟨fun W => Below W0.heap.size W0 W, fun W hW => hW, hSc, ?_⟩
  refine wpAnyH_done (by kernel_rfl) ?_ _
  have H1 := Lib.hid ((H.out.step B0.out).step hSc)
  have T1 := Lib.hid ((TT.out.step B0.out).step hSc)
  have X1 := Lib.hid (BX.out.step hSc)
  obtain ⟨k0, k1, k2, k3⟩ := K0.out _ hSc
  clear hSc H TT BX B0 K0
  go_wp2_with fail
  refine (kind_c _ p k _ H1.out).mono ?_
  rintro e u1 ⟨rfl, b⟩
  have H1 := Lib.hid (H1.out.step b)
  have T1 := Lib.hid (T1.out.step b)
  have X1 := Lib.hid (X1.out.step b)
  have k0 : u1.cell? ⟨w.heap.size, 0, none⟩ = some (.int .u8 κ) := X1.out.r1.cell 0
  have k1 : u1.cell? ⟨w.heap.size, 1, none⟩ = some (.slice A n c) := X1.out.r1.cell 1
  have k2 : u1.cell? ⟨w.heap.size, 2, none⟩ = some (.slice A2 n2 c2) := X1.out.r1.cell 2
  have k3 : u1.cell? ⟨w.heap.size, 3, none⟩ = some (.slice A3 n3 c3) := X1.out.r1.cell 3
  clear b
  go_wp2_with fail
  have RT := Row.new u1 213 #[.nilFunc, .func (.func 181) #[] #[], .func (.func 182) #[] #[], .func (.func 183) #[] #[]]
  have bt := bx u1 (.cells #[.nilFunc, .func (.func 181) #[] #[], .func (.func 182) #[] #[], .func (.func 183) #[] #[]] 213)
  have hsz : u1.heap.size < (u1.alloc (.cells #[.nilFunc, .func (.func 181) #[] #[], .func (.func 182) #[] #[], .func (.func 183) #[] #[]] 213)).heap.size := RT.lt
  generalize u1.alloc (.cells #[.nilFunc, .func (.func 181) #[] #[], .func (.func 182) #[] #[], .func (.func 183) #[] #[]] 213) = W1 at *
  have RR := Lib.hid (X1.out.r2.below bt X1.out.r2.lt)
  have hlt := X1.out.r2.lt
  have hlu := X1.out.bel.size
  have hSc : Bx w w.heap.size 65 #[.int .u8 κ, .slice A n c, .slice A2 n2 c2, .slice A3 n3 c3] u1.heap.size 213 #[.nilFunc, .func (.func 181) #[] #[], .func (.func 182) #[] #[], .func (.func 183) #[] #[]] W1.drew := ⟨(below_both X1.out.bel bt).drew, X1.out.r1.below bt.drew X1.out.r1.lt, RT⟩
  have H2 := Lib.hid (Cn.mono (N' := fun b => N b ∧ b ≠ w.heap.size + 1) (H1.out.step bt.drew) fun b _ hn => ⟨hn.1, by have := hn.2; omega⟩)
  have T2 := Lib.hid (T1.out.step bt.drew)
  have RR := Lib.hid (show Row W1.drew (w.heap.size + 1) _ _ from RR.out)
  have N2 : Hid (∀ b, W1.drew.heap.size ≤ b → N b ∧ b ≠ w.heap.size + 1) := Lib.hid fun b hb => by
    have hb' : W1.heap.size ≤ b := hb
    exact ⟨NN.out b (by omega), by omega⟩
  clear bt RT H1 T1 X1 k0 k1 k2 k3
  refine wp_region_held_drew (S := fun W => Bx w w.heap.size 65 #[.int .u8 κ, .slice A n c, .slice A2 n2 c2, .slice A3 n3 c3] u1.heap.size 213 #[.nilFunc, .func (.func 181) #[] #[], .func (.func 182) #[] #[], .func (.func 183) #[] #[]] W) (by kernel_rfl) hSc (fun _ => ?_)
  refine held_take 0 ?_ rfl (by kernel_rfl) (by kernel_rfl) (by kernel_rfl) (fun _ _ _ h => h) (by rfl) ?_ hSc ?_
  rotate_left
  · (intro W hSW; go_simp; try rfl)
  try simp only [Act.put, List.setIfInBounds_toArray, List.set_cons_zero, List.set_cons_succ]
  refine held_take 1 ?_ rfl (by kernel_rfl) (by kernel_rfl) (by kernel_rfl) (fun _ _ _ h => h) (by rfl) ?_ hSc ?_
  rotate_left
  · (intro W hSW; go_simp; try rfl)
  try simp only [Act.put, List.setIfInBounds_toArray, List.set_cons_zero, List.set_cons_succ]
  refine held_take 2 ?_ rfl (by kernel_rfl) (by kernel_rfl) (by kernel_rfl) (fun _ _ _ h => h) (by rfl) ?_ hSc ?_
  rotate_left
  · (intro W hSW; have k0 : W.cell? ⟨u1.heap.size, 2, none⟩ = some (.func (.func 182) #[] #[]) := hSW.r2.cell 2; go_simp; try rfl)
  try simp only [Act.put, List.setIfInBounds_toArray, List.set_cons_zero, List.set_cons_succ]
  refine held_take 3 ?_ rfl (by kernel_rfl) (by kernel_rfl) (by kernel_rfl) (fun _ _ _ h => h) (by rfl) ?_ hSc ?_
  rotate_left
  · (intro W hSW; have k0 : W.cell? ⟨w.heap.size, 0, none⟩ = some (.int .u8 κ) := hSW.r1.cell 0; have k1 : W.cell? ⟨w.heap.size, 1, none⟩ = some (.slice A n c) := hSW.r1.cell 1; have k2 : W.cell? ⟨w.heap.size, 2, none⟩ = some (.slice A2 n2 c2) := hSW.r1.cell 2; have k3 : W.cell? ⟨w.heap.size, 3, none⟩ = some (.slice A3 n3 c3) := hSW.r1.cell 3; go_simp; try rfl)
  try simp only [Act.put, List.setIfInBounds_toArray, List.set_cons_zero, List.set_cons_succ]
  refine held_next 4 rfl (by kernel_rfl) (by rfl) ?_
  go_simp
  refine (toWords_c _ p k _ T2.out N2.out H2.out).mono ?_
  rintro e u2 ⟨v', rfl, gq, bq⟩
  obtain ⟨κ5, A5, n5, c5, A6, n6, c6, A7, n7, c7, rfl⟩ := gq.form
  have hS2 := hSc.step bq
  have RR := Lib.hid (RR.out.below bq RR.out.lt)
  have G := Lib.hid gq
  clear hSc gq bq
  have hSc := hS2
  clear hS2
  refine ⟨fun W => Bx w w.heap.size 65 #[.int .u8 κ, .slice A n c, .slice A2 n2 c2, .slice A3 n3 c3] u1.heap.size 213 #[.nilFunc, .func (.func 181) #[] #[], .func (.func 182) #[] #[], .func (.func 183) #[] #[]] W, fun W hW => hW, hSc, ?_⟩
  try simp only [Act.put, List.setIfInBounds_toArray, List.set_cons_zero, List.set_cons_succ]
  have d0 : u2.cell? ⟨w.heap.size + 1, 0, none⟩ = some (.int .u8 0) := RR.out.cell 0
  have d1 : u2.cell? ⟨w.heap.size + 1, 1, none⟩ = some (.slice none 0 0) := RR.out.cell 1
  have d2 : u2.cell? ⟨w.heap.size + 1, 2, none⟩ = some (.slice none 0 0) := RR.out.cell 2
  have d3 : u2.cell? ⟨w.heap.size + 1, 3, none⟩ = some (.slice none 0 0) := RR.out.cell 3
  have e0 := RR.out.frozen 0
  have e1 := RR.out.frozen 1
  have e2 := RR.out.frozen 2
  have e3 := RR.out.frozen 3
  refine held_next 5 rfl (by kernel_rfl) (by rfl) ?_
  go_simp
  have S4 := set4 (a' := .int .u8 κ5) (b' := .slice A5 n5 c5) (c' := .slice A6 n6 c6) (d' := .slice A7 n7 c7) RR.out
  have hSd := hSc.stored S4.2 (by omega) (by omega) (by omega)
  have H5 := Lib.hid ((G.out.grown S4.2 (fun hh => hh.2 rfl)).mono fun b _ hn => hn.1)
  refine ⟨fun W => Bx w w.heap.size 65 #[.int .u8 κ, .slice A n c, .slice A2 n2 c2, .slice A3 n3 c3] u1.heap.size 213 #[.nilFunc, .func (.func 181) #[] #[], .func (.func 182) #[] #[], .func (.func 183) #[] #[]] W, fun W hW => hW, hSd, ?_⟩
  refine wpAnyH_done (by kernel_rfl) ?_ _
  go_wp2
  exact bodyPost_ret (ret_row rfl rfl S4.1) rfl ⟨_, rfl, H5.out, hSd.bel⟩

set_option maxHeartbeats 2000000 in
theorem canonical_3 {N : Nat → Prop} (v : Value) (p : Nat → Bool) (k : Nat) (w : World) (hT : Tb w) (hN : ∀ b, w.heap.size ≤ b → N b) (hj : ck p = 3) (hk : 3 ≠ k) (h : Cn N w v p k) :
    Calls Tryz.prog 112 #[v] w fun e w' => ∃ v', e = .returned v' ∧ Cn N w' v' p (ck p) ∧ Below w.heap.size w w' := by
  obtain ⟨κ, A, n, c, A2, n2, c2, A3, n3, c3, rfl⟩ := h.form
  have H := Lib.hid (h.mono (N' := fun b => N b ∧ b < w.heap.size) fun b hb hn => ⟨hn, hb⟩)
  have TT := Lib.hid hT
  have NN := Lib.hid hN
  have KK := Lib.hid h.kind
  obtain ⟨cc, hcc⟩ : ∃ x, ct p 65536 = x := ⟨_, rfl⟩
  obtain ⟨rr, hrr⟩ : ∃ x, ct (hm p) 65536 = x := ⟨_, rfl⟩
  obtain ⟨q, hq⟩ : ∃ x, ck p = x := ⟨_, rfl⟩
  have CC := Lib.hid (show cc ≤ 65536 from hcc ▸ ct_le _ _)
  have CR := Lib.hid (show rr ≤ 65536 from hrr ▸ ct_le _ _)
  have EQ := Lib.hid (show ckn cc rr = q by rw [← hq, ← hcc, ← hrr]; rfl)
  have EC := Lib.hid hcc
  have ER := Lib.hid hrr
  obtain rfl : q = 3 := hq.symm.trans hj
  clear hj
  rw [hq]
  have hqq : (((3 : Nat) : Int) == (k : Int)) = false := by rw [beq_eq_false_iff_ne]; omega
  have T := two_blocks w #[.int .u8 κ, .slice A n c, .slice A2 n2 c2, .slice A3 n3 c3] #[.int .u8 0, .slice none 0 0, .slice none 0 0, .slice none 0 0] 65 65
  clear h hT hN hcc hrr
  go_enter Tryz.func112, Tryz.ntmps112
  go_wp2_with fail
  generalize (w.alloc (.cells #[.int .u8 κ, .slice A n c, .slice A2 n2 c2, .slice A3 n3 c3] 65)).alloc (.cells #[.int .u8 0, .slice none 0 0, .slice none 0 0, .slice none 0 0] 65) = W0 at *
  obtain ⟨b0, r0, r1⟩ := T
  have lg := r1.lt
  have BX := Lib.hid (show Bx w w.heap.size 65 #[.int .u8 κ, .slice A n c, .slice A2 n2 c2, .slice A3 n3 c3] (w.heap.size + 1) 65 #[.int .u8 0, .slice none 0 0, .slice none 0 0, .slice none 0 0] W0 from ⟨b0, r0, r1⟩)
  have K0 : Hid (∀ W, Below W0.heap.size W0 W → W.cell? ⟨w.heap.size, 0, none⟩ = some (.int .u8 κ) ∧ W.cell? ⟨w.heap.size, 1, none⟩ = some (.slice A n c) ∧ W.cell? ⟨w.heap.size, 2, none⟩ = some (.slice A2 n2 c2) ∧ W.cell? ⟨w.heap.size, 3, none⟩ = some (.slice A3 n3 c3)) := Lib.hid fun W hW => by
    have r := r0.below hW r0.lt
    exact ⟨r.cell 0, r.cell 1, r.cell 2, r.cell 3⟩
  have B0 := Lib.hid b0
  have hSc : Below W0.heap.size W0 W0.drew := (Below.refl W0.heap.size W0).drew
  clear b0 r0 r1
  refine wp_region_held_drew (S := fun W => Below W0.heap.size W0 W) (by kernel_rfl) hSc (fun _ => ?_)
  refine held_take 0 ?_ rfl (by kernel_rfl) (by kernel_rfl) (by kernel_rfl) (fun _ _ _ h => h) (by rfl) ?_ hSc ?_
  rotate_left
  · (intro W hSW; obtain ⟨k0, k1, k2, k3⟩ := K0.out W hSW; go_simp; try rfl)
  try simp only [Act.put, List.setIfInBounds_toArray, List.set_cons_zero, List.set_cons_succ]
  refine held_take 2 ?_ rfl (by kernel_rfl) (by kernel_rfl) (by kernel_rfl) (fun _ _ _ h => h) (by rfl) ?_ hSc ?_
  rotate_left
  · (intro W hSW; obtain ⟨k0, k1, k2, k3⟩ := K0.out W hSW; go_simp; try rfl)
  try simp only [Act.put, List.setIfInBounds_toArray, List.set_cons_zero, List.set_cons_succ]
  refine held_next 1 rfl (by kernel_rfl) (by rfl) ?_
  go_simp
  refine (len_c _ p k cc _ EC.out ((H.out.step B0.out).step hSc)).mono ?_
  rintro e wq1 ⟨rfl, bq⟩
  have hbq : Below W0.heap.size W0 wq1 := hSc.trans (bq.mono hSc.size)
  refine ⟨fun W => Below W0.heap.size W0 W, fun W hW => hW, hbq, ?_⟩
  clear hSc bq
  have hSc : Below W0.heap.size W0 wq1 := hbq
  clear hbq
  try simp only [Act.put, List.setIfInBounds_toArray, List.set_cons_zero, List.set_cons_succ]
  refine held_next 3 rfl (by kernel_rfl) (by rfl) ?_
  go_simp
  refine (runCount_c _ p k rr _ ER.out ((H.out.step B0.out).step hSc)).mono ?_
  rintro e wq2 ⟨rfl, bq⟩
  have hbq : Below W0.heap.size W0 wq2 := hSc.trans (bq.mono hSc.size)
  refine ⟨fun W => Below W0.heap.size W0 W, fun W hW => hW, hbq, ?_⟩
  clear hSc bq
  have hSc : Below W0.heap.size W0 wq2 := hbq
  clear hbq
  try simp only [Act.put, List.setIfInBounds_toArray, List.set_cons_zero, List.set_cons_succ]
  refine held_next 4 rfl (by kernel_rfl) (by rfl) ?_
  go_simp
  refine (canonicalKind_c cc rr _ CC.out CR.out).mono ?_
  rw [EQ.out]
  rintro e wq ⟨rfl, hz⟩
  have hz := hz.symm
  subst hz
  refine ⟨fun W => Below W0.heap.size W0 W, fun W hW => hW, hSc, ?_⟩
  try simp only [Act.put, List.setIfInBounds_toArray, List.set_cons_zero, List.set_cons_succ]
  refine held_next 5 rfl (by kernel_rfl) (by rfl) ?_
  go_simp
  refine ⟨fun W => Below W0.heap.size W0 W, fun W hW => hW, hSc, ?_⟩
  refine wpAnyH_done (by kernel_rfl) ?_ _
  have H1 := Lib.hid ((H.out.step B0.out).step hSc)
  have T1 := Lib.hid ((TT.out.step B0.out).step hSc)
  have X1 := Lib.hid (BX.out.step hSc)
  obtain ⟨k0, k1, k2, k3⟩ := K0.out _ hSc
  clear hSc H TT BX B0 K0
  go_wp2_with fail
  refine (kind_c _ p k _ H1.out).mono ?_
  rintro e u1 ⟨rfl, b⟩
  have H1 := Lib.hid (H1.out.step b)
  have T1 := Lib.hid (T1.out.step b)
  have X1 := Lib.hid (X1.out.step b)
  have k0 : u1.cell? ⟨w.heap.size, 0, none⟩ = some (.int .u8 κ) := X1.out.r1.cell 0
  have k1 : u1.cell? ⟨w.heap.size, 1, none⟩ = some (.slice A n c) := X1.out.r1.cell 1
  have k2 : u1.cell? ⟨w.heap.size, 2, none⟩ = some (.slice A2 n2 c2) := X1.out.r1.cell 2
  have k3 : u1.cell? ⟨w.heap.size, 3, none⟩ = some (.slice A3 n3 c3) := X1.out.r1.cell 3
  clear b
  go_wp2_with fail
  have RT := Row.new u1 213 #[.nilFunc, .func (.func 181) #[] #[], .func (.func 182) #[] #[], .func (.func 183) #[] #[]]
  have bt := bx u1 (.cells #[.nilFunc, .func (.func 181) #[] #[], .func (.func 182) #[] #[], .func (.func 183) #[] #[]] 213)
  have hsz : u1.heap.size < (u1.alloc (.cells #[.nilFunc, .func (.func 181) #[] #[], .func (.func 182) #[] #[], .func (.func 183) #[] #[]] 213)).heap.size := RT.lt
  generalize u1.alloc (.cells #[.nilFunc, .func (.func 181) #[] #[], .func (.func 182) #[] #[], .func (.func 183) #[] #[]] 213) = W1 at *
  have RR := Lib.hid (X1.out.r2.below bt X1.out.r2.lt)
  have hlt := X1.out.r2.lt
  have hlu := X1.out.bel.size
  have hSc : Bx w w.heap.size 65 #[.int .u8 κ, .slice A n c, .slice A2 n2 c2, .slice A3 n3 c3] u1.heap.size 213 #[.nilFunc, .func (.func 181) #[] #[], .func (.func 182) #[] #[], .func (.func 183) #[] #[]] W1.drew := ⟨(below_both X1.out.bel bt).drew, X1.out.r1.below bt.drew X1.out.r1.lt, RT⟩
  have H2 := Lib.hid (Cn.mono (N' := fun b => N b ∧ b ≠ w.heap.size + 1) (H1.out.step bt.drew) fun b _ hn => ⟨hn.1, by have := hn.2; omega⟩)
  have T2 := Lib.hid (T1.out.step bt.drew)
  have RR := Lib.hid (show Row W1.drew (w.heap.size + 1) _ _ from RR.out)
  have N2 : Hid (∀ b, W1.drew.heap.size ≤ b → N b ∧ b ≠ w.heap.size + 1) := Lib.hid fun b hb => by
    have hb' : W1.heap.size ≤ b := hb
    exact ⟨NN.out b (by omega), by omega⟩
  clear bt RT H1 T1 X1 k0 k1 k2 k3
  refine wp_region_held_drew (S := fun W => Bx w w.heap.size 65 #[.int .u8 κ, .slice A n c, .slice A2 n2 c2, .slice A3 n3 c3] u1.heap.size 213 #[.nilFunc, .func (.func 181) #[] #[], .func (.func 182) #[] #[], .func (.func 183) #[] #[]] W) (by kernel_rfl) hSc (fun _ => ?_)
  refine held_take 0 ?_ rfl (by kernel_rfl) (by kernel_rfl) (by kernel_rfl) (fun _ _ _ h => h) (by rfl) ?_ hSc ?_
  rotate_left
  · (intro W hSW; go_simp; try rfl)
  try simp only [Act.put, List.setIfInBounds_toArray, List.set_cons_zero, List.set_cons_succ]
  refine held_take 1 ?_ rfl (by kernel_rfl) (by kernel_rfl) (by kernel_rfl) (fun _ _ _ h => h) (by rfl) ?_ hSc ?_
  rotate_left
  · (intro W hSW; go_simp; try rfl)
  try simp only [Act.put, List.setIfInBounds_toArray, List.set_cons_zero, List.set_cons_succ]
  refine held_take 2 ?_ rfl (by kernel_rfl) (by kernel_rfl) (by kernel_rfl) (fun _ _ _ h => h) (by rfl) ?_ hSc ?_
  rotate_left
  · (intro W hSW; have k0 : W.cell? ⟨u1.heap.size, 3, none⟩ = some (.func (.func 183) #[] #[]) := hSW.r2.cell 3; go_simp; try rfl)
  try simp only [Act.put, List.setIfInBounds_toArray, List.set_cons_zero, List.set_cons_succ]
  refine held_take 3 ?_ rfl (by kernel_rfl) (by kernel_rfl) (by kernel_rfl) (fun _ _ _ h => h) (by rfl) ?_ hSc ?_
  rotate_left
  · (intro W hSW; have k0 : W.cell? ⟨w.heap.size, 0, none⟩ = some (.int .u8 κ) := hSW.r1.cell 0; have k1 : W.cell? ⟨w.heap.size, 1, none⟩ = some (.slice A n c) := hSW.r1.cell 1; have k2 : W.cell? ⟨w.heap.size, 2, none⟩ = some (.slice A2 n2 c2) := hSW.r1.cell 2; have k3 : W.cell? ⟨w.heap.size, 3, none⟩ = some (.slice A3 n3 c3) := hSW.r1.cell 3; go_simp; try rfl)
  try simp only [Act.put, List.setIfInBounds_toArray, List.set_cons_zero, List.set_cons_succ]
  refine held_next 4 rfl (by kernel_rfl) (by rfl) ?_
  go_simp
  refine (toRuns_c _ p k _ T2.out N2.out H2.out).mono ?_
  rintro e u2 ⟨v', rfl, gq, bq⟩
  obtain ⟨κ5, A5, n5, c5, A6, n6, c6, A7, n7, c7, rfl⟩ := gq.form
  have hS2 := hSc.step bq
  have RR := Lib.hid (RR.out.below bq RR.out.lt)
  have G := Lib.hid gq
  clear hSc gq bq
  have hSc := hS2
  clear hS2
  refine ⟨fun W => Bx w w.heap.size 65 #[.int .u8 κ, .slice A n c, .slice A2 n2 c2, .slice A3 n3 c3] u1.heap.size 213 #[.nilFunc, .func (.func 181) #[] #[], .func (.func 182) #[] #[], .func (.func 183) #[] #[]] W, fun W hW => hW, hSc, ?_⟩
  try simp only [Act.put, List.setIfInBounds_toArray, List.set_cons_zero, List.set_cons_succ]
  have d0 : u2.cell? ⟨w.heap.size + 1, 0, none⟩ = some (.int .u8 0) := RR.out.cell 0
  have d1 : u2.cell? ⟨w.heap.size + 1, 1, none⟩ = some (.slice none 0 0) := RR.out.cell 1
  have d2 : u2.cell? ⟨w.heap.size + 1, 2, none⟩ = some (.slice none 0 0) := RR.out.cell 2
  have d3 : u2.cell? ⟨w.heap.size + 1, 3, none⟩ = some (.slice none 0 0) := RR.out.cell 3
  have e0 := RR.out.frozen 0
  have e1 := RR.out.frozen 1
  have e2 := RR.out.frozen 2
  have e3 := RR.out.frozen 3
  refine held_next 5 rfl (by kernel_rfl) (by rfl) ?_
  go_simp
  have S4 := set4 (a' := .int .u8 κ5) (b' := .slice A5 n5 c5) (c' := .slice A6 n6 c6) (d' := .slice A7 n7 c7) RR.out
  have hSd := hSc.stored S4.2 (by omega) (by omega) (by omega)
  have H5 := Lib.hid ((G.out.grown S4.2 (fun hh => hh.2 rfl)).mono fun b _ hn => hn.1)
  refine ⟨fun W => Bx w w.heap.size 65 #[.int .u8 κ, .slice A n c, .slice A2 n2 c2, .slice A3 n3 c3] u1.heap.size 213 #[.nilFunc, .func (.func 181) #[] #[], .func (.func 182) #[] #[], .func (.func 183) #[] #[]] W, fun W hW => hW, hSd, ?_⟩
  refine wpAnyH_done (by kernel_rfl) ?_ _
  go_wp2
  exact bodyPost_ret (ret_row rfl rfl S4.1) rfl ⟨_, rfl, H5.out, hSd.bel⟩

theorem canonical_c {N : Nat → Prop} (v : Value) (p : Nat → Bool) (k : Nat) (w : World) (hT : Tb w) (hN : ∀ b, w.heap.size ≤ b → N b) (h : Cn N w v p k) :
    Calls Tryz.prog 112 #[v] w fun e w' => ∃ v', e = .returned v' ∧ Cn N w' v' p (ck p) ∧ Below w.heap.size w w' := by
  have hc := ck_le p
  by_cases hk : ck p = k
  · exact canonical_same v p k w hT hN hk h
  · have hj : ck p = 1 ∨ ck p = 2 ∨ ck p = 3 := by omega
    rcases hj with hj | hj | hj
    · exact canonical_1 v p k w hT hN hj (by omega) h
    · exact canonical_2 v p k w hT hN hj (by omega) h
    · exact canonical_3 v p k w hT hN hj (by omega) h
end Go.Proofs.YtponcpneflhpfaaGreatDoor
namespace Go.Proofs.YtponcpneflhpfaaGreatDoor
open Go.RowKit
set_option linter.unusedVariables false

theorem three_blocks (w : World) (o1 o2 o3 : Array Value) (t1 t2 t3 : TypeId) :
    Bx w w.heap.size t1 o1 (w.heap.size + 2) t3 o3 (((w.alloc (.cells o1 t1)).alloc (.cells o2 t2)).alloc (.cells o3 t3)) ∧ Row (((w.alloc (.cells o1 t1)).alloc (.cells o2 t2)).alloc (.cells o3 t3)) (w.heap.size + 1) t2 o2 ∧ (((w.alloc (.cells o1 t1)).alloc (.cells o2 t2)).alloc (.cells o3 t3)).heap.size = w.heap.size + 3 := by
  obtain ⟨b, r1, r2⟩ := two_blocks w o1 o2 t1 t2
  have h := Row.new ((w.alloc (.cells o1 t1)).alloc (.cells o2 t2)) t3 o3
  refine ⟨⟨b.trans ((bx _ _).mono (by simp; omega)), r1.alloc _, by simpa using h⟩, r2.alloc _, by simp⟩
theorem ret_row2 {fn : Func} {p u : Tmp} (hf : fn.results = #[.cell p 65, .tmp u]) {tmps : Array Value} {w : World} {g : Nat} {a b c d : Value} {y : Value} (hp : tmps.getD p undef = .pointer (some ⟨g, 0, none⟩)) (hu : tmps.getD u undef = y) (R : Row w g 65 #[a, b, c, d]) :
    (results fn tmps).run Tryz.prog w = .ok (.tuple #[.agg #[a, b, c, d], y]) w := by
  rw [results_cell_tmp hf, hp, hu]
  simp [asAddr, run_loadVar_row w g 65 65 _ (0, 0) _ R Tryz.underlying65 rfl szC, Result.andThen]

end Go.Proofs.YtponcpneflhpfaaGreatDoor
namespace Go.Proofs.YtponcpneflhpfaaGreatDoor
open Go.RowKit
set_option linter.unusedVariables false

theorem ofArray_yes {N : Nat → Prop} (v : Value) (l : List UInt16) (p : Nat → Bool) (w : World) (hN : ∀ b, w.heap.size ≤ b → N b) (hv : Gs e16 w 0 w.heap.size v l) (h : ris l = true) (hl : l.length ≤ 65536) (hp : ls p 65536 = l) :
    Calls Tryz.prog 36 #[v] w fun e w' => ∃ v', e = .returned (.tuple #[v', .bool true]) ∧ Cn N w' v' p 1 ∧ Below w.heap.size w w' := by
  have HV := Lib.hid hv
  obtain ⟨A, c, rfl, -⟩ := hv
  have H := Lib.hid h
  have HL := Lib.hid hl
  have NN := Lib.hid hN
  have HP := Lib.hid hp
  have r0 := Row.new w 65 #[.int .u8 0, .slice none 0 0, .slice none 0 0, .slice none 0 0]
  have b0 := bx w (.cells #[.int .u8 0, .slice none 0 0, .slice none 0 0, .slice none 0 0] 65)
  clear h hl hN hp
  go_enter Tryz.func36, Tryz.ntmps36
  go_wp2_with fail
  generalize w.alloc (.cells #[.int .u8 0, .slice none 0 0, .slice none 0 0, .slice none 0 0] 65) = W0 at *
  have lg := r0.lt
  have RR := Lib.hid r0
  have BB := Lib.hid b0
  clear r0 b0
  refine (may_any _ l 0 _ _ (HV.out.stp BB.out)).mono ?_
  rw [H.out]
  rintro e u1 ⟨rfl, m, rfl⟩
  have RR := Lib.hid (show Row (W0.drewN m) _ _ _ from RR.out)
  have BB := Lib.hid (below_drewN BB.out m)
  go_wp2_with fail
  refine (clone16_any _ l 0 _ (HV.out.stp BB.out) (Nat.le_trans HL.out (by omega))).mono ?_
  rintro e u2 ⟨v2, rfl, o2, b⟩
  obtain ⟨X, x, rfl, -⟩ := o2.sl
  have G := Lib.hid o2.sl
  have RR := Lib.hid (RR.out.below b RR.out.lt)
  have BB := Lib.hid (below_both BB.out b)
  clear b o2
  go_wp2_with fail
  refine (ofArray_v _ _ _ _).mono ?_
  rintro e u3 ⟨rfl, b⟩
  have G := Lib.hid (G.out.stp b)
  have RR := Lib.hid (RR.out.below b RR.out.lt)
  have BB := Lib.hid (below_both BB.out b)
  clear b
  have d0 : u3.cell? ⟨w.heap.size, 0, none⟩ = some (.int .u8 0) := RR.out.cell 0
  have d1 : u3.cell? ⟨w.heap.size, 1, none⟩ = some (.slice none 0 0) := RR.out.cell 1
  have d2 : u3.cell? ⟨w.heap.size, 2, none⟩ = some (.slice none 0 0) := RR.out.cell 2
  have d3 : u3.cell? ⟨w.heap.size, 3, none⟩ = some (.slice none 0 0) := RR.out.cell 3
  have e0 := RR.out.frozen 0
  have e1 := RR.out.frozen 1
  have e2 := RR.out.frozen 2
  have e3 := RR.out.frozen 3
  go_wp2
  have S4 := set4 (a' := .int .u8 1) (b' := .slice X l.length x) (c' := .slice none 0 0) (d' := .slice none 0 0) RR.out
  have B5 := Lib.hid (BB.out.grown S4.2 BB.out.size (fun j e => by injection e with e; subst e; omega))
  have hsz : W0.heap.size ≤ (W0.drewN m).heap.size := Nat.le_refl _
  have G5 := G.out.grown S4.2 (Nat.le_refl _) (fun j e => by injection e with e; subst e; exact .inl (by omega))
  rw [← HP.out] at G5
  have hc : ct p 65536 = l.length := by rw [← ls_ct, HP.out]
  rw [ls_ct, hc] at G5
  exact bodyPost_ret (ret_row2 rfl rfl rfl S4.1) rfl ⟨_, rfl, Cn.arr 1 _ _ _ (.inr rfl) hc (Gp.of G5 S4.2.size (fun b hb _ => NN.out b (by omega))), B5.out⟩
end Go.Proofs.YtponcpneflhpfaaGreatDoor
