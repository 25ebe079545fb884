/- Walks: pairs of containers: both, either, the rest, just one, whatever kinds they are of. -/
import Derived.Test.YtponcpneflhpfaaGreatDoorSb8
import Derived.Test.YtponcpneflhpfaaGreatDoorSb9
import Derived.Shelf.Abstract
namespace Go.Proofs.YtponcpneflhpfaaGreatDoor
open Go.RowKit
set_option linter.unusedVariables false

/-- Behind w: three blocks are as told. -/
structure B3 (w : World) (g1 : Nat) (t1 : TypeId) (o1 : Array Value) (g2 : Nat) (t2 : TypeId) (o2 : Array Value) (g3 : Nat) (t3 : TypeId) (o3 : Array Value) (W : World) : Prop where
  bel : Below w.heap.size w W
  r1 : Row W g1 t1 o1
  r2 : Row W g2 t2 o2
  r3 : Row W g3 t3 o3
section
variable {w W W' : World} {g1 g2 g3 g : Nat} {t1 t2 t3 : TypeId} {o1 o2 o3 : Array Value}
theorem B3.step (h : B3 w g1 t1 o1 g2 t2 o2 g3 t3 o3 W) (b : Below W.heap.size W W') : B3 w g1 t1 o1 g2 t2 o2 g3 t3 o3 W' :=
  ⟨below_both h.bel b, h.r1.below b h.r1.lt, h.r2.below b h.r2.lt, h.r3.below b h.r3.lt⟩
theorem B3.stored (h : B3 w g1 t1 o1 g2 t2 o2 g3 t3 o3 W) (hg : W.grownBy W' (some g)) (h0 : w.heap.size ≤ g) (n1 : g ≠ g1) (n2 : g ≠ g2) (n3 : g ≠ g3) : B3 w g1 t1 o1 g2 t2 o2 g3 t3 o3 W' :=
  ⟨h.bel.grown hg h.bel.size (fun j e => by injection e with e; omega), h.r1.grown hg (by intro e; injection e with e; exact n1 e), h.r2.grown hg (by intro e; injection e with e; exact n2 e), h.r3.grown hg (by intro e; injection e with e; exact n3 e)⟩
end
theorem four_blocks (w : World) (o1 o2 o3 o4 : Array Value) (t1 t2 t3 t4 : TypeId) :
    B3 w w.heap.size t1 o1 (w.heap.size + 1) t2 o2 (w.heap.size + 2) t3 o3 ((((w.alloc (.cells o1 t1)).alloc (.cells o2 t2)).alloc (.cells o3 t3)).alloc (.cells o4 t4)) ∧ Row ((((w.alloc (.cells o1 t1)).alloc (.cells o2 t2)).alloc (.cells o3 t3)).alloc (.cells o4 t4)) (w.heap.size + 3) t4 o4 ∧ ((((w.alloc (.cells o1 t1)).alloc (.cells o2 t2)).alloc (.cells o3 t3)).alloc (.cells o4 t4)).heap.size = w.heap.size + 4 := by
  obtain ⟨x, r, s⟩ := three_blocks w o1 o2 o3 t1 t2 t3
  have h := Row.new (((w.alloc (.cells o1 t1)).alloc (.cells o2 t2)).alloc (.cells o3 t3)) t4 o4
  rw [s] at h
  exact ⟨⟨below_both x.bel (bx _ _), x.r1.alloc _, r.alloc _, x.r2.alloc _⟩, h, by simp⟩

/-- Three functions that do f: of arrays, of words, of runs. -/
structure Prs (f : Bool → Bool → Bool) (fA fW fR : FuncId) : Prop where
  enA : Enters Tryz.prog fA
  enW : Enters Tryz.prog fW
  enR : Enters Tryz.prog fR
  cA : ∀ (v u : Value) (p q : Nat → Bool) (n : Nat) (w : World), Gs e16 w 0 w.heap.size v (ls p 65536) → Gs e16 w 0 w.heap.size u (ls q 65536) → ct (fun x => f (p x) (q x)) 65536 = n →
    Calls Tryz.prog fA #[v, u] w fun e w' => ∃ A c, e = .returned (.slice A n c) ∧ Gs e16 w' w.heap.size w'.heap.size (.slice A n c) (ls (fun x => f (p x) (q x)) 65536) ∧ Below w.heap.size w w'
  cW : ∀ (v u : Value) (p q : Nat → Bool) (w : World), Gs e64 w 0 w.heap.size v (wm p) → Gs e64 w 0 w.heap.size u (wm q) →
    Calls Tryz.prog fW #[v, u] w fun e w' => ∃ A c, e = .returned (.slice A 1024 c) ∧ Gs e64 w' w.heap.size w'.heap.size (.slice A 1024 c) (wm fun x => f (p x) (q x)) ∧ Below w.heap.size w w'
  cR : ∀ (v u : Value) (p q : Nat → Bool) (n : Nat) (w : World), Gs2 eR w 0 w.heap.size v (rs p 65536) → Gs2 eR w 0 w.heap.size u (rs q 65536) → ct (hm (fun x => f (p x) (q x))) 65536 = n →
    Calls Tryz.prog fR #[v, u] w fun e w' => ∃ A c, e = .returned (.slice A n c) ∧ Gs2 eR w' w.heap.size w'.heap.size (.slice A n c) (rs (fun x => f (p x) (q x)) 65536) ∧ Below w.heap.size w w'
theorem prs_xor : Prs fXor 153 154 155 :=
  ⟨(enters_of Tryz.func153 (by kernel_rfl) rfl), (enters_of Tryz.func154 (by kernel_rfl) rfl), (enters_of Tryz.func155 (by kernel_rfl) rfl), sa_xor, sw_xor, sr_xor⟩

set_option maxHeartbeats 4000000 in
theorem byArrays_c {N : Nat → Prop} {f : Bool → Bool → Bool} {fA fW fR : FuncId} (H : Prs f fA fW fR) (v u : Value) (p q : Nat → Bool) (k j : Nat) (w : World) (hT : Tb w) (hN : ∀ b, w.heap.size ≤ b → N b) (h : Cn N w v p k) (g : Cn N w u q j) :
    Calls Tryz.prog 276 #[.agg #[.func (.func fA) #[] #[], .func (.func fW) #[] #[], .func (.func fR) #[] #[]], v, u] w fun e w' => ∃ v' k', e = .returned v' ∧ Cn N w' v' (fun x => f (p x) (q x)) k' ∧ Below w.heap.size w w' := by
  obtain ⟨κa, Aa, na, ca, Ba, ma, da, Da, qa, ea, rfl⟩ := h.form
  obtain ⟨κb, Ab, nb, cb, Bb, mb, db, Db, qb, eb, rfl⟩ := g.form
  have HA := H.enA
  have HW := H.enW
  have HR := H.enR
  unfold Enters at HA HW HR
  have H1 := Lib.hid h
  have H2 := Lib.hid g
  have TT := Lib.hid hT
  have NN := Lib.hid hN
  have X := four_blocks w #[.func (.func fA) #[] #[], .func (.func fW) #[] #[], .func (.func fR) #[] #[]] #[.int .u8 κa, .slice Aa na ca, .slice Ba ma da, .slice Da qa ea] #[.int .u8 κb, .slice Ab nb cb, .slice Bb mb db, .slice Db qb eb] #[.int .u8 0, .slice none 0 0, .slice none 0 0, .slice none 0 0] 193 65 65 65
  obtain ⟨P, hP⟩ : ∃ P, (fun x => f (p x) (q x)) = P := ⟨_, rfl⟩
  obtain ⟨m, hm2⟩ : ∃ m, ct P 65536 = m := ⟨_, rfl⟩
  obtain ⟨r, hr⟩ : ∃ r, ct (hm P) 65536 = r := ⟨_, rfl⟩
  obtain ⟨mp, hmp⟩ : ∃ r, ct p 65536 = r := ⟨_, rfl⟩
  obtain ⟨mq, hmq⟩ : ∃ r, ct q 65536 = r := ⟨_, rfl⟩
  obtain ⟨rp, hrp⟩ : ∃ r, ct (hm p) 65536 = r := ⟨_, rfl⟩
  obtain ⟨rq, hrq⟩ : ∃ r, ct (hm q) 65536 = r := ⟨_, rfl⟩
  have EP := Lib.hid hP
  have EM := Lib.hid (show ct (fun x => f (p x) (q x)) 65536 = m from hP ▸ hm2)
  have ER := Lib.hid (show ct (hm (fun x => f (p x) (q x))) 65536 = r from hP ▸ hr)
  have EM2 := Lib.hid hm2
  have ER2 := Lib.hid hr
  have MP := Lib.hid hmp
  have MQ := Lib.hid hmq
  have RP := Lib.hid hrp
  have RQ := Lib.hid hrq
  rw [hP]
  clear h g hT hN hm2 hr hP hmp hmq hrp hrq
  go_enter Tryz.func276, Tryz.ntmps276
  go_wp2_with fail
  generalize (((w.alloc (.cells #[.func (.func fA) #[] #[], .func (.func fW) #[] #[], .func (.func fR) #[] #[]] 193)).alloc (.cells #[.int .u8 κa, .slice Aa na ca, .slice Ba ma da, .slice Da qa ea] 65)).alloc (.cells #[.int .u8 κb, .slice Ab nb cb, .slice Bb mb db, .slice Db qb eb] 65)).alloc (.cells #[.int .u8 0, .slice none 0 0, .slice none 0 0, .slice none 0 0] 65) = W0 at *
  obtain ⟨x1, x2, x3⟩ := X
  have hSc : B3 w w.heap.size 193 #[.func (.func fA) #[] #[], .func (.func fW) #[] #[], .func (.func fR) #[] #[]] (w.heap.size + 1) 65 #[.int .u8 κa, .slice Aa na ca, .slice Ba ma da, .slice Da qa ea] (w.heap.size + 2) 65 #[.int .u8 κb, .slice Ab nb cb, .slice Bb mb db, .slice Db qb eb] W0.drew := ⟨x1.bel.drew, x1.r1, x1.r2, x1.r3⟩
  have H1 := Lib.hid (H1.out.step x1.bel.drew)
  have H2 := Lib.hid (H2.out.step x1.bel.drew)
  have T2 := Lib.hid (TT.out.step x1.bel.drew)
  have RR := Lib.hid (show Row W0.drew (w.heap.size + 3) _ _ from x2)
  have SZ : w.heap.size + 4 ≤ W0.drew.heap.size := Nat.le_of_eq x3.symm
  clear x1 x2 x3
  refine wp_region_held_drew (S := fun W => B3 w w.heap.size 193 #[.func (.func fA) #[] #[], .func (.func fW) #[] #[], .func (.func fR) #[] #[]] (w.heap.size + 1) 65 #[.int .u8 κa, .slice Aa na ca, .slice Ba ma da, .slice Da qa ea] (w.heap.size + 2) 65 #[.int .u8 κb, .slice Ab nb cb, .slice Bb mb db, .slice Db qb eb] W) (by kernel_rfl) hSc (fun _ => ?_)
  refine held_take 0 ?_ rfl (by kernel_rfl) (by kernel_rfl) (by kernel_rfl) (fun _ _ _ h => h) (by rfl) ?_ hSc ?_
  rotate_left
  · (intro W hSW; go_simp; try rfl)
  try simp only [Act.put, List.setIfInBounds_toArray, List.set_cons_zero, List.set_cons_succ]
  refine held_take 1 ?_ rfl (by kernel_rfl) (by kernel_rfl) (by kernel_rfl) (fun _ _ _ h => h) (by rfl) ?_ hSc ?_
  rotate_left
  · (intro W hSW; have k0 : W.cell? ⟨w.heap.size, 0, none⟩ = some (.func (.func fA) #[] #[]) := hSW.r1.cell 0; go_simp; try rfl)
  try simp only [Act.put, List.setIfInBounds_toArray, List.set_cons_zero, List.set_cons_succ]
  refine held_take 2 ?_ rfl (by kernel_rfl) (by kernel_rfl) (by kernel_rfl) (fun _ _ _ h => h) (by rfl) ?_ hSc ?_
  rotate_left
  · (intro W hSW; have k0 : W.cell? ⟨w.heap.size + 1, 0, none⟩ = some (.int .u8 κa) := hSW.r2.cell 0; have k1 : W.cell? ⟨w.heap.size + 1, 1, none⟩ = some (.slice Aa na ca) := hSW.r2.cell 1; have k2 : W.cell? ⟨w.heap.size + 1, 2, none⟩ = some (.slice Ba ma da) := hSW.r2.cell 2; have k3 : W.cell? ⟨w.heap.size + 1, 3, none⟩ = some (.slice Da qa ea) := hSW.r2.cell 3; go_simp; try rfl)
  try simp only [Act.put, List.setIfInBounds_toArray, List.set_cons_zero, List.set_cons_succ]
  refine held_take 4 ?_ rfl (by kernel_rfl) (by kernel_rfl) (by kernel_rfl) (fun _ _ _ h => h) (by rfl) ?_ hSc ?_
  rotate_left
  · (intro W hSW; have k0 : W.cell? ⟨w.heap.size + 2, 0, none⟩ = some (.int .u8 κb) := hSW.r3.cell 0; have k1 : W.cell? ⟨w.heap.size + 2, 1, none⟩ = some (.slice Ab nb cb) := hSW.r3.cell 1; have k2 : W.cell? ⟨w.heap.size + 2, 2, none⟩ = some (.slice Bb mb db) := hSW.r3.cell 2; have k3 : W.cell? ⟨w.heap.size + 2, 3, none⟩ = some (.slice Db qb eb) := hSW.r3.cell 3; go_simp; try rfl)
  try simp only [Act.put, List.setIfInBounds_toArray, List.set_cons_zero, List.set_cons_succ]
  refine held_next 3 rfl (by kernel_rfl) (by rfl) ?_
  go_simp
  refine (array_c _ p k mp _ T2.out MP.out H1.out).mono ?_
  rintro e u1 ⟨X1, y1, rfl, gq, bq⟩
  have hS2 := hSc.step bq
  have RR := Lib.hid (RR.out.below bq RR.out.lt)
  have T2 := Lib.hid (T2.out.step bq)
  have H1 := Lib.hid (H1.out.step bq)
  have H2 := Lib.hid (H2.out.step bq)
  have G1 := Lib.hid gq
  have SZ1 := bq.size
  clear gq bq
  clear hSc
  have hSc := hS2
  clear hS2
  refine ⟨fun W => B3 w w.heap.size 193 #[.func (.func fA) #[] #[], .func (.func fW) #[] #[], .func (.func fR) #[] #[]] (w.heap.size + 1) 65 #[.int .u8 κa, .slice Aa na ca, .slice Ba ma da, .slice Da qa ea] (w.heap.size + 2) 65 #[.int .u8 κb, .slice Ab nb cb, .slice Bb mb db, .slice Db qb eb] W, fun W hW => hW, hSc, ?_⟩
  try simp only [Act.put, List.setIfInBounds_toArray, List.set_cons_zero, List.set_cons_succ]
  refine held_next 5 rfl (by kernel_rfl) (by rfl) ?_
  go_simp
  refine (array_c _ q j mq _ T2.out MQ.out H2.out).mono ?_
  rintro e u2 ⟨X2, y2, rfl, gq, bq⟩
  have hS2 := hSc.step bq
  have RR := Lib.hid (RR.out.below bq RR.out.lt)
  have T2 := Lib.hid (T2.out.step bq)
  have H1 := Lib.hid (H1.out.step bq)
  have H2 := Lib.hid (H2.out.step bq)
  have G1 := Lib.hid (G1.out.stp bq)
  have G2 := Lib.hid gq
  have SZ2 := bq.size
  clear gq bq
  clear hSc
  have hSc := hS2
  clear hS2
  refine ⟨fun W => B3 w w.heap.size 193 #[.func (.func fA) #[] #[], .func (.func fW) #[] #[], .func (.func fR) #[] #[]] (w.heap.size + 1) 65 #[.int .u8 κa, .slice Aa na ca, .slice Ba ma da, .slice Da qa ea] (w.heap.size + 2) 65 #[.int .u8 κb, .slice Ab nb cb, .slice Bb mb db, .slice Db qb eb] W, fun W hW => hW, hSc, ?_⟩
  try simp only [Act.put, List.setIfInBounds_toArray, List.set_cons_zero, List.set_cons_succ]
  refine held_next 6 rfl (by kernel_rfl) (by rfl) ?_
  go_simp
  refine (H.cA _ _ p q m _ (G1.out.more (Nat.zero_le _) (Nat.le_refl _)) (G2.out.more (Nat.zero_le _) (Nat.le_refl _)) EM.out).mono ?_
  rw [EP.out]
  rintro e u3 ⟨X3, y3, rfl, gq, bq⟩
  have hS2 := hSc.step bq
  have RR := Lib.hid (RR.out.below bq RR.out.lt)
  have T2 := Lib.hid (T2.out.step bq)
  have H1 := Lib.hid (H1.out.step bq)
  have H2 := Lib.hid (H2.out.step bq)
  have G := Lib.hid gq
  have SZ3 := bq.size
  clear gq bq G1 G2
  clear hSc
  have hSc := hS2
  clear hS2
  refine ⟨fun W => B3 w w.heap.size 193 #[.func (.func fA) #[] #[], .func (.func fW) #[] #[], .func (.func fR) #[] #[]] (w.heap.size + 1) 65 #[.int .u8 κa, .slice Aa na ca, .slice Ba ma da, .slice Da qa ea] (w.heap.size + 2) 65 #[.int .u8 κb, .slice Ab nb cb, .slice Bb mb db, .slice Db qb eb] W, fun W hW => hW, hSc, ?_⟩
  try simp only [Act.put, List.setIfInBounds_toArray, List.set_cons_zero, List.set_cons_succ]
  refine held_next 7 rfl (by kernel_rfl) (by rfl) ?_
  go_simp
  refine (ofArray_v _ _ _ _).mono ?_
  rintro e u4 ⟨rfl, bq⟩
  have hS2 := hSc.step bq
  have RR := Lib.hid (RR.out.below bq RR.out.lt)
  have T2 := Lib.hid (T2.out.step bq)
  have H1 := Lib.hid (H1.out.step bq)
  have H2 := Lib.hid (H2.out.step bq)
  have G := Lib.hid (G.out.stp bq)
  have SZ4 := bq.size
  clear bq
  clear hSc
  have hSc := hS2
  clear hS2
  refine ⟨fun W => B3 w w.heap.size 193 #[.func (.func fA) #[] #[], .func (.func fW) #[] #[], .func (.func fR) #[] #[]] (w.heap.size + 1) 65 #[.int .u8 κa, .slice Aa na ca, .slice Ba ma da, .slice Da qa ea] (w.heap.size + 2) 65 #[.int .u8 κb, .slice Ab nb cb, .slice Bb mb db, .slice Db qb eb] W, fun W hW => hW, hSc, ?_⟩
  try simp only [Act.put, List.setIfInBounds_toArray, List.set_cons_zero, List.set_cons_succ]
  have d0 : u4.cell? ⟨w.heap.size + 3, 0, none⟩ = some (.int .u8 0) := RR.out.cell 0
  have f0 := RR.out.frozen 0
  have d1 : u4.cell? ⟨w.heap.size + 3, 1, none⟩ = some (.slice none 0 0) := RR.out.cell 1
  have f1 := RR.out.frozen 1
  have d2 : u4.cell? ⟨w.heap.size + 3, 2, none⟩ = some (.slice none 0 0) := RR.out.cell 2
  have f2 := RR.out.frozen 2
  have d3 : u4.cell? ⟨w.heap.size + 3, 3, none⟩ = some (.slice none 0 0) := RR.out.cell 3
  have f3 := RR.out.frozen 3
  refine held_next 8 rfl (by kernel_rfl) (by rfl) ?_
  go_simp
  have S4 := set4 (a' := .int .u8 1) (b' := .slice X3 m y3) (c' := .slice none 0 0) (d' := .slice none 0 0) RR.out
  have hSd := hSc.stored S4.2 (by omega) (by omega) (by omega) (by omega)
  have H5 := Lib.hid (show Cn N _ _ P 1 from Cn.arr 1 _ _ _ (.inr rfl) EM2.out (Gp.of (G.out.grown S4.2 (Nat.le_refl _) (fun j e => by injection e with e; subst e; exact .inl (by omega))) S4.2.size (fun b hb _ => NN.out b (by omega))))
  refine ⟨fun W => B3 w w.heap.size 193 #[.func (.func fA) #[] #[], .func (.func fW) #[] #[], .func (.func fR) #[] #[]] (w.heap.size + 1) 65 #[.int .u8 κa, .slice Aa na ca, .slice Ba ma da, .slice Da qa ea] (w.heap.size + 2) 65 #[.int .u8 κb, .slice Ab nb cb, .slice Bb mb db, .slice Db qb eb] W, fun W hW => hW, hSd, ?_⟩
  refine wpAnyH_done (by kernel_rfl) ?_ _
  go_wp2
  exact bodyPost_ret (ret_row rfl rfl S4.1) rfl ⟨_, _, rfl, H5.out, hSd.bel⟩

set_option maxHeartbeats 4000000 in
theorem byWords_c {N : Nat → Prop} {f : Bool → Bool → Bool} {fA fW fR : FuncId} (H : Prs f fA fW fR) (v u : Value) (p q : Nat → Bool) (k j : Nat) (w : World) (hT : Tb w) (hN : ∀ b, w.heap.size ≤ b → N b) (h : Cn N w v p k) (g : Cn N w u q j) :
    Calls Tryz.prog 274 #[.agg #[.func (.func fA) #[] #[], .func (.func fW) #[] #[], .func (.func fR) #[] #[]], v, u] w fun e w' => ∃ v' k', e = .returned v' ∧ Cn N w' v' (fun x => f (p x) (q x)) k' ∧ Below w.heap.size w w' := by
  obtain ⟨κa, Aa, na, ca, Ba, ma, da, Da, qa, ea, rfl⟩ := h.form
  obtain ⟨κb, Ab, nb, cb, Bb, mb, db, Db, qb, eb, rfl⟩ := g.form
  have HA := H.enA
  have HW := H.enW
  have HR := H.enR
  unfold Enters at HA HW HR
  have H1 := Lib.hid h
  have H2 := Lib.hid g
  have TT := Lib.hid hT
  have NN := Lib.hid hN
  have X := four_blocks w #[.func (.func fA) #[] #[], .func (.func fW) #[] #[], .func (.func fR) #[] #[]] #[.int .u8 κa, .slice Aa na ca, .slice Ba ma da, .slice Da qa ea] #[.int .u8 κb, .slice Ab nb cb, .slice Bb mb db, .slice Db qb eb] #[.int .u8 0, .slice none 0 0, .slice none 0 0, .slice none 0 0] 193 65 65 65
  obtain ⟨P, hP⟩ : ∃ P, (fun x => f (p x) (q x)) = P := ⟨_, rfl⟩
  obtain ⟨m, hm2⟩ : ∃ m, ct P 65536 = m := ⟨_, rfl⟩
  obtain ⟨r, hr⟩ : ∃ r, ct (hm P) 65536 = r := ⟨_, rfl⟩
  obtain ⟨mp, hmp⟩ : ∃ r, ct p 65536 = r := ⟨_, rfl⟩
  obtain ⟨mq, hmq⟩ : ∃ r, ct q 65536 = r := ⟨_, rfl⟩
  obtain ⟨rp, hrp⟩ : ∃ r, ct (hm p) 65536 = r := ⟨_, rfl⟩
  obtain ⟨rq, hrq⟩ : ∃ r, ct (hm q) 65536 = r := ⟨_, rfl⟩
  have EP := Lib.hid hP
  have EM := Lib.hid (show ct (fun x => f (p x) (q x)) 65536 = m from hP ▸ hm2)
  have ER := Lib.hid (show ct (hm (fun x => f (p x) (q x))) 65536 = r from hP ▸ hr)
  have EM2 := Lib.hid hm2
  have ER2 := Lib.hid hr
  have MP := Lib.hid hmp
  have MQ := Lib.hid hmq
  have RP := Lib.hid hrp
  have RQ := Lib.hid hrq
  rw [hP]
  clear h g hT hN hm2 hr hP hmp hmq hrp hrq
  go_enter Tryz.func274, Tryz.ntmps274
  go_wp2_with fail
  generalize (((w.alloc (.cells #[.func (.func fA) #[] #[], .func (.func fW) #[] #[], .func (.func fR) #[] #[]] 193)).alloc (.cells #[.int .u8 κa, .slice Aa na ca, .slice Ba ma da, .slice Da qa ea] 65)).alloc (.cells #[.int .u8 κb, .slice Ab nb cb, .slice Bb mb db, .slice Db qb eb] 65)).alloc (.cells #[.int .u8 0, .slice none 0 0, .slice none 0 0, .slice none 0 0] 65) = W0 at *
  obtain ⟨x1, x2, x3⟩ := X
  have hSc : B3 w w.heap.size 193 #[.func (.func fA) #[] #[], .func (.func fW) #[] #[], .func (.func fR) #[] #[]] (w.heap.size + 1) 65 #[.int .u8 κa, .slice Aa na ca, .slice Ba ma da, .slice Da qa ea] (w.heap.size + 2) 65 #[.int .u8 κb, .slice Ab nb cb, .slice Bb mb db, .slice Db qb eb] W0.drew := ⟨x1.bel.drew, x1.r1, x1.r2, x1.r3⟩
  have H1 := Lib.hid (H1.out.step x1.bel.drew)
  have H2 := Lib.hid (H2.out.step x1.bel.drew)
  have T2 := Lib.hid (TT.out.step x1.bel.drew)
  have RR := Lib.hid (show Row W0.drew (w.heap.size + 3) _ _ from x2)
  have SZ : w.heap.size + 4 ≤ W0.drew.heap.size := Nat.le_of_eq x3.symm
  clear x1 x2 x3
  refine wp_region_held_drew (S := fun W => B3 w w.heap.size 193 #[.func (.func fA) #[] #[], .func (.func fW) #[] #[], .func (.func fR) #[] #[]] (w.heap.size + 1) 65 #[.int .u8 κa, .slice Aa na ca, .slice Ba ma da, .slice Da qa ea] (w.heap.size + 2) 65 #[.int .u8 κb, .slice Ab nb cb, .slice Bb mb db, .slice Db qb eb] W) (by kernel_rfl) hSc (fun _ => ?_)
  refine held_take 0 ?_ rfl (by kernel_rfl) (by kernel_rfl) (by kernel_rfl) (fun _ _ _ h => h) (by rfl) ?_ hSc ?_
  rotate_left
  · (intro W hSW; go_simp; try rfl)
  try simp only [Act.put, List.setIfInBounds_toArray, List.set_cons_zero, List.set_cons_succ]
  refine held_take 1 ?_ rfl (by kernel_rfl) (by kernel_rfl) (by kernel_rfl) (fun _ _ _ h => h) (by rfl) ?_ hSc ?_
  rotate_left
  · (intro W hSW; have k0 : W.cell? ⟨w.heap.size, 1, none⟩ = some (.func (.func fW) #[] #[]) := hSW.r1.cell 1; go_simp; try rfl)
  try simp only [Act.put, List.setIfInBounds_toArray, List.set_cons_zero, List.set_cons_succ]
  refine held_take 2 ?_ rfl (by kernel_rfl) (by kernel_rfl) (by kernel_rfl) (fun _ _ _ h => h) (by rfl) ?_ hSc ?_
  rotate_left
  · (intro W hSW; have k0 : W.cell? ⟨w.heap.size + 1, 0, none⟩ = some (.int .u8 κa) := hSW.r2.cell 0; have k1 : W.cell? ⟨w.heap.size + 1, 1, none⟩ = some (.slice Aa na ca) := hSW.r2.cell 1; have k2 : W.cell? ⟨w.heap.size + 1, 2, none⟩ = some (.slice Ba ma da) := hSW.r2.cell 2; have k3 : W.cell? ⟨w.heap.size + 1, 3, none⟩ = some (.slice Da qa ea) := hSW.r2.cell 3; go_simp; try rfl)
  try simp only [Act.put, List.setIfInBounds_toArray, List.set_cons_zero, List.set_cons_succ]
  refine held_take 4 ?_ rfl (by kernel_rfl) (by kernel_rfl) (by kernel_rfl) (fun _ _ _ h => h) (by rfl) ?_ hSc ?_
  rotate_left
  · (intro W hSW; have k0 : W.cell? ⟨w.heap.size + 2, 0, none⟩ = some (.int .u8 κb) := hSW.r3.cell 0; have k1 : W.cell? ⟨w.heap.size + 2, 1, none⟩ = some (.slice Ab nb cb) := hSW.r3.cell 1; have k2 : W.cell? ⟨w.heap.size + 2, 2, none⟩ = some (.slice Bb mb db) := hSW.r3.cell 2; have k3 : W.cell? ⟨w.heap.size + 2, 3, none⟩ = some (.slice Db qb eb) := hSW.r3.cell 3; go_simp; try rfl)
  try simp only [Act.put, List.setIfInBounds_toArray, List.set_cons_zero, List.set_cons_succ]
  refine held_next 3 rfl (by kernel_rfl) (by rfl) ?_
  go_simp
  refine (words_c _ p k _ H1.out).mono ?_
  rintro e u1 ⟨X1, y1, rfl, gq, bq⟩
  have hS2 := hSc.step bq
  have RR := Lib.hid (RR.out.below bq RR.out.lt)
  have T2 := Lib.hid (T2.out.step bq)
  have H1 := Lib.hid (H1.out.step bq)
  have H2 := Lib.hid (H2.out.step bq)
  have G1 := Lib.hid gq
  have SZ1 := bq.size
  clear gq bq
  clear hSc
  have hSc := hS2
  clear hS2
  refine ⟨fun W => B3 w w.heap.size 193 #[.func (.func fA) #[] #[], .func (.func fW) #[] #[], .func (.func fR) #[] #[]] (w.heap.size + 1) 65 #[.int .u8 κa, .slice Aa na ca, .slice Ba ma da, .slice Da qa ea] (w.heap.size + 2) 65 #[.int .u8 κb, .slice Ab nb cb, .slice Bb mb db, .slice Db qb eb] W, fun W hW => hW, hSc, ?_⟩
  try simp only [Act.put, List.setIfInBounds_toArray, List.set_cons_zero, List.set_cons_succ]
  refine held_next 5 rfl (by kernel_rfl) (by rfl) ?_
  go_simp
  refine (words_c _ q j _ H2.out).mono ?_
  rintro e u2 ⟨X2, y2, rfl, gq, bq⟩
  have hS2 := hSc.step bq
  have RR := Lib.hid (RR.out.below bq RR.out.lt)
  have T2 := Lib.hid (T2.out.step bq)
  have H1 := Lib.hid (H1.out.step bq)
  have H2 := Lib.hid (H2.out.step bq)
  have G1 := Lib.hid (G1.out.stp bq)
  have G2 := Lib.hid gq
  have SZ2 := bq.size
  clear gq bq
  clear hSc
  have hSc := hS2
  clear hS2
  refine ⟨fun W => B3 w w.heap.size 193 #[.func (.func fA) #[] #[], .func (.func fW) #[] #[], .func (.func fR) #[] #[]] (w.heap.size + 1) 65 #[.int .u8 κa, .slice Aa na ca, .slice Ba ma da, .slice Da qa ea] (w.heap.size + 2) 65 #[.int .u8 κb, .slice Ab nb cb, .slice Bb mb db, .slice Db qb eb] W, fun W hW => hW, hSc, ?_⟩
  try simp only [Act.put, List.setIfInBounds_toArray, List.set_cons_zero, List.set_cons_succ]
  refine held_next 6 rfl (by kernel_rfl) (by rfl) ?_
  go_simp
  refine (H.cW _ _ p q _ (G1.out.more (Nat.zero_le _) (Nat.le_refl _)) (G2.out.more (Nat.zero_le _) (Nat.le_refl _))).mono ?_
  rw [EP.out]
  rintro e u3 ⟨X3, y3, rfl, gq, bq⟩
  have hS2 := hSc.step bq
  have RR := Lib.hid (RR.out.below bq RR.out.lt)
  have T2 := Lib.hid (T2.out.step bq)
  have H1 := Lib.hid (H1.out.step bq)
  have H2 := Lib.hid (H2.out.step bq)
  have G := Lib.hid gq
  have SZ3 := bq.size
  clear gq bq G1 G2
  clear hSc
  have hSc := hS2
  clear hS2
  refine ⟨fun W => B3 w w.heap.size 193 #[.func (.func fA) #[] #[], .func (.func fW) #[] #[], .func (.func fR) #[] #[]] (w.heap.size + 1) 65 #[.int .u8 κa, .slice Aa na ca, .slice Ba ma da, .slice Da qa ea] (w.heap.size + 2) 65 #[.int .u8 κb, .slice Ab nb cb, .slice Bb mb db, .slice Db qb eb] W, fun W hW => hW, hSc, ?_⟩
  try simp only [Act.put, List.setIfInBounds_toArray, List.set_cons_zero, List.set_cons_succ]
  refine held_next 7 rfl (by kernel_rfl) (by rfl) ?_
  go_simp
  refine (ofWords_v _ _ _ _).mono ?_
  rintro e u4 ⟨rfl, bq⟩
  have hS2 := hSc.step bq
  have RR := Lib.hid (RR.out.below bq RR.out.lt)
  have T2 := Lib.hid (T2.out.step bq)
  have H1 := Lib.hid (H1.out.step bq)
  have H2 := Lib.hid (H2.out.step bq)
  have G := Lib.hid (G.out.stp bq)
  have SZ4 := bq.size
  clear bq
  clear hSc
  have hSc := hS2
  clear hS2
  refine ⟨fun W => B3 w w.heap.size 193 #[.func (.func fA) #[] #[], .func (.func fW) #[] #[], .func (.func fR) #[] #[]] (w.heap.size + 1) 65 #[.int .u8 κa, .slice Aa na ca, .slice Ba ma da, .slice Da qa ea] (w.heap.size + 2) 65 #[.int .u8 κb, .slice Ab nb cb, .slice Bb mb db, .slice Db qb eb] W, fun W hW => hW, hSc, ?_⟩
  try simp only [Act.put, List.setIfInBounds_toArray, List.set_cons_zero, List.set_cons_succ]
  have d0 : u4.cell? ⟨w.heap.size + 3, 0, none⟩ = some (.int .u8 0) := RR.out.cell 0
  have f0 := RR.out.frozen 0
  have d1 : u4.cell? ⟨w.heap.size + 3, 1, none⟩ = some (.slice none 0 0) := RR.out.cell 1
  have f1 := RR.out.frozen 1
  have d2 : u4.cell? ⟨w.heap.size + 3, 2, none⟩ = some (.slice none 0 0) := RR.out.cell 2
  have f2 := RR.out.frozen 2
  have d3 : u4.cell? ⟨w.heap.size + 3, 3, none⟩ = some (.slice none 0 0) := RR.out.cell 3
  have f3 := RR.out.frozen 3
  refine held_next 8 rfl (by kernel_rfl) (by rfl) ?_
  go_simp
  have S4 := set4 (a' := .int .u8 2) (b' := .slice none 0 0) (c' := .slice X3 1024 y3) (d' := .slice none 0 0) RR.out
  have hSd := hSc.stored S4.2 (by omega) (by omega) (by omega) (by omega)
  have H5 := Lib.hid (show Cn N _ _ P 2 from Cn.wrd _ _ (Gp.of (G.out.grown S4.2 (Nat.le_refl _) (fun j e => by injection e with e; subst e; exact .inl (by omega))) S4.2.size (fun b hb _ => NN.out b (by omega))))
  refine ⟨fun W => B3 w w.heap.size 193 #[.func (.func fA) #[] #[], .func (.func fW) #[] #[], .func (.func fR) #[] #[]] (w.heap.size + 1) 65 #[.int .u8 κa, .slice Aa na ca, .slice Ba ma da, .slice Da qa ea] (w.heap.size + 2) 65 #[.int .u8 κb, .slice Ab nb cb, .slice Bb mb db, .slice Db qb eb] W, fun W hW => hW, hSd, ?_⟩
  refine wpAnyH_done (by kernel_rfl) ?_ _
  go_wp2
  exact bodyPost_ret (ret_row rfl rfl S4.1) rfl ⟨_, _, rfl, H5.out, hSd.bel⟩

set_option maxHeartbeats 4000000 in
theorem byRuns_c {N : Nat → Prop} {f : Bool → Bool → Bool} {fA fW fR : FuncId} (H : Prs f fA fW fR) (v u : Value) (p q : Nat → Bool) (k j : Nat) (w : World) (hT : Tb w) (hN : ∀ b, w.heap.size ≤ b → N b) (h : Cn N w v p k) (g : Cn N w u q j) :
    Calls Tryz.prog 275 #[.agg #[.func (.func fA) #[] #[], .func (.func fW) #[] #[], .func (.func fR) #[] #[]], v, u] w fun e w' => ∃ v' k', e = .returned v' ∧ Cn N w' v' (fun x => f (p x) (q x)) k' ∧ Below w.heap.size w w' := by
  obtain ⟨κa, Aa, na, ca, Ba, ma, da, Da, qa, ea, rfl⟩ := h.form
  obtain ⟨κb, Ab, nb, cb, Bb, mb, db, Db, qb, eb, rfl⟩ := g.form
  have HA := H.enA
  have HW := H.enW
  have HR := H.enR
  unfold Enters at HA HW HR
  have H1 := Lib.hid h
  have H2 := Lib.hid g
  have TT := Lib.hid hT
  have NN := Lib.hid hN
  have X := four_blocks w #[.func (.func fA) #[] #[], .func (.func fW) #[] #[], .func (.func fR) #[] #[]] #[.int .u8 κa, .slice Aa na ca, .slice Ba ma da, .slice Da qa ea] #[.int .u8 κb, .slice Ab nb cb, .slice Bb mb db, .slice Db qb eb] #[.int .u8 0, .slice none 0 0, .slice none 0 0, .slice none 0 0] 193 65 65 65
  obtain ⟨P, hP⟩ : ∃ P, (fun x => f (p x) (q x)) = P := ⟨_, rfl⟩
  obtain ⟨m, hm2⟩ : ∃ m, ct P 65536 = m := ⟨_, rfl⟩
  obtain ⟨r, hr⟩ : ∃ r, ct (hm P) 65536 = r := ⟨_, rfl⟩
  obtain ⟨mp, hmp⟩ : ∃ r, ct p 65536 = r := ⟨_, rfl⟩
  obtain ⟨mq, hmq⟩ : ∃ r, ct q 65536 = r := ⟨_, rfl⟩
  obtain ⟨rp, hrp⟩ : ∃ r, ct (hm p) 65536 = r := ⟨_, rfl⟩
  obtain ⟨rq, hrq⟩ : ∃ r, ct (hm q) 65536 = r := ⟨_, rfl⟩
  have EP := Lib.hid hP
  have EM := Lib.hid (show ct (fun x => f (p x) (q x)) 65536 = m from hP ▸ hm2)
  have ER := Lib.hid (show ct (hm (fun x => f (p x) (q x))) 65536 = r from hP ▸ hr)
  have EM2 := Lib.hid hm2
  have ER2 := Lib.hid hr
  have MP := Lib.hid hmp
  have MQ := Lib.hid hmq
  have RP := Lib.hid hrp
  have RQ := Lib.hid hrq
  rw [hP]
  clear h g hT hN hm2 hr hP hmp hmq hrp hrq
  go_enter Tryz.func275, Tryz.ntmps275
  go_wp2_with fail
  generalize (((w.alloc (.cells #[.func (.func fA) #[] #[], .func (.func fW) #[] #[], .func (.func fR) #[] #[]] 193)).alloc (.cells #[.int .u8 κa, .slice Aa na ca, .slice Ba ma da, .slice Da qa ea] 65)).alloc (.cells #[.int .u8 κb, .slice Ab nb cb, .slice Bb mb db, .slice Db qb eb] 65)).alloc (.cells #[.int .u8 0, .slice none 0 0, .slice none 0 0, .slice none 0 0] 65) = W0 at *
  obtain ⟨x1, x2, x3⟩ := X
  have hSc : B3 w w.heap.size 193 #[.func (.func fA) #[] #[], .func (.func fW) #[] #[], .func (.func fR) #[] #[]] (w.heap.size + 1) 65 #[.int .u8 κa, .slice Aa na ca, .slice Ba ma da, .slice Da qa ea] (w.heap.size + 2) 65 #[.int .u8 κb, .slice Ab nb cb, .slice Bb mb db, .slice Db qb eb] W0.drew := ⟨x1.bel.drew, x1.r1, x1.r2, x1.r3⟩
  have H1 := Lib.hid (H1.out.step x1.bel.drew)
  have H2 := Lib.hid (H2.out.step x1.bel.drew)
  have T2 := Lib.hid (TT.out.step x1.bel.drew)
  have RR := Lib.hid (show Row W0.drew (w.heap.size + 3) _ _ from x2)
  have SZ : w.heap.size + 4 ≤ W0.drew.heap.size := Nat.le_of_eq x3.symm
  clear x1 x2 x3
  refine wp_region_held_drew (S := fun W => B3 w w.heap.size 193 #[.func (.func fA) #[] #[], .func (.func fW) #[] #[], .func (.func fR) #[] #[]] (w.heap.size + 1) 65 #[.int .u8 κa, .slice Aa na ca, .slice Ba ma da, .slice Da qa ea] (w.heap.size + 2) 65 #[.int .u8 κb, .slice Ab nb cb, .slice Bb mb db, .slice Db qb eb] W) (by kernel_rfl) hSc (fun _ => ?_)
  refine held_take 0 ?_ rfl (by kernel_rfl) (by kernel_rfl) (by kernel_rfl) (fun _ _ _ h => h) (by rfl) ?_ hSc ?_
  rotate_left
  · (intro W hSW; go_simp; try rfl)
  try simp only [Act.put, List.setIfInBounds_toArray, List.set_cons_zero, List.set_cons_succ]
  refine held_take 1 ?_ rfl (by kernel_rfl) (by kernel_rfl) (by kernel_rfl) (fun _ _ _ h => h) (by rfl) ?_ hSc ?_
  rotate_left
  · (intro W hSW; have k0 : W.cell? ⟨w.heap.size, 2, none⟩ = some (.func (.func fR) #[] #[]) := hSW.r1.cell 2; go_simp; try rfl)
  try simp only [Act.put, List.setIfInBounds_toArray, List.set_cons_zero, List.set_cons_succ]
  refine held_take 2 ?_ rfl (by kernel_rfl) (by kernel_rfl) (by kernel_rfl) (fun _ _ _ h => h) (by rfl) ?_ hSc ?_
  rotate_left
  · (intro W hSW; have k0 : W.cell? ⟨w.heap.size + 1, 0, none⟩ = some (.int .u8 κa) := hSW.r2.cell 0; have k1 : W.cell? ⟨w.heap.size + 1, 1, none⟩ = some (.slice Aa na ca) := hSW.r2.cell 1; have k2 : W.cell? ⟨w.heap.size + 1, 2, none⟩ = some (.slice Ba ma da) := hSW.r2.cell 2; have k3 : W.cell? ⟨w.heap.size + 1, 3, none⟩ = some (.slice Da qa ea) := hSW.r2.cell 3; go_simp; try rfl)
  try simp only [Act.put, List.setIfInBounds_toArray, List.set_cons_zero, List.set_cons_succ]
  refine held_take 4 ?_ rfl (by kernel_rfl) (by kernel_rfl) (by kernel_rfl) (fun _ _ _ h => h) (by rfl) ?_ hSc ?_
  rotate_left
  · (intro W hSW; have k0 : W.cell? ⟨w.heap.size + 2, 0, none⟩ = some (.int .u8 κb) := hSW.r3.cell 0; have k1 : W.cell? ⟨w.heap.size + 2, 1, none⟩ = some (.slice Ab nb cb) := hSW.r3.cell 1; have k2 : W.cell? ⟨w.heap.size + 2, 2, none⟩ = some (.slice Bb mb db) := hSW.r3.cell 2; have k3 : W.cell? ⟨w.heap.size + 2, 3, none⟩ = some (.slice Db qb eb) := hSW.r3.cell 3; go_simp; try rfl)
  try simp only [Act.put, List.setIfInBounds_toArray, List.set_cons_zero, List.set_cons_succ]
  refine held_next 3 rfl (by kernel_rfl) (by rfl) ?_
  go_simp
  refine (runs_c _ p k rp _ T2.out RP.out H1.out).mono ?_
  rintro e u1 ⟨X1, y1, rfl, gq, bq⟩
  have hS2 := hSc.step bq
  have RR := Lib.hid (RR.out.below bq RR.out.lt)
  have T2 := Lib.hid (T2.out.step bq)
  have H1 := Lib.hid (H1.out.step bq)
  have H2 := Lib.hid (H2.out.step bq)
  have G1 := Lib.hid gq
  have SZ1 := bq.size
  clear gq bq
  clear hSc
  have hSc := hS2
  clear hS2
  refine ⟨fun W => B3 w w.heap.size 193 #[.func (.func fA) #[] #[], .func (.func fW) #[] #[], .func (.func fR) #[] #[]] (w.heap.size + 1) 65 #[.int .u8 κa, .slice Aa na ca, .slice Ba ma da, .slice Da qa ea] (w.heap.size + 2) 65 #[.int .u8 κb, .slice Ab nb cb, .slice Bb mb db, .slice Db qb eb] W, fun W hW => hW, hSc, ?_⟩
  try simp only [Act.put, List.setIfInBounds_toArray, List.set_cons_zero, List.set_cons_succ]
  refine held_next 5 rfl (by kernel_rfl) (by rfl) ?_
  go_simp
  refine (runs_c _ q j rq _ T2.out RQ.out H2.out).mono ?_
  rintro e u2 ⟨X2, y2, rfl, gq, bq⟩
  have hS2 := hSc.step bq
  have RR := Lib.hid (RR.out.below bq RR.out.lt)
  have T2 := Lib.hid (T2.out.step bq)
  have H1 := Lib.hid (H1.out.step bq)
  have H2 := Lib.hid (H2.out.step bq)
  have G1 := Lib.hid (G1.out.stp bq)
  have G2 := Lib.hid gq
  have SZ2 := bq.size
  clear gq bq
  clear hSc
  have hSc := hS2
  clear hS2
  refine ⟨fun W => B3 w w.heap.size 193 #[.func (.func fA) #[] #[], .func (.func fW) #[] #[], .func (.func fR) #[] #[]] (w.heap.size + 1) 65 #[.int .u8 κa, .slice Aa na ca, .slice Ba ma da, .slice Da qa ea] (w.heap.size + 2) 65 #[.int .u8 κb, .slice Ab nb cb, .slice Bb mb db, .slice Db qb eb] W, fun W hW => hW, hSc, ?_⟩
  try simp only [Act.put, List.setIfInBounds_toArray, List.set_cons_zero, List.set_cons_succ]
  refine held_next 6 rfl (by kernel_rfl) (by rfl) ?_
  go_simp
  refine (H.cR _ _ p q r _ (G1.out.more (Nat.zero_le _) (Nat.le_refl _)) (G2.out.more (Nat.zero_le _) (Nat.le_refl _)) ER.out).mono ?_
  rw [EP.out]
  rintro e u3 ⟨X3, y3, rfl, gq, bq⟩
  have hS2 := hSc.step bq
  have RR := Lib.hid (RR.out.below bq RR.out.lt)
  have T2 := Lib.hid (T2.out.step bq)
  have H1 := Lib.hid (H1.out.step bq)
  have H2 := Lib.hid (H2.out.step bq)
  have G := Lib.hid gq
  have SZ3 := bq.size
  clear gq bq G1 G2
  clear hSc
  have hSc := hS2
  clear hS2
  refine ⟨fun W => B3 w w.heap.size 193 #[.func (.func fA) #[] #[], .func (.func fW) #[] #[], .func (.func fR) #[] #[]] (w.heap.size + 1) 65 #[.int .u8 κa, .slice Aa na ca, .slice Ba ma da, .slice Da qa ea] (w.heap.size + 2) 65 #[.int .u8 κb, .slice Ab nb cb, .slice Bb mb db, .slice Db qb eb] W, fun W hW => hW, hSc, ?_⟩
  try simp only [Act.put, List.setIfInBounds_toArray, List.set_cons_zero, List.set_cons_succ]
  refine held_next 7 rfl (by kernel_rfl) (by rfl) ?_
  go_simp
  refine (ofRuns_v _ _ _ _).mono ?_
  rintro e u4 ⟨rfl, bq⟩
  have hS2 := hSc.step bq
  have RR := Lib.hid (RR.out.below bq RR.out.lt)
  have T2 := Lib.hid (T2.out.step bq)
  have H1 := Lib.hid (H1.out.step bq)
  have H2 := Lib.hid (H2.out.step bq)
  have G := Lib.hid (G.out.stp bq)
  have SZ4 := bq.size
  clear bq
  clear hSc
  have hSc := hS2
  clear hS2
  refine ⟨fun W => B3 w w.heap.size 193 #[.func (.func fA) #[] #[], .func (.func fW) #[] #[], .func (.func fR) #[] #[]] (w.heap.size + 1) 65 #[.int .u8 κa, .slice Aa na ca, .slice Ba ma da, .slice Da qa ea] (w.heap.size + 2) 65 #[.int .u8 κb, .slice Ab nb cb, .slice Bb mb db, .slice Db qb eb] W, fun W hW => hW, hSc, ?_⟩
  try simp only [Act.put, List.setIfInBounds_toArray, List.set_cons_zero, List.set_cons_succ]
  have d0 : u4.cell? ⟨w.heap.size + 3, 0, none⟩ = some (.int .u8 0) := RR.out.cell 0
  have f0 := RR.out.frozen 0
  have d1 : u4.cell? ⟨w.heap.size + 3, 1, none⟩ = some (.slice none 0 0) := RR.out.cell 1
  have f1 := RR.out.frozen 1
  have d2 : u4.cell? ⟨w.heap.size + 3, 2, none⟩ = some (.slice none 0 0) := RR.out.cell 2
  have f2 := RR.out.frozen 2
  have d3 : u4.cell? ⟨w.heap.size + 3, 3, none⟩ = some (.slice none 0 0) := RR.out.cell 3
  have f3 := RR.out.frozen 3
  refine held_next 8 rfl (by kernel_rfl) (by rfl) ?_
  go_simp
  have S4 := set4 (a' := .int .u8 3) (b' := .slice none 0 0) (c' := .slice none 0 0) (d' := .slice X3 r y3) RR.out
  have hSd := hSc.stored S4.2 (by omega) (by omega) (by omega) (by omega)
  have H5 := Lib.hid (show Cn N _ _ P 3 from Cn.run _ _ _ ER2.out (Gp2.of (G.out.grown S4.2 (Nat.le_refl _) (fun j e => by injection e with e; subst e; exact .inl (by omega))) S4.2.size (fun b hb _ => NN.out b (by omega))))
  refine ⟨fun W => B3 w w.heap.size 193 #[.func (.func fA) #[] #[], .func (.func fW) #[] #[], .func (.func fR) #[] #[]] (w.heap.size + 1) 65 #[.int .u8 κa, .slice Aa na ca, .slice Ba ma da, .slice Da qa ea] (w.heap.size + 2) 65 #[.int .u8 κb, .slice Ab nb cb, .slice Bb mb db, .slice Db qb eb] W, fun W hW => hW, hSd, ?_⟩
  refine wpAnyH_done (by kernel_rfl) ?_ _
  go_wp2
  exact bodyPost_ret (ret_row rfl rfl S4.1) rfl ⟨_, _, rfl, H5.out, hSd.bel⟩

/-- A way to pair two containers. -/
def Way (f : Bool → Bool → Bool) (fA fW fR : FuncId) (X : FuncId) : Prop := Enters Tryz.prog X ∧ ∀ (N : Nat → Prop) (v u : Value) (p q : Nat → Bool) (k j : Nat) (w : World), Tb w → (∀ b, w.heap.size ≤ b → N b) → Cn N w v p k → Cn N w u q j →
  Calls Tryz.prog X #[.agg #[.func (.func fA) #[] #[], .func (.func fW) #[] #[], .func (.func fR) #[] #[]], v, u] w fun e w' => ∃ v' k', e = .returned v' ∧ Cn N w' v' (fun x => f (p x) (q x)) k' ∧ Below w.heap.size w w'
theorem call_c {f : Bool → Bool → Bool} {fA fW fR : FuncId} (H : Prs f fA fW fR) (a b : Nat) (w : World) (ha : 1 ≤ a ∧ a ≤ 3) (hb : 1 ≤ b ∧ b ≤ 3) :
    Calls Tryz.prog 218 #[.agg #[.func (.func fA) #[] #[], .func (.func fW) #[] #[], .func (.func fR) #[] #[]], .int .u8 a, .int .u8 b] w fun e w' => ∃ X, e = .returned (.func (.func X) #[.agg #[.func (.func fA) #[] #[], .func (.func fW) #[] #[], .func (.func fR) #[] #[]]] #[]) ∧ Way f fA fW fR X ∧ Below w.heap.size w w' := by
  have WA : Way f fA fW fR 276 := ⟨enters_of Tryz.func276 (by kernel_rfl) rfl, fun N v u p q k j w h1 h2 h3 h4 => byArrays_c H v u p q k j w h1 h2 h3 h4⟩
  have WW : Way f fA fW fR 274 := ⟨enters_of Tryz.func274 (by kernel_rfl) rfl, fun N v u p q k j w h1 h2 h3 h4 => byWords_c H v u p q k j w h1 h2 h3 h4⟩
  have WR : Way f fA fW fR 275 := ⟨enters_of Tryz.func275 (by kernel_rfl) rfl, fun N v u p q k j w h1 h2 h3 h4 => byRuns_c H v u p q k j w h1 h2 h3 h4⟩
  have WA := Lib.hid WA
  have WW := Lib.hid WW
  have WR := Lib.hid WR
  have ha2 : a = 1 ∨ a = 2 ∨ a = 3 := by omega
  have hb2 : b = 1 ∨ b = 2 ∨ b = 3 := by omega
  have BX := Lib.hid (bx w (.cells #[.func (.func fA) #[] #[], .func (.func fW) #[] #[], .func (.func fR) #[] #[]] 193))
  clear ha hb H
  rcases ha2 with rfl | rfl | rfl <;> rcases hb2 with rfl | rfl | rfl
  · go_enter Tryz.func218, Tryz.ntmps218
    go_wp2
    go_ret
    exact ⟨_, by rfl, WA.out, BX.out⟩
  · go_enter Tryz.func218, Tryz.ntmps218
    go_wp2
    go_ret
    exact ⟨_, by rfl, WW.out, BX.out⟩
  · go_enter Tryz.func218, Tryz.ntmps218
    go_wp2
    go_ret
    exact ⟨_, by rfl, WR.out, BX.out⟩
  · go_enter Tryz.func218, Tryz.ntmps218
    go_wp2
    go_ret
    exact ⟨_, by rfl, WW.out, BX.out⟩
  · go_enter Tryz.func218, Tryz.ntmps218
    go_wp2
    go_ret
    exact ⟨_, by rfl, WW.out, BX.out⟩
  · go_enter Tryz.func218, Tryz.ntmps218
    go_wp2
    go_ret
    exact ⟨_, by rfl, WW.out, BX.out⟩
  · go_enter Tryz.func218, Tryz.ntmps218
    go_wp2
    go_ret
    exact ⟨_, by rfl, WR.out, BX.out⟩
  · go_enter Tryz.func218, Tryz.ntmps218
    go_wp2
    go_ret
    exact ⟨_, by rfl, WW.out, BX.out⟩
  · go_enter Tryz.func218, Tryz.ntmps218
    go_wp2
    go_ret
    exact ⟨_, by rfl, WR.out, BX.out⟩
end Go.Proofs.YtponcpneflhpfaaGreatDoor
