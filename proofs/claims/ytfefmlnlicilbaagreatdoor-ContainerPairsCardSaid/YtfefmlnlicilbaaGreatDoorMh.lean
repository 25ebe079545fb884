/- Walks: a set made as a kind; whether two containers are the same; a container of all other numbers. -/
import Derived.Test.YtfefmlnlicilbaaGreatDoorMg
import Derived.Test.YtfefmlnlicilbaaGreatDoorMf
import Derived.Test.YtfefmlnlicilbaaGreatDoorM8
/- Walks: two containers, paired: And, Or, AndNot, Xor. -/
namespace Go.Proofs.YtfefmlnlicilbaaGreatDoor
open Go.RowKit
set_option linter.unusedVariables false

set_option maxHeartbeats 4000000 in
theorem of_c {N : Nat → Prop} {f : Bool → Bool → Bool} {fA fW fR : FuncId} (H : Prs f fA fW fR) (v u : Value) (p q : Nat → Bool) (k j : Nat) (w : World) (hT : Tb w) (hN : ∀ b, w.heap.size ≤ b → N b) (h : Cn N w v p k) (g : Cn N w u q j) :
    Calls Tryz.prog 38 #[.agg #[.func (.func fA) #[] #[], .func (.func fW) #[] #[], .func (.func fR) #[] #[]], v, u] w fun e w' => ∃ v', e = .returned v' ∧ Cn N w' v' (fun x => f (p x) (q x)) (ck (fun x => f (p x) (q x))) ∧ Below w.heap.size w w' := by
  obtain ⟨κa, Aa, na, ca, Ba, ma, da, Da, qa, ea, rfl⟩ := h.form
  obtain ⟨κb, Ab, nb, cb, Bb, mb, db, Db, qb, eb, rfl⟩ := g.form
  have H1 := Lib.hid (h.mono (N' := fun b => N b ∧ b < w.heap.size) fun b hb hn => ⟨hn, hb⟩)
  have H2 := Lib.hid (g.mono (N' := fun b => N b ∧ b < w.heap.size) fun b hb hn => ⟨hn, hb⟩)
  have KK := Lib.hid h.kind
  have KJ := Lib.hid g.kind
  have HH := Lib.hid H
  have TT := Lib.hid hT
  have NN := Lib.hid hN
  have X := four_blocks w #[.func (.func fA) #[] #[], .func (.func fW) #[] #[], .func (.func fR) #[] #[]] #[.int .u8 κa, .slice Aa na ca, .slice Ba ma da, .slice Da qa ea] #[.int .u8 κb, .slice Ab nb cb, .slice Bb mb db, .slice Db qb eb] #[.int .u8 0, .slice none 0 0, .slice none 0 0, .slice none 0 0] 62 28 28 28
  clear h g hT hN H
  go_enter Tryz.func38, Tryz.ntmps38
  go_wp2_with fail
  generalize (((w.alloc (.cells #[.func (.func fA) #[] #[], .func (.func fW) #[] #[], .func (.func fR) #[] #[]] 62)).alloc (.cells #[.int .u8 κa, .slice Aa na ca, .slice Ba ma da, .slice Da qa ea] 28)).alloc (.cells #[.int .u8 κb, .slice Ab nb cb, .slice Bb mb db, .slice Db qb eb] 28)).alloc (.cells #[.int .u8 0, .slice none 0 0, .slice none 0 0, .slice none 0 0] 28) = W0 at *
  obtain ⟨x1, x2, x3⟩ := X
  have hSc : B3 w w.heap.size 62 #[.func (.func fA) #[] #[], .func (.func fW) #[] #[], .func (.func fR) #[] #[]] (w.heap.size + 1) 28 #[.int .u8 κa, .slice Aa na ca, .slice Ba ma da, .slice Da qa ea] (w.heap.size + 2) 28 #[.int .u8 κb, .slice Ab nb cb, .slice Bb mb db, .slice Db qb eb] W0.drew := ⟨x1.bel.drew, x1.r1, x1.r2, x1.r3⟩
  have H1 := Lib.hid (H1.out.step x1.bel.drew)
  have H2 := Lib.hid (H2.out.step x1.bel.drew)
  have T2 := Lib.hid (TT.out.step x1.bel.drew)
  have RR := Lib.hid (show Row W0.drew (w.heap.size + 3) _ _ from x2)
  have SZ : w.heap.size + 4 ≤ W0.drew.heap.size := Nat.le_of_eq x3.symm
  clear x1 x2 x3 TT
  refine wp_region_held_drew (S := fun W => B3 w w.heap.size 62 #[.func (.func fA) #[] #[], .func (.func fW) #[] #[], .func (.func fR) #[] #[]] (w.heap.size + 1) 28 #[.int .u8 κa, .slice Aa na ca, .slice Ba ma da, .slice Da qa ea] (w.heap.size + 2) 28 #[.int .u8 κb, .slice Ab nb cb, .slice Bb mb db, .slice Db qb eb] W) (by kernel_rfl) hSc (fun _ => ?_)
  refine held_take 0 ?_ rfl (by kernel_rfl) (by kernel_rfl) (by kernel_rfl) (fun _ _ _ h => h) (by rfl) ?_ hSc ?_
  rotate_left
  · (intro W hSW; have k0 : W.cell? ⟨w.heap.size, 0, none⟩ = some (.func (.func fA) #[] #[]) := hSW.r1.cell 0; have k1 : W.cell? ⟨w.heap.size, 1, none⟩ = some (.func (.func fW) #[] #[]) := hSW.r1.cell 1; have k2 : W.cell? ⟨w.heap.size, 2, none⟩ = some (.func (.func fR) #[] #[]) := hSW.r1.cell 2; go_simp; try rfl)
  try simp only [Act.put, List.setIfInBounds_toArray, List.set_cons_zero, List.set_cons_succ]
  refine held_take 1 ?_ rfl (by kernel_rfl) (by kernel_rfl) (by kernel_rfl) (fun _ _ _ h => h) (by rfl) ?_ hSc ?_
  rotate_left
  · (intro W hSW; have k0 : W.cell? ⟨w.heap.size + 1, 0, none⟩ = some (.int .u8 κa) := hSW.r2.cell 0; have k1 : W.cell? ⟨w.heap.size + 1, 1, none⟩ = some (.slice Aa na ca) := hSW.r2.cell 1; have k2 : W.cell? ⟨w.heap.size + 1, 2, none⟩ = some (.slice Ba ma da) := hSW.r2.cell 2; have k3 : W.cell? ⟨w.heap.size + 1, 3, none⟩ = some (.slice Da qa ea) := hSW.r2.cell 3; go_simp; try rfl)
  try simp only [Act.put, List.setIfInBounds_toArray, List.set_cons_zero, List.set_cons_succ]
  refine held_take 3 ?_ rfl (by kernel_rfl) (by kernel_rfl) (by kernel_rfl) (fun _ _ _ h => h) (by rfl) ?_ hSc ?_
  rotate_left
  · (intro W hSW; have k0 : W.cell? ⟨w.heap.size + 2, 0, none⟩ = some (.int .u8 κb) := hSW.r3.cell 0; have k1 : W.cell? ⟨w.heap.size + 2, 1, none⟩ = some (.slice Ab nb cb) := hSW.r3.cell 1; have k2 : W.cell? ⟨w.heap.size + 2, 2, none⟩ = some (.slice Bb mb db) := hSW.r3.cell 2; have k3 : W.cell? ⟨w.heap.size + 2, 3, none⟩ = some (.slice Db qb eb) := hSW.r3.cell 3; go_simp; try rfl)
  try simp only [Act.put, List.setIfInBounds_toArray, List.set_cons_zero, List.set_cons_succ]
  refine held_next 2 rfl (by kernel_rfl) (by rfl) ?_
  go_simp
  refine (kind_c _ p k _ H1.out).mono ?_
  rintro e u1 ⟨rfl, bq⟩
  have hS2 := hSc.step bq
  have RR := Lib.hid (RR.out.below bq RR.out.lt)
  have T2 := Lib.hid (T2.out.step bq)
  have H1 := Lib.hid (H1.out.step bq)
  have H2 := Lib.hid (H2.out.step bq)
  have SZ1 := bq.size
  clear hSc bq
  have hSc := hS2
  clear hS2
  refine ⟨fun W => B3 w w.heap.size 62 #[.func (.func fA) #[] #[], .func (.func fW) #[] #[], .func (.func fR) #[] #[]] (w.heap.size + 1) 28 #[.int .u8 κa, .slice Aa na ca, .slice Ba ma da, .slice Da qa ea] (w.heap.size + 2) 28 #[.int .u8 κb, .slice Ab nb cb, .slice Bb mb db, .slice Db qb eb] W, fun W hW => hW, hSc, ?_⟩
  try simp only [Act.put, List.setIfInBounds_toArray, List.set_cons_zero, List.set_cons_succ]
  refine held_next 4 rfl (by kernel_rfl) (by rfl) ?_
  go_simp
  refine (kind_c _ q j _ H2.out).mono ?_
  rintro e u2 ⟨rfl, bq⟩
  have hS2 := hSc.step bq
  have RR := Lib.hid (RR.out.below bq RR.out.lt)
  have T2 := Lib.hid (T2.out.step bq)
  have H1 := Lib.hid (H1.out.step bq)
  have H2 := Lib.hid (H2.out.step bq)
  have SZ2 := bq.size
  clear hSc bq
  have hSc := hS2
  clear hS2
  refine ⟨fun W => B3 w w.heap.size 62 #[.func (.func fA) #[] #[], .func (.func fW) #[] #[], .func (.func fR) #[] #[]] (w.heap.size + 1) 28 #[.int .u8 κa, .slice Aa na ca, .slice Ba ma da, .slice Da qa ea] (w.heap.size + 2) 28 #[.int .u8 κb, .slice Ab nb cb, .slice Bb mb db, .slice Db qb eb] W, fun W hW => hW, hSc, ?_⟩
  try simp only [Act.put, List.setIfInBounds_toArray, List.set_cons_zero, List.set_cons_succ]
  refine held_next 5 rfl (by kernel_rfl) (by rfl) ?_
  go_simp
  refine (call_c HH.out k j _ KK.out KJ.out).mono ?_
  rintro e u3 ⟨X, rfl, hw, bq⟩
  have HX := hw.1
  unfold Enters at HX
  have WX := Lib.hid hw.2
  clear hw
  have hS2 := hSc.step bq
  have RR := Lib.hid (RR.out.below bq RR.out.lt)
  have T2 := Lib.hid (T2.out.step bq)
  have H1 := Lib.hid (H1.out.step bq)
  have H2 := Lib.hid (H2.out.step bq)
  have SZ3 := bq.size
  clear hSc bq
  have hSc := hS2
  clear hS2
  refine ⟨fun W => B3 w w.heap.size 62 #[.func (.func fA) #[] #[], .func (.func fW) #[] #[], .func (.func fR) #[] #[]] (w.heap.size + 1) 28 #[.int .u8 κa, .slice Aa na ca, .slice Ba ma da, .slice Da qa ea] (w.heap.size + 2) 28 #[.int .u8 κb, .slice Ab nb cb, .slice Bb mb db, .slice Db qb eb] W, fun W hW => hW, hSc, ?_⟩
  try simp only [Act.put, List.setIfInBounds_toArray, List.set_cons_zero, List.set_cons_succ]
  refine held_next 6 rfl (by kernel_rfl) (by rfl) ?_
  go_simp
  refine ⟨fun W => B3 w w.heap.size 62 #[.func (.func fA) #[] #[], .func (.func fW) #[] #[], .func (.func fR) #[] #[]] (w.heap.size + 1) 28 #[.int .u8 κa, .slice Aa na ca, .slice Ba ma da, .slice Da qa ea] (w.heap.size + 2) 28 #[.int .u8 κb, .slice Ab nb cb, .slice Bb mb db, .slice Db qb eb] W, fun W hW => hW, hSc, ?_⟩
  refine wpAnyH_done (by kernel_rfl) ?_ _
  have k0 : u3.cell? ⟨w.heap.size + 1, 0, none⟩ = some (.int .u8 κa) := hSc.r2.cell 0
  have k1 : u3.cell? ⟨w.heap.size + 1, 1, none⟩ = some (.slice Aa na ca) := hSc.r2.cell 1
  have k2 : u3.cell? ⟨w.heap.size + 1, 2, none⟩ = some (.slice Ba ma da) := hSc.r2.cell 2
  have k3 : u3.cell? ⟨w.heap.size + 1, 3, none⟩ = some (.slice Da qa ea) := hSc.r2.cell 3
  have l0 : u3.cell? ⟨w.heap.size + 2, 0, none⟩ = some (.int .u8 κb) := hSc.r3.cell 0
  have l1 : u3.cell? ⟨w.heap.size + 2, 1, none⟩ = some (.slice Ab nb cb) := hSc.r3.cell 1
  have l2 : u3.cell? ⟨w.heap.size + 2, 2, none⟩ = some (.slice Bb mb db) := hSc.r3.cell 2
  have l3 : u3.cell? ⟨w.heap.size + 2, 3, none⟩ = some (.slice Db qb eb) := hSc.r3.cell 3
  have BB := Lib.hid hSc.bel
  have NC : Hid (∀ b, u3.heap.size ≤ b → N b ∧ b ≠ w.heap.size + 3) := Lib.hid fun b hb => ⟨NN.out b (by omega), by omega⟩
  have H1 := Lib.hid (H1.out.mono (N' := fun b => N b ∧ b ≠ w.heap.size + 3) fun b _ hn => ⟨hn.1, by have := hn.2; omega⟩)
  have H2 := Lib.hid (H2.out.mono (N' := fun b => N b ∧ b ≠ w.heap.size + 3) fun b _ hn => ⟨hn.1, by have := hn.2; omega⟩)
  clear hSc
  go_wp2_with fail
  refine (WX.out _ _ _ p q k j _ T2.out NC.out H1.out H2.out).mono ?_
  rintro e u4 ⟨v4, k4, rfl, gq, bq⟩
  have RR := Lib.hid (RR.out.below bq RR.out.lt)
  have T2 := Lib.hid (T2.out.step bq)
  have BB := Lib.hid (below_both BB.out bq)
  have NC : Hid (∀ b, u4.heap.size ≤ b → N b ∧ b ≠ w.heap.size + 3) := Lib.hid fun b hb => NC.out b (Nat.le_trans bq.size hb)
  have G := Lib.hid gq
  clear gq bq k0 k1 k2 k3 l0 l1 l2 l3
  go_wp2_with fail
  refine (canonical_c v4 _ k4 _ T2.out NC.out G.out).mono ?_
  rintro e u5 ⟨v5, rfl, gq, bq⟩
  obtain ⟨κ5, A5, n5, c5, A6, n6, c6, A7, n7, c7, rfl⟩ := gq.form
  have RR := Lib.hid (RR.out.below bq RR.out.lt)
  have BB := Lib.hid (below_both BB.out bq)
  have G := Lib.hid gq
  clear gq bq
  have d0 : u5.cell? ⟨w.heap.size + 3, 0, none⟩ = some (.int .u8 0) := RR.out.cell 0
  have f0 := RR.out.frozen 0
  have d1 : u5.cell? ⟨w.heap.size + 3, 1, none⟩ = some (.slice none 0 0) := RR.out.cell 1
  have f1 := RR.out.frozen 1
  have d2 : u5.cell? ⟨w.heap.size + 3, 2, none⟩ = some (.slice none 0 0) := RR.out.cell 2
  have f2 := RR.out.frozen 2
  have d3 : u5.cell? ⟨w.heap.size + 3, 3, none⟩ = some (.slice none 0 0) := RR.out.cell 3
  have f3 := RR.out.frozen 3
  go_wp2
  have S4 := set4 (a' := .int .u8 κ5) (b' := .slice A5 n5 c5) (c' := .slice A6 n6 c6) (d' := .slice A7 n7 c7) RR.out
  have B5 := Lib.hid (BB.out.grown S4.2 BB.out.size (fun j e => by injection e with e; subst e; omega))
  have H5 := Lib.hid ((G.out.grown S4.2 (fun hh => hh.2 rfl)).mono fun b _ hn => hn.1)
  exact bodyPost_ret (ret_row rfl rfl S4.1) rfl ⟨_, rfl, H5.out, B5.out⟩

set_option maxHeartbeats 2000000 in
theorem cand {N : Nat → Prop} (v u : Value) (p q : Nat → Bool) (k j : Nat) (w : World) (hT : Tb w) (hN : ∀ b, w.heap.size ≤ b → N b) (h : Cn N w v p k) (g : Cn N w u q j) :
    Calls Tryz.prog 8 #[v, u] w fun e w' => ∃ v', e = .returned v' ∧ Cn N w' v' (fun x => fAnd (p x) (q x)) (ck (fun x => fAnd (p x) (q x))) ∧ Below w.heap.size w w' := by
  obtain ⟨κa, Aa, na, ca, Ba, ma, da, Da, qa, ea, rfl⟩ := h.form
  obtain ⟨κb, Ab, nb, cb, Bb, mb, db, Db, qb, eb, rfl⟩ := g.form
  have H1 := Lib.hid (h.mono (N' := fun b => N b ∧ b < w.heap.size) fun b hb hn => ⟨hn, hb⟩)
  have H2 := Lib.hid (g.mono (N' := fun b => N b ∧ b < w.heap.size) fun b hb hn => ⟨hn, hb⟩)
  have TT := Lib.hid hT
  have NN := Lib.hid hN
  have X := three_blocks w #[.int .u8 κa, .slice Aa na ca, .slice Ba ma da, .slice Da qa ea] #[.int .u8 κb, .slice Ab nb cb, .slice Bb mb db, .slice Db qb eb] #[.int .u8 0, .slice none 0 0, .slice none 0 0, .slice none 0 0] 28 28 28
  clear h g hT hN
  go_enter Tryz.func8, Tryz.ntmps8
  go_wp2_with fail
  generalize ((w.alloc (.cells #[.int .u8 κa, .slice Aa na ca, .slice Ba ma da, .slice Da qa ea] 28)).alloc (.cells #[.int .u8 κb, .slice Ab nb cb, .slice Bb mb db, .slice Db qb eb] 28)).alloc (.cells #[.int .u8 0, .slice none 0 0, .slice none 0 0, .slice none 0 0] 28) = W0 at *
  obtain ⟨x1, x2, x3⟩ := X
  have RR := Lib.hid x1.r2
  have BB := Lib.hid x1.bel
  have NC : Hid (∀ b, W0.heap.size ≤ b → N b ∧ b ≠ w.heap.size + 2) := Lib.hid fun b hb => ⟨NN.out b (by omega), by omega⟩
  have H1 := Lib.hid ((H1.out.step x1.bel).mono (N' := fun b => N b ∧ b ≠ w.heap.size + 2) fun b _ hn => ⟨hn.1, by have := hn.2; omega⟩)
  have H2 := Lib.hid ((H2.out.step x1.bel).mono (N' := fun b => N b ∧ b ≠ w.heap.size + 2) fun b _ hn => ⟨hn.1, by have := hn.2; omega⟩)
  clear x1 x2 x3
  refine (of_c prs_and _ _ p q k j _ (TT.out.step BB.out) NC.out H1.out H2.out).mono ?_
  rintro e u5 ⟨v5, rfl, gq, bq⟩
  obtain ⟨κ5, A5, n5, c5, A6, n6, c6, A7, n7, c7, rfl⟩ := gq.form
  have RR := Lib.hid (RR.out.below bq RR.out.lt)
  have BB := Lib.hid (below_both BB.out bq)
  have G := Lib.hid gq
  clear gq bq
  have d0 : u5.cell? ⟨w.heap.size + 2, 0, none⟩ = some (.int .u8 0) := RR.out.cell 0
  have f0 := RR.out.frozen 0
  have d1 : u5.cell? ⟨w.heap.size + 2, 1, none⟩ = some (.slice none 0 0) := RR.out.cell 1
  have f1 := RR.out.frozen 1
  have d2 : u5.cell? ⟨w.heap.size + 2, 2, none⟩ = some (.slice none 0 0) := RR.out.cell 2
  have f2 := RR.out.frozen 2
  have d3 : u5.cell? ⟨w.heap.size + 2, 3, none⟩ = some (.slice none 0 0) := RR.out.cell 3
  have f3 := RR.out.frozen 3
  go_wp2
  have S4 := set4 (a' := .int .u8 κ5) (b' := .slice A5 n5 c5) (c' := .slice A6 n6 c6) (d' := .slice A7 n7 c7) RR.out
  have B5 := Lib.hid (BB.out.grown S4.2 BB.out.size (fun j e => by injection e with e; subst e; omega))
  have H5 := Lib.hid ((G.out.grown S4.2 (fun hh => hh.2 rfl)).mono fun b _ hn => hn.1)
  exact bodyPost_ret (ret_row rfl rfl S4.1) rfl ⟨_, rfl, H5.out, B5.out⟩

set_option maxHeartbeats 2000000 in
theorem cor {N : Nat → Prop} (v u : Value) (p q : Nat → Bool) (k j : Nat) (w : World) (hT : Tb w) (hN : ∀ b, w.heap.size ≤ b → N b) (h : Cn N w v p k) (g : Cn N w u q j) :
    Calls Tryz.prog 9 #[v, u] w fun e w' => ∃ v', e = .returned v' ∧ Cn N w' v' (fun x => fOr (p x) (q x)) (ck (fun x => fOr (p x) (q x))) ∧ Below w.heap.size w w' := by
  obtain ⟨κa, Aa, na, ca, Ba, ma, da, Da, qa, ea, rfl⟩ := h.form
  obtain ⟨κb, Ab, nb, cb, Bb, mb, db, Db, qb, eb, rfl⟩ := g.form
  have H1 := Lib.hid (h.mono (N' := fun b => N b ∧ b < w.heap.size) fun b hb hn => ⟨hn, hb⟩)
  have H2 := Lib.hid (g.mono (N' := fun b => N b ∧ b < w.heap.size) fun b hb hn => ⟨hn, hb⟩)
  have TT := Lib.hid hT
  have NN := Lib.hid hN
  have X := three_blocks w #[.int .u8 κa, .slice Aa na ca, .slice Ba ma da, .slice Da qa ea] #[.int .u8 κb, .slice Ab nb cb, .slice Bb mb db, .slice Db qb eb] #[.int .u8 0, .slice none 0 0, .slice none 0 0, .slice none 0 0] 28 28 28
  clear h g hT hN
  go_enter Tryz.func9, Tryz.ntmps9
  go_wp2_with fail
  generalize ((w.alloc (.cells #[.int .u8 κa, .slice Aa na ca, .slice Ba ma da, .slice Da qa ea] 28)).alloc (.cells #[.int .u8 κb, .slice Ab nb cb, .slice Bb mb db, .slice Db qb eb] 28)).alloc (.cells #[.int .u8 0, .slice none 0 0, .slice none 0 0, .slice none 0 0] 28) = W0 at *
  obtain ⟨x1, x2, x3⟩ := X
  have RR := Lib.hid x1.r2
  have BB := Lib.hid x1.bel
  have NC : Hid (∀ b, W0.heap.size ≤ b → N b ∧ b ≠ w.heap.size + 2) := Lib.hid fun b hb => ⟨NN.out b (by omega), by omega⟩
  have H1 := Lib.hid ((H1.out.step x1.bel).mono (N' := fun b => N b ∧ b ≠ w.heap.size + 2) fun b _ hn => ⟨hn.1, by have := hn.2; omega⟩)
  have H2 := Lib.hid ((H2.out.step x1.bel).mono (N' := fun b => N b ∧ b ≠ w.heap.size + 2) fun b _ hn => ⟨hn.1, by have := hn.2; omega⟩)
  clear x1 x2 x3
  refine (of_c prs_or _ _ p q k j _ (TT.out.step BB.out) NC.out H1.out H2.out).mono ?_
  rintro e u5 ⟨v5, rfl, gq, bq⟩
  obtain ⟨κ5, A5, n5, c5, A6, n6, c6, A7, n7, c7, rfl⟩ := gq.form
  have RR := Lib.hid (RR.out.below bq RR.out.lt)
  have BB := Lib.hid (below_both BB.out bq)
  have G := Lib.hid gq
  clear gq bq
  have d0 : u5.cell? ⟨w.heap.size + 2, 0, none⟩ = some (.int .u8 0) := RR.out.cell 0
  have f0 := RR.out.frozen 0
  have d1 : u5.cell? ⟨w.heap.size + 2, 1, none⟩ = some (.slice none 0 0) := RR.out.cell 1
  have f1 := RR.out.frozen 1
  have d2 : u5.cell? ⟨w.heap.size + 2, 2, none⟩ = some (.slice none 0 0) := RR.out.cell 2
  have f2 := RR.out.frozen 2
  have d3 : u5.cell? ⟨w.heap.size + 2, 3, none⟩ = some (.slice none 0 0) := RR.out.cell 3
  have f3 := RR.out.frozen 3
  go_wp2
  have S4 := set4 (a' := .int .u8 κ5) (b' := .slice A5 n5 c5) (c' := .slice A6 n6 c6) (d' := .slice A7 n7 c7) RR.out
  have B5 := Lib.hid (BB.out.grown S4.2 BB.out.size (fun j e => by injection e with e; subst e; omega))
  have H5 := Lib.hid ((G.out.grown S4.2 (fun hh => hh.2 rfl)).mono fun b _ hn => hn.1)
  exact bodyPost_ret (ret_row rfl rfl S4.1) rfl ⟨_, rfl, H5.out, B5.out⟩

set_option maxHeartbeats 2000000 in
theorem cnot {N : Nat → Prop} (v u : Value) (p q : Nat → Bool) (k j : Nat) (w : World) (hT : Tb w) (hN : ∀ b, w.heap.size ≤ b → N b) (h : Cn N w v p k) (g : Cn N w u q j) :
    Calls Tryz.prog 10 #[v, u] w fun e w' => ∃ v', e = .returned v' ∧ Cn N w' v' (fun x => fNot (p x) (q x)) (ck (fun x => fNot (p x) (q x))) ∧ Below w.heap.size w w' := by
  obtain ⟨κa, Aa, na, ca, Ba, ma, da, Da, qa, ea, rfl⟩ := h.form
  obtain ⟨κb, Ab, nb, cb, Bb, mb, db, Db, qb, eb, rfl⟩ := g.form
  have H1 := Lib.hid (h.mono (N' := fun b => N b ∧ b < w.heap.size) fun b hb hn => ⟨hn, hb⟩)
  have H2 := Lib.hid (g.mono (N' := fun b => N b ∧ b < w.heap.size) fun b hb hn => ⟨hn, hb⟩)
  have TT := Lib.hid hT
  have NN := Lib.hid hN
  have X := three_blocks w #[.int .u8 κa, .slice Aa na ca, .slice Ba ma da, .slice Da qa ea] #[.int .u8 κb, .slice Ab nb cb, .slice Bb mb db, .slice Db qb eb] #[.int .u8 0, .slice none 0 0, .slice none 0 0, .slice none 0 0] 28 28 28
  clear h g hT hN
  go_enter Tryz.func10, Tryz.ntmps10
  go_wp2_with fail
  generalize ((w.alloc (.cells #[.int .u8 κa, .slice Aa na ca, .slice Ba ma da, .slice Da qa ea] 28)).alloc (.cells #[.int .u8 κb, .slice Ab nb cb, .slice Bb mb db, .slice Db qb eb] 28)).alloc (.cells #[.int .u8 0, .slice none 0 0, .slice none 0 0, .slice none 0 0] 28) = W0 at *
  obtain ⟨x1, x2, x3⟩ := X
  have RR := Lib.hid x1.r2
  have BB := Lib.hid x1.bel
  have NC : Hid (∀ b, W0.heap.size ≤ b → N b ∧ b ≠ w.heap.size + 2) := Lib.hid fun b hb => ⟨NN.out b (by omega), by omega⟩
  have H1 := Lib.hid ((H1.out.step x1.bel).mono (N' := fun b => N b ∧ b ≠ w.heap.size + 2) fun b _ hn => ⟨hn.1, by have := hn.2; omega⟩)
  have H2 := Lib.hid ((H2.out.step x1.bel).mono (N' := fun b => N b ∧ b ≠ w.heap.size + 2) fun b _ hn => ⟨hn.1, by have := hn.2; omega⟩)
  clear x1 x2 x3
  refine (of_c prs_not _ _ p q k j _ (TT.out.step BB.out) NC.out H1.out H2.out).mono ?_
  rintro e u5 ⟨v5, rfl, gq, bq⟩
  obtain ⟨κ5, A5, n5, c5, A6, n6, c6, A7, n7, c7, rfl⟩ := gq.form
  have RR := Lib.hid (RR.out.below bq RR.out.lt)
  have BB := Lib.hid (below_both BB.out bq)
  have G := Lib.hid gq
  clear gq bq
  have d0 : u5.cell? ⟨w.heap.size + 2, 0, none⟩ = some (.int .u8 0) := RR.out.cell 0
  have f0 := RR.out.frozen 0
  have d1 : u5.cell? ⟨w.heap.size + 2, 1, none⟩ = some (.slice none 0 0) := RR.out.cell 1
  have f1 := RR.out.frozen 1
  have d2 : u5.cell? ⟨w.heap.size + 2, 2, none⟩ = some (.slice none 0 0) := RR.out.cell 2
  have f2 := RR.out.frozen 2
  have d3 : u5.cell? ⟨w.heap.size + 2, 3, none⟩ = some (.slice none 0 0) := RR.out.cell 3
  have f3 := RR.out.frozen 3
  go_wp2
  have S4 := set4 (a' := .int .u8 κ5) (b' := .slice A5 n5 c5) (c' := .slice A6 n6 c6) (d' := .slice A7 n7 c7) RR.out
  have B5 := Lib.hid (BB.out.grown S4.2 BB.out.size (fun j e => by injection e with e; subst e; omega))
  have H5 := Lib.hid ((G.out.grown S4.2 (fun hh => hh.2 rfl)).mono fun b _ hn => hn.1)
  exact bodyPost_ret (ret_row rfl rfl S4.1) rfl ⟨_, rfl, H5.out, B5.out⟩

set_option maxHeartbeats 2000000 in
theorem cxor {N : Nat → Prop} (v u : Value) (p q : Nat → Bool) (k j : Nat) (w : World) (hT : Tb w) (hN : ∀ b, w.heap.size ≤ b → N b) (h : Cn N w v p k) (g : Cn N w u q j) :
    Calls Tryz.prog 11 #[v, u] w fun e w' => ∃ v', e = .returned v' ∧ Cn N w' v' (fun x => fXor (p x) (q x)) (ck (fun x => fXor (p x) (q x))) ∧ Below w.heap.size w w' := by
  obtain ⟨κa, Aa, na, ca, Ba, ma, da, Da, qa, ea, rfl⟩ := h.form
  obtain ⟨κb, Ab, nb, cb, Bb, mb, db, Db, qb, eb, rfl⟩ := g.form
  have H1 := Lib.hid (h.mono (N' := fun b => N b ∧ b < w.heap.size) fun b hb hn => ⟨hn, hb⟩)
  have H2 := Lib.hid (g.mono (N' := fun b => N b ∧ b < w.heap.size) fun b hb hn => ⟨hn, hb⟩)
  have TT := Lib.hid hT
  have NN := Lib.hid hN
  have X := three_blocks w #[.int .u8 κa, .slice Aa na ca, .slice Ba ma da, .slice Da qa ea] #[.int .u8 κb, .slice Ab nb cb, .slice Bb mb db, .slice Db qb eb] #[.int .u8 0, .slice none 0 0, .slice none 0 0, .slice none 0 0] 28 28 28
  clear h g hT hN
  go_enter Tryz.func11, Tryz.ntmps11
  go_wp2_with fail
  generalize ((w.alloc (.cells #[.int .u8 κa, .slice Aa na ca, .slice Ba ma da, .slice Da qa ea] 28)).alloc (.cells #[.int .u8 κb, .slice Ab nb cb, .slice Bb mb db, .slice Db qb eb] 28)).alloc (.cells #[.int .u8 0, .slice none 0 0, .slice none 0 0, .slice none 0 0] 28) = W0 at *
  obtain ⟨x1, x2, x3⟩ := X
  have RR := Lib.hid x1.r2
  have BB := Lib.hid x1.bel
  have NC : Hid (∀ b, W0.heap.size ≤ b → N b ∧ b ≠ w.heap.size + 2) := Lib.hid fun b hb => ⟨NN.out b (by omega), by omega⟩
  have H1 := Lib.hid ((H1.out.step x1.bel).mono (N' := fun b => N b ∧ b ≠ w.heap.size + 2) fun b _ hn => ⟨hn.1, by have := hn.2; omega⟩)
  have H2 := Lib.hid ((H2.out.step x1.bel).mono (N' := fun b => N b ∧ b ≠ w.heap.size + 2) fun b _ hn => ⟨hn.1, by have := hn.2; omega⟩)
  clear x1 x2 x3
  refine (of_c prs_xor _ _ p q k j _ (TT.out.step BB.out) NC.out H1.out H2.out).mono ?_
  rintro e u5 ⟨v5, rfl, gq, bq⟩
  obtain ⟨κ5, A5, n5, c5, A6, n6, c6, A7, n7, c7, rfl⟩ := gq.form
  have RR := Lib.hid (RR.out.below bq RR.out.lt)
  have BB := Lib.hid (below_both BB.out bq)
  have G := Lib.hid gq
  clear gq bq
  have d0 : u5.cell? ⟨w.heap.size + 2, 0, none⟩ = some (.int .u8 0) := RR.out.cell 0
  have f0 := RR.out.frozen 0
  have d1 : u5.cell? ⟨w.heap.size + 2, 1, none⟩ = some (.slice none 0 0) := RR.out.cell 1
  have f1 := RR.out.frozen 1
  have d2 : u5.cell? ⟨w.heap.size + 2, 2, none⟩ = some (.slice none 0 0) := RR.out.cell 2
  have f2 := RR.out.frozen 2
  have d3 : u5.cell? ⟨w.heap.size + 2, 3, none⟩ = some (.slice none 0 0) := RR.out.cell 3
  have f3 := RR.out.frozen 3
  go_wp2
  have S4 := set4 (a' := .int .u8 κ5) (b' := .slice A5 n5 c5) (c' := .slice A6 n6 c6) (d' := .slice A7 n7 c7) RR.out
  have B5 := Lib.hid (BB.out.grown S4.2 BB.out.size (fun j e => by injection e with e; subst e; omega))
  have H5 := Lib.hid ((G.out.grown S4.2 (fun hh => hh.2 rfl)).mono fun b _ hn => hn.1)
  exact bodyPost_ret (ret_row rfl rfl S4.1) rfl ⟨_, rfl, H5.out, B5.out⟩
end Go.Proofs.YtfefmlnlicilbaaGreatDoor
/- Walks: OfWords, OfRuns; the document's canonical kind; a set made as a kind. -/
namespace Go.Proofs.YtfefmlnlicilbaaGreatDoor
open Go.RowKit
set_option linter.unusedVariables false

theorem ofWords_yes {N : Nat → Prop} (A : Option Addr) (n c : Nat) (p : Nat → Bool) (w : World) (hN : ∀ b, w.heap.size ≤ b → N b) (hv : Gs e64 w 0 w.heap.size (.slice A 1024 c) (wm p)) :
    Calls Tryz.prog 21 #[.slice A 1024 c] w fun e w' => ∃ v', e = .returned (.tuple #[v', .bool true]) ∧ Cn N w' v' p 2 ∧ Below w.heap.size w w' := by
  have HV := Lib.hid hv
  have NN := Lib.hid hN
  have r0 := Row.new w 28 #[.int .u8 0, .slice none 0 0, .slice none 0 0, .slice none 0 0]
  have b0 := bx w (.cells #[.int .u8 0, .slice none 0 0, .slice none 0 0, .slice none 0 0] 28)
  clear hv hN
  go_enter Tryz.func21, Tryz.ntmps21
  go_wp2_with fail
  generalize w.alloc (.cells #[.int .u8 0, .slice none 0 0, .slice none 0 0, .slice none 0 0] 28) = W0 at *
  have lg := r0.lt
  have RR := Lib.hid r0
  have BB := Lib.hid b0
  clear r0 b0
  refine (sclone64 _ p 0 _ (HV.out.stp BB.out)).mono ?_
  rintro e u2 ⟨X, x, rfl, g, b⟩
  have G := Lib.hid g
  have RR := Lib.hid (RR.out.below b RR.out.lt)
  have BB := Lib.hid (below_both BB.out b)
  have hs := b.size
  clear b g
  go_wp2_with fail
  refine (ofWords_v _ _ _ _).mono ?_
  rintro e u3 ⟨rfl, b⟩
  have G := Lib.hid (G.out.stp b)
  have RR := Lib.hid (RR.out.below b RR.out.lt)
  have BB := Lib.hid (below_both BB.out b)
  clear b
  have d0 : u3.cell? ⟨w.heap.size, 0, none⟩ = some (.int .u8 0) := RR.out.cell 0
  have f0 := RR.out.frozen 0
  have d1 : u3.cell? ⟨w.heap.size, 1, none⟩ = some (.slice none 0 0) := RR.out.cell 1
  have f1 := RR.out.frozen 1
  have d2 : u3.cell? ⟨w.heap.size, 2, none⟩ = some (.slice none 0 0) := RR.out.cell 2
  have f2 := RR.out.frozen 2
  have d3 : u3.cell? ⟨w.heap.size, 3, none⟩ = some (.slice none 0 0) := RR.out.cell 3
  have f3 := RR.out.frozen 3
  go_wp2
  have S4 := set4 (a' := .int .u8 2) (b' := .slice none 0 0) (c' := .slice X 1024 x) (d' := .slice none 0 0) RR.out
  have B5 := Lib.hid (BB.out.grown S4.2 BB.out.size (fun j e => by injection e with e; subst e; omega))
  have G5 := G.out.grown S4.2 (Nat.le_refl _) (fun j e => by injection e with e; subst e; exact .inl (by omega))
  exact bodyPost_ret (ret_row2 rfl rfl rfl S4.1) rfl ⟨_, rfl, Cn.wrd _ _ (Gp.of G5 S4.2.size (fun b hb _ => NN.out b (by omega))), B5.out⟩

theorem ofRuns_yes {N : Nat → Prop} (A : Option Addr) (n c : Nat) (p : Nat → Bool) (w : World) (hN : ∀ b, w.heap.size ≤ b → N b) (hn : ct (hm p) 65536 = n) (hv : Gs2 eR w 0 w.heap.size (.slice A n c) (rs p 65536)) :
    Calls Tryz.prog 33 #[.slice A n c] w fun e w' => ∃ v', e = .returned (.tuple #[v', .bool true]) ∧ Cn N w' v' p 3 ∧ Below w.heap.size w w' := by
  have HV := Lib.hid hv
  have NN := Lib.hid hN
  have r0 := Row.new w 28 #[.int .u8 0, .slice none 0 0, .slice none 0 0, .slice none 0 0]
  have b0 := bx w (.cells #[.int .u8 0, .slice none 0 0, .slice none 0 0, .slice none 0 0] 28)
  clear hv hN
  go_enter Tryz.func33, Tryz.ntmps33
  go_wp2_with fail
  generalize w.alloc (.cells #[.int .u8 0, .slice none 0 0, .slice none 0 0, .slice none 0 0] 28) = W0 at *
  have lg := r0.lt
  have RR := Lib.hid r0
  have BB := Lib.hid b0
  clear r0 b0
  refine (lmay _ _ _ (HV.out.stp BB.out) true (mayr_rs p)).mono ?_
  rintro e u1 ⟨rfl, b⟩
  have RR := Lib.hid (RR.out.below b RR.out.lt)
  have BB := Lib.hid (below_both BB.out b)
  have hs1 := b.size
  clear b
  go_wp2_with fail
  refine (scloneR _ p n 0 _ (HV.out.stp BB.out) hn).mono ?_
  rintro e u2 ⟨X, x, rfl, g, b⟩
  have G := Lib.hid g
  have RR := Lib.hid (RR.out.below b RR.out.lt)
  have BB := Lib.hid (below_both BB.out b)
  have hs := b.size
  clear b g
  go_wp2_with fail
  refine (ofRuns_v _ _ _ _).mono ?_
  rintro e u3 ⟨rfl, b⟩
  have G := Lib.hid (G.out.stp b)
  have RR := Lib.hid (RR.out.below b RR.out.lt)
  have BB := Lib.hid (below_both BB.out b)
  clear b
  have d0 : u3.cell? ⟨w.heap.size, 0, none⟩ = some (.int .u8 0) := RR.out.cell 0
  have f0 := RR.out.frozen 0
  have d1 : u3.cell? ⟨w.heap.size, 1, none⟩ = some (.slice none 0 0) := RR.out.cell 1
  have f1 := RR.out.frozen 1
  have d2 : u3.cell? ⟨w.heap.size, 2, none⟩ = some (.slice none 0 0) := RR.out.cell 2
  have f2 := RR.out.frozen 2
  have d3 : u3.cell? ⟨w.heap.size, 3, none⟩ = some (.slice none 0 0) := RR.out.cell 3
  have f3 := RR.out.frozen 3
  go_wp2
  have S4 := set4 (a' := .int .u8 3) (b' := .slice none 0 0) (c' := .slice none 0 0) (d' := .slice X n x) RR.out
  have B5 := Lib.hid (BB.out.grown S4.2 BB.out.size (fun j e => by injection e with e; subst e; omega))
  have G5 := G.out.grown S4.2 (Nat.le_refl _) (fun j e => by injection e with e; subst e; exact .inl (by omega))
  exact bodyPost_ret (ret_row2 rfl rfl rfl S4.1) rfl ⟨_, rfl, Cn.run _ _ _ hn (Gp2.of G5 S4.2.size (fun b hb _ => NN.out b (by omega))), B5.out⟩

theorem marks_list (g : Nat) (p : Nat → Bool) (L : List UInt16) (w : World) (h : Row w g 65 (mA 65536 p)) (hL : ls p 65536 = L) :
    Calls Tryz.prog 17 #[.pointer (some ⟨g, 0, none⟩)] w fun e w' => ∃ A c, e = .returned (.slice A L.length c) ∧ Gs e16 w' 0 w'.heap.size (.slice A L.length c) L ∧ Below w.heap.size w w' := by
  refine (list_any g p w h).mono ?_
  rintro e w' ⟨v', rfl, o, b⟩
  rw [hL] at o
  have s := o.sl.more (Nat.zero_le _) (Nat.le_refl _)
  obtain ⟨A, c, rfl, -⟩ := o.sl
  exact ⟨A, c, rfl, s, b⟩
theorem marks_list_n (g : Nat) (p : Nat → Bool) (n : Nat) (w : World) (h : Row w g 65 (mA 65536 p)) (hn : ct p 65536 = n) :
    Calls Tryz.prog 17 #[.pointer (some ⟨g, 0, none⟩)] w fun e w' => ∃ A c, e = .returned (.slice A n c) ∧ Gs e16 w' w.heap.size w'.heap.size (.slice A n c) (ls p 65536) ∧ Below w.heap.size w w' := by
  refine (list_any g p w h).mono ?_
  rintro e w' ⟨v', rfl, o, b⟩
  have s := o.sl
  obtain ⟨A, c, rfl, -⟩ := o.sl
  rw [ls_ct, hn] at s ⊢
  exact ⟨A, c, rfl, s, b⟩
theorem marks_runs (g : Nat) (p : Nat → Bool) (n : Nat) (w : World) (h : Row w g 65 (mA 65536 p)) (hn : ct (hm p) 65536 = n) :
    Calls Tryz.prog 48 #[.pointer (some ⟨g, 0, none⟩)] w fun e w' => e = .returned (.int .i64 n) ∧ Below w.heap.size w w' := by
  refine (refRuns_any g p w h).mono ?_
  rintro e w' ⟨rfl, rfl⟩
  rw [ls_ct, hn]
  exact ⟨rfl, Below.refl _ _⟩
theorem marks_words (g : Nat) (p : Nat → Bool) (w : World) (h : Row w g 65 (mA 65536 p)) :
    Calls Tryz.prog 22 #[.pointer (some ⟨g, 0, none⟩)] w fun e w' => ∃ A c, e = .returned (.slice A 1024 c) ∧ Gs e64 w' w.heap.size w'.heap.size (.slice A 1024 c) (wm p) ∧ Below w.heap.size w w' := by
  refine (refWords_any g p w h).mono ?_
  rintro e w' ⟨v', rfl, o, b⟩
  obtain ⟨A, c, rfl⟩ := gw_wm o
  exact ⟨A, c, rfl, o.sl, b⟩
theorem marks_rs (g : Nat) (p : Nat → Bool) (n : Nat) (w : World) (h : Row w g 65 (mA 65536 p)) (hn : ct (hm p) 65536 = n) :
    Calls Tryz.prog 34 #[.pointer (some ⟨g, 0, none⟩)] w fun e w' => ∃ A c, e = .returned (.slice A n c) ∧ Gs2 eR w' w.heap.size w'.heap.size (.slice A n c) (rs p 65536) ∧ Below w.heap.size w w' := by
  refine (refruns_any g p w h).mono ?_
  rintro e w' ⟨v', rfl, o, b⟩
  have s := o.sl
  obtain ⟨A, c, rfl, -⟩ := o.sl
  rw [rs_len, hn] at s ⊢
  exact ⟨A, c, rfl, s, b⟩

theorem rk_11 (g : Nat) (p : Nat → Bool) (c r : Nat) (w : World) (h : Row w g 65 (mA 65536 p)) (hc : ct p 65536 = c) (hr : ct (hm p) 65536 = r) (hcb : c ≤ 65536) (hrb : r ≤ 65536) (h0 : c ≤ 4096) (h9 : ¬ 2 + 4 * r < 2 * c) :
    Calls Tryz.prog 14 #[.pointer (some ⟨g, 0, none⟩)] w fun e w' => e = .returned (.int .u8 1) ∧ Below w.heap.size w w' := by
  have RR := Lib.hid h
  have EC := Lib.hid hc
  have ER := Lib.hid hr
  have h1 : wrap64 (2 * (c : Int)) = 2 * (c : Int) := by unfold wrap64; omega
  have h2 : wrap64 (4 * (r : Int)) = 4 * (r : Int) := by unfold wrap64; omega
  have h3 : wrap64 (2 + 4 * (r : Int)) = 2 + 4 * (r : Int) := by unfold wrap64; omega
  have g1 : decide ((c : Int) ≤ 4096) = true := decide_eq_true (by omega)
  have g2 : decide (2 + 4 * (r : Int) < 2 * (c : Int)) = false := decide_eq_false (by omega)
  have g3 : (c : Int) ≤ 4096 := by omega
  clear h hc hr
  go_enter Tryz.func14, Tryz.ntmps14
  go_wp2_with fail
  refine (marks_list_n g p c _ RR.out EC.out).mono ?_
  rintro e u1 ⟨X, x, rfl, -, b⟩
  have BB := Lib.hid b
  have RR := Lib.hid (RR.out.below b RR.out.lt)
  clear b
  go_wp2_with fail
  refine (marks_runs g p r _ RR.out ER.out).mono ?_
  rintro e u2 ⟨rfl, b⟩
  have BB := Lib.hid (below_both BB.out b)
  clear b
  go_wp2
  go_ret
  exact ⟨rfl, BB.out⟩

theorem rk_13 (g : Nat) (p : Nat → Bool) (c r : Nat) (w : World) (h : Row w g 65 (mA 65536 p)) (hc : ct p 65536 = c) (hr : ct (hm p) 65536 = r) (hcb : c ≤ 65536) (hrb : r ≤ 65536) (h0 : c ≤ 4096) (h9 : 2 + 4 * r < 2 * c) :
    Calls Tryz.prog 14 #[.pointer (some ⟨g, 0, none⟩)] w fun e w' => e = .returned (.int .u8 3) ∧ Below w.heap.size w w' := by
  have RR := Lib.hid h
  have EC := Lib.hid hc
  have ER := Lib.hid hr
  have h1 : wrap64 (2 * (c : Int)) = 2 * (c : Int) := by unfold wrap64; omega
  have h2 : wrap64 (4 * (r : Int)) = 4 * (r : Int) := by unfold wrap64; omega
  have h3 : wrap64 (2 + 4 * (r : Int)) = 2 + 4 * (r : Int) := by unfold wrap64; omega
  have g1 : decide ((c : Int) ≤ 4096) = true := decide_eq_true (by omega)
  have g2 : decide (2 + 4 * (r : Int) < 2 * (c : Int)) = true := decide_eq_true (by omega)
  have g3 : (c : Int) ≤ 4096 := by omega
  clear h hc hr
  go_enter Tryz.func14, Tryz.ntmps14
  go_wp2_with fail
  refine (marks_list_n g p c _ RR.out EC.out).mono ?_
  rintro e u1 ⟨X, x, rfl, -, b⟩
  have BB := Lib.hid b
  have RR := Lib.hid (RR.out.below b RR.out.lt)
  clear b
  go_wp2_with fail
  refine (marks_runs g p r _ RR.out ER.out).mono ?_
  rintro e u2 ⟨rfl, b⟩
  have BB := Lib.hid (below_both BB.out b)
  clear b
  go_wp2
  go_ret
  exact ⟨rfl, BB.out⟩

theorem rk_22 (g : Nat) (p : Nat → Bool) (c r : Nat) (w : World) (h : Row w g 65 (mA 65536 p)) (hc : ct p 65536 = c) (hr : ct (hm p) 65536 = r) (hcb : c ≤ 65536) (hrb : r ≤ 65536) (h0 : ¬ c ≤ 4096) (h9 : ¬ 2 + 4 * r < 8192) :
    Calls Tryz.prog 14 #[.pointer (some ⟨g, 0, none⟩)] w fun e w' => e = .returned (.int .u8 2) ∧ Below w.heap.size w w' := by
  have RR := Lib.hid h
  have EC := Lib.hid hc
  have ER := Lib.hid hr
  have h1 : wrap64 (2 * (c : Int)) = 2 * (c : Int) := by unfold wrap64; omega
  have h2 : wrap64 (4 * (r : Int)) = 4 * (r : Int) := by unfold wrap64; omega
  have h3 : wrap64 (2 + 4 * (r : Int)) = 2 + 4 * (r : Int) := by unfold wrap64; omega
  have g1 : decide ((c : Int) ≤ 4096) = false := decide_eq_false (by omega)
  have g2 : decide (2 + 4 * (r : Int) < 8192) = false := decide_eq_false (by omega)
  have g3 : ¬ (c : Int) ≤ 4096 := by omega
  clear h hc hr
  go_enter Tryz.func14, Tryz.ntmps14
  go_wp2_with fail
  refine (marks_list_n g p c _ RR.out EC.out).mono ?_
  rintro e u1 ⟨X, x, rfl, -, b⟩
  have BB := Lib.hid b
  have RR := Lib.hid (RR.out.below b RR.out.lt)
  clear b
  go_wp2_with fail
  refine (marks_runs g p r _ RR.out ER.out).mono ?_
  rintro e u2 ⟨rfl, b⟩
  have BB := Lib.hid (below_both BB.out b)
  clear b
  go_wp2
  go_ret
  exact ⟨rfl, BB.out⟩

theorem rk_23 (g : Nat) (p : Nat → Bool) (c r : Nat) (w : World) (h : Row w g 65 (mA 65536 p)) (hc : ct p 65536 = c) (hr : ct (hm p) 65536 = r) (hcb : c ≤ 65536) (hrb : r ≤ 65536) (h0 : ¬ c ≤ 4096) (h9 : 2 + 4 * r < 8192) :
    Calls Tryz.prog 14 #[.pointer (some ⟨g, 0, none⟩)] w fun e w' => e = .returned (.int .u8 3) ∧ Below w.heap.size w w' := by
  have RR := Lib.hid h
  have EC := Lib.hid hc
  have ER := Lib.hid hr
  have h1 : wrap64 (2 * (c : Int)) = 2 * (c : Int) := by unfold wrap64; omega
  have h2 : wrap64 (4 * (r : Int)) = 4 * (r : Int) := by unfold wrap64; omega
  have h3 : wrap64 (2 + 4 * (r : Int)) = 2 + 4 * (r : Int) := by unfold wrap64; omega
  have g1 : decide ((c : Int) ≤ 4096) = false := decide_eq_false (by omega)
  have g2 : decide (2 + 4 * (r : Int) < 8192) = true := decide_eq_true (by omega)
  have g3 : ¬ (c : Int) ≤ 4096 := by omega
  clear h hc hr
  go_enter Tryz.func14, Tryz.ntmps14
  go_wp2_with fail
  refine (marks_list_n g p c _ RR.out EC.out).mono ?_
  rintro e u1 ⟨X, x, rfl, -, b⟩
  have BB := Lib.hid b
  have RR := Lib.hid (RR.out.below b RR.out.lt)
  clear b
  go_wp2_with fail
  refine (marks_runs g p r _ RR.out ER.out).mono ?_
  rintro e u2 ⟨rfl, b⟩
  have BB := Lib.hid (below_both BB.out b)
  clear b
  go_wp2
  go_ret
  exact ⟨rfl, BB.out⟩

theorem refKind_c (g : Nat) (p : Nat → Bool) (q : Nat) (w : World) (h : Row w g 65 (mA 65536 p)) (hq : ck p = q) :
    Calls Tryz.prog 14 #[.pointer (some ⟨g, 0, none⟩)] w fun e w' => e = .returned (.int .u8 q) ∧ Below w.heap.size w w' := by
  rw [← hq]
  have hc := ct_le p 65536
  have hr := ct_le (hm p) 65536
  unfold ck ckn
  by_cases h0 : ct p 65536 ≤ 4096
  · rw [if_pos h0, if_pos h0]
    by_cases h9 : 2 + 4 * ct (hm p) 65536 < 2 * ct p 65536
    · rw [if_pos h9]; exact rk_13 g p _ _ w h rfl rfl hc hr h0 h9
    · rw [if_neg h9]; exact rk_11 g p _ _ w h rfl rfl hc hr h0 h9
  · rw [if_neg h0, if_neg h0]
    by_cases h9 : 2 + 4 * ct (hm p) 65536 < 8192
    · rw [if_pos h9]; exact rk_23 g p _ _ w h rfl rfl hc hr h0 h9
    · rw [if_neg h9]; exact rk_22 g p _ _ w h rfl rfl hc hr h0 h9
end Go.Proofs.YtfefmlnlicilbaaGreatDoor
namespace Go.Proofs.YtfefmlnlicilbaaGreatDoor
open Go.RowKit
set_option linter.unusedVariables false

theorem results_cell_tmp2 {fn : Func} {p u v : Tmp} {ty : TypeId} (h : fn.results = #[.cell p ty, .tmp u, .tmp v]) (tmps : Array Value) (P : Program) (w : World) :
    (results fn tmps).run P w = ((asAddr (tmps.getD p undef)).run P w).andThen fun a w₁ => ((loadVar ty a).run P w₁).andThen fun x w₂ => .ok (.tuple #[x, tmps.getD u undef, tmps.getD v undef]) w₂ := by
  simp only [results, h]
  simp [Sem.run_bind, Result.andThen]
theorem ret_row3 {fn : Func} {p u v : Tmp} (hf : fn.results = #[.cell p 28, .tmp u, .tmp v]) {tmps : Array Value} {w : World} {g : Nat} {a b c d : Value} {y z : Value} (hp : tmps.getD p undef = .pointer (some ⟨g, 0, none⟩)) (hu : tmps.getD u undef = y) (hv : tmps.getD v undef = z) (R : Row w g 28 #[a, b, c, d]) :
    (results fn tmps).run Tryz.prog w = .ok (.tuple #[.agg #[a, b, c, d], y, z]) w := by
  rw [results_cell_tmp2 hf, hp, hu, hv]
  simp [asAddr, run_loadVar_row w g 28 28 _ (0, 0) _ R Tryz.underlying28 rfl szC, Result.andThen]

set_option maxHeartbeats 4000000 in
theorem make3_1 (v : Value) (l : List UInt16) (p : Nat → Bool) (w : World) (hT : Tb w) (hv : Gs e16 w 0 w.heap.size v l) (hl : l.length ≤ 3000) (hp : mk l = p) :
    Calls Tryz.prog 7 #[v, .int .u8 1] w fun e w' => ∃ v' gm, e = .returned (.tuple #[v', .pointer (some ⟨gm, 0, none⟩), .bool true]) ∧ Row w' gm 65 (mA 65536 p) ∧ w.heap.size ≤ gm ∧ Cn (fun b => b ≠ gm) w' v' p 1 ∧ Below w.heap.size w w' := by
  have GV := Lib.hid hv
  obtain ⟨A, c, rfl, -⟩ := hv
  obtain ⟨m, hm2⟩ : ∃ r, ct p 65536 = r := ⟨_, rfl⟩
  obtain ⟨r, hr⟩ : ∃ r, ct (hm p) 65536 = r := ⟨_, rfl⟩
  obtain ⟨L, hL⟩ : ∃ L, ls p 65536 = L := ⟨_, rfl⟩
  have HL := Lib.hid (show l.length ≤ 100000000 from Nat.le_trans hl (by omega))
  have HP := Lib.hid hp
  have EM := Lib.hid hm2
  have ER := Lib.hid hr
  have EL := Lib.hid hL
  have LR := Lib.hid (show ris L = true from hL ▸ ris_ls p _ (Nat.le_refl _))
  have LL := Lib.hid (show L.length ≤ 65536 from hL ▸ ls_small p)
  have r0 := Row.new w 28 #[.int .u8 0, .slice none 0 0, .slice none 0 0, .slice none 0 0]
  have b0 := bx w (.cells #[.int .u8 0, .slice none 0 0, .slice none 0 0, .slice none 0 0] 28)
  have TT := Lib.hid hT
  clear hp hl hm2 hr hT hL
  go_enter Tryz.func7, Tryz.ntmps7
  go_wp2_with fail
  generalize w.alloc (.cells #[.int .u8 0, .slice none 0 0, .slice none 0 0, .slice none 0 0] 28) = W0 at *
  have lg := r0.lt
  have RR := Lib.hid r0
  have BB := Lib.hid b0
  have GV := Lib.hid (GV.out.stp b0)
  have TT := Lib.hid (TT.out.step b0)
  clear r0 b0
  refine (of_any _ l 0 _ GV.out HL.out).mono ?_
  rw [HP.out]
  rintro e u1 ⟨rfl, rm, b⟩
  have RR := Lib.hid (RR.out.below b RR.out.lt)
  have BB := Lib.hid (below_both BB.out b)
  have TT := Lib.hid (TT.out.step b)
  have RM := Lib.hid (rm)
  have hs1 := b.size
  have lm1 := RM.out.lt
  clear rm b GV
  go_wp2_with fail
  have rz := Row.new u1 28 #[.int .u8 0, .slice none 0 0, .slice none 0 0, .slice none 0 0]
  have bz := bx u1 (.cells #[.int .u8 0, .slice none 0 0, .slice none 0 0, .slice none 0 0] 28)
  generalize u1.alloc (.cells #[.int .u8 0, .slice none 0 0, .slice none 0 0, .slice none 0 0] 28) = u2 at *
  have RR := Lib.hid (RR.out.below bz RR.out.lt)
  have BB := Lib.hid (below_both BB.out bz)
  have TT := Lib.hid (TT.out.step bz)
  have RM := Lib.hid (RM.out.below bz RM.out.lt)
  have RC := Lib.hid rz
  clear rz bz
  have lu := RC.out.lt
  have lm := RM.out.lt
  refine (marks_list _ p L _ RM.out EL.out).mono ?_
  rintro e u3 ⟨X2, x2, rfl, g, b⟩
  have RR := Lib.hid (RR.out.below b RR.out.lt)
  have BB := Lib.hid (below_both BB.out b)
  have TT := Lib.hid (TT.out.step b)
  have RM := Lib.hid (RM.out.below b RM.out.lt)
  have RC := Lib.hid (RC.out.below b RC.out.lt)
  have G2 := Lib.hid (g)
  have hs3 := b.size
  clear g b
  go_wp2_with fail
  have NC : Hid (∀ b, u3.heap.size ≤ b → b ≠ w.heap.size ∧ b ≠ W0.heap.size ∧ b ≠ u1.heap.size) := Lib.hid fun b hb => ⟨by omega, by omega, by omega⟩
  refine (ofArray_yes (N := (fun b => b ≠ w.heap.size ∧ b ≠ W0.heap.size ∧ b ≠ u1.heap.size)) _ L p _ NC.out G2.out LR.out LL.out EL.out).mono ?_
  rintro e u4 ⟨v4, rfl, g, b⟩
  obtain ⟨κa, Aa, na, ca, Ba, ma, da, Da, qa, ea, rfl⟩ := g.form
  have RR := Lib.hid (RR.out.below b RR.out.lt)
  have BB := Lib.hid (below_both BB.out b)
  have TT := Lib.hid (TT.out.step b)
  have RM := Lib.hid (RM.out.below b RM.out.lt)
  have RC := Lib.hid (RC.out.below b RC.out.lt)
  have G2 := Lib.hid (G2.out.stp b)
  have CA := Lib.hid (g)
  have hs4 := b.size
  clear g b NC
  clear G2
  have d0 : u4.cell? ⟨u1.heap.size, 0, none⟩ = some (.int .u8 0) := RC.out.cell 0
  have f0 := RC.out.frozen 0
  have d1 : u4.cell? ⟨u1.heap.size, 1, none⟩ = some (.slice none 0 0) := RC.out.cell 1
  have f1 := RC.out.frozen 1
  have d2 : u4.cell? ⟨u1.heap.size, 2, none⟩ = some (.slice none 0 0) := RC.out.cell 2
  have f2 := RC.out.frozen 2
  have d3 : u4.cell? ⟨u1.heap.size, 3, none⟩ = some (.slice none 0 0) := RC.out.cell 3
  have f3 := RC.out.frozen 3
  go_wp2_with fail
  have S4 := set4 (a' := .int .u8 κa) (b' := .slice Aa na ca) (c' := .slice Ba ma da) (d' := .slice Da qa ea) RC.out
  generalize (((u4.setCell ⟨u1.heap.size, 0, none⟩ (.int .u8 κa)).setCell ⟨u1.heap.size, 1, none⟩ (.slice Aa na ca)).setCell ⟨u1.heap.size, 2, none⟩ (.slice Ba ma da)).setCell ⟨u1.heap.size, 3, none⟩ (.slice Da qa ea) = u5 at *
  obtain ⟨s4, s5⟩ := S4
  have CA := Lib.hid (CA.out.grown s5 (fun hh => hh.2.2 rfl))
  have RR := Lib.hid (RR.out.grown s5 (by intro e; injection e with e; omega))
  have RM5 := RM.out.grown s5 (by intro e; injection e with e; omega)
  have hSc : Bx w u1.heap.size 28 #[.int .u8 κa, .slice Aa na ca, .slice Ba ma da, .slice Da qa ea] W0.heap.size 65 (mA 65536 p) u5.drew := ⟨(BB.out.grown s5 BB.out.size (fun j e => by injection e with e; omega)).drew, s4, RM5⟩
  have CA := Lib.hid (show Cn _ u5.drew _ _ _ from CA.out.step (Below.refl u5.heap.size u5).drew)
  have RR := Lib.hid (show Row u5.drew _ _ _ from RR.out)
  have hg1 : W0.heap.size ≠ w.heap.size := by omega
  have hg2 : u1.heap.size ≠ w.heap.size := by omega
  have hg3 : w.heap.size ≤ W0.heap.size := by omega
  clear d0 d1 d2 d3 f0 f1 f2 f3 s4 s5 RC RM RM5 BB lm1 lg hs1 hs3 hs4 lu lm
  refine wp_region_held_drew (S := fun W => Bx w u1.heap.size 28 #[.int .u8 κa, .slice Aa na ca, .slice Ba ma da, .slice Da qa ea] W0.heap.size 65 (mA 65536 p) W) (by kernel_rfl) hSc (fun _ => ?_)
  refine held_take 0 ?_ rfl (by kernel_rfl) (by kernel_rfl) (by kernel_rfl) (fun _ _ _ h => h) (by rfl) ?_ hSc ?_
  rotate_left
  · (intro W hSW; have k0 : W.cell? ⟨u1.heap.size, 0, none⟩ = some (.int .u8 κa) := hSW.r1.cell 0; have k1 : W.cell? ⟨u1.heap.size, 1, none⟩ = some (.slice Aa na ca) := hSW.r1.cell 1; have k2 : W.cell? ⟨u1.heap.size, 2, none⟩ = some (.slice Ba ma da) := hSW.r1.cell 2; have k3 : W.cell? ⟨u1.heap.size, 3, none⟩ = some (.slice Da qa ea) := hSW.r1.cell 3; go_simp; try rfl)
  try simp only [Act.put, List.setIfInBounds_toArray, List.set_cons_zero, List.set_cons_succ]
  refine held_take 1 ?_ rfl (by kernel_rfl) (by kernel_rfl) (by kernel_rfl) (fun _ _ _ h => h) (by rfl) ?_ hSc ?_
  rotate_left
  · (intro W hSW; go_simp; try rfl)
  try simp only [Act.put, List.setIfInBounds_toArray, List.set_cons_zero, List.set_cons_succ]
  refine held_take 2 ?_ rfl (by kernel_rfl) (by kernel_rfl) (by kernel_rfl) (fun _ _ _ h => h) (by rfl) ?_ hSc ?_
  rotate_left
  · (intro W hSW; go_simp; try rfl)
  try simp only [Act.put, List.setIfInBounds_toArray, List.set_cons_zero, List.set_cons_succ]
  refine held_take 3 ?_ rfl (by kernel_rfl) (by kernel_rfl) (by kernel_rfl) (fun _ _ _ h => h) (by rfl) ?_ hSc ?_
  rotate_left
  · (intro W hSW; go_simp; try rfl)
  try simp only [Act.put, List.setIfInBounds_toArray, List.set_cons_zero, List.set_cons_succ]
  refine held_take 4 ?_ rfl (by kernel_rfl) (by kernel_rfl) (by kernel_rfl) (fun _ _ _ h => h) (by rfl) ?_ hSc ?_
  rotate_left
  · (intro W hSW; have k0 : W.cell? ⟨u1.heap.size, 0, none⟩ = some (.int .u8 κa) := hSW.r1.cell 0; have k1 : W.cell? ⟨u1.heap.size, 1, none⟩ = some (.slice Aa na ca) := hSW.r1.cell 1; have k2 : W.cell? ⟨u1.heap.size, 2, none⟩ = some (.slice Ba ma da) := hSW.r1.cell 2; have k3 : W.cell? ⟨u1.heap.size, 3, none⟩ = some (.slice Da qa ea) := hSW.r1.cell 3; go_simp; try rfl)
  try simp only [Act.put, List.setIfInBounds_toArray, List.set_cons_zero, List.set_cons_succ]
  refine held_take 6 ?_ rfl (by kernel_rfl) (by kernel_rfl) (by kernel_rfl) (fun _ _ _ h => h) (by rfl) ?_ hSc ?_
  rotate_left
  · (intro W hSW; go_simp; try rfl)
  try simp only [Act.put, List.setIfInBounds_toArray, List.set_cons_zero, List.set_cons_succ]
  refine held_next 5 rfl (by kernel_rfl) (by rfl) ?_
  go_simp
  refine (kind_c _ p 1 _ CA.out).mono ?_
  rintro e u6 ⟨rfl, bq⟩
  have hS2 := hSc.step bq
  have RR := Lib.hid (RR.out.below bq RR.out.lt)
  have CA := Lib.hid (CA.out.step bq)
  clear hSc bq
  have hSc := hS2
  clear hS2
  refine ⟨fun W => Bx w u1.heap.size 28 #[.int .u8 κa, .slice Aa na ca, .slice Ba ma da, .slice Da qa ea] W0.heap.size 65 (mA 65536 p) W, fun W hW => hW, hSc, ?_⟩
  try simp only [Act.put, List.setIfInBounds_toArray, List.set_cons_zero, List.set_cons_succ]
  refine held_take 7 ?_ rfl (by kernel_rfl) (by kernel_rfl) (by kernel_rfl) (fun _ _ _ h => h) (by rfl) ?_ hSc ?_
  rotate_left
  · (intro W hSW; go_simp; try rfl)
  try simp only [Act.put, List.setIfInBounds_toArray, List.set_cons_zero, List.set_cons_succ]
  refine held_take 8 ?_ rfl (by kernel_rfl) (by kernel_rfl) (by kernel_rfl) (fun _ _ _ h => h) (by rfl) ?_ hSc ?_
  rotate_left
  · (intro W hSW; go_simp; try rfl)
  try simp only [Act.put, List.setIfInBounds_toArray, List.set_cons_zero, List.set_cons_succ]
  have d0 : u6.cell? ⟨w.heap.size, 0, none⟩ = some (.int .u8 0) := RR.out.cell 0
  have f0 := RR.out.frozen 0
  have d1 : u6.cell? ⟨w.heap.size, 1, none⟩ = some (.slice none 0 0) := RR.out.cell 1
  have f1 := RR.out.frozen 1
  have d2 : u6.cell? ⟨w.heap.size, 2, none⟩ = some (.slice none 0 0) := RR.out.cell 2
  have f2 := RR.out.frozen 2
  have d3 : u6.cell? ⟨w.heap.size, 3, none⟩ = some (.slice none 0 0) := RR.out.cell 3
  have f3 := RR.out.frozen 3
  refine held_next 9 rfl (by kernel_rfl) (by rfl) ?_
  go_simp
  have S4 := set4 (a' := .int .u8 κa) (b' := .slice Aa na ca) (c' := .slice Ba ma da) (d' := .slice Da qa ea) RR.out
  have hSd := hSc.stored S4.2 (Nat.le_refl _) (by omega) (by omega)
  have H5 := Lib.hid ((CA.out.grown S4.2 (fun hh => hh.1 rfl)).mono (N' := fun b => b ≠ W0.heap.size) fun b _ hn => hn.2.1)
  clear hSc
  have hSc := hSd
  clear hSd
  refine ⟨fun W => Bx w u1.heap.size 28 #[.int .u8 κa, .slice Aa na ca, .slice Ba ma da, .slice Da qa ea] W0.heap.size 65 (mA 65536 p) W, fun W hW => hW, hSc, ?_⟩
  try simp only [Act.put, List.setIfInBounds_toArray, List.set_cons_zero, List.set_cons_succ]
  refine held_next 10 rfl (by kernel_rfl) (by rfl) ?_
  go_simp
  refine ⟨fun W => Bx w u1.heap.size 28 #[.int .u8 κa, .slice Aa na ca, .slice Ba ma da, .slice Da qa ea] W0.heap.size 65 (mA 65536 p) W, fun W hW => hW, hSc, ?_⟩
  try simp only [Act.put, List.setIfInBounds_toArray, List.set_cons_zero, List.set_cons_succ]
  refine held_next 11 rfl (by kernel_rfl) (by rfl) ?_
  go_simp
  refine ⟨fun W => Bx w u1.heap.size 28 #[.int .u8 κa, .slice Aa na ca, .slice Ba ma da, .slice Da qa ea] W0.heap.size 65 (mA 65536 p) W, fun W hW => hW, hSc, ?_⟩
  try simp only [Act.put, List.setIfInBounds_toArray, List.set_cons_zero, List.set_cons_succ]
  refine wpAnyH_done (by kernel_rfl) ?_ _
  go_wp2
  exact bodyPost_ret (ret_row3 rfl rfl rfl rfl S4.1) rfl ⟨_, _, rfl, hSc.r2, hg3, H5.out, hSc.bel⟩

set_option maxHeartbeats 4000000 in
theorem make3_2 (v : Value) (l : List UInt16) (p : Nat → Bool) (w : World) (hT : Tb w) (hv : Gs e16 w 0 w.heap.size v l) (hl : l.length ≤ 3000) (hp : mk l = p) :
    Calls Tryz.prog 7 #[v, .int .u8 2] w fun e w' => ∃ v' gm, e = .returned (.tuple #[v', .pointer (some ⟨gm, 0, none⟩), .bool true]) ∧ Row w' gm 65 (mA 65536 p) ∧ w.heap.size ≤ gm ∧ Cn (fun b => b ≠ gm) w' v' p 2 ∧ Below w.heap.size w w' := by
  have GV := Lib.hid hv
  obtain ⟨A, c, rfl, -⟩ := hv
  obtain ⟨m, hm2⟩ : ∃ r, ct p 65536 = r := ⟨_, rfl⟩
  obtain ⟨r, hr⟩ : ∃ r, ct (hm p) 65536 = r := ⟨_, rfl⟩
  obtain ⟨L, hL⟩ : ∃ L, ls p 65536 = L := ⟨_, rfl⟩
  have HL := Lib.hid (show l.length ≤ 100000000 from Nat.le_trans hl (by omega))
  have HP := Lib.hid hp
  have EM := Lib.hid hm2
  have ER := Lib.hid hr
  have EL := Lib.hid hL
  have LR := Lib.hid (show ris L = true from hL ▸ ris_ls p _ (Nat.le_refl _))
  have LL := Lib.hid (show L.length ≤ 65536 from hL ▸ ls_small p)
  have r0 := Row.new w 28 #[.int .u8 0, .slice none 0 0, .slice none 0 0, .slice none 0 0]
  have b0 := bx w (.cells #[.int .u8 0, .slice none 0 0, .slice none 0 0, .slice none 0 0] 28)
  have TT := Lib.hid hT
  clear hp hl hm2 hr hT hL
  go_enter Tryz.func7, Tryz.ntmps7
  go_wp2_with fail
  generalize w.alloc (.cells #[.int .u8 0, .slice none 0 0, .slice none 0 0, .slice none 0 0] 28) = W0 at *
  have lg := r0.lt
  have RR := Lib.hid r0
  have BB := Lib.hid b0
  have GV := Lib.hid (GV.out.stp b0)
  have TT := Lib.hid (TT.out.step b0)
  clear r0 b0
  refine (of_any _ l 0 _ GV.out HL.out).mono ?_
  rw [HP.out]
  rintro e u1 ⟨rfl, rm, b⟩
  have RR := Lib.hid (RR.out.below b RR.out.lt)
  have BB := Lib.hid (below_both BB.out b)
  have TT := Lib.hid (TT.out.step b)
  have RM := Lib.hid (rm)
  have hs1 := b.size
  have lm1 := RM.out.lt
  clear rm b GV
  go_wp2_with fail
  have rz := Row.new u1 28 #[.int .u8 0, .slice none 0 0, .slice none 0 0, .slice none 0 0]
  have bz := bx u1 (.cells #[.int .u8 0, .slice none 0 0, .slice none 0 0, .slice none 0 0] 28)
  generalize u1.alloc (.cells #[.int .u8 0, .slice none 0 0, .slice none 0 0, .slice none 0 0] 28) = u2 at *
  have RR := Lib.hid (RR.out.below bz RR.out.lt)
  have BB := Lib.hid (below_both BB.out bz)
  have TT := Lib.hid (TT.out.step bz)
  have RM := Lib.hid (RM.out.below bz RM.out.lt)
  have RC := Lib.hid rz
  clear rz bz
  have lu := RC.out.lt
  have lm := RM.out.lt
  refine (marks_words _ p _ RM.out).mono ?_
  rintro e u3 ⟨X2, x2, rfl, g, b⟩
  have RR := Lib.hid (RR.out.below b RR.out.lt)
  have BB := Lib.hid (below_both BB.out b)
  have TT := Lib.hid (TT.out.step b)
  have RM := Lib.hid (RM.out.below b RM.out.lt)
  have RC := Lib.hid (RC.out.below b RC.out.lt)
  have G2 := Lib.hid (g.more (Nat.zero_le _) (Nat.le_refl _))
  have hs3 := b.size
  clear g b
  go_wp2_with fail
  have NC : Hid (∀ b, u3.heap.size ≤ b → b ≠ w.heap.size ∧ b ≠ W0.heap.size ∧ b ≠ u1.heap.size) := Lib.hid fun b hb => ⟨by omega, by omega, by omega⟩
  refine (ofWords_yes (N := (fun b => b ≠ w.heap.size ∧ b ≠ W0.heap.size ∧ b ≠ u1.heap.size)) _ 1024 _ p _ NC.out G2.out).mono ?_
  rintro e u4 ⟨v4, rfl, g, b⟩
  obtain ⟨κa, Aa, na, ca, Ba, ma, da, Da, qa, ea, rfl⟩ := g.form
  have RR := Lib.hid (RR.out.below b RR.out.lt)
  have BB := Lib.hid (below_both BB.out b)
  have TT := Lib.hid (TT.out.step b)
  have RM := Lib.hid (RM.out.below b RM.out.lt)
  have RC := Lib.hid (RC.out.below b RC.out.lt)
  have G2 := Lib.hid (G2.out.stp b)
  have CA := Lib.hid (g)
  have hs4 := b.size
  clear g b NC
  clear G2
  have d0 : u4.cell? ⟨u1.heap.size, 0, none⟩ = some (.int .u8 0) := RC.out.cell 0
  have f0 := RC.out.frozen 0
  have d1 : u4.cell? ⟨u1.heap.size, 1, none⟩ = some (.slice none 0 0) := RC.out.cell 1
  have f1 := RC.out.frozen 1
  have d2 : u4.cell? ⟨u1.heap.size, 2, none⟩ = some (.slice none 0 0) := RC.out.cell 2
  have f2 := RC.out.frozen 2
  have d3 : u4.cell? ⟨u1.heap.size, 3, none⟩ = some (.slice none 0 0) := RC.out.cell 3
  have f3 := RC.out.frozen 3
  go_wp2_with fail
  have S4 := set4 (a' := .int .u8 κa) (b' := .slice Aa na ca) (c' := .slice Ba ma da) (d' := .slice Da qa ea) RC.out
  generalize (((u4.setCell ⟨u1.heap.size, 0, none⟩ (.int .u8 κa)).setCell ⟨u1.heap.size, 1, none⟩ (.slice Aa na ca)).setCell ⟨u1.heap.size, 2, none⟩ (.slice Ba ma da)).setCell ⟨u1.heap.size, 3, none⟩ (.slice Da qa ea) = u5 at *
  obtain ⟨s4, s5⟩ := S4
  have CA := Lib.hid (CA.out.grown s5 (fun hh => hh.2.2 rfl))
  have RR := Lib.hid (RR.out.grown s5 (by intro e; injection e with e; omega))
  have RM5 := RM.out.grown s5 (by intro e; injection e with e; omega)
  have hSc : Bx w u1.heap.size 28 #[.int .u8 κa, .slice Aa na ca, .slice Ba ma da, .slice Da qa ea] W0.heap.size 65 (mA 65536 p) u5.drew := ⟨(BB.out.grown s5 BB.out.size (fun j e => by injection e with e; omega)).drew, s4, RM5⟩
  have CA := Lib.hid (show Cn _ u5.drew _ _ _ from CA.out.step (Below.refl u5.heap.size u5).drew)
  have RR := Lib.hid (show Row u5.drew _ _ _ from RR.out)
  have hg1 : W0.heap.size ≠ w.heap.size := by omega
  have hg2 : u1.heap.size ≠ w.heap.size := by omega
  have hg3 : w.heap.size ≤ W0.heap.size := by omega
  clear d0 d1 d2 d3 f0 f1 f2 f3 s4 s5 RC RM RM5 BB lm1 lg hs1 hs3 hs4 lu lm
  refine wp_region_held_drew (S := fun W => Bx w u1.heap.size 28 #[.int .u8 κa, .slice Aa na ca, .slice Ba ma da, .slice Da qa ea] W0.heap.size 65 (mA 65536 p) W) (by kernel_rfl) hSc (fun _ => ?_)
  refine held_take 0 ?_ rfl (by kernel_rfl) (by kernel_rfl) (by kernel_rfl) (fun _ _ _ h => h) (by rfl) ?_ hSc ?_
  rotate_left
  · (intro W hSW; have k0 : W.cell? ⟨u1.heap.size, 0, none⟩ = some (.int .u8 κa) := hSW.r1.cell 0; have k1 : W.cell? ⟨u1.heap.size, 1, none⟩ = some (.slice Aa na ca) := hSW.r1.cell 1; have k2 : W.cell? ⟨u1.heap.size, 2, none⟩ = some (.slice Ba ma da) := hSW.r1.cell 2; have k3 : W.cell? ⟨u1.heap.size, 3, none⟩ = some (.slice Da qa ea) := hSW.r1.cell 3; go_simp; try rfl)
  try simp only [Act.put, List.setIfInBounds_toArray, List.set_cons_zero, List.set_cons_succ]
  refine held_take 1 ?_ rfl (by kernel_rfl) (by kernel_rfl) (by kernel_rfl) (fun _ _ _ h => h) (by rfl) ?_ hSc ?_
  rotate_left
  · (intro W hSW; go_simp; try rfl)
  try simp only [Act.put, List.setIfInBounds_toArray, List.set_cons_zero, List.set_cons_succ]
  refine held_take 2 ?_ rfl (by kernel_rfl) (by kernel_rfl) (by kernel_rfl) (fun _ _ _ h => h) (by rfl) ?_ hSc ?_
  rotate_left
  · (intro W hSW; go_simp; try rfl)
  try simp only [Act.put, List.setIfInBounds_toArray, List.set_cons_zero, List.set_cons_succ]
  refine held_take 3 ?_ rfl (by kernel_rfl) (by kernel_rfl) (by kernel_rfl) (fun _ _ _ h => h) (by rfl) ?_ hSc ?_
  rotate_left
  · (intro W hSW; go_simp; try rfl)
  try simp only [Act.put, List.setIfInBounds_toArray, List.set_cons_zero, List.set_cons_succ]
  refine held_take 4 ?_ rfl (by kernel_rfl) (by kernel_rfl) (by kernel_rfl) (fun _ _ _ h => h) (by rfl) ?_ hSc ?_
  rotate_left
  · (intro W hSW; have k0 : W.cell? ⟨u1.heap.size, 0, none⟩ = some (.int .u8 κa) := hSW.r1.cell 0; have k1 : W.cell? ⟨u1.heap.size, 1, none⟩ = some (.slice Aa na ca) := hSW.r1.cell 1; have k2 : W.cell? ⟨u1.heap.size, 2, none⟩ = some (.slice Ba ma da) := hSW.r1.cell 2; have k3 : W.cell? ⟨u1.heap.size, 3, none⟩ = some (.slice Da qa ea) := hSW.r1.cell 3; go_simp; try rfl)
  try simp only [Act.put, List.setIfInBounds_toArray, List.set_cons_zero, List.set_cons_succ]
  refine held_take 6 ?_ rfl (by kernel_rfl) (by kernel_rfl) (by kernel_rfl) (fun _ _ _ h => h) (by rfl) ?_ hSc ?_
  rotate_left
  · (intro W hSW; go_simp; try rfl)
  try simp only [Act.put, List.setIfInBounds_toArray, List.set_cons_zero, List.set_cons_succ]
  refine held_next 5 rfl (by kernel_rfl) (by rfl) ?_
  go_simp
  refine (kind_c _ p 2 _ CA.out).mono ?_
  rintro e u6 ⟨rfl, bq⟩
  have hS2 := hSc.step bq
  have RR := Lib.hid (RR.out.below bq RR.out.lt)
  have CA := Lib.hid (CA.out.step bq)
  clear hSc bq
  have hSc := hS2
  clear hS2
  refine ⟨fun W => Bx w u1.heap.size 28 #[.int .u8 κa, .slice Aa na ca, .slice Ba ma da, .slice Da qa ea] W0.heap.size 65 (mA 65536 p) W, fun W hW => hW, hSc, ?_⟩
  try simp only [Act.put, List.setIfInBounds_toArray, List.set_cons_zero, List.set_cons_succ]
  refine held_take 7 ?_ rfl (by kernel_rfl) (by kernel_rfl) (by kernel_rfl) (fun _ _ _ h => h) (by rfl) ?_ hSc ?_
  rotate_left
  · (intro W hSW; go_simp; try rfl)
  try simp only [Act.put, List.setIfInBounds_toArray, List.set_cons_zero, List.set_cons_succ]
  refine held_take 8 ?_ rfl (by kernel_rfl) (by kernel_rfl) (by kernel_rfl) (fun _ _ _ h => h) (by rfl) ?_ hSc ?_
  rotate_left
  · (intro W hSW; go_simp; try rfl)
  try simp only [Act.put, List.setIfInBounds_toArray, List.set_cons_zero, List.set_cons_succ]
  have d0 : u6.cell? ⟨w.heap.size, 0, none⟩ = some (.int .u8 0) := RR.out.cell 0
  have f0 := RR.out.frozen 0
  have d1 : u6.cell? ⟨w.heap.size, 1, none⟩ = some (.slice none 0 0) := RR.out.cell 1
  have f1 := RR.out.frozen 1
  have d2 : u6.cell? ⟨w.heap.size, 2, none⟩ = some (.slice none 0 0) := RR.out.cell 2
  have f2 := RR.out.frozen 2
  have d3 : u6.cell? ⟨w.heap.size, 3, none⟩ = some (.slice none 0 0) := RR.out.cell 3
  have f3 := RR.out.frozen 3
  refine held_next 9 rfl (by kernel_rfl) (by rfl) ?_
  go_simp
  have S4 := set4 (a' := .int .u8 κa) (b' := .slice Aa na ca) (c' := .slice Ba ma da) (d' := .slice Da qa ea) RR.out
  have hSd := hSc.stored S4.2 (Nat.le_refl _) (by omega) (by omega)
  have H5 := Lib.hid ((CA.out.grown S4.2 (fun hh => hh.1 rfl)).mono (N' := fun b => b ≠ W0.heap.size) fun b _ hn => hn.2.1)
  clear hSc
  have hSc := hSd
  clear hSd
  refine ⟨fun W => Bx w u1.heap.size 28 #[.int .u8 κa, .slice Aa na ca, .slice Ba ma da, .slice Da qa ea] W0.heap.size 65 (mA 65536 p) W, fun W hW => hW, hSc, ?_⟩
  try simp only [Act.put, List.setIfInBounds_toArray, List.set_cons_zero, List.set_cons_succ]
  refine held_next 10 rfl (by kernel_rfl) (by rfl) ?_
  go_simp
  refine ⟨fun W => Bx w u1.heap.size 28 #[.int .u8 κa, .slice Aa na ca, .slice Ba ma da, .slice Da qa ea] W0.heap.size 65 (mA 65536 p) W, fun W hW => hW, hSc, ?_⟩
  try simp only [Act.put, List.setIfInBounds_toArray, List.set_cons_zero, List.set_cons_succ]
  refine held_next 11 rfl (by kernel_rfl) (by rfl) ?_
  go_simp
  refine ⟨fun W => Bx w u1.heap.size 28 #[.int .u8 κa, .slice Aa na ca, .slice Ba ma da, .slice Da qa ea] W0.heap.size 65 (mA 65536 p) W, fun W hW => hW, hSc, ?_⟩
  try simp only [Act.put, List.setIfInBounds_toArray, List.set_cons_zero, List.set_cons_succ]
  refine wpAnyH_done (by kernel_rfl) ?_ _
  go_wp2
  exact bodyPost_ret (ret_row3 rfl rfl rfl rfl S4.1) rfl ⟨_, _, rfl, hSc.r2, hg3, H5.out, hSc.bel⟩

set_option maxHeartbeats 4000000 in
theorem make3_3 (v : Value) (l : List UInt16) (p : Nat → Bool) (w : World) (hT : Tb w) (hv : Gs e16 w 0 w.heap.size v l) (hl : l.length ≤ 3000) (hp : mk l = p) :
    Calls Tryz.prog 7 #[v, .int .u8 3] w fun e w' => ∃ v' gm, e = .returned (.tuple #[v', .pointer (some ⟨gm, 0, none⟩), .bool true]) ∧ Row w' gm 65 (mA 65536 p) ∧ w.heap.size ≤ gm ∧ Cn (fun b => b ≠ gm) w' v' p 3 ∧ Below w.heap.size w w' := by
  have GV := Lib.hid hv
  obtain ⟨A, c, rfl, -⟩ := hv
  obtain ⟨m, hm2⟩ : ∃ r, ct p 65536 = r := ⟨_, rfl⟩
  obtain ⟨r, hr⟩ : ∃ r, ct (hm p) 65536 = r := ⟨_, rfl⟩
  obtain ⟨L, hL⟩ : ∃ L, ls p 65536 = L := ⟨_, rfl⟩
  have HL := Lib.hid (show l.length ≤ 100000000 from Nat.le_trans hl (by omega))
  have HP := Lib.hid hp
  have EM := Lib.hid hm2
  have ER := Lib.hid hr
  have EL := Lib.hid hL
  have LR := Lib.hid (show ris L = true from hL ▸ ris_ls p _ (Nat.le_refl _))
  have LL := Lib.hid (show L.length ≤ 65536 from hL ▸ ls_small p)
  have r0 := Row.new w 28 #[.int .u8 0, .slice none 0 0, .slice none 0 0, .slice none 0 0]
  have b0 := bx w (.cells #[.int .u8 0, .slice none 0 0, .slice none 0 0, .slice none 0 0] 28)
  have TT := Lib.hid hT
  clear hp hl hm2 hr hT hL
  go_enter Tryz.func7, Tryz.ntmps7
  go_wp2_with fail
  generalize w.alloc (.cells #[.int .u8 0, .slice none 0 0, .slice none 0 0, .slice none 0 0] 28) = W0 at *
  have lg := r0.lt
  have RR := Lib.hid r0
  have BB := Lib.hid b0
  have GV := Lib.hid (GV.out.stp b0)
  have TT := Lib.hid (TT.out.step b0)
  clear r0 b0
  refine (of_any _ l 0 _ GV.out HL.out).mono ?_
  rw [HP.out]
  rintro e u1 ⟨rfl, rm, b⟩
  have RR := Lib.hid (RR.out.below b RR.out.lt)
  have BB := Lib.hid (below_both BB.out b)
  have TT := Lib.hid (TT.out.step b)
  have RM := Lib.hid (rm)
  have hs1 := b.size
  have lm1 := RM.out.lt
  clear rm b GV
  go_wp2_with fail
  have rz := Row.new u1 28 #[.int .u8 0, .slice none 0 0, .slice none 0 0, .slice none 0 0]
  have bz := bx u1 (.cells #[.int .u8 0, .slice none 0 0, .slice none 0 0, .slice none 0 0] 28)
  generalize u1.alloc (.cells #[.int .u8 0, .slice none 0 0, .slice none 0 0, .slice none 0 0] 28) = u2 at *
  have RR := Lib.hid (RR.out.below bz RR.out.lt)
  have BB := Lib.hid (below_both BB.out bz)
  have TT := Lib.hid (TT.out.step bz)
  have RM := Lib.hid (RM.out.below bz RM.out.lt)
  have RC := Lib.hid rz
  clear rz bz
  have lu := RC.out.lt
  have lm := RM.out.lt
  refine (marks_rs _ p r _ RM.out ER.out).mono ?_
  rintro e u3 ⟨X2, x2, rfl, g, b⟩
  have RR := Lib.hid (RR.out.below b RR.out.lt)
  have BB := Lib.hid (below_both BB.out b)
  have TT := Lib.hid (TT.out.step b)
  have RM := Lib.hid (RM.out.below b RM.out.lt)
  have RC := Lib.hid (RC.out.below b RC.out.lt)
  have G2 := Lib.hid (g.more (Nat.zero_le _) (Nat.le_refl _))
  have hs3 := b.size
  clear g b
  go_wp2_with fail
  have NC : Hid (∀ b, u3.heap.size ≤ b → b ≠ w.heap.size ∧ b ≠ W0.heap.size ∧ b ≠ u1.heap.size) := Lib.hid fun b hb => ⟨by omega, by omega, by omega⟩
  refine (ofRuns_yes (N := (fun b => b ≠ w.heap.size ∧ b ≠ W0.heap.size ∧ b ≠ u1.heap.size)) _ r _ p _ NC.out ER.out G2.out).mono ?_
  rintro e u4 ⟨v4, rfl, g, b⟩
  obtain ⟨κa, Aa, na, ca, Ba, ma, da, Da, qa, ea, rfl⟩ := g.form
  have RR := Lib.hid (RR.out.below b RR.out.lt)
  have BB := Lib.hid (below_both BB.out b)
  have TT := Lib.hid (TT.out.step b)
  have RM := Lib.hid (RM.out.below b RM.out.lt)
  have RC := Lib.hid (RC.out.below b RC.out.lt)
  have G2 := Lib.hid (G2.out.stp b)
  have CA := Lib.hid (g)
  have hs4 := b.size
  clear g b NC
  clear G2
  have d0 : u4.cell? ⟨u1.heap.size, 0, none⟩ = some (.int .u8 0) := RC.out.cell 0
  have f0 := RC.out.frozen 0
  have d1 : u4.cell? ⟨u1.heap.size, 1, none⟩ = some (.slice none 0 0) := RC.out.cell 1
  have f1 := RC.out.frozen 1
  have d2 : u4.cell? ⟨u1.heap.size, 2, none⟩ = some (.slice none 0 0) := RC.out.cell 2
  have f2 := RC.out.frozen 2
  have d3 : u4.cell? ⟨u1.heap.size, 3, none⟩ = some (.slice none 0 0) := RC.out.cell 3
  have f3 := RC.out.frozen 3
  go_wp2_with fail
  have S4 := set4 (a' := .int .u8 κa) (b' := .slice Aa na ca) (c' := .slice Ba ma da) (d' := .slice Da qa ea) RC.out
  generalize (((u4.setCell ⟨u1.heap.size, 0, none⟩ (.int .u8 κa)).setCell ⟨u1.heap.size, 1, none⟩ (.slice Aa na ca)).setCell ⟨u1.heap.size, 2, none⟩ (.slice Ba ma da)).setCell ⟨u1.heap.size, 3, none⟩ (.slice Da qa ea) = u5 at *
  obtain ⟨s4, s5⟩ := S4
  have CA := Lib.hid (CA.out.grown s5 (fun hh => hh.2.2 rfl))
  have RR := Lib.hid (RR.out.grown s5 (by intro e; injection e with e; omega))
  have RM5 := RM.out.grown s5 (by intro e; injection e with e; omega)
  have hSc : Bx w u1.heap.size 28 #[.int .u8 κa, .slice Aa na ca, .slice Ba ma da, .slice Da qa ea] W0.heap.size 65 (mA 65536 p) u5.drew := ⟨(BB.out.grown s5 BB.out.size (fun j e => by injection e with e; omega)).drew, s4, RM5⟩
  have CA := Lib.hid (show Cn _ u5.drew _ _ _ from CA.out.step (Below.refl u5.heap.size u5).drew)
  have RR := Lib.hid (show Row u5.drew _ _ _ from RR.out)
  have hg1 : W0.heap.size ≠ w.heap.size := by omega
  have hg2 : u1.heap.size ≠ w.heap.size := by omega
  have hg3 : w.heap.size ≤ W0.heap.size := by omega
  clear d0 d1 d2 d3 f0 f1 f2 f3 s4 s5 RC RM RM5 BB lm1 lg hs1 hs3 hs4 lu lm
  refine wp_region_held_drew (S := fun W => Bx w u1.heap.size 28 #[.int .u8 κa, .slice Aa na ca, .slice Ba ma da, .slice Da qa ea] W0.heap.size 65 (mA 65536 p) W) (by kernel_rfl) hSc (fun _ => ?_)
  refine held_take 0 ?_ rfl (by kernel_rfl) (by kernel_rfl) (by kernel_rfl) (fun _ _ _ h => h) (by rfl) ?_ hSc ?_
  rotate_left
  · (intro W hSW; have k0 : W.cell? ⟨u1.heap.size, 0, none⟩ = some (.int .u8 κa) := hSW.r1.cell 0; have k1 : W.cell? ⟨u1.heap.size, 1, none⟩ = some (.slice Aa na ca) := hSW.r1.cell 1; have k2 : W.cell? ⟨u1.heap.size, 2, none⟩ = some (.slice Ba ma da) := hSW.r1.cell 2; have k3 : W.cell? ⟨u1.heap.size, 3, none⟩ = some (.slice Da qa ea) := hSW.r1.cell 3; go_simp; try rfl)
  try simp only [Act.put, List.setIfInBounds_toArray, List.set_cons_zero, List.set_cons_succ]
  refine held_take 1 ?_ rfl (by kernel_rfl) (by kernel_rfl) (by kernel_rfl) (fun _ _ _ h => h) (by rfl) ?_ hSc ?_
  rotate_left
  · (intro W hSW; go_simp; try rfl)
  try simp only [Act.put, List.setIfInBounds_toArray, List.set_cons_zero, List.set_cons_succ]
  refine held_take 2 ?_ rfl (by kernel_rfl) (by kernel_rfl) (by kernel_rfl) (fun _ _ _ h => h) (by rfl) ?_ hSc ?_
  rotate_left
  · (intro W hSW; go_simp; try rfl)
  try simp only [Act.put, List.setIfInBounds_toArray, List.set_cons_zero, List.set_cons_succ]
  refine held_take 3 ?_ rfl (by kernel_rfl) (by kernel_rfl) (by kernel_rfl) (fun _ _ _ h => h) (by rfl) ?_ hSc ?_
  rotate_left
  · (intro W hSW; go_simp; try rfl)
  try simp only [Act.put, List.setIfInBounds_toArray, List.set_cons_zero, List.set_cons_succ]
  refine held_take 4 ?_ rfl (by kernel_rfl) (by kernel_rfl) (by kernel_rfl) (fun _ _ _ h => h) (by rfl) ?_ hSc ?_
  rotate_left
  · (intro W hSW; have k0 : W.cell? ⟨u1.heap.size, 0, none⟩ = some (.int .u8 κa) := hSW.r1.cell 0; have k1 : W.cell? ⟨u1.heap.size, 1, none⟩ = some (.slice Aa na ca) := hSW.r1.cell 1; have k2 : W.cell? ⟨u1.heap.size, 2, none⟩ = some (.slice Ba ma da) := hSW.r1.cell 2; have k3 : W.cell? ⟨u1.heap.size, 3, none⟩ = some (.slice Da qa ea) := hSW.r1.cell 3; go_simp; try rfl)
  try simp only [Act.put, List.setIfInBounds_toArray, List.set_cons_zero, List.set_cons_succ]
  refine held_take 6 ?_ rfl (by kernel_rfl) (by kernel_rfl) (by kernel_rfl) (fun _ _ _ h => h) (by rfl) ?_ hSc ?_
  rotate_left
  · (intro W hSW; go_simp; try rfl)
  try simp only [Act.put, List.setIfInBounds_toArray, List.set_cons_zero, List.set_cons_succ]
  refine held_next 5 rfl (by kernel_rfl) (by rfl) ?_
  go_simp
  refine (kind_c _ p 3 _ CA.out).mono ?_
  rintro e u6 ⟨rfl, bq⟩
  have hS2 := hSc.step bq
  have RR := Lib.hid (RR.out.below bq RR.out.lt)
  have CA := Lib.hid (CA.out.step bq)
  clear hSc bq
  have hSc := hS2
  clear hS2
  refine ⟨fun W => Bx w u1.heap.size 28 #[.int .u8 κa, .slice Aa na ca, .slice Ba ma da, .slice Da qa ea] W0.heap.size 65 (mA 65536 p) W, fun W hW => hW, hSc, ?_⟩
  try simp only [Act.put, List.setIfInBounds_toArray, List.set_cons_zero, List.set_cons_succ]
  refine held_take 7 ?_ rfl (by kernel_rfl) (by kernel_rfl) (by kernel_rfl) (fun _ _ _ h => h) (by rfl) ?_ hSc ?_
  rotate_left
  · (intro W hSW; go_simp; try rfl)
  try simp only [Act.put, List.setIfInBounds_toArray, List.set_cons_zero, List.set_cons_succ]
  refine held_take 8 ?_ rfl (by kernel_rfl) (by kernel_rfl) (by kernel_rfl) (fun _ _ _ h => h) (by rfl) ?_ hSc ?_
  rotate_left
  · (intro W hSW; go_simp; try rfl)
  try simp only [Act.put, List.setIfInBounds_toArray, List.set_cons_zero, List.set_cons_succ]
  have d0 : u6.cell? ⟨w.heap.size, 0, none⟩ = some (.int .u8 0) := RR.out.cell 0
  have f0 := RR.out.frozen 0
  have d1 : u6.cell? ⟨w.heap.size, 1, none⟩ = some (.slice none 0 0) := RR.out.cell 1
  have f1 := RR.out.frozen 1
  have d2 : u6.cell? ⟨w.heap.size, 2, none⟩ = some (.slice none 0 0) := RR.out.cell 2
  have f2 := RR.out.frozen 2
  have d3 : u6.cell? ⟨w.heap.size, 3, none⟩ = some (.slice none 0 0) := RR.out.cell 3
  have f3 := RR.out.frozen 3
  refine held_next 9 rfl (by kernel_rfl) (by rfl) ?_
  go_simp
  have S4 := set4 (a' := .int .u8 κa) (b' := .slice Aa na ca) (c' := .slice Ba ma da) (d' := .slice Da qa ea) RR.out
  have hSd := hSc.stored S4.2 (Nat.le_refl _) (by omega) (by omega)
  have H5 := Lib.hid ((CA.out.grown S4.2 (fun hh => hh.1 rfl)).mono (N' := fun b => b ≠ W0.heap.size) fun b _ hn => hn.2.1)
  clear hSc
  have hSc := hSd
  clear hSd
  refine ⟨fun W => Bx w u1.heap.size 28 #[.int .u8 κa, .slice Aa na ca, .slice Ba ma da, .slice Da qa ea] W0.heap.size 65 (mA 65536 p) W, fun W hW => hW, hSc, ?_⟩
  try simp only [Act.put, List.setIfInBounds_toArray, List.set_cons_zero, List.set_cons_succ]
  refine held_next 10 rfl (by kernel_rfl) (by rfl) ?_
  go_simp
  refine ⟨fun W => Bx w u1.heap.size 28 #[.int .u8 κa, .slice Aa na ca, .slice Ba ma da, .slice Da qa ea] W0.heap.size 65 (mA 65536 p) W, fun W hW => hW, hSc, ?_⟩
  try simp only [Act.put, List.setIfInBounds_toArray, List.set_cons_zero, List.set_cons_succ]
  refine held_next 11 rfl (by kernel_rfl) (by rfl) ?_
  go_simp
  refine ⟨fun W => Bx w u1.heap.size 28 #[.int .u8 κa, .slice Aa na ca, .slice Ba ma da, .slice Da qa ea] W0.heap.size 65 (mA 65536 p) W, fun W hW => hW, hSc, ?_⟩
  try simp only [Act.put, List.setIfInBounds_toArray, List.set_cons_zero, List.set_cons_succ]
  refine wpAnyH_done (by kernel_rfl) ?_ _
  go_wp2
  exact bodyPost_ret (ret_row3 rfl rfl rfl rfl S4.1) rfl ⟨_, _, rfl, hSc.r2, hg3, H5.out, hSc.bel⟩

theorem make3_c (v : Value) (l : List UInt16) (p : Nat → Bool) (k : Nat) (w : World) (hT : Tb w) (hv : Gs e16 w 0 w.heap.size v l) (hl : l.length ≤ 3000) (hp : mk l = p) (hk : 1 ≤ k ∧ k ≤ 3) :
    Calls Tryz.prog 7 #[v, .int .u8 k] w fun e w' => ∃ v' gm, e = .returned (.tuple #[v', .pointer (some ⟨gm, 0, none⟩), .bool true]) ∧ Row w' gm 65 (mA 65536 p) ∧ w.heap.size ≤ gm ∧ Cn (fun b => b ≠ gm) w' v' p k ∧ Below w.heap.size w w' := by
  have hk2 : k = 1 ∨ k = 2 ∨ k = 3 := by omega
  rcases hk2 with rfl | rfl | rfl
  · exact make3_1 v l p w hT hv hl hp
  · exact make3_2 v l p w hT hv hl hp
  · exact make3_3 v l p w hT hv hl hp
end Go.Proofs.YtfefmlnlicilbaaGreatDoor
