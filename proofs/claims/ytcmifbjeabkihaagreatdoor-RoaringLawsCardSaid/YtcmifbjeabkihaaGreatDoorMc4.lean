/- Walks: OfWords, OfRuns (cut from stage 7). -/
import Derived.Test.YtcmifbjeabkihaaGreatDoorMc3
import Derived.Test.YtcmifbjeabkihaaGreatDoorMa9
import Derived.Test.YtcmifbjeabkihaaGreatDoorMb9
/- Walks: two containers, paired: And, Or, AndNot, Xor. -/
namespace Go.Proofs.YtcmifbjeabkihaaGreatDoor
open Go.RowKit
set_option linter.unusedVariables false

set_option maxHeartbeats 4000000 in
theorem of_c {N : Nat → Prop} {f : Bool → Bool → Bool} {fA fW fR : FuncId} (H : Prs f fA fW fR) (v u : Value) (p q : Nat → Bool) (k j : Nat) (w : World) (hT : Tb w) (hN : ∀ b, w.heap.size ≤ b → N b) (h : Cn N w v p k) (g : Cn N w u q j) :
    Calls Tryz.prog 120 #[.agg #[.func (.func fA) #[] #[], .func (.func fW) #[] #[], .func (.func fR) #[] #[]], v, u] w fun e w' => ∃ v', e = .returned v' ∧ Cn N w' v' (fun x => f (p x) (q x)) (ck (fun x => f (p x) (q x))) ∧ Below w.heap.size w w' := by
  obtain ⟨κa, Aa, na, ca, Ba, ma, da, Da, qa, ea, rfl⟩ := h.form
  obtain ⟨κb, Ab, nb, cb, Bb, mb, db, Db, qb, eb, rfl⟩ := g.form
  have H1 := Lib.hid (h.mono (N' := fun b => N b ∧ b < w.heap.size) fun b hb hn => ⟨hn, hb⟩)
  have H2 := Lib.hid (g.mono (N' := fun b => N b ∧ b < w.heap.size) fun b hb hn => ⟨hn, hb⟩)
  have KK := Lib.hid h.kind
  have KJ := Lib.hid g.kind
  have HH := Lib.hid H
  have TT := Lib.hid hT
  have NN := Lib.hid hN
  have X := four_blocks w #[.func (.func fA) #[] #[], .func (.func fW) #[] #[], .func (.func fR) #[] #[]] #[.int .u8 κa, .slice Aa na ca, .slice Ba ma da, .slice Da qa ea] #[.int .u8 κb, .slice Ab nb cb, .slice Bb mb db, .slice Db qb eb] #[.int .u8 0, .slice none 0 0, .slice none 0 0, .slice none 0 0] 159 65 65 65
  clear h g hT hN H
  go_enter Tryz.func120, Tryz.ntmps120
  go_wp2_with fail
  generalize (((w.alloc (.cells #[.func (.func fA) #[] #[], .func (.func fW) #[] #[], .func (.func fR) #[] #[]] 159)).alloc (.cells #[.int .u8 κa, .slice Aa na ca, .slice Ba ma da, .slice Da qa ea] 65)).alloc (.cells #[.int .u8 κb, .slice Ab nb cb, .slice Bb mb db, .slice Db qb eb] 65)).alloc (.cells #[.int .u8 0, .slice none 0 0, .slice none 0 0, .slice none 0 0] 65) = W0 at *
  obtain ⟨x1, x2, x3⟩ := X
  have hSc : B3 w w.heap.size 159 #[.func (.func fA) #[] #[], .func (.func fW) #[] #[], .func (.func fR) #[] #[]] (w.heap.size + 1) 65 #[.int .u8 κa, .slice Aa na ca, .slice Ba ma da, .slice Da qa ea] (w.heap.size + 2) 65 #[.int .u8 κb, .slice Ab nb cb, .slice Bb mb db, .slice Db qb eb] W0.drew := ⟨x1.bel.drew, x1.r1, x1.r2, x1.r3⟩
  have H1 := Lib.hid (H1.out.step x1.bel.drew)
  have H2 := Lib.hid (H2.out.step x1.bel.drew)
  have T2 := Lib.hid (TT.out.step x1.bel.drew)
  have RR := Lib.hid (show Row W0.drew (w.heap.size + 3) _ _ from x2)
  have SZ : w.heap.size + 4 ≤ W0.drew.heap.size := Nat.le_of_eq x3.symm
  clear x1 x2 x3 TT
  refine wp_region_held_drew (S := fun W => B3 w w.heap.size 159 #[.func (.func fA) #[] #[], .func (.func fW) #[] #[], .func (.func fR) #[] #[]] (w.heap.size + 1) 65 #[.int .u8 κa, .slice Aa na ca, .slice Ba ma da, .slice Da qa ea] (w.heap.size + 2) 65 #[.int .u8 κb, .slice Ab nb cb, .slice Bb mb db, .slice Db qb eb] W) (by kernel_rfl) hSc (fun _ => ?_)
  refine held_take 0 ?_ rfl (by kernel_rfl) (by kernel_rfl) (by kernel_rfl) (fun _ _ _ h => h) (by rfl) ?_ hSc ?_
  rotate_left
  · (intro W hSW; have k0 : W.cell? ⟨w.heap.size, 0, none⟩ = some (.func (.func fA) #[] #[]) := hSW.r1.cell 0; have k1 : W.cell? ⟨w.heap.size, 1, none⟩ = some (.func (.func fW) #[] #[]) := hSW.r1.cell 1; have k2 : W.cell? ⟨w.heap.size, 2, none⟩ = some (.func (.func fR) #[] #[]) := hSW.r1.cell 2; go_simp; try rfl)
  try simp only [Act.put, List.setIfInBounds_toArray, List.set_cons_zero, List.set_cons_succ]
  refine held_take 1 ?_ rfl (by kernel_rfl) (by kernel_rfl) (by kernel_rfl) (fun _ _ _ h => h) (by rfl) ?_ hSc ?_
  rotate_left
  · (intro W hSW; have k0 : W.cell? ⟨w.heap.size + 1, 0, none⟩ = some (.int .u8 κa) := hSW.r2.cell 0; have k1 : W.cell? ⟨w.heap.size + 1, 1, none⟩ = some (.slice Aa na ca) := hSW.r2.cell 1; have k2 : W.cell? ⟨w.heap.size + 1, 2, none⟩ = some (.slice Ba ma da) := hSW.r2.cell 2; have k3 : W.cell? ⟨w.heap.size + 1, 3, none⟩ = some (.slice Da qa ea) := hSW.r2.cell 3; go_simp; try rfl)
  try simp only [Act.put, List.setIfInBounds_toArray, List.set_cons_zero, List.set_cons_succ]
  refine held_take 3 ?_ rfl (by kernel_rfl) (by kernel_rfl) (by kernel_rfl) (fun _ _ _ h => h) (by rfl) ?_ hSc ?_
  rotate_left
  · (intro W hSW; have k0 : W.cell? ⟨w.heap.size + 2, 0, none⟩ = some (.int .u8 κb) := hSW.r3.cell 0; have k1 : W.cell? ⟨w.heap.size + 2, 1, none⟩ = some (.slice Ab nb cb) := hSW.r3.cell 1; have k2 : W.cell? ⟨w.heap.size + 2, 2, none⟩ = some (.slice Bb mb db) := hSW.r3.cell 2; have k3 : W.cell? ⟨w.heap.size + 2, 3, none⟩ = some (.slice Db qb eb) := hSW.r3.cell 3; go_simp; try rfl)
  try simp only [Act.put, List.setIfInBounds_toArray, List.set_cons_zero, List.set_cons_succ]
  refine held_next 2 rfl (by kernel_rfl) (by rfl) ?_
  go_simp
  refine (kind_c _ p k _ H1.out).mono ?_
  rintro e u1 ⟨rfl, bq⟩
  have hS2 := hSc.step bq
  have RR := Lib.hid (RR.out.below bq RR.out.lt)
  have T2 := Lib.hid (T2.out.step bq)
  have H1 := Lib.hid (H1.out.step bq)
  have H2 := Lib.hid (H2.out.step bq)
  have SZ1 := bq.size
  clear hSc bq
  have hSc := hS2
  clear hS2
  refine ⟨fun W => B3 w w.heap.size 159 #[.func (.func fA) #[] #[], .func (.func fW) #[] #[], .func (.func fR) #[] #[]] (w.heap.size + 1) 65 #[.int .u8 κa, .slice Aa na ca, .slice Ba ma da, .slice Da qa ea] (w.heap.size + 2) 65 #[.int .u8 κb, .slice Ab nb cb, .slice Bb mb db, .slice Db qb eb] W, fun W hW => hW, hSc, ?_⟩
  try simp only [Act.put, List.setIfInBounds_toArray, List.set_cons_zero, List.set_cons_succ]
  refine held_next 4 rfl (by kernel_rfl) (by rfl) ?_
  go_simp
  refine (kind_c _ q j _ H2.out).mono ?_
  rintro e u2 ⟨rfl, bq⟩
  have hS2 := hSc.step bq
  have RR := Lib.hid (RR.out.below bq RR.out.lt)
  have T2 := Lib.hid (T2.out.step bq)
  have H1 := Lib.hid (H1.out.step bq)
  have H2 := Lib.hid (H2.out.step bq)
  have SZ2 := bq.size
  clear hSc bq
  have hSc := hS2
  clear hS2
  refine ⟨fun W => B3 w w.heap.size 159 #[.func (.func fA) #[] #[], .func (.func fW) #[] #[], .func (.func fR) #[] #[]] (w.heap.size + 1) 65 #[.int .u8 κa, .slice Aa na ca, .slice Ba ma da, .slice Da qa ea] (w.heap.size + 2) 65 #[.int .u8 κb, .slice Ab nb cb, .slice Bb mb db, .slice Db qb eb] W, fun W hW => hW, hSc, ?_⟩
  try simp only [Act.put, List.setIfInBounds_toArray, List.set_cons_zero, List.set_cons_succ]
  refine held_next 5 rfl (by kernel_rfl) (by rfl) ?_
  go_simp
  refine (call_c HH.out k j _ KK.out KJ.out).mono ?_
  rintro e u3 ⟨X, rfl, hw, bq⟩
  have HX := hw.1
  unfold Enters at HX
  have WX := Lib.hid hw.2
  clear hw
  have hS2 := hSc.step bq
  have RR := Lib.hid (RR.out.below bq RR.out.lt)
  have T2 := Lib.hid (T2.out.step bq)
  have H1 := Lib.hid (H1.out.step bq)
  have H2 := Lib.hid (H2.out.step bq)
  have SZ3 := bq.size
  clear hSc bq
  have hSc := hS2
  clear hS2
  refine ⟨fun W => B3 w w.heap.size 159 #[.func (.func fA) #[] #[], .func (.func fW) #[] #[], .func (.func fR) #[] #[]] (w.heap.size + 1) 65 #[.int .u8 κa, .slice Aa na ca, .slice Ba ma da, .slice Da qa ea] (w.heap.size + 2) 65 #[.int .u8 κb, .slice Ab nb cb, .slice Bb mb db, .slice Db qb eb] W, fun W hW => hW, hSc, ?_⟩
  try simp only [Act.put, List.setIfInBounds_toArray, List.set_cons_zero, List.set_cons_succ]
  refine held_next 6 rfl (by kernel_rfl) (by rfl) ?_
  go_simp
  refine ⟨fun W => B3 w w.heap.size 159 #[.func (.func fA) #[] #[], .func (.func fW) #[] #[], .func (.func fR) #[] #[]] (w.heap.size + 1) 65 #[.int .u8 κa, .slice Aa na ca, .slice Ba ma da, .slice Da qa ea] (w.heap.size + 2) 65 #[.int .u8 κb, .slice Ab nb cb, .slice Bb mb db, .slice Db qb eb] W, fun W hW => hW, hSc, ?_⟩
  refine wpAnyH_done (by kernel_rfl) ?_ _
  have k0 : u3.cell? ⟨w.heap.size + 1, 0, none⟩ = some (.int .u8 κa) := hSc.r2.cell 0
  have k1 : u3.cell? ⟨w.heap.size + 1, 1, none⟩ = some (.slice Aa na ca) := hSc.r2.cell 1
  have k2 : u3.cell? ⟨w.heap.size + 1, 2, none⟩ = some (.slice Ba ma da) := hSc.r2.cell 2
  have k3 : u3.cell? ⟨w.heap.size + 1, 3, none⟩ = some (.slice Da qa ea) := hSc.r2.cell 3
  have l0 : u3.cell? ⟨w.heap.size + 2, 0, none⟩ = some (.int .u8 κb) := hSc.r3.cell 0
  have l1 : u3.cell? ⟨w.heap.size + 2, 1, none⟩ = some (.slice Ab nb cb) := hSc.r3.cell 1
  have l2 : u3.cell? ⟨w.heap.size + 2, 2, none⟩ = some (.slice Bb mb db) := hSc.r3.cell 2
  have l3 : u3.cell? ⟨w.heap.size + 2, 3, none⟩ = some (.slice Db qb eb) := hSc.r3.cell 3
  have BB := Lib.hid hSc.bel
  have NC : Hid (∀ b, u3.heap.size ≤ b → N b ∧ b ≠ w.heap.size + 3) := Lib.hid fun b hb => ⟨NN.out b (by omega), by omega⟩
  have H1 := Lib.hid (H1.out.mono (N' := fun b => N b ∧ b ≠ w.heap.size + 3) fun b _ hn => ⟨hn.1, by have := hn.2; omega⟩)
  have H2 := Lib.hid (H2.out.mono (N' := fun b => N b ∧ b ≠ w.heap.size + 3) fun b _ hn => ⟨hn.1, by have := hn.2; omega⟩)
  clear hSc
  go_wp2_with fail
  refine (WX.out _ _ _ p q k j _ T2.out NC.out H1.out H2.out).mono ?_
  rintro e u4 ⟨v4, k4, rfl, gq, bq⟩
  have RR := Lib.hid (RR.out.below bq RR.out.lt)
  have T2 := Lib.hid (T2.out.step bq)
  have BB := Lib.hid (below_both BB.out bq)
  have NC : Hid (∀ b, u4.heap.size ≤ b → N b ∧ b ≠ w.heap.size + 3) := Lib.hid fun b hb => NC.out b (Nat.le_trans bq.size hb)
  have G := Lib.hid gq
  clear gq bq k0 k1 k2 k3 l0 l1 l2 l3
  go_wp2_with fail
  refine (canonical_c v4 _ k4 _ T2.out NC.out G.out).mono ?_
  rintro e u5 ⟨v5, rfl, gq, bq⟩
  obtain ⟨κ5, A5, n5, c5, A6, n6, c6, A7, n7, c7, rfl⟩ := gq.form
  have RR := Lib.hid (RR.out.below bq RR.out.lt)
  have BB := Lib.hid (below_both BB.out bq)
  have G := Lib.hid gq
  clear gq bq
  have d0 : u5.cell? ⟨w.heap.size + 3, 0, none⟩ = some (.int .u8 0) := RR.out.cell 0
  have f0 := RR.out.frozen 0
  have d1 : u5.cell? ⟨w.heap.size + 3, 1, none⟩ = some (.slice none 0 0) := RR.out.cell 1
  have f1 := RR.out.frozen 1
  have d2 : u5.cell? ⟨w.heap.size + 3, 2, none⟩ = some (.slice none 0 0) := RR.out.cell 2
  have f2 := RR.out.frozen 2
  have d3 : u5.cell? ⟨w.heap.size + 3, 3, none⟩ = some (.slice none 0 0) := RR.out.cell 3
  have f3 := RR.out.frozen 3
  go_wp2
  have S4 := set4 (a' := .int .u8 κ5) (b' := .slice A5 n5 c5) (c' := .slice A6 n6 c6) (d' := .slice A7 n7 c7) RR.out
  have B5 := Lib.hid (BB.out.grown S4.2 BB.out.size (fun j e => by injection e with e; subst e; omega))
  have H5 := Lib.hid ((G.out.grown S4.2 (fun hh => hh.2 rfl)).mono fun b _ hn => hn.1)
  exact bodyPost_ret (ret_row rfl rfl S4.1) rfl ⟨_, rfl, H5.out, B5.out⟩

set_option maxHeartbeats 2000000 in
theorem cand {N : Nat → Prop} (v u : Value) (p q : Nat → Bool) (k j : Nat) (w : World) (hT : Tb w) (hN : ∀ b, w.heap.size ≤ b → N b) (h : Cn N w v p k) (g : Cn N w u q j) :
    Calls Tryz.prog 61 #[v, u] w fun e w' => ∃ v', e = .returned v' ∧ Cn N w' v' (fun x => fAnd (p x) (q x)) (ck (fun x => fAnd (p x) (q x))) ∧ Below w.heap.size w w' := by
  obtain ⟨κa, Aa, na, ca, Ba, ma, da, Da, qa, ea, rfl⟩ := h.form
  obtain ⟨κb, Ab, nb, cb, Bb, mb, db, Db, qb, eb, rfl⟩ := g.form
  have H1 := Lib.hid (h.mono (N' := fun b => N b ∧ b < w.heap.size) fun b hb hn => ⟨hn, hb⟩)
  have H2 := Lib.hid (g.mono (N' := fun b => N b ∧ b < w.heap.size) fun b hb hn => ⟨hn, hb⟩)
  have TT := Lib.hid hT
  have NN := Lib.hid hN
  have X := three_blocks w #[.int .u8 κa, .slice Aa na ca, .slice Ba ma da, .slice Da qa ea] #[.int .u8 κb, .slice Ab nb cb, .slice Bb mb db, .slice Db qb eb] #[.int .u8 0, .slice none 0 0, .slice none 0 0, .slice none 0 0] 65 65 65
  clear h g hT hN
  go_enter Tryz.func61, Tryz.ntmps61
  go_wp2_with fail
  generalize ((w.alloc (.cells #[.int .u8 κa, .slice Aa na ca, .slice Ba ma da, .slice Da qa ea] 65)).alloc (.cells #[.int .u8 κb, .slice Ab nb cb, .slice Bb mb db, .slice Db qb eb] 65)).alloc (.cells #[.int .u8 0, .slice none 0 0, .slice none 0 0, .slice none 0 0] 65) = W0 at *
  obtain ⟨x1, x2, x3⟩ := X
  have RR := Lib.hid x1.r2
  have BB := Lib.hid x1.bel
  have NC : Hid (∀ b, W0.heap.size ≤ b → N b ∧ b ≠ w.heap.size + 2) := Lib.hid fun b hb => ⟨NN.out b (by omega), by omega⟩
  have H1 := Lib.hid ((H1.out.step x1.bel).mono (N' := fun b => N b ∧ b ≠ w.heap.size + 2) fun b _ hn => ⟨hn.1, by have := hn.2; omega⟩)
  have H2 := Lib.hid ((H2.out.step x1.bel).mono (N' := fun b => N b ∧ b ≠ w.heap.size + 2) fun b _ hn => ⟨hn.1, by have := hn.2; omega⟩)
  clear x1 x2 x3
  refine (of_c prs_and _ _ p q k j _ (TT.out.step BB.out) NC.out H1.out H2.out).mono ?_
  rintro e u5 ⟨v5, rfl, gq, bq⟩
  obtain ⟨κ5, A5, n5, c5, A6, n6, c6, A7, n7, c7, rfl⟩ := gq.form
  have RR := Lib.hid (RR.out.below bq RR.out.lt)
  have BB := Lib.hid (below_both BB.out bq)
  have G := Lib.hid gq
  clear gq bq
  have d0 : u5.cell? ⟨w.heap.size + 2, 0, none⟩ = some (.int .u8 0) := RR.out.cell 0
  have f0 := RR.out.frozen 0
  have d1 : u5.cell? ⟨w.heap.size + 2, 1, none⟩ = some (.slice none 0 0) := RR.out.cell 1
  have f1 := RR.out.frozen 1
  have d2 : u5.cell? ⟨w.heap.size + 2, 2, none⟩ = some (.slice none 0 0) := RR.out.cell 2
  have f2 := RR.out.frozen 2
  have d3 : u5.cell? ⟨w.heap.size + 2, 3, none⟩ = some (.slice none 0 0) := RR.out.cell 3
  have f3 := RR.out.frozen 3
  go_wp2
  have S4 := set4 (a' := .int .u8 κ5) (b' := .slice A5 n5 c5) (c' := .slice A6 n6 c6) (d' := .slice A7 n7 c7) RR.out
  have B5 := Lib.hid (BB.out.grown S4.2 BB.out.size (fun j e => by injection e with e; subst e; omega))
  have H5 := Lib.hid ((G.out.grown S4.2 (fun hh => hh.2 rfl)).mono fun b _ hn => hn.1)
  exact bodyPost_ret (ret_row rfl rfl S4.1) rfl ⟨_, rfl, H5.out, B5.out⟩

set_option maxHeartbeats 2000000 in
theorem cor {N : Nat → Prop} (v u : Value) (p q : Nat → Bool) (k j : Nat) (w : World) (hT : Tb w) (hN : ∀ b, w.heap.size ≤ b → N b) (h : Cn N w v p k) (g : Cn N w u q j) :
    Calls Tryz.prog 63 #[v, u] w fun e w' => ∃ v', e = .returned v' ∧ Cn N w' v' (fun x => fOr (p x) (q x)) (ck (fun x => fOr (p x) (q x))) ∧ Below w.heap.size w w' := by
  obtain ⟨κa, Aa, na, ca, Ba, ma, da, Da, qa, ea, rfl⟩ := h.form
  obtain ⟨κb, Ab, nb, cb, Bb, mb, db, Db, qb, eb, rfl⟩ := g.form
  have H1 := Lib.hid (h.mono (N' := fun b => N b ∧ b < w.heap.size) fun b hb hn => ⟨hn, hb⟩)
  have H2 := Lib.hid (g.mono (N' := fun b => N b ∧ b < w.heap.size) fun b hb hn => ⟨hn, hb⟩)
  have TT := Lib.hid hT
  have NN := Lib.hid hN
  have X := three_blocks w #[.int .u8 κa, .slice Aa na ca, .slice Ba ma da, .slice Da qa ea] #[.int .u8 κb, .slice Ab nb cb, .slice Bb mb db, .slice Db qb eb] #[.int .u8 0, .slice none 0 0, .slice none 0 0, .slice none 0 0] 65 65 65
  clear h g hT hN
  go_enter Tryz.func63, Tryz.ntmps63
  go_wp2_with fail
  generalize ((w.alloc (.cells #[.int .u8 κa, .slice Aa na ca, .slice Ba ma da, .slice Da qa ea] 65)).alloc (.cells #[.int .u8 κb, .slice Ab nb cb, .slice Bb mb db, .slice Db qb eb] 65)).alloc (.cells #[.int .u8 0, .slice none 0 0, .slice none 0 0, .slice none 0 0] 65) = W0 at *
  obtain ⟨x1, x2, x3⟩ := X
  have RR := Lib.hid x1.r2
  have BB := Lib.hid x1.bel
  have NC : Hid (∀ b, W0.heap.size ≤ b → N b ∧ b ≠ w.heap.size + 2) := Lib.hid fun b hb => ⟨NN.out b (by omega), by omega⟩
  have H1 := Lib.hid ((H1.out.step x1.bel).mono (N' := fun b => N b ∧ b ≠ w.heap.size + 2) fun b _ hn => ⟨hn.1, by have := hn.2; omega⟩)
  have H2 := Lib.hid ((H2.out.step x1.bel).mono (N' := fun b => N b ∧ b ≠ w.heap.size + 2) fun b _ hn => ⟨hn.1, by have := hn.2; omega⟩)
  clear x1 x2 x3
  refine (of_c prs_or _ _ p q k j _ (TT.out.step BB.out) NC.out H1.out H2.out).mono ?_
  rintro e u5 ⟨v5, rfl, gq, bq⟩
  obtain ⟨κ5, A5, n5, c5, A6, n6, c6, A7, n7, c7, rfl⟩ := gq.form
  have RR := Lib.hid (RR.out.below bq RR.out.lt)
  have BB := Lib.hid (below_both BB.out bq)
  have G := Lib.hid gq
  clear gq bq
  have d0 : u5.cell? ⟨w.heap.size + 2, 0, none⟩ = some (.int .u8 0) := RR.out.cell 0
  have f0 := RR.out.frozen 0
  have d1 : u5.cell? ⟨w.heap.size + 2, 1, none⟩ = some (.slice none 0 0) := RR.out.cell 1
  have f1 := RR.out.frozen 1
  have d2 : u5.cell? ⟨w.heap.size + 2, 2, none⟩ = some (.slice none 0 0) := RR.out.cell 2
  have f2 := RR.out.frozen 2
  have d3 : u5.cell? ⟨w.heap.size + 2, 3, none⟩ = some (.slice none 0 0) := RR.out.cell 3
  have f3 := RR.out.frozen 3
  go_wp2
  have S4 := set4 (a' := .int .u8 κ5) (b' := .slice A5 n5 c5) (c' := .slice A6 n6 c6) (d' := .slice A7 n7 c7) RR.out
  have B5 := Lib.hid (BB.out.grown S4.2 BB.out.size (fun j e => by injection e with e; subst e; omega))
  have H5 := Lib.hid ((G.out.grown S4.2 (fun hh => hh.2 rfl)).mono fun b _ hn => hn.1)
  exact bodyPost_ret (ret_row rfl rfl S4.1) rfl ⟨_, rfl, H5.out, B5.out⟩

set_option maxHeartbeats 2000000 in
theorem cnot {N : Nat → Prop} (v u : Value) (p q : Nat → Bool) (k j : Nat) (w : World) (hT : Tb w) (hN : ∀ b, w.heap.size ≤ b → N b) (h : Cn N w v p k) (g : Cn N w u q j) :
    Calls Tryz.prog 64 #[v, u] w fun e w' => ∃ v', e = .returned v' ∧ Cn N w' v' (fun x => fNot (p x) (q x)) (ck (fun x => fNot (p x) (q x))) ∧ Below w.heap.size w w' := by
  obtain ⟨κa, Aa, na, ca, Ba, ma, da, Da, qa, ea, rfl⟩ := h.form
  obtain ⟨κb, Ab, nb, cb, Bb, mb, db, Db, qb, eb, rfl⟩ := g.form
  have H1 := Lib.hid (h.mono (N' := fun b => N b ∧ b < w.heap.size) fun b hb hn => ⟨hn, hb⟩)
  have H2 := Lib.hid (g.mono (N' := fun b => N b ∧ b < w.heap.size) fun b hb hn => ⟨hn, hb⟩)
  have TT := Lib.hid hT
  have NN := Lib.hid hN
  have X := three_blocks w #[.int .u8 κa, .slice Aa na ca, .slice Ba ma da, .slice Da qa ea] #[.int .u8 κb, .slice Ab nb cb, .slice Bb mb db, .slice Db qb eb] #[.int .u8 0, .slice none 0 0, .slice none 0 0, .slice none 0 0] 65 65 65
  clear h g hT hN
  go_enter Tryz.func64, Tryz.ntmps64
  go_wp2_with fail
  generalize ((w.alloc (.cells #[.int .u8 κa, .slice Aa na ca, .slice Ba ma da, .slice Da qa ea] 65)).alloc (.cells #[.int .u8 κb, .slice Ab nb cb, .slice Bb mb db, .slice Db qb eb] 65)).alloc (.cells #[.int .u8 0, .slice none 0 0, .slice none 0 0, .slice none 0 0] 65) = W0 at *
  obtain ⟨x1, x2, x3⟩ := X
  have RR := Lib.hid x1.r2
  have BB := Lib.hid x1.bel
  have NC : Hid (∀ b, W0.heap.size ≤ b → N b ∧ b ≠ w.heap.size + 2) := Lib.hid fun b hb => ⟨NN.out b (by omega), by omega⟩
  have H1 := Lib.hid ((H1.out.step x1.bel).mono (N' := fun b => N b ∧ b ≠ w.heap.size + 2) fun b _ hn => ⟨hn.1, by have := hn.2; omega⟩)
  have H2 := Lib.hid ((H2.out.step x1.bel).mono (N' := fun b => N b ∧ b ≠ w.heap.size + 2) fun b _ hn => ⟨hn.1, by have := hn.2; omega⟩)
  clear x1 x2 x3
  refine (of_c prs_not _ _ p q k j _ (TT.out.step BB.out) NC.out H1.out H2.out).mono ?_
  rintro e u5 ⟨v5, rfl, gq, bq⟩
  obtain ⟨κ5, A5, n5, c5, A6, n6, c6, A7, n7, c7, rfl⟩ := gq.form
  have RR := Lib.hid (RR.out.below bq RR.out.lt)
  have BB := Lib.hid (below_both BB.out bq)
  have G := Lib.hid gq
  clear gq bq
  have d0 : u5.cell? ⟨w.heap.size + 2, 0, none⟩ = some (.int .u8 0) := RR.out.cell 0
  have f0 := RR.out.frozen 0
  have d1 : u5.cell? ⟨w.heap.size + 2, 1, none⟩ = some (.slice none 0 0) := RR.out.cell 1
  have f1 := RR.out.frozen 1
  have d2 : u5.cell? ⟨w.heap.size + 2, 2, none⟩ = some (.slice none 0 0) := RR.out.cell 2
  have f2 := RR.out.frozen 2
  have d3 : u5.cell? ⟨w.heap.size + 2, 3, none⟩ = some (.slice none 0 0) := RR.out.cell 3
  have f3 := RR.out.frozen 3
  go_wp2
  have S4 := set4 (a' := .int .u8 κ5) (b' := .slice A5 n5 c5) (c' := .slice A6 n6 c6) (d' := .slice A7 n7 c7) RR.out
  have B5 := Lib.hid (BB.out.grown S4.2 BB.out.size (fun j e => by injection e with e; subst e; omega))
  have H5 := Lib.hid ((G.out.grown S4.2 (fun hh => hh.2 rfl)).mono fun b _ hn => hn.1)
  exact bodyPost_ret (ret_row rfl rfl S4.1) rfl ⟨_, rfl, H5.out, B5.out⟩

set_option maxHeartbeats 2000000 in
theorem cxor {N : Nat → Prop} (v u : Value) (p q : Nat → Bool) (k j : Nat) (w : World) (hT : Tb w) (hN : ∀ b, w.heap.size ≤ b → N b) (h : Cn N w v p k) (g : Cn N w u q j) :
    Calls Tryz.prog 65 #[v, u] w fun e w' => ∃ v', e = .returned v' ∧ Cn N w' v' (fun x => fXor (p x) (q x)) (ck (fun x => fXor (p x) (q x))) ∧ Below w.heap.size w w' := by
  obtain ⟨κa, Aa, na, ca, Ba, ma, da, Da, qa, ea, rfl⟩ := h.form
  obtain ⟨κb, Ab, nb, cb, Bb, mb, db, Db, qb, eb, rfl⟩ := g.form
  have H1 := Lib.hid (h.mono (N' := fun b => N b ∧ b < w.heap.size) fun b hb hn => ⟨hn, hb⟩)
  have H2 := Lib.hid (g.mono (N' := fun b => N b ∧ b < w.heap.size) fun b hb hn => ⟨hn, hb⟩)
  have TT := Lib.hid hT
  have NN := Lib.hid hN
  have X := three_blocks w #[.int .u8 κa, .slice Aa na ca, .slice Ba ma da, .slice Da qa ea] #[.int .u8 κb, .slice Ab nb cb, .slice Bb mb db, .slice Db qb eb] #[.int .u8 0, .slice none 0 0, .slice none 0 0, .slice none 0 0] 65 65 65
  clear h g hT hN
  go_enter Tryz.func65, Tryz.ntmps65
  go_wp2_with fail
  generalize ((w.alloc (.cells #[.int .u8 κa, .slice Aa na ca, .slice Ba ma da, .slice Da qa ea] 65)).alloc (.cells #[.int .u8 κb, .slice Ab nb cb, .slice Bb mb db, .slice Db qb eb] 65)).alloc (.cells #[.int .u8 0, .slice none 0 0, .slice none 0 0, .slice none 0 0] 65) = W0 at *
  obtain ⟨x1, x2, x3⟩ := X
  have RR := Lib.hid x1.r2
  have BB := Lib.hid x1.bel
  have NC : Hid (∀ b, W0.heap.size ≤ b → N b ∧ b ≠ w.heap.size + 2) := Lib.hid fun b hb => ⟨NN.out b (by omega), by omega⟩
  have H1 := Lib.hid ((H1.out.step x1.bel).mono (N' := fun b => N b ∧ b ≠ w.heap.size + 2) fun b _ hn => ⟨hn.1, by have := hn.2; omega⟩)
  have H2 := Lib.hid ((H2.out.step x1.bel).mono (N' := fun b => N b ∧ b ≠ w.heap.size + 2) fun b _ hn => ⟨hn.1, by have := hn.2; omega⟩)
  clear x1 x2 x3
  refine (of_c prs_xor _ _ p q k j _ (TT.out.step BB.out) NC.out H1.out H2.out).mono ?_
  rintro e u5 ⟨v5, rfl, gq, bq⟩
  obtain ⟨κ5, A5, n5, c5, A6, n6, c6, A7, n7, c7, rfl⟩ := gq.form
  have RR := Lib.hid (RR.out.below bq RR.out.lt)
  have BB := Lib.hid (below_both BB.out bq)
  have G := Lib.hid gq
  clear gq bq
  have d0 : u5.cell? ⟨w.heap.size + 2, 0, none⟩ = some (.int .u8 0) := RR.out.cell 0
  have f0 := RR.out.frozen 0
  have d1 : u5.cell? ⟨w.heap.size + 2, 1, none⟩ = some (.slice none 0 0) := RR.out.cell 1
  have f1 := RR.out.frozen 1
  have d2 : u5.cell? ⟨w.heap.size + 2, 2, none⟩ = some (.slice none 0 0) := RR.out.cell 2
  have f2 := RR.out.frozen 2
  have d3 : u5.cell? ⟨w.heap.size + 2, 3, none⟩ = some (.slice none 0 0) := RR.out.cell 3
  have f3 := RR.out.frozen 3
  go_wp2
  have S4 := set4 (a' := .int .u8 κ5) (b' := .slice A5 n5 c5) (c' := .slice A6 n6 c6) (d' := .slice A7 n7 c7) RR.out
  have B5 := Lib.hid (BB.out.grown S4.2 BB.out.size (fun j e => by injection e with e; subst e; omega))
  have H5 := Lib.hid ((G.out.grown S4.2 (fun hh => hh.2 rfl)).mono fun b _ hn => hn.1)
  exact bodyPost_ret (ret_row rfl rfl S4.1) rfl ⟨_, rfl, H5.out, B5.out⟩
end Go.Proofs.YtcmifbjeabkihaaGreatDoor
namespace Go.Proofs.YtcmifbjeabkihaaGreatDoor
open Go.RowKit
set_option linter.unusedVariables false


theorem ofWords_yes {N : Nat → Prop} (A : Option Addr) (n c : Nat) (p : Nat → Bool) (w : World) (hN : ∀ b, w.heap.size ≤ b → N b) (hv : Gs e64 w 0 w.heap.size (.slice A 1024 c) (wm p)) :
    Calls Tryz.prog 36 #[.slice A 1024 c] w fun e w' => ∃ v', e = .returned (.tuple #[v', .bool true]) ∧ Cn N w' v' p 2 ∧ Below w.heap.size w w' := by
  have HV := Lib.hid hv
  have NN := Lib.hid hN
  have r0 := Row.new w 65 #[.int .u8 0, .slice none 0 0, .slice none 0 0, .slice none 0 0]
  have b0 := bx w (.cells #[.int .u8 0, .slice none 0 0, .slice none 0 0, .slice none 0 0] 65)
  clear hv hN
  go_enter Tryz.func36, Tryz.ntmps36
  go_wp2_with fail
  generalize w.alloc (.cells #[.int .u8 0, .slice none 0 0, .slice none 0 0, .slice none 0 0] 65) = W0 at *
  have lg := r0.lt
  have RR := Lib.hid r0
  have BB := Lib.hid b0
  clear r0 b0
  refine (sclone64 _ p 0 _ (HV.out.stp BB.out)).mono ?_
  rintro e u2 ⟨X, x, rfl, g, b⟩
  have G := Lib.hid g
  have RR := Lib.hid (RR.out.below b RR.out.lt)
  have BB := Lib.hid (below_both BB.out b)
  have hs := b.size
  clear b g
  go_wp2_with fail
  refine (ofWords_v _ _ _ _).mono ?_
  rintro e u3 ⟨rfl, b⟩
  have G := Lib.hid (G.out.stp b)
  have RR := Lib.hid (RR.out.below b RR.out.lt)
  have BB := Lib.hid (below_both BB.out b)
  clear b
  have d0 : u3.cell? ⟨w.heap.size, 0, none⟩ = some (.int .u8 0) := RR.out.cell 0
  have f0 := RR.out.frozen 0
  have d1 : u3.cell? ⟨w.heap.size, 1, none⟩ = some (.slice none 0 0) := RR.out.cell 1
  have f1 := RR.out.frozen 1
  have d2 : u3.cell? ⟨w.heap.size, 2, none⟩ = some (.slice none 0 0) := RR.out.cell 2
  have f2 := RR.out.frozen 2
  have d3 : u3.cell? ⟨w.heap.size, 3, none⟩ = some (.slice none 0 0) := RR.out.cell 3
  have f3 := RR.out.frozen 3
  go_wp2
  have S4 := set4 (a' := .int .u8 2) (b' := .slice none 0 0) (c' := .slice X 1024 x) (d' := .slice none 0 0) RR.out
  have B5 := Lib.hid (BB.out.grown S4.2 BB.out.size (fun j e => by injection e with e; subst e; omega))
  have G5 := G.out.grown S4.2 (Nat.le_refl _) (fun j e => by injection e with e; subst e; exact .inl (by omega))
  exact bodyPost_ret (ret_row2 rfl rfl rfl S4.1) rfl ⟨_, rfl, Cn.wrd _ _ (Gp.of G5 S4.2.size (fun b hb _ => NN.out b (by omega))), B5.out⟩

theorem ofRuns_yes {N : Nat → Prop} (A : Option Addr) (n c : Nat) (p : Nat → Bool) (w : World) (hN : ∀ b, w.heap.size ≤ b → N b) (hn : ct (hm p) 65536 = n) (hv : Gs2 eR w 0 w.heap.size (.slice A n c) (rs p 65536)) :
    Calls Tryz.prog 38 #[.slice A n c] w fun e w' => ∃ v', e = .returned (.tuple #[v', .bool true]) ∧ Cn N w' v' p 3 ∧ Below w.heap.size w w' := by
  have HV := Lib.hid hv
  have NN := Lib.hid hN
  have r0 := Row.new w 65 #[.int .u8 0, .slice none 0 0, .slice none 0 0, .slice none 0 0]
  have b0 := bx w (.cells #[.int .u8 0, .slice none 0 0, .slice none 0 0, .slice none 0 0] 65)
  clear hv hN
  go_enter Tryz.func38, Tryz.ntmps38
  go_wp2_with fail
  generalize w.alloc (.cells #[.int .u8 0, .slice none 0 0, .slice none 0 0, .slice none 0 0] 65) = W0 at *
  have lg := r0.lt
  have RR := Lib.hid r0
  have BB := Lib.hid b0
  clear r0 b0
  refine (lmay _ _ _ (HV.out.stp BB.out) true (mayr_rs p)).mono ?_
  rintro e u1 ⟨rfl, b⟩
  have RR := Lib.hid (RR.out.below b RR.out.lt)
  have BB := Lib.hid (below_both BB.out b)
  have hs1 := b.size
  clear b
  go_wp2_with fail
  refine (scloneR _ p n 0 _ (HV.out.stp BB.out) hn).mono ?_
  rintro e u2 ⟨X, x, rfl, g, b⟩
  have G := Lib.hid g
  have RR := Lib.hid (RR.out.below b RR.out.lt)
  have BB := Lib.hid (below_both BB.out b)
  have hs := b.size
  clear b g
  go_wp2_with fail
  refine (ofRuns_v _ _ _ _).mono ?_
  rintro e u3 ⟨rfl, b⟩
  have G := Lib.hid (G.out.stp b)
  have RR := Lib.hid (RR.out.below b RR.out.lt)
  have BB := Lib.hid (below_both BB.out b)
  clear b
  have d0 : u3.cell? ⟨w.heap.size, 0, none⟩ = some (.int .u8 0) := RR.out.cell 0
  have f0 := RR.out.frozen 0
  have d1 : u3.cell? ⟨w.heap.size, 1, none⟩ = some (.slice none 0 0) := RR.out.cell 1
  have f1 := RR.out.frozen 1
  have d2 : u3.cell? ⟨w.heap.size, 2, none⟩ = some (.slice none 0 0) := RR.out.cell 2
  have f2 := RR.out.frozen 2
  have d3 : u3.cell? ⟨w.heap.size, 3, none⟩ = some (.slice none 0 0) := RR.out.cell 3
  have f3 := RR.out.frozen 3
  go_wp2
  have S4 := set4 (a' := .int .u8 3) (b' := .slice none 0 0) (c' := .slice none 0 0) (d' := .slice X n x) RR.out
  have B5 := Lib.hid (BB.out.grown S4.2 BB.out.size (fun j e => by injection e with e; subst e; omega))
  have G5 := G.out.grown S4.2 (Nat.le_refl _) (fun j e => by injection e with e; subst e; exact .inl (by omega))
  exact bodyPost_ret (ret_row2 rfl rfl rfl S4.1) rfl ⟨_, rfl, Cn.run _ _ _ hn (Gp2.of G5 S4.2.size (fun b hb _ => NN.out b (by omega))), B5.out⟩
end Go.Proofs.YtcmifbjeabkihaaGreatDoor
