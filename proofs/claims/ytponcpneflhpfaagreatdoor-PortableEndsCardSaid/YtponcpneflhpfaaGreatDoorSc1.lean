/- Walks: two directories side by side. -/
import Derived.Test.YtponcpneflhpfaaGreatDoorSc0
import Derived.Test.YtponcpneflhpfaaGreatDoorSb1
import Derived.Test.YtponcpneflhpfaaGreatDoorSb9
import Derived.Test.YtponcpneflhpfaaGreatDoorSb8
import Derived.Test.YtponcpneflhpfaaGreatDoorSb6
import Derived.BigQuiet
import Derived.Deep.QuietTactic
namespace Go.Proofs.YtponcpneflhpfaaGreatDoor
open Go.RowKit
set_option linter.unusedVariables false

set_option maxHeartbeats 4000000 in
theorem of_c {N : Nat → Prop} {f : Bool → Bool → Bool} {fA fW fR : FuncId} (H : Prs f fA fW fR) (v u : Value) (p q : Nat → Bool) (k j : Nat) (w : World) (hT : Tb w) (hN : ∀ b, w.heap.size ≤ b → N b) (h : Cn N w v p k) (g : Cn N w u q j) :
    Calls Tryz.prog 145 #[.agg #[.func (.func fA) #[] #[], .func (.func fW) #[] #[], .func (.func fR) #[] #[]], v, u] w fun e w' => ∃ v', e = .returned v' ∧ Cn N w' v' (fun x => f (p x) (q x)) (ck (fun x => f (p x) (q x))) ∧ Below w.heap.size w w' := by
  obtain ⟨κa, Aa, na, ca, Ba, ma, da, Da, qa, ea, rfl⟩ := h.form
  obtain ⟨κb, Ab, nb, cb, Bb, mb, db, Db, qb, eb, rfl⟩ := g.form
  have H1 := Lib.hid (h.mono (N' := fun b => N b ∧ b < w.heap.size) fun b hb hn => ⟨hn, hb⟩)
  have H2 := Lib.hid (g.mono (N' := fun b => N b ∧ b < w.heap.size) fun b hb hn => ⟨hn, hb⟩)
  have KK := Lib.hid h.kind
  have KJ := Lib.hid g.kind
  have HH := Lib.hid H
  have TT := Lib.hid hT
  have NN := Lib.hid hN
  have X := four_blocks w #[.func (.func fA) #[] #[], .func (.func fW) #[] #[], .func (.func fR) #[] #[]] #[.int .u8 κa, .slice Aa na ca, .slice Ba ma da, .slice Da qa ea] #[.int .u8 κb, .slice Ab nb cb, .slice Bb mb db, .slice Db qb eb] #[.int .u8 0, .slice none 0 0, .slice none 0 0, .slice none 0 0] 193 65 65 65
  clear h g hT hN H
  go_enter Tryz.func145, Tryz.ntmps145
  go_wp2_with fail
  generalize (((w.alloc (.cells #[.func (.func fA) #[] #[], .func (.func fW) #[] #[], .func (.func fR) #[] #[]] 193)).alloc (.cells #[.int .u8 κa, .slice Aa na ca, .slice Ba ma da, .slice Da qa ea] 65)).alloc (.cells #[.int .u8 κb, .slice Ab nb cb, .slice Bb mb db, .slice Db qb eb] 65)).alloc (.cells #[.int .u8 0, .slice none 0 0, .slice none 0 0, .slice none 0 0] 65) = W0 at *
  obtain ⟨x1, x2, x3⟩ := X
  have hSc : B3 w w.heap.size 193 #[.func (.func fA) #[] #[], .func (.func fW) #[] #[], .func (.func fR) #[] #[]] (w.heap.size + 1) 65 #[.int .u8 κa, .slice Aa na ca, .slice Ba ma da, .slice Da qa ea] (w.heap.size + 2) 65 #[.int .u8 κb, .slice Ab nb cb, .slice Bb mb db, .slice Db qb eb] W0.drew := ⟨x1.bel.drew, x1.r1, x1.r2, x1.r3⟩
  have H1 := Lib.hid (H1.out.step x1.bel.drew)
  have H2 := Lib.hid (H2.out.step x1.bel.drew)
  have T2 := Lib.hid (TT.out.step x1.bel.drew)
  have RR := Lib.hid (show Row W0.drew (w.heap.size + 3) _ _ from x2)
  have SZ : w.heap.size + 4 ≤ W0.drew.heap.size := Nat.le_of_eq x3.symm
  clear x1 x2 x3 TT
  refine wp_region_held_drew (S := fun W => B3 w w.heap.size 193 #[.func (.func fA) #[] #[], .func (.func fW) #[] #[], .func (.func fR) #[] #[]] (w.heap.size + 1) 65 #[.int .u8 κa, .slice Aa na ca, .slice Ba ma da, .slice Da qa ea] (w.heap.size + 2) 65 #[.int .u8 κb, .slice Ab nb cb, .slice Bb mb db, .slice Db qb eb] W) (by kernel_rfl) hSc (fun _ => ?_)
  refine held_take 0 ?_ rfl (by kernel_rfl) (by kernel_rfl) (by kernel_rfl) (fun _ _ _ h => h) (by rfl) ?_ hSc ?_
  rotate_left
  · (intro W hSW; have k0 : W.cell? ⟨w.heap.size, 0, none⟩ = some (.func (.func fA) #[] #[]) := hSW.r1.cell 0; have k1 : W.cell? ⟨w.heap.size, 1, none⟩ = some (.func (.func fW) #[] #[]) := hSW.r1.cell 1; have k2 : W.cell? ⟨w.heap.size, 2, none⟩ = some (.func (.func fR) #[] #[]) := hSW.r1.cell 2; go_simp; try rfl)
  try simp only [Act.put, List.setIfInBounds_toArray, List.set_cons_zero, List.set_cons_succ]
  refine held_take 1 ?_ rfl (by kernel_rfl) (by kernel_rfl) (by kernel_rfl) (fun _ _ _ h => h) (by rfl) ?_ hSc ?_
  rotate_left
  · (intro W hSW; have k0 : W.cell? ⟨w.heap.size + 1, 0, none⟩ = some (.int .u8 κa) := hSW.r2.cell 0; have k1 : W.cell? ⟨w.heap.size + 1, 1, none⟩ = some (.slice Aa na ca) := hSW.r2.cell 1; have k2 : W.cell? ⟨w.heap.size + 1, 2, none⟩ = some (.slice Ba ma da) := hSW.r2.cell 2; have k3 : W.cell? ⟨w.heap.size + 1, 3, none⟩ = some (.slice Da qa ea) := hSW.r2.cell 3; go_simp; try rfl)
  try simp only [Act.put, List.setIfInBounds_toArray, List.set_cons_zero, List.set_cons_succ]
  refine held_take 3 ?_ rfl (by kernel_rfl) (by kernel_rfl) (by kernel_rfl) (fun _ _ _ h => h) (by rfl) ?_ hSc ?_
  rotate_left
  · (intro W hSW; have k0 : W.cell? ⟨w.heap.size + 2, 0, none⟩ = some (.int .u8 κb) := hSW.r3.cell 0; have k1 : W.cell? ⟨w.heap.size + 2, 1, none⟩ = some (.slice Ab nb cb) := hSW.r3.cell 1; have k2 : W.cell? ⟨w.heap.size + 2, 2, none⟩ = some (.slice Bb mb db) := hSW.r3.cell 2; have k3 : W.cell? ⟨w.heap.size + 2, 3, none⟩ = some (.slice Db qb eb) := hSW.r3.cell 3; go_simp; try rfl)
  try simp only [Act.put, List.setIfInBounds_toArray, List.set_cons_zero, List.set_cons_succ]
  refine held_next 2 rfl (by kernel_rfl) (by rfl) ?_
  go_simp
  refine (kind_c _ p k _ H1.out).mono ?_
  rintro e u1 ⟨rfl, bq⟩
  have hS2 := hSc.step bq
  have RR := Lib.hid (RR.out.below bq RR.out.lt)
  have T2 := Lib.hid (T2.out.step bq)
  have H1 := Lib.hid (H1.out.step bq)
  have H2 := Lib.hid (H2.out.step bq)
  have SZ1 := bq.size
  clear hSc bq
  have hSc := hS2
  clear hS2
  refine ⟨fun W => B3 w w.heap.size 193 #[.func (.func fA) #[] #[], .func (.func fW) #[] #[], .func (.func fR) #[] #[]] (w.heap.size + 1) 65 #[.int .u8 κa, .slice Aa na ca, .slice Ba ma da, .slice Da qa ea] (w.heap.size + 2) 65 #[.int .u8 κb, .slice Ab nb cb, .slice Bb mb db, .slice Db qb eb] W, fun W hW => hW, hSc, ?_⟩
  try simp only [Act.put, List.setIfInBounds_toArray, List.set_cons_zero, List.set_cons_succ]
  refine held_next 4 rfl (by kernel_rfl) (by rfl) ?_
  go_simp
  refine (kind_c _ q j _ H2.out).mono ?_
  rintro e u2 ⟨rfl, bq⟩
  have hS2 := hSc.step bq
  have RR := Lib.hid (RR.out.below bq RR.out.lt)
  have T2 := Lib.hid (T2.out.step bq)
  have H1 := Lib.hid (H1.out.step bq)
  have H2 := Lib.hid (H2.out.step bq)
  have SZ2 := bq.size
  clear hSc bq
  have hSc := hS2
  clear hS2
  refine ⟨fun W => B3 w w.heap.size 193 #[.func (.func fA) #[] #[], .func (.func fW) #[] #[], .func (.func fR) #[] #[]] (w.heap.size + 1) 65 #[.int .u8 κa, .slice Aa na ca, .slice Ba ma da, .slice Da qa ea] (w.heap.size + 2) 65 #[.int .u8 κb, .slice Ab nb cb, .slice Bb mb db, .slice Db qb eb] W, fun W hW => hW, hSc, ?_⟩
  try simp only [Act.put, List.setIfInBounds_toArray, List.set_cons_zero, List.set_cons_succ]
  refine held_next 5 rfl (by kernel_rfl) (by rfl) ?_
  go_simp
  refine (call_c HH.out k j _ KK.out KJ.out).mono ?_
  rintro e u3 ⟨X, rfl, hw, bq⟩
  have HX := hw.1
  unfold Enters at HX
  have WX := Lib.hid hw.2
  clear hw
  have hS2 := hSc.step bq
  have RR := Lib.hid (RR.out.below bq RR.out.lt)
  have T2 := Lib.hid (T2.out.step bq)
  have H1 := Lib.hid (H1.out.step bq)
  have H2 := Lib.hid (H2.out.step bq)
  have SZ3 := bq.size
  clear hSc bq
  have hSc := hS2
  clear hS2
  refine ⟨fun W => B3 w w.heap.size 193 #[.func (.func fA) #[] #[], .func (.func fW) #[] #[], .func (.func fR) #[] #[]] (w.heap.size + 1) 65 #[.int .u8 κa, .slice Aa na ca, .slice Ba ma da, .slice Da qa ea] (w.heap.size + 2) 65 #[.int .u8 κb, .slice Ab nb cb, .slice Bb mb db, .slice Db qb eb] W, fun W hW => hW, hSc, ?_⟩
  try simp only [Act.put, List.setIfInBounds_toArray, List.set_cons_zero, List.set_cons_succ]
  refine held_next 6 rfl (by kernel_rfl) (by rfl) ?_
  go_simp
  refine ⟨fun W => B3 w w.heap.size 193 #[.func (.func fA) #[] #[], .func (.func fW) #[] #[], .func (.func fR) #[] #[]] (w.heap.size + 1) 65 #[.int .u8 κa, .slice Aa na ca, .slice Ba ma da, .slice Da qa ea] (w.heap.size + 2) 65 #[.int .u8 κb, .slice Ab nb cb, .slice Bb mb db, .slice Db qb eb] W, fun W hW => hW, hSc, ?_⟩
  refine wpAnyH_done (by kernel_rfl) ?_ _
  have k0 : u3.cell? ⟨w.heap.size + 1, 0, none⟩ = some (.int .u8 κa) := hSc.r2.cell 0
  have k1 : u3.cell? ⟨w.heap.size + 1, 1, none⟩ = some (.slice Aa na ca) := hSc.r2.cell 1
  have k2 : u3.cell? ⟨w.heap.size + 1, 2, none⟩ = some (.slice Ba ma da) := hSc.r2.cell 2
  have k3 : u3.cell? ⟨w.heap.size + 1, 3, none⟩ = some (.slice Da qa ea) := hSc.r2.cell 3
  have l0 : u3.cell? ⟨w.heap.size + 2, 0, none⟩ = some (.int .u8 κb) := hSc.r3.cell 0
  have l1 : u3.cell? ⟨w.heap.size + 2, 1, none⟩ = some (.slice Ab nb cb) := hSc.r3.cell 1
  have l2 : u3.cell? ⟨w.heap.size + 2, 2, none⟩ = some (.slice Bb mb db) := hSc.r3.cell 2
  have l3 : u3.cell? ⟨w.heap.size + 2, 3, none⟩ = some (.slice Db qb eb) := hSc.r3.cell 3
  have BB := Lib.hid hSc.bel
  have NC : Hid (∀ b, u3.heap.size ≤ b → N b ∧ b ≠ w.heap.size + 3) := Lib.hid fun b hb => ⟨NN.out b (by omega), by omega⟩
  have H1 := Lib.hid (H1.out.mono (N' := fun b => N b ∧ b ≠ w.heap.size + 3) fun b _ hn => ⟨hn.1, by have := hn.2; omega⟩)
  have H2 := Lib.hid (H2.out.mono (N' := fun b => N b ∧ b ≠ w.heap.size + 3) fun b _ hn => ⟨hn.1, by have := hn.2; omega⟩)
  clear hSc
  go_wp2_with fail
  refine (WX.out _ _ _ p q k j _ T2.out NC.out H1.out H2.out).mono ?_
  rintro e u4 ⟨v4, k4, rfl, gq, bq⟩
  have RR := Lib.hid (RR.out.below bq RR.out.lt)
  have T2 := Lib.hid (T2.out.step bq)
  have BB := Lib.hid (below_both BB.out bq)
  have NC : Hid (∀ b, u4.heap.size ≤ b → N b ∧ b ≠ w.heap.size + 3) := Lib.hid fun b hb => NC.out b (Nat.le_trans bq.size hb)
  have G := Lib.hid gq
  clear gq bq k0 k1 k2 k3 l0 l1 l2 l3
  go_wp2_with fail
  refine (canonical_c v4 _ k4 _ T2.out NC.out G.out).mono ?_
  rintro e u5 ⟨v5, rfl, gq, bq⟩
  obtain ⟨κ5, A5, n5, c5, A6, n6, c6, A7, n7, c7, rfl⟩ := gq.form
  have RR := Lib.hid (RR.out.below bq RR.out.lt)
  have BB := Lib.hid (below_both BB.out bq)
  have G := Lib.hid gq
  clear gq bq
  have d0 : u5.cell? ⟨w.heap.size + 3, 0, none⟩ = some (.int .u8 0) := RR.out.cell 0
  have f0 := RR.out.frozen 0
  have d1 : u5.cell? ⟨w.heap.size + 3, 1, none⟩ = some (.slice none 0 0) := RR.out.cell 1
  have f1 := RR.out.frozen 1
  have d2 : u5.cell? ⟨w.heap.size + 3, 2, none⟩ = some (.slice none 0 0) := RR.out.cell 2
  have f2 := RR.out.frozen 2
  have d3 : u5.cell? ⟨w.heap.size + 3, 3, none⟩ = some (.slice none 0 0) := RR.out.cell 3
  have f3 := RR.out.frozen 3
  go_wp2
  have S4 := set4 (a' := .int .u8 κ5) (b' := .slice A5 n5 c5) (c' := .slice A6 n6 c6) (d' := .slice A7 n7 c7) RR.out
  have B5 := Lib.hid (BB.out.grown S4.2 BB.out.size (fun j e => by injection e with e; subst e; omega))
  have H5 := Lib.hid ((G.out.grown S4.2 (fun hh => hh.2 rfl)).mono fun b _ hn => hn.1)
  exact bodyPost_ret (ret_row rfl rfl S4.1) rfl ⟨_, rfl, H5.out, B5.out⟩

set_option maxHeartbeats 2000000 in
theorem cxor {N : Nat → Prop} (v u : Value) (p q : Nat → Bool) (k j : Nat) (w : World) (hT : Tb w) (hN : ∀ b, w.heap.size ≤ b → N b) (h : Cn N w v p k) (g : Cn N w u q j) :
    Calls Tryz.prog 76 #[v, u] w fun e w' => ∃ v', e = .returned v' ∧ Cn N w' v' (fun x => fXor (p x) (q x)) (ck (fun x => fXor (p x) (q x))) ∧ Below w.heap.size w w' := by
  obtain ⟨κa, Aa, na, ca, Ba, ma, da, Da, qa, ea, rfl⟩ := h.form
  obtain ⟨κb, Ab, nb, cb, Bb, mb, db, Db, qb, eb, rfl⟩ := g.form
  have H1 := Lib.hid (h.mono (N' := fun b => N b ∧ b < w.heap.size) fun b hb hn => ⟨hn, hb⟩)
  have H2 := Lib.hid (g.mono (N' := fun b => N b ∧ b < w.heap.size) fun b hb hn => ⟨hn, hb⟩)
  have TT := Lib.hid hT
  have NN := Lib.hid hN
  have X := three_blocks w #[.int .u8 κa, .slice Aa na ca, .slice Ba ma da, .slice Da qa ea] #[.int .u8 κb, .slice Ab nb cb, .slice Bb mb db, .slice Db qb eb] #[.int .u8 0, .slice none 0 0, .slice none 0 0, .slice none 0 0] 65 65 65
  clear h g hT hN
  go_enter Tryz.func76, Tryz.ntmps76
  go_wp2_with fail
  generalize ((w.alloc (.cells #[.int .u8 κa, .slice Aa na ca, .slice Ba ma da, .slice Da qa ea] 65)).alloc (.cells #[.int .u8 κb, .slice Ab nb cb, .slice Bb mb db, .slice Db qb eb] 65)).alloc (.cells #[.int .u8 0, .slice none 0 0, .slice none 0 0, .slice none 0 0] 65) = W0 at *
  obtain ⟨x1, x2, x3⟩ := X
  have RR := Lib.hid x1.r2
  have BB := Lib.hid x1.bel
  have NC : Hid (∀ b, W0.heap.size ≤ b → N b ∧ b ≠ w.heap.size + 2) := Lib.hid fun b hb => ⟨NN.out b (by omega), by omega⟩
  have H1 := Lib.hid ((H1.out.step x1.bel).mono (N' := fun b => N b ∧ b ≠ w.heap.size + 2) fun b _ hn => ⟨hn.1, by have := hn.2; omega⟩)
  have H2 := Lib.hid ((H2.out.step x1.bel).mono (N' := fun b => N b ∧ b ≠ w.heap.size + 2) fun b _ hn => ⟨hn.1, by have := hn.2; omega⟩)
  clear x1 x2 x3
  refine (of_c prs_xor _ _ p q k j _ (TT.out.step BB.out) NC.out H1.out H2.out).mono ?_
  rintro e u5 ⟨v5, rfl, gq, bq⟩
  obtain ⟨κ5, A5, n5, c5, A6, n6, c6, A7, n7, c7, rfl⟩ := gq.form
  have RR := Lib.hid (RR.out.below bq RR.out.lt)
  have BB := Lib.hid (below_both BB.out bq)
  have G := Lib.hid gq
  clear gq bq
  have d0 : u5.cell? ⟨w.heap.size + 2, 0, none⟩ = some (.int .u8 0) := RR.out.cell 0
  have f0 := RR.out.frozen 0
  have d1 : u5.cell? ⟨w.heap.size + 2, 1, none⟩ = some (.slice none 0 0) := RR.out.cell 1
  have f1 := RR.out.frozen 1
  have d2 : u5.cell? ⟨w.heap.size + 2, 2, none⟩ = some (.slice none 0 0) := RR.out.cell 2
  have f2 := RR.out.frozen 2
  have d3 : u5.cell? ⟨w.heap.size + 2, 3, none⟩ = some (.slice none 0 0) := RR.out.cell 3
  have f3 := RR.out.frozen 3
  go_wp2
  have S4 := set4 (a' := .int .u8 κ5) (b' := .slice A5 n5 c5) (c' := .slice A6 n6 c6) (d' := .slice A7 n7 c7) RR.out
  have B5 := Lib.hid (BB.out.grown S4.2 BB.out.size (fun j e => by injection e with e; subst e; omega))
  have H5 := Lib.hid ((G.out.grown S4.2 (fun hh => hh.2 rfl)).mono fun b _ hn => hn.1)
  exact bodyPost_ret (ret_row rfl rfl S4.1) rfl ⟨_, rfl, H5.out, B5.out⟩
end Go.Proofs.YtponcpneflhpfaaGreatDoor
namespace Go.Proofs.YtponcpneflhpfaaGreatDoor
open Go.RowKit
set_option linter.unusedVariables false


theorem ofRuns_yes {N : Nat → Prop} (A : Option Addr) (n c : Nat) (p : Nat → Bool) (w : World) (hN : ∀ b, w.heap.size ≤ b → N b) (hn : ct (hm p) 65536 = n) (hv : Gs2 eR w 0 w.heap.size (.slice A n c) (rs p 65536)) :
    Calls Tryz.prog 39 #[.slice A n c] w fun e w' => ∃ v', e = .returned (.tuple #[v', .bool true]) ∧ Cn N w' v' p 3 ∧ Below w.heap.size w w' := by
  have HV := Lib.hid hv
  have NN := Lib.hid hN
  have r0 := Row.new w 65 #[.int .u8 0, .slice none 0 0, .slice none 0 0, .slice none 0 0]
  have b0 := bx w (.cells #[.int .u8 0, .slice none 0 0, .slice none 0 0, .slice none 0 0] 65)
  clear hv hN
  go_enter Tryz.func39, Tryz.ntmps39
  go_wp2_with fail
  generalize w.alloc (.cells #[.int .u8 0, .slice none 0 0, .slice none 0 0, .slice none 0 0] 65) = W0 at *
  have lg := r0.lt
  have RR := Lib.hid r0
  have BB := Lib.hid b0
  clear r0 b0
  refine (lmay _ _ _ (HV.out.stp BB.out) true (mayr_rs p)).mono ?_
  rintro e u1 ⟨rfl, b⟩
  have RR := Lib.hid (RR.out.below b RR.out.lt)
  have BB := Lib.hid (below_both BB.out b)
  have hs1 := b.size
  clear b
  go_wp2_with fail
  refine (scloneR _ p n 0 _ (HV.out.stp BB.out) hn).mono ?_
  rintro e u2 ⟨X, x, rfl, g, b⟩
  have G := Lib.hid g
  have RR := Lib.hid (RR.out.below b RR.out.lt)
  have BB := Lib.hid (below_both BB.out b)
  have hs := b.size
  clear b g
  go_wp2_with fail
  refine (ofRuns_v _ _ _ _).mono ?_
  rintro e u3 ⟨rfl, b⟩
  have G := Lib.hid (G.out.stp b)
  have RR := Lib.hid (RR.out.below b RR.out.lt)
  have BB := Lib.hid (below_both BB.out b)
  clear b
  have d0 : u3.cell? ⟨w.heap.size, 0, none⟩ = some (.int .u8 0) := RR.out.cell 0
  have f0 := RR.out.frozen 0
  have d1 : u3.cell? ⟨w.heap.size, 1, none⟩ = some (.slice none 0 0) := RR.out.cell 1
  have f1 := RR.out.frozen 1
  have d2 : u3.cell? ⟨w.heap.size, 2, none⟩ = some (.slice none 0 0) := RR.out.cell 2
  have f2 := RR.out.frozen 2
  have d3 : u3.cell? ⟨w.heap.size, 3, none⟩ = some (.slice none 0 0) := RR.out.cell 3
  have f3 := RR.out.frozen 3
  go_wp2
  have S4 := set4 (a' := .int .u8 3) (b' := .slice none 0 0) (c' := .slice none 0 0) (d' := .slice X n x) RR.out
  have B5 := Lib.hid (BB.out.grown S4.2 BB.out.size (fun j e => by injection e with e; subst e; omega))
  have G5 := G.out.grown S4.2 (Nat.le_refl _) (fun j e => by injection e with e; subst e; exact .inl (by omega))
  exact bodyPost_ret (ret_row2 rfl rfl rfl S4.1) rfl ⟨_, rfl, Cn.run _ _ _ hn (Gp2.of G5 S4.2.size (fun b hb _ => NN.out b (by omega))), B5.out⟩
end Go.Proofs.YtponcpneflhpfaaGreatDoor
namespace Go.Proofs.YtponcpneflhpfaaGreatDoor
open Go.RowKit
set_option linter.unusedVariables false

section
variable {α : Type} (k : Elem2 α)
theorem row2_rep (n : Nat) (z : α) : (madeCells #[k.fst z, k.snd z] (n * 2)).toList = k.row (List.replicate n z) := by
  apply List.ext_getElem?
  intro j
  by_cases hj : j < n * 2
  · have hj2 : j / 2 < n := by omega
    have e1 : (List.replicate n z)[j / 2]? = some z := by rw [List.getElem?_replicate, if_pos hj2]
    rcases Nat.mod_two_eq_zero_or_one j with hm | hm
    · have := row2_fst k _ _ _ e1
      rw [show 2 * (j / 2) = j by omega] at this
      rw [this]
      simp [madeCells, hj, hm]
    · have := row2_snd k _ _ _ e1
      rw [show 2 * (j / 2) + 1 = j by omega] at this
      rw [this]
      simp [madeCells, hj, hm]
  · rw [List.getElem?_eq_none (by simp [madeCells]; omega), List.getElem?_eq_none (by rw [row2_len, List.length_replicate]; omega)]
theorem wpList_gfull2 {P : Program} (w : World) {ops : Array Oper} {rest : List Oper} {o : Oper} {a : Act} {Q : Exit → Act → World → Prop} (hgd : o.guard = none) (x c : Operand) (t : TypeId) (ho : o.op = Op.makeSlice t x c)
    (ht : P.underlying t = some (.slice k.E)) (hinf : (P.info? k.E).map (fun i => (i.zero, i.size, i.bytes)) = some (some (k.val k.zero), 2, k.bytes))
    (kl kc : IntKind) (L C : Int) (n : Nat) (hx : a.eval x = .int kl L) (hc : a.eval c = .int kc C) (hL : L = (n : Int)) (hC : C = (n : Int)) (hn : n ≤ 1000000000)
    (h : ∀ w', Gw2 k w' w.heap.size (.slice (some ⟨w.heap.size, 0, none⟩) n n) (List.replicate n k.zero) → w.grownBy w' none → wpList P ops Q rest (a.put o.dst (.slice (some ⟨w.heap.size, 0, none⟩) n n)) w') : wpList P ops Q (o :: rest) a w := by
  obtain ⟨i, hi, hz, hsz, hby⟩ := info_parts hinf
  have hs := k.small
  have hbb : k.bytes * n ≤ 1000 * 1000000000 := Nat.mul_le_mul hs hn
  refine wpList_make_full w hgd x c t ho w.heap.size k.E i (k.val k.zero) 2 ht hi hz hsz kl kc L C n hx hc hL hC (by rw [hby]; omega) (by unfold maxLen; omega) (Nat.le_refl _) fun w' h1 h2 => h w' ?_ h2
  unfold Gw2
  rw [List.length_replicate, ← row2_rep]
  exact h1
theorem row2_set12 (l : List α) (j : Nat) (x y : α) (h : l[j]? = some x) : ((k.row l).set (2 * j) (k.fst y)).set (2 * j + 1) (k.snd y) = k.row (l.set j y) := by
  induction l generalizing j with
  | nil => simp at h
  | cons z l ih =>
    cases j with
    | zero => rfl
    | succ j =>
      have e1 : 2 * (j + 1) = 2 * j + 1 + 1 := by omega
      have e2 : 2 * (j + 1) + 1 = 2 * j + 1 + 1 + 1 := by omega
      rw [e1]
      have := ih j (by simpa using h)
      simp only [Elem2.row, List.set_cons_succ]
      rw [this]
theorem Gw2.stored12 {w : World} {base b c n : Nat} {l : List α} (h : Gw2 k w base (.slice (some ⟨b, 0, none⟩) n c) l) (j : Nat) (x y : α) (hx : l[j]? = some x) :
    Gw2 k ((w.setCell ⟨b, 2 * j, none⟩ (k.fst y)).setCell ⟨b, 2 * j + 1, none⟩ (k.snd y)) base (.slice (some ⟨b, 0, none⟩) n c) (l.set j y) := by
  have hn : n = l.length := by
    rcases h.2 with ⟨e, _⟩ | ⟨g, cap, cur, e, _⟩
    · cases e
    · injection e
  subst hn
  have h1 := (World.ownsRow.stored (World.ownsRow.stored h (2 * j) (k.fst y)).1 (2 * j + 1) (k.snd y)).1
  unfold Gw2
  rw [← row2_set12 k l j x y hx, List.length_set]
  exact h1
end
theorem map_take_set {l : List Sn} {k : Nat} {s : Sn} (h : l[k]? = some s) (hk : k < l.length) :
    ((l.take k).map tor ++ List.replicate (l.length - k) ((0, 0) : Rn)).set k (tor s) = (l.take (k + 1)).map tor ++ List.replicate (l.length - (k + 1)) ((0, 0) : Rn) := by
  have e1 : l.length - k = (l.length - (k + 1)) + 1 := by omega
  have e2 : ((l.take k).map tor).length = k := by rw [List.length_map, List.length_take]; omega
  rw [e1, List.replicate_succ, List.set_append_right _ _ (by omega), e2, Nat.sub_self, List.set_cons_zero, take_snoc h, List.map_append, List.append_assoc]
  rfl
set_option maxHeartbeats 8000000 in
theorem ofPieces_c {N : Nat → Prop} (v : Value) (l : List Sn) (n0 k0 : Nat) (w : World) (hT : Tb w) (hN : ∀ b, w.heap.size ≤ b → N b) (hv : Gs2 eSp w 0 w.heap.size v l) (hq : myq n0 l) (hk : ∀ s ∈ l, skey s = k0) (h0 : ∀ s r, l = s :: r → 65536 * k0 ≤ s.1.toNat) :
    Calls Tryz.prog 62 #[v] w fun e w' => ∃ v', e = .returned v' ∧ Cn N w' v' (fun x => sp l (65536 * k0 + x)) (ck (fun x => sp l (65536 * k0 + x))) ∧ Below w.heap.size w w' := by
  obtain ⟨hr1, hr2⟩ := part_runs (k := k0) l n0 0 hq hk (fun s r e => by have := h0 s r e; omega)
  have hrs : l.map tor = rs (fun x => sp l (65536 * k0 + x)) 65536 := rs_mr hr1 (fun x hx => hr2 x hx)
  have hcn : ct (hm (fun x => sp l (65536 * k0 + x))) 65536 = l.length := by rw [← rs_len, ← hrs, List.length_map]
  have hlen : l.length ≤ 65536 := by rw [← List.length_map (f := tor), hrs]; exact rs_short _
  have HIN := Lib.hid (myq_in l n0 hq)
  obtain ⟨p0, hp0⟩ : ∃ p0, p0 = (fun x => sp l (65536 * k0 + x)) := ⟨_, rfl⟩
  rw [← hp0] at hrs hcn ⊢
  have HRS := Lib.hid hrs
  have HCN := Lib.hid hcn
  have HV := Lib.hid hv
  have TT := Lib.hid hT
  have NN := Lib.hid hN
  have HLEN := Lib.hid hlen
  obtain ⟨A, c, rfl, -⟩ := hv
  have bz := bx w (.cells #[.int .u8 0, .slice none 0 0, .slice none 0 0, .slice none 0 0] 65)
  have rz := Row.new w 65 #[.int .u8 0, .slice none 0 0, .slice none 0 0, .slice none 0 0]
  clear hr1 hr2 hrs hcn hq hk h0 hp0 hT hN
  go_enter Tryz.func62, Tryz.ntmps62
  go_upto_region 1 with fail
  generalize w.alloc (.cells #[.int .u8 0, .slice none 0 0, .slice none 0 0, .slice none 0 0] 65) = w1 at *
  have B1 := Lib.hid bz
  have R1 := Lib.hid rz
  clear bz rz
  have hln : l.length ≤ 1000000000 := by omega
  clear hlen
  go_wp2_with (at_make; refine wpList_gfull2 eR _ rfl _ _ _ rfl sliR infR _ _ _ _ l.length rfl rfl rfl rfl hln ?_; intro w2 o2 g2; have O2 := Lib.hid o2; have G2 := Lib.hid g2; clear o2 g2)
  have R2 := Lib.hid (R1.out.grown G2.out (by simp))
  have B2 : Hid (Below w1.heap.size w1 w2) := Lib.hid (below_of_grown G2.out (fun k e => by cases e))
  clear hln
  go_loopw [13] (fun s13 wr => ∃ k : Nat, k ≤ l.length ∧ s13 = .int .i64 k ∧ Hid (Gw2 eR wr w1.heap.size (.slice (some ⟨w1.heap.size, 0, none⟩) l.length l.length) ((l.take k).map tor ++ List.replicate (l.length - k) ((0, 0) : Rn)) ∧ Below w1.heap.size w1 wr)) (fun s13 _ => l.length - (intOf s13).toNat)
  case atStart => exact ⟨0, Nat.zero_le _, rfl, Lib.hid ⟨by have h := O2.out; rw [show eR.zero = ((0, 0) : Rn) from rfl] at h; simpa using h, B2.out⟩⟩
  case round =>
    obtain ⟨k, hk, rfl, hj⟩ := hrel
    have HJ := Lib.hid hj.out
    by_cases hlt : k < l.length
    · obtain ⟨b, off, s, e1, -, hb, hdr, hg', c0, c1⟩ := gss_at HV.out hlt
      subst e1
      have hbl : Below w.heap.size w wr := B1.out.trans (hj.out.2.mono B1.out.size)
      rw [← hbl.cell (p := ⟨b, off + k * 2, none⟩) hb] at c0
      rw [← hbl.cell (p := ⟨b, off + k * 2 + 1, none⟩) hb] at c1
      obtain ⟨q1, q2, q3⟩ := HIN.out s (List.mem_of_getElem? hg')
      obtain ⟨t1, t2, t3⟩ := tor_spec q1 q2
      obtain ⟨p, hp⟩ : ∃ p : Nat, p = s.1.toNat := ⟨_, rfl⟩
      obtain ⟨q, hq⟩ : ∃ q : Nat, q = s.2.toNat := ⟨_, rfl⟩
      rw [← hp, ← hq] at q1 q2 t2
      rw [← hq] at q3
      rw [← hp] at t1 c0
      rw [← hq] at c1
      have HT1 := Lib.hid t1
      have HT2 : Hid (((tor s).2.toNat : Int) = (q : Int) - p - 1) := Lib.hid (by rw [t2]; omega)
      have w1' : IntKind.u32.wrap (p : Int) = p := by rw [IntKind.wrap_u32]; omega
      have w2' : IntKind.u64.wrap ((q : Int) - p) = (q : Int) - p := by rw [IntKind.wrap_u64]; omega
      have w3' : IntKind.u64.wrap ((q : Int) - p - 1) = (q : Int) - p - 1 := by rw [IntKind.wrap_u64]; omega
      have w4' : IntKind.u16.wrap ((q : Int) - p - 1) = (q : Int) - p - 1 := by rw [IntKind.wrap_u16]; omega
      have HP32 : Hid (p < 4294967296) := Lib.hid (by omega)
      have HG := Lib.hid hg'
      have hkl : (k : Int) < l.length := by omega
      have bz := bx wr (.cells #[.int .u64 (p : Int), .int .u64 (q : Int)] 34)
      have rz := Row.new wr 34 #[.int .u64 (p : Int), .int .u64 (q : Int)]
      have hbw := HJ.out.2.size
      have hgn : wr.heap.size ≠ w1.heap.size := by
        have := (HJ.out.1.lt w1.heap.size rfl).2
        omega
      have HGN := Lib.hid hgn
      clear hdr hg' hbl hj t1 t2 t3 q1 q2 q3 hp hq hbw hgn
      go_wp2_with fail
      generalize wr.alloc (.cells #[.int .u64 (p : Int), .int .u64 (q : Int)] 34) = W at *
      have HJW : Hid (Gw2 eR W.drew w1.heap.size (.slice (some ⟨w1.heap.size, 0, none⟩) l.length l.length) ((l.take k).map tor ++ List.replicate (l.length - k) ((0, 0) : Rn)) ∧ Below w1.heap.size w1 W.drew) := Lib.hid ⟨(HJ.out.1.below bz (Nat.le_refl _)).drewN 1, below_drewN (HJ.out.2.trans (bz.mono HJ.out.2.size)) 1⟩
      have hSc : Row W.drew wr.heap.size 34 #[.int .u64 (p : Int), .int .u64 (q : Int)] := rz
      obtain ⟨_, _, e0, -, -, -, -, hcl, hfz⟩ := HJW.out.1.form (by intro e; have := congrArg List.length e; simp at this; omega)
      injection e0 with e0 e01 e02
      clear e01
      subst e02
      injection e0 with e0
      injection e0 with e0
      subst e0
      have hx : ((l.take k).map tor ++ List.replicate (l.length - k) ((0, 0) : Rn))[k]? = some (0, 0) := by
        rw [List.getElem?_append_right (by rw [List.length_map, List.length_take]; omega), List.getElem?_replicate, if_pos (by rw [List.length_map, List.length_take]; omega)]
      have d0 := (hcl k _ hx).1
      have d1 := (hcl k _ hx).2
      have f0 := hfz (2 * k)
      have f1 := hfz (2 * k + 1)
      rw [Nat.mul_comm 2 k] at d0 d1 f0 f1
      have d0 : W.drew.cell? ⟨w1.heap.size, k * 2, none⟩ = some (.int .u16 0) := d0
      have d1 : W.drew.cell? ⟨w1.heap.size, k * 2 + 1, none⟩ = some (.int .u16 0) := d1
      have d1' : W.cell? ⟨w1.heap.size, k * 2 + 1, none⟩ = some (.int .u16 0) := d1
      have f1' : W.frozen? ⟨w1.heap.size, k * 2 + 1, none⟩ = false := f1
      have d0' : W.cell? ⟨w1.heap.size, k * 2, none⟩ = some (.int .u16 0) := d0
      have f0' : W.frozen? ⟨w1.heap.size, k * 2, none⟩ = false := f0
      have ST := HJW.out.1.stored12 eR k _ (tor s) hx
      rw [map_take_set HG.out hlt] at ST
      have HST := Lib.hid ST
      clear bz rz hcl hfz hx ST
      refine wp_region_held_drew (S := fun W => Row W wr.heap.size 34 #[.int .u64 (p : Int), .int .u64 (q : Int)]) (by kernel_rfl) hSc (fun _ => ?_)
      refine held_take 0 ?_ rfl (by kernel_rfl) (by kernel_rfl) (by kernel_rfl) (fun _ _ _ h => h) (by rfl) ?_ hSc ?_
      rotate_left
      · (intro W hSW; go_simp; try rfl)
      try simp only [Act.put, List.setIfInBounds_toArray, List.set_cons_zero, List.set_cons_succ]
      refine held_take 1 ?_ rfl (by kernel_rfl) (by kernel_rfl) (by kernel_rfl) (fun _ _ _ h => h) (by rfl) ?_ hSc ?_
      rotate_left
      · (intro W hSW; go_simp; try rfl)
      try simp only [Act.put, List.setIfInBounds_toArray, List.set_cons_zero, List.set_cons_succ]
      refine held_take 2 ?_ rfl (by kernel_rfl) (by kernel_rfl) (by kernel_rfl) (fun _ _ _ h => h) (by rfl) ?_ hSc ?_
      rotate_left
      · (intro W hSW; go_simp; try rfl)
      try simp only [Act.put, List.setIfInBounds_toArray, List.set_cons_zero, List.set_cons_succ]
      refine held_take 3 ?_ rfl (by kernel_rfl) (by kernel_rfl) (by kernel_rfl) (fun _ _ _ h => h) (by rfl) ?_ hSc ?_
      rotate_left
      · (intro W hSW; have k0 := hSW.cell 0; have k1 := hSW.cell 1; go_simp; try rfl)
      try simp only [Act.put, List.setIfInBounds_toArray, List.set_cons_zero, List.set_cons_succ]
      refine held_take 4 ?_ rfl (by kernel_rfl) (by kernel_rfl) (by kernel_rfl) (fun _ _ _ h => h) (by rfl) ?_ hSc ?_
      rotate_left
      · (intro W hSW; go_simp; try rfl)
      try simp only [Act.put, List.setIfInBounds_toArray, List.set_cons_zero, List.set_cons_succ]
      refine held_take 6 ?_ rfl (by kernel_rfl) (by kernel_rfl) (by kernel_rfl) (fun _ _ _ h => h) (by rfl) ?_ hSc ?_
      rotate_left
      · (intro W hSW; go_simp; try rfl)
      try simp only [Act.put, List.setIfInBounds_toArray, List.set_cons_zero, List.set_cons_succ]
      refine held_take 7 ?_ rfl (by kernel_rfl) (by kernel_rfl) (by kernel_rfl) (fun _ _ _ h => h) (by rfl) ?_ hSc ?_
      rotate_left
      · (intro W hSW; have k0 := hSW.cell 0; have k1 := hSW.cell 1; go_simp; try rfl)
      try simp only [Act.put, List.setIfInBounds_toArray, List.set_cons_zero, List.set_cons_succ]
      refine held_take 8 ?_ rfl (by kernel_rfl) (by kernel_rfl) (by kernel_rfl) (fun _ _ _ h => h) (by rfl) ?_ hSc ?_
      rotate_left
      · (intro W hSW; go_simp; try rfl)
      try simp only [Act.put, List.setIfInBounds_toArray, List.set_cons_zero, List.set_cons_succ]
      refine held_take 9 ?_ rfl (by kernel_rfl) (by kernel_rfl) (by kernel_rfl) (fun _ _ _ h => h) (by rfl) ?_ hSc ?_
      rotate_left
      · (intro W hSW; have k0 := hSW.cell 0; have k1 := hSW.cell 1; go_simp; try rfl)
      try simp only [Act.put, List.setIfInBounds_toArray, List.set_cons_zero, List.set_cons_succ]
      refine held_take 10 ?_ rfl (by kernel_rfl) (by kernel_rfl) (by kernel_rfl) (fun _ _ _ h => h) (by rfl) ?_ hSc ?_
      rotate_left
      · (intro W hSW; go_simp; try rfl)
      try simp only [Act.put, List.setIfInBounds_toArray, List.set_cons_zero, List.set_cons_succ]
      refine held_take 11 ?_ rfl (by kernel_rfl) (by kernel_rfl) (by kernel_rfl) (fun _ _ _ h => h) (by rfl) ?_ hSc ?_
      rotate_left
      · (intro W hSW; go_simp; try rfl)
      try simp only [Act.put, List.setIfInBounds_toArray, List.set_cons_zero, List.set_cons_succ]
      refine held_take 12 ?_ rfl (by kernel_rfl) (by kernel_rfl) (by kernel_rfl) (fun _ _ _ h => h) (by rfl) ?_ hSc ?_
      rotate_left
      · (intro W hSW; go_simp; try rfl)
      try simp only [Act.put, List.setIfInBounds_toArray, List.set_cons_zero, List.set_cons_succ]
      refine held_next 5 rfl (by kernel_rfl) (by rfl) ?_
      go_simp
      refine (low_c p _ HP32.out).mono ?_
      rintro e wq ⟨rfl, hz⟩
      have hz := hz.symm
      subst hz
      refine ⟨fun W => Row W wr.heap.size 34 #[.int .u64 (p : Int), .int .u64 (q : Int)], fun W hW => hW, hSc, ?_⟩
      try simp only [Act.put, List.setIfInBounds_toArray, List.set_cons_zero, List.set_cons_succ]
      refine held_take 13 ?_ rfl (by kernel_rfl) (by kernel_rfl) (by kernel_rfl) (fun _ _ _ h => h) (by rfl) ?_ hSc ?_
      rotate_left
      · (intro W hSW; go_simp; try rfl)
      try simp only [Act.put, List.setIfInBounds_toArray, List.set_cons_zero, List.set_cons_succ]
      refine held_take 14 ?_ rfl (by kernel_rfl) (by kernel_rfl) (by kernel_rfl) (fun _ _ _ h => h) (by rfl) ?_ hSc ?_
      rotate_left
      · (intro W hSW; go_simp; try rfl)
      try simp only [Act.put, List.setIfInBounds_toArray, List.set_cons_zero, List.set_cons_succ]
      have G3 : W.grownBy ((W.setCell ⟨w1.heap.size, k * 2, none⟩ (.int .u16 ((p : Int) % 65536))).setCell ⟨w1.heap.size, k * 2 + 1, none⟩ (.int .u16 ((q : Int) - p - 1))) (some w1.heap.size) := by
        have a := grown_set W w1.heap.size (k * 2) (.int .u16 ((p : Int) % 65536))
        have c := grown_set (W.setCell ⟨w1.heap.size, k * 2, none⟩ (.int .u16 ((p : Int) % 65536))) w1.heap.size (k * 2 + 1) (.int .u16 ((q : Int) - p - 1))
        exact ⟨c.os.trans a.os, c.tape.trans a.tape, c.output.trans a.output, Nat.le_trans a.size c.size, fun j hj hne => (c.block j (Nat.lt_of_lt_of_le hj a.size) hne).trans (a.block j hj hne)⟩
      have HS2 : Gw2 eR ((W.setCell ⟨w1.heap.size, 2 * k, none⟩ (eR.fst (tor s))).setCell ⟨w1.heap.size, 2 * k + 1, none⟩ (eR.snd (tor s))) w1.heap.size (.slice (some ⟨w1.heap.size, 0, none⟩) l.length l.length) ((l.take (k + 1)).map tor ++ List.replicate (l.length - (k + 1)) ((0, 0) : Rn)) := HST.out
      have ev : eR.fst (tor s) = (.int .u16 ((p : Int) % 65536)) := by show Value.int .u16 ((tor s).1.toNat : Int) = _; rw [HT1.out]; rfl
      have ew : eR.snd (tor s) = (.int .u16 ((q : Int) - p - 1)) := by show Value.int .u16 ((tor s).2.toNat : Int) = _; rw [HT2.out]
      rw [ev, ew, Nat.mul_comm 2 k] at HS2
      have hS4 := (show Row W wr.heap.size 34 #[.int .u64 (p : Int), .int .u64 (q : Int)] from hSc).grown G3 (by intro e; injection e with e; exact HGN.out e.symm)
      have B4 : Hid (Below w1.heap.size w1 ((W.setCell ⟨w1.heap.size, k * 2, none⟩ (.int .u16 ((p : Int) % 65536))).setCell ⟨w1.heap.size, k * 2 + 1, none⟩ (.int .u16 ((q : Int) - p - 1)))) := Lib.hid ((show Below w1.heap.size w1 W from ⟨HJW.out.2.os, HJW.out.2.tape, HJW.out.2.output, HJW.out.2.size, HJW.out.2.block⟩).grown G3 HJW.out.2.size (fun j e => by injection e with e; omega))
      refine held_next 15 rfl (by kernel_rfl) (by rfl) ?_
      go_simp
      generalize (W.setCell ⟨w1.heap.size, k * 2, none⟩ (.int .u16 ((p : Int) % 65536))).setCell ⟨w1.heap.size, k * 2 + 1, none⟩ (.int .u16 ((q : Int) - p - 1)) = w6 at *
      have NX : Hid (Gw2 eR w6.drew w1.heap.size (.slice (some ⟨w1.heap.size, 0, none⟩) l.length l.length) ((l.take (k + 1)).map tor ++ List.replicate (l.length - (k + 1)) ((0, 0) : Rn)) ∧ Below w1.heap.size w1 w6.drew) := Lib.hid ⟨HS2.drewN 1, below_drewN B4.out 1⟩
      refine ⟨fun W => Row W wr.heap.size 34 #[.int .u64 (p : Int), .int .u64 (q : Int)], fun W hW => hW, hS4, ?_⟩
      refine wpAnyH_done (by kernel_rfl) ?_ _
      have hlen := HLEN.out
      clear HS2 hS4 G3 ev ew hSc d0 d1 f0 f1 d0' d1' f0' f1'
      go_wp2
      refine ⟨⟨k + 1, by omega, by go_num, NX⟩, by simp [intOf]; omega⟩
    · obtain rfl : k = l.length := by omega
      have hj2 := hj.out
      rw [List.take_length, Nat.sub_self, List.replicate_zero, List.append_nil, HRS.out] at hj2
      have HG : Hid (Gs2 eR wr 0 wr.heap.size (.slice (some ⟨w1.heap.size, 0, none⟩) l.length l.length) (rs p0 65536)) := Lib.hid (hj2.1.sl.more (Nat.zero_le _) (Nat.le_refl _))
      have HB : Hid (Below w1.heap.size w1 wr) := Lib.hid hj2.2
      have HBW : Hid (Below w.heap.size w wr) := Lib.hid (B1.out.trans (hj2.2.mono B1.out.size))
      clear hj hj2 HJ
      go_wp2_with fail
      refine (ofRuns_yes (N := fun x => N x ∧ x ≠ w.heap.size) _ _ _ p0 _ (fun x hx => ⟨NN.out x (Nat.le_trans HBW.out.size hx), by have := R1.out.lt; have := HB.out.size; omega⟩) HCN.out HG.out).mono ?_
      rintro e w3 ⟨v3, rfl, g3, b3⟩
      obtain ⟨κv, Av, nv, cv, Bv, mv, dv, Dv, qv, ev, rfl⟩ := g3.form
      have G3 := Lib.hid g3
      have B3 := Lib.hid (below_both HBW.out b3)
      have R3 := Lib.hid ((R1.out.below HB.out R1.out.lt).below b3 (Nat.lt_of_lt_of_le R1.out.lt HB.out.size))
      clear g3 b3
      go_wp2_with fail
      have bz := bx w3 (.cells #[.int .u8 κv, .slice Av nv cv, .slice Bv mv dv, .slice Dv qv ev] 65)
      generalize w3.alloc (.cells #[.int .u8 κv, .slice Av nv cv, .slice Bv mv dv, .slice Dv qv ev] 65) = w4 at *
      have G4 := Lib.hid (G3.out.step bz)
      have B4 := Lib.hid (below_both B3.out bz)
      have R4 := Lib.hid (R3.out.below bz R3.out.lt)
      clear bz
      refine (canonical_c (N := fun x => N x ∧ x ≠ w.heap.size) _ p0 3 _ (TT.out.step B4.out) (fun x hx => ⟨NN.out x (Nat.le_trans B4.out.size hx), by have := R4.out.lt; omega⟩) G4.out).mono ?_
      rintro e w5 ⟨v5, rfl, g5, b5⟩
      obtain ⟨κu, Au, nu, cu, Bu, mu, du, Du, qu, eu, rfl⟩ := g5.form
      have G5 := Lib.hid g5
      have B5 := Lib.hid (below_both B4.out b5)
      have R5 := Lib.hid (R4.out.below b5 R4.out.lt)
      clear g5 b5
      have d0 : w5.cell? ⟨w.heap.size, 0, none⟩ = some (.int .u8 0) := R5.out.cell 0
      have f0 := R5.out.frozen 0
      have d1 : w5.cell? ⟨w.heap.size, 1, none⟩ = some (.slice none 0 0) := R5.out.cell 1
      have f1 := R5.out.frozen 1
      have d2 : w5.cell? ⟨w.heap.size, 2, none⟩ = some (.slice none 0 0) := R5.out.cell 2
      have f2 := R5.out.frozen 2
      have d3 : w5.cell? ⟨w.heap.size, 3, none⟩ = some (.slice none 0 0) := R5.out.cell 3
      have f3 := R5.out.frozen 3
      go_wp2
      have S4 := set4 (a' := .int .u8 κu) (b' := .slice Au nu cu) (c' := .slice Bu mu du) (d' := .slice Du qu eu) R5.out
      have B6 := Lib.hid (B5.out.grown S4.2 B5.out.size (fun j e => by injection e with e; subst e; omega))
      refine bodyPost_ret (ret_row rfl rfl S4.1) rfl ⟨_, rfl, (G5.out.grown S4.2 (fun h => h.2 rfl)).mono (fun x _ h => h.1), B6.out⟩
end Go.Proofs.YtponcpneflhpfaaGreatDoor
namespace Go.Proofs.YtponcpneflhpfaaGreatDoor
open Go.RowKit
set_option linter.unusedVariables false

def lenOf : Value → Nat
  | .slice _ n _ => n
  | _ => 0
/-- What a set that is being made has become. -/
def Put (N : Nat → Prop) (v : Value) (R : Nat → Bool) (b K' : Nat) (s : Value) (w w' : World) : Prop :=
  (∃ N' s' es', Sx N' w' v R b K' s' es' ∧ Nx N w N' w' ∧ (s'.ownBlock = s.ownBlock ∨ ∃ g, s'.ownBlock = some g ∧ w.heap.size ≤ g)) ∧ Off (fun x => x = b ∨ s.ownBlock = some x) w w'
section
variable {f : Bool → Bool → Bool} {P Q : Nat → Bool}
theorem nz_both (h0 : f false false = false) {k : Nat} (hp : nz P k = false) (hq : nz Q k = false) : nz (fun x => f (P x) (Q x)) k = false :=
  nz_not.2 fun x hx => by show f _ _ = false; rw [nz_not.1 hp x hx, nz_not.1 hq x hx, h0]
theorem blk_fst (h0 : f false false = false) {k : Nat} (hq : nz Q k = false) : ∀ x, x < 65536 → blk (fun x => f (P x) (Q x)) k x = (f true false && blk P k x) := fun x hx => by
  show f (P _) (Q _) = (_ && P _)
  rw [nz_not.1 hq x hx]
  cases P (65536 * k + x) <;> simp [h0]
theorem blk_snd (h0 : f false false = false) {k : Nat} (hp : nz P k = false) : ∀ x, x < 65536 → blk (fun x => f (P x) (Q x)) k x = (f false true && blk Q k x) := fun x hx => by
  show f (P _) (Q _) = (_ && Q _)
  rw [nz_not.1 hp x hx]
  cases Q (65536 * k + x) <;> simp [h0]
theorem nz_congr {R S : Nat → Bool} {k : Nat} (h : ∀ x, x < 65536 → blk R k x = blk S k x) : nz R k = nz S k := by unfold nz; rw [ct_ext h]
end
/-- What is known while two directories are gone through. -/
structure Way2 (N : Nat → Prop) (P Q R : Nat → Bool) (W1 : World) (v : Value) (b K : Nat) (ra rb : List En) (s8 s9 : Value) (wr : World) (N' : Nat → Prop) (sl : Value) (es : List En) : Prop where
  ga : GsV eN W1 0 W1.heap.size s8 ra
  gb : GsV eN W1 0 W1.heap.size s9 rb
  da : Dir N W1 P K 65536 ra
  db : Dir N W1 Q K 65536 rb
  st : Sx N' wr v R b K sl es
  nx : Nx N W1 N' wr
  ow : ∀ g, sl.ownBlock = some g → W1.heap.size ≤ g
  bl : W1.heap.size ≤ b
  be : Below W1.heap.size W1 wr
theorem Way2.next {N N' : Nat → Prop} {P Q R : Nat → Bool} {W1 w' : World} {v s8 s9 t8 t9 sl : Value} {b K K' : Nat} {ra rb ta tb es : List En} {wr : World} (h : Way2 N P Q R W1 v b K ra rb s8 s9 wr N' sl es)
    (hp : Put N' v R b K' sl wr w') (ga : GsV eN W1 0 W1.heap.size t8 ta) (gb : GsV eN W1 0 W1.heap.size t9 tb) (da : Dir N W1 P K' 65536 ta) (db : Dir N W1 Q K' 65536 tb) :
    ∃ N'' sl' es', Way2 N P Q R W1 v b K' ta tb t8 t9 w' N'' sl' es' := by
  obtain ⟨⟨N'', s', es', S, X, O⟩, F⟩ := hp
  have hs := h.be.size
  refine ⟨N'', s', es', ga, gb, da, db, S, h.nx.trans X hs F.size, fun g hg => ?_, h.bl, h.be.trans (F.below (fun k hk hm => ?_) hs)⟩
  · rcases O with e | ⟨g', e, hle⟩
    · exact h.ow g (e ▸ hg)
    · rw [e] at hg; injection hg with hg; omega
  · rcases hm with e | e
    · exact e ▸ h.bl
    · exact h.ow k e
theorem Way2.drew {N N' : Nat → Prop} {P Q R : Nat → Bool} {W1 : World} {v s8 s9 sl : Value} {b K : Nat} {ra rb es : List En} {wr : World} (h : Way2 N P Q R W1 v b K ra rb s8 s9 wr N' sl es) (n : Nat) : Way2 N P Q R W1 v b K ra rb s8 s9 (wr.drewN n) N' sl es :=
  ⟨h.ga, h.gb, h.da, h.db, h.st.step (below_drewN (Below.refl _ _) n), ⟨h.nx.old, h.nx.new, h.nx.sub⟩, h.ow, h.bl, below_drewN h.be n⟩
theorem Dir.cut {N : Nat → Prop} {w : World} {P : Nat → Bool} {lo lo' hi : Nat} {es : List En} (h : Dir N w P lo hi es) (hl : lo ≤ lo') (h0 : ∀ k, lo ≤ k → k < lo' → nz P k = false) : Dir N w P lo' hi es :=
  ⟨h.ris, fun e he => by
    obtain ⟨a, b, c, d⟩ := h.mem e he
    refine ⟨?_, b, c, d⟩
    by_cases hk : e.key.toNat < lo'
    · rw [h0 _ a hk] at c; cases c
    · omega, fun k h1 h2 h3 => h.all k (Nat.le_trans hl h1) h2 h3⟩
theorem Way2.cn {N N' : Nat → Prop} {P Q R : Nat → Bool} {W1 : World} {v s8 s9 sl : Value} {b K : Nat} {ra rb es : List En} {wr : World} (h : Way2 N P Q R W1 v b K ra rb s8 s9 wr N' sl es) {u : Value} {p : Nat → Bool} {k : Nat} (hc : Cn N W1 u p k) : Cn N' wr u p k :=
  (hc.mono h.nx.old).step h.be
section
variable {N N' : Nat → Prop} {f : Bool → Bool → Bool} {P Q : Nat → Bool} {W1 : World} {v s8 s9 sl : Value} {b K : Nat} {e d : En} {ra rb es : List En} {wr : World} {t : Bool}
theorem Way2.fst (h : Way2 N P Q (fun x => f (P x) (Q x)) W1 v b K (e :: ra) rb s8 s9 wr N' sl es) (h0 : f false false = false) (h1 : f true false = t) (hq : ∀ j, K ≤ j → j < e.key.toNat + 1 → nz Q j = false) :
    (∀ j, K ≤ j → j < e.key.toNat → nz (fun x => f (P x) (Q x)) j = false) ∧ (t = true → nz (fun x => f (P x) (Q x)) e.key.toNat = true ∧ Cn N' wr e.b.val (blk (fun x => f (P x) (Q x)) e.key.toNat) (ck (blk (fun x => f (P x) (Q x)) e.key.toNat))) ∧ (t = false → nz (fun x => f (P x) (Q x)) e.key.toNat = false) := by
  obtain ⟨a1, a2, a3, a4⟩ := h.da.head
  have hb := blk_fst (P := P) h0 (hq e.key.toNat a1 (by omega))
  rw [h1] at hb
  refine ⟨fun j j1 j2 => nz_both h0 (h.da.gap j j1 j2) (hq j j1 (by omega)), fun ht => ?_, fun ht => ?_⟩
  · subst ht
    simp only [Bool.true_and] at hb
    exact ⟨(nz_congr hb).trans a3, by rw [ck_ext hb]; exact (h.cn a4).ext fun x hx => (hb x hx).symm⟩
  · subst ht
    exact nz_not.2 fun x hx => by have := hb x hx; simpa [blk] using this
theorem Way2.snd (h : Way2 N P Q (fun x => f (P x) (Q x)) W1 v b K ra (e :: rb) s8 s9 wr N' sl es) (h0 : f false false = false) (h1 : f false true = t) (hq : ∀ j, K ≤ j → j < e.key.toNat + 1 → nz P j = false) :
    (∀ j, K ≤ j → j < e.key.toNat → nz (fun x => f (P x) (Q x)) j = false) ∧ (t = true → nz (fun x => f (P x) (Q x)) e.key.toNat = true ∧ Cn N' wr e.b.val (blk (fun x => f (P x) (Q x)) e.key.toNat) (ck (blk (fun x => f (P x) (Q x)) e.key.toNat))) ∧ (t = false → nz (fun x => f (P x) (Q x)) e.key.toNat = false) := by
  obtain ⟨a1, a2, a3, a4⟩ := h.db.head
  have hb := blk_snd (Q := Q) h0 (hq e.key.toNat a1 (by omega))
  rw [h1] at hb
  refine ⟨fun j j1 j2 => nz_both h0 (hq j j1 (by omega)) (h.db.gap j j1 j2), fun ht => ?_, fun ht => ?_⟩
  · subst ht
    simp only [Bool.true_and] at hb
    exact ⟨(nz_congr hb).trans a3, by rw [ck_ext hb]; exact (h.cn a4).ext fun x hx => (hb x hx).symm⟩
  · subst ht
    exact nz_not.2 fun x hx => by have := hb x hx; simpa [blk] using this
end
end Go.Proofs.YtponcpneflhpfaaGreatDoor
