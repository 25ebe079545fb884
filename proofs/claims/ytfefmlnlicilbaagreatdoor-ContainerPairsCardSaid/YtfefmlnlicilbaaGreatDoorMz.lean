/- Proved: for every two slices of numbers, every number and every two integers the law ContainerPairs returns true, and its arguments read as they did; the table of lowest bits of math/bits is as the program's text lays it (the card ties it); no condition of ours. -/
import Derived.Test.YtfefmlnlicilbaaGreatDoorMh
import Derived.Deep.CutRange
import Derived.Deep.DeepCutAuto
import Derived.Deep.LoopGhost
import Derived.Test.YtfefmlnlicilbaaGreatDoorMf
/- Helpers of ContainerPairs: rows beside a block of marks; four containers in an array. -/
namespace Go.Proofs.YtfefmlnlicilbaaGreatDoor
open Go.RowKit
set_option linter.unusedVariables false

/-- Rows lie neither in gm nor in the blocks gs. -/
def Nm (gm : Nat) (gs : List Nat) (b : Nat) : Prop := b ≠ gm ∧ Nn gs b
section
variable {w0 w w' : World} {gm : Nat} {gs : List Nat} {v : Value} {p : Nat → Bool} {k : Nat}
theorem Nl.all2 (h : Nl w0 gs w) (hg : gm < w0.heap.size) (hb : w0.heap.size ≤ w.heap.size) : ∀ b, w.heap.size ≤ b → Nm gm gs b := fun b hx => ⟨by omega, h.all b hx⟩
theorem Cn.old2 (h : Cn (fun b => b ≠ gm) w0 v p k) (b : Below w0.heap.size w0 w) (hl : Nl w0 gs w) : Cn (Nm gm gs) w v p k :=
  (h.mono (N' := Nm gm gs) fun x hx hn => ⟨hn, fun g hg => by have := (hl.1 g hg).1; omega⟩).step b
theorem Cn.made2 (h : Cn (Nm gm gs) w v p k) (b : Below w.heap.size w w') : Cn (Nm gm (w.heap.size :: gs)) w' v p k :=
  (h.mono (N' := Nm gm (w.heap.size :: gs)) fun x hx hn => ⟨hn.1, fun g hg => by
    rcases List.mem_cons.1 hg with e | e
    · rw [e]; omega
    · exact hn.2 g e⟩).step b
theorem Cn.put2 {g : Nat} (h : Cn (Nm gm gs) w v p k) (hg : w.grownBy w' (some g)) (hm : g ∈ gs) : Cn (Nm gm gs) w' v p k := h.grown hg (fun hn => hn.2 g hm rfl)
theorem Cn.step2 (h : Cn (Nm gm gs) w v p k) (b : Below w.heap.size w w') : Cn (Nm gm gs) w' v p k := h.step b
end
section
variable {P : Program}
/-- A whole array, or struct, into its block. -/
theorem wp_store_row' {op : Oper} {a : Act} {w : World} {K : Act → World → Prop} {Q : Exit → Act → World → Prop} (ty : TypeId) (x y : Operand) (ho : op.op = .store ty x y)
    (g : Nat) (cells : Array Value) (hx : a.eval x = .pointer (some ⟨g, 0, none⟩)) (hy : a.eval y = .agg cells) (t : TypeId) (cs : Array Value) (hr : Row w g t cs) (hs : cs.size = cells.size)
    (hi : (P.info? ty).map (·.size) = some cells.size) (h1 : cells.all (·.oneCell') = true)
    (h : ∀ w', Row w' g t cells → w.grownBy w' (some g) → K (a.put op.dst undef) w') : op.wp P a w K Q := by
  unfold Oper.wp execOp
  simp only [ho, hx, hy, Instr.storeAt, Instr.sureAddr, Sem.run_bind, Sem.run_pure, Result.andThen_ok, run_storeVar_row w g t ty cs cells hr hi hs h1]
  refine h _ (setRow_heap w g cs cells t (0, 0) hr) ⟨rfl, rfl, rfl, by simp [World.setRow], fun k hk hne => ?_⟩
  have hne' : ¬ g = k := fun e => hne (by rw [e])
  simp [World.setRow, Array.getElem?_modify, hne']
end
theorem szG : (Tryz.prog.info? 33).map (·.size) = some 16 := by kernel_rfl

/-- The array in block g has the four: both, either, the first one alone, just one. -/
def Got (g : Nat) (p q : Nat → Bool) (W : World) : Prop := ∃ κf Af nf cf Bf mf df Df qf ef κg Ag ng cg Bg mg dg Dg qg eg κh Ah nh ch Bh mh dh Dh qh eh κi Ai ni ci Bi mi di Di qi ei, Row W g 33 #[.int .u8 κf, .slice Af nf cf, .slice Bf mf df, .slice Df qf ef, .int .u8 κg, .slice Ag ng cg, .slice Bg mg dg, .slice Dg qg eg, .int .u8 κh, .slice Ah nh ch, .slice Bh mh dh, .slice Dh qh eh, .int .u8 κi, .slice Ai ni ci, .slice Bi mi di, .slice Di qi ei] ∧
  Cn anyN W (.agg #[.int .u8 κf, .slice Af nf cf, .slice Bf mf df, .slice Df qf ef]) (fun x => fAnd (p x) (q x)) (ck (fun x => fAnd (p x) (q x))) ∧ Cn anyN W (.agg #[.int .u8 κg, .slice Ag ng cg, .slice Bg mg dg, .slice Dg qg eg]) (fun x => fOr (p x) (q x)) (ck (fun x => fOr (p x) (q x))) ∧
  Cn anyN W (.agg #[.int .u8 κh, .slice Ah nh ch, .slice Bh mh dh, .slice Dh qh eh]) (fun x => fNot (p x) (q x)) (ck (fun x => fNot (p x) (q x))) ∧ Cn anyN W (.agg #[.int .u8 κi, .slice Ai ni ci, .slice Bi mi di, .slice Di qi ei]) (fun x => fXor (p x) (q x)) (ck (fun x => fXor (p x) (q x)))
/-- The container in block g has the marks p, and is of kind q; its rows don't lie in gm. -/
def Bxm (gm g : Nat) (p : Nat → Bool) (q : Nat) (W : World) : Prop := ∃ κf Af nf cf Bf mf df Df qf ef, Row W g 28 #[.int .u8 κf, .slice Af nf cf, .slice Bf mf df, .slice Df qf ef] ∧ Cn (fun b => b ≠ gm) W (.agg #[.int .u8 κf, .slice Af nf cf, .slice Bf mf df, .slice Df qf ef]) p q
theorem marks_put (p : Nat → Bool) (x : Nat) : (mA 65536 p).setIfInBounds x (.bool true) = mA 65536 (pls p x) := by
  rw [mA_set]
  unfold mA
  congr 1
  funext j
  show Value.bool (if j.val = x then true else p j.val) = _
  unfold pls
  by_cases h : j.val = x
  · rw [if_pos h, decide_eq_true h, Bool.true_or]
  · rw [if_neg h, decide_eq_false h, Bool.false_or]

set_option maxHeartbeats 400000 in
theorem pairs_long0 (a0 a1 : Option Addr) (len0 cap0 len1 cap1 : Nat) (x y z : Int) (w : World) (hT : Tb w) (h : 3000 < len0) (h2 : len0 ≤ 9223372036854775807) :
    Calls Tryz.prog 3 #[.slice a0 len0 cap0, .slice a1 len1 cap1, .int .u16 x, .int .i64 y, .int .i64 z] w fun e w' => e = .returned (.bool true) ∧ Below w.heap.size w w' := by
  have hi : (len0 : Int) > 3000 := by omega
  have hj : decide ((len0 : Int) > 3000) = true := decide_eq_true hi
  clear h
  go_enter Tryz.func3, Tryz.ntmps3
  go_wp2_with (go_at_call 6; refine (known_any _ hT).mono ?_; rintro e w1 ⟨rfl, b1⟩)
  go_ret
  exact ⟨rfl, b1⟩

set_option maxHeartbeats 400000 in
theorem pairs_long1 (a0 a1 : Option Addr) (len0 cap0 len1 cap1 : Nat) (x y z : Int) (w : World) (hT : Tb w) (g0 : len0 ≤ 3000) (h : 3000 < len1) (h2 : len1 ≤ 9223372036854775807) :
    Calls Tryz.prog 3 #[.slice a0 len0 cap0, .slice a1 len1 cap1, .int .u16 x, .int .i64 y, .int .i64 z] w fun e w' => e = .returned (.bool true) ∧ Below w.heap.size w w' := by
  have hi : (len1 : Int) > 3000 := by omega
  have hj : decide ((len1 : Int) > 3000) = true := decide_eq_true hi
  have i0 : ¬ (len0 : Int) > 3000 := by omega
  have j0 : decide ((len0 : Int) > 3000) = false := decide_eq_false i0
  clear g0
  clear h
  go_enter Tryz.func3, Tryz.ntmps3
  go_wp2_with (go_at_call 6; refine (known_any _ hT).mono ?_; rintro e w1 ⟨rfl, b1⟩)
  go_ret
  exact ⟨rfl, b1⟩
end Go.Proofs.YtfefmlnlicilbaaGreatDoor
/- Proved of ContainerPairs: whatever its arguments. -/
namespace Go.Proofs.YtfefmlnlicilbaaGreatDoor
open Go.RowKit
set_option linter.unusedVariables false

set_option maxHeartbeats 64000000 in
set_option maxRecDepth 100000 in
theorem pairs_good (va vb : Value) (a b : List UInt16) (x : Nat) (lo hi : Int) (w : World) (hT : Tb w) (h0 : Gs e16 w 0 w.heap.size va a) (h1 : Gs e16 w 0 w.heap.size vb b) (l0 : a.length ≤ 3000) (l1 : b.length ≤ 3000) (hx : x < 65536) :
    Calls Tryz.prog 3 #[va, vb, .int .u16 x, .int .i64 lo, .int .i64 hi] w fun e w' => e = .returned (.bool true) ∧ Below w.heap.size w w' := by
  have GA := Lib.hid h0
  have GB := Lib.hid h1
  have TT := Lib.hid hT
  have LA := Lib.hid l0
  have LB := Lib.hid l1
  have HX := Lib.hid hx
  obtain ⟨Aa, ca, rfl, -⟩ := h0
  obtain ⟨Ab, cb, rfl, -⟩ := h1
  have i0 : ¬ (a.length : Int) > 3000 := by omega
  have i1 : ¬ (b.length : Int) > 3000 := by omega
  have j0 : decide ((a.length : Int) > 3000) = false := decide_eq_false i0
  have j1 : decide ((b.length : Int) > 3000) = false := decide_eq_false i1
  obtain ⟨p, hp⟩ : ∃ p, mk a = p := ⟨_, rfl⟩
  obtain ⟨q, hq⟩ : ∃ p, mk b = p := ⟨_, rfl⟩
  obtain ⟨np, hnp⟩ : ∃ n, ct p 65536 = n := ⟨_, rfl⟩
  obtain ⟨nq, hnq⟩ : ∃ n, ct q 65536 = n := ⟨_, rfl⟩
  have HP := Lib.hid hp
  have HQ := Lib.hid hq
  have NP := Lib.hid hnp
  have NQ := Lib.hid hnq
  clear hT l0 l1 hp hq hx hnp hnq
  go_enter Tryz.func3, Tryz.ntmps3
  go_wp2_with fail
  go_loopg [11] 9 (fun g s11 wr => ∃ k : Nat, k + g = 9 ∧ s11 = .int .u8 k ∧ Below w.heap.size w wr)
  case atStart => exact ⟨0, rfl, rfl, Below.refl _ _⟩
  case round =>
    obtain ⟨k, hkg, rfl, hbl⟩ := hrel
    have BB := Lib.hid hbl
    have BZ := Lib.hid hbl
    have T0 := Lib.hid TT.out
    have GA := Lib.hid ((GA.out.below hbl).more (Nat.le_refl _) hbl.size)
    have GB := Lib.hid ((GB.out.below hbl).more (Nat.le_refl _) hbl.size)
    have TT := Lib.hid (TT.out.below hbl (Nat.le_refl _))
    by_cases hlt : k < 9
    · obtain ⟨gk2, rfl⟩ : ∃ n, gk = n + 1 := ⟨gk - 1, by omega⟩
      have hki : (k : Int) < 9 := by omega
      have hkd : decide ((k : Int) < 9) = true := decide_eq_true hki
      obtain ⟨ka, hka⟩ : ∃ n : Nat, (n : Int) = 1 + (k : Int) / 3 := ⟨1 + k / 3, by push_cast; rfl⟩
      obtain ⟨kb, hkb⟩ : ∃ n : Nat, (n : Int) = 1 + (k : Int) % 3 := ⟨1 + k % 3, by push_cast; rfl⟩
      have KA := Lib.hid (show 1 ≤ ka ∧ ka ≤ 3 by omega)
      have KB := Lib.hid (show 1 ≤ kb ∧ kb ≤ 3 by omega)
      have KG := Lib.hid hkg
      have wk : IntKind.u8.wrap ((k : Int) + 1) = (k : Int) + 1 := by simp [IntKind.wrap, IntKind.bits, IntKind.signed]; omega
      have WK := Lib.hid wk
      have hk0 : (0 : Int) ≤ (k : Int) := by omega
      clear hbl hkg hlt wk
      go_wp2_with fail
      rw [← hka]
      refine (make3_c _ a p ka _ TT.out GA.out LA.out HP.out KA.out).mono ?_
      rintro e u1 ⟨v4, gm, rfl, rm, hgm, g, b⟩
      obtain ⟨κx, Ax, nx, cx, Bx, mx, dx, Dx, qx, ex, rfl⟩ := g.form
      have TT := Lib.hid (TT.out.step b)
      have BB := Lib.hid (below_both BB.out b)
      have GA := Lib.hid (GA.out.stp b)
      have GB := Lib.hid (GB.out.stp b)
      have Cx := Lib.hid (g)
      have RM := Lib.hid (rm)
      have GMW := Lib.hid (Nat.le_trans BZ.out.size hgm)
      clear g b rm hgm
      go_wp2_with fail
      have lm := RM.out.lt
      have rz := Row.new u1 28 #[.int .u8 κx, .slice Ax nx cx, .slice Bx mx dx, .slice Dx qx ex]
      have bz := bx u1 (.cells #[.int .u8 κx, .slice Ax nx cx, .slice Bx mx dx, .slice Dx qx ex] 28)
      generalize u1.alloc (.cells #[.int .u8 κx, .slice Ax nx cx, .slice Bx mx dx, .slice Dx qx ex] 28) = u2 at *
      have TT := Lib.hid (TT.out.step bz)
      have BB := Lib.hid (below_both BB.out bz)
      have GA := Lib.hid (GA.out.stp bz)
      have GB := Lib.hid (GB.out.stp bz)
      have Cx := Lib.hid (Cx.out.step bz)
      have RM := Lib.hid (RM.out.below bz RM.out.lt)
      have Rx := Lib.hid rz
      clear rz bz
      rw [← hkb]
      refine (make3_c _ b q kb _ TT.out GB.out LB.out HQ.out KB.out).mono ?_
      rintro e u3 ⟨v4, gn, rfl, rn, -, g, b⟩
      obtain ⟨κy, Ay, ny, cy, By, my, dy, Dy, qy, ey, rfl⟩ := g.form
      have TT := Lib.hid (TT.out.step b)
      have BB := Lib.hid (below_both BB.out b)
      have GA := Lib.hid (GA.out.stp b)
      have GB := Lib.hid (GB.out.stp b)
      have Cx := Lib.hid (Cx.out.step b)
      have RM := Lib.hid (RM.out.below b RM.out.lt)
      have Rx := Lib.hid (Rx.out.below b Rx.out.lt)
      have Cy := Lib.hid (g.mono (N' := anyN) fun _ _ _ => trivial)
      have RN := Lib.hid (rn)
      clear g b rn
      go_upto_region 10 with fail
      have rz := Row.new u3 28 #[.int .u8 κy, .slice Ay ny cy, .slice By my dy, .slice Dy qy ey]
      have bz := bx u3 (.cells #[.int .u8 κy, .slice Ay ny cy, .slice By my dy, .slice Dy qy ey] 28)
      generalize u3.alloc (.cells #[.int .u8 κy, .slice Ay ny cy, .slice By my dy, .slice Dy qy ey] 28) = u4 at *
      have TT := Lib.hid (TT.out.step bz)
      have BB := Lib.hid (below_both BB.out bz)
      have GA := Lib.hid (GA.out.stp bz)
      have GB := Lib.hid (GB.out.stp bz)
      have Cx := Lib.hid (Cx.out.step bz)
      have RM := Lib.hid (RM.out.below bz RM.out.lt)
      have Rx := Lib.hid (Rx.out.below bz Rx.out.lt)
      have Cy := Lib.hid (Cy.out.step bz)
      have RN := Lib.hid (RN.out.below bz RN.out.lt)
      have Ry := Lib.hid rz
      clear rz bz
      go_cut [18] (fun s18 wx => ∃ gg, s18 = .pointer (some ⟨gg, 0, none⟩) ∧ Got gg p q wx ∧ Below u4.heap.size u4 wx)
      case first =>
        refine wp_region_held_drew (S := fun W => Below u4.drew.heap.size u4.drew W) (by kernel_rfl) (Below.refl _ _) (fun _ => ?_)
        have bd : Below u4.heap.size u4 u4.drew := (Below.refl u4.heap.size u4).drew
        generalize u4.drew = U0 at *
        have TT := Lib.hid (TT.out.step bd)
        have BB := Lib.hid (below_both BB.out bd)
        have GA := Lib.hid (GA.out.stp bd)
        have GB := Lib.hid (GB.out.stp bd)
        have Cx := Lib.hid (Cx.out.step bd)
        have RM := Lib.hid (RM.out.below bd RM.out.lt)
        have Rx := Lib.hid (Rx.out.below bd Rx.out.lt)
        have Cy := Lib.hid (Cy.out.step bd)
        have RN := Lib.hid (RN.out.below bd RN.out.lt)
        have Ry := Lib.hid (Ry.out.below bd Ry.out.lt)
        have BD := Lib.hid bd
        clear bd
        have L0 : Hid (∀ W, Below U0.heap.size U0 W → W.cell? ⟨u1.heap.size, 0, none⟩ = some (.int .u8 κx) ∧ W.cell? ⟨u1.heap.size, 1, none⟩ = some (.slice Ax nx cx) ∧ W.cell? ⟨u1.heap.size, 2, none⟩ = some (.slice Bx mx dx) ∧ W.cell? ⟨u1.heap.size, 3, none⟩ = some (.slice Dx qx ex)) := Lib.hid fun W hW => by
          have r := Rx.out.below hW Rx.out.lt
          exact ⟨r.cell 0, r.cell 1, r.cell 2, r.cell 3⟩
        have L1 : Hid (∀ W, Below U0.heap.size U0 W → W.cell? ⟨u3.heap.size, 0, none⟩ = some (.int .u8 κy) ∧ W.cell? ⟨u3.heap.size, 1, none⟩ = some (.slice Ay ny cy) ∧ W.cell? ⟨u3.heap.size, 2, none⟩ = some (.slice By my dy) ∧ W.cell? ⟨u3.heap.size, 3, none⟩ = some (.slice Dy qy ey)) := Lib.hid fun W hW => by
          have r := Ry.out.below hW Ry.out.lt
          exact ⟨r.cell 0, r.cell 1, r.cell 2, r.cell 3⟩
        have hSc := Below.refl U0.heap.size U0
        have NL := Lib.hid (Nl.nil_ U0 U0)
        refine held_take 0 ?_ rfl (by kernel_rfl) (by kernel_rfl) (by kernel_rfl) (fun _ _ _ h => h) (by rfl) ?_ hSc ?_
        rotate_left
        · (intro W hSW; obtain ⟨k0, k1, k2, k3⟩ := L0.out W hSW; go_simp; try rfl)
        try simp only [Act.put, List.setIfInBounds_toArray, List.set_cons_zero, List.set_cons_succ]
        refine held_take 3 ?_ rfl (by kernel_rfl) (by kernel_rfl) (by kernel_rfl) (fun _ _ _ h => h) (by rfl) ?_ hSc ?_
        rotate_left
        · (intro W hSW; obtain ⟨k0, k1, k2, k3⟩ := L0.out W hSW; go_simp; try rfl)
        try simp only [Act.put, List.setIfInBounds_toArray, List.set_cons_zero, List.set_cons_succ]
        refine held_take 6 ?_ rfl (by kernel_rfl) (by kernel_rfl) (by kernel_rfl) (fun _ _ _ h => h) (by rfl) ?_ hSc ?_
        rotate_left
        · (intro W hSW; obtain ⟨k0, k1, k2, k3⟩ := L0.out W hSW; go_simp; try rfl)
        try simp only [Act.put, List.setIfInBounds_toArray, List.set_cons_zero, List.set_cons_succ]
        refine held_take 9 ?_ rfl (by kernel_rfl) (by kernel_rfl) (by kernel_rfl) (fun _ _ _ h => h) (by rfl) ?_ hSc ?_
        rotate_left
        · (intro W hSW; obtain ⟨k0, k1, k2, k3⟩ := L0.out W hSW; go_simp; try rfl)
        try simp only [Act.put, List.setIfInBounds_toArray, List.set_cons_zero, List.set_cons_succ]
        refine held_take 1 ?_ rfl (by kernel_rfl) (by kernel_rfl) (by kernel_rfl) (fun _ _ _ h => h) (by rfl) ?_ hSc ?_
        rotate_left
        · (intro W hSW; obtain ⟨k0, k1, k2, k3⟩ := L1.out W hSW; go_simp; try rfl)
        try simp only [Act.put, List.setIfInBounds_toArray, List.set_cons_zero, List.set_cons_succ]
        refine held_take 4 ?_ rfl (by kernel_rfl) (by kernel_rfl) (by kernel_rfl) (fun _ _ _ h => h) (by rfl) ?_ hSc ?_
        rotate_left
        · (intro W hSW; obtain ⟨k0, k1, k2, k3⟩ := L1.out W hSW; go_simp; try rfl)
        try simp only [Act.put, List.setIfInBounds_toArray, List.set_cons_zero, List.set_cons_succ]
        refine held_take 7 ?_ rfl (by kernel_rfl) (by kernel_rfl) (by kernel_rfl) (fun _ _ _ h => h) (by rfl) ?_ hSc ?_
        rotate_left
        · (intro W hSW; obtain ⟨k0, k1, k2, k3⟩ := L1.out W hSW; go_simp; try rfl)
        try simp only [Act.put, List.setIfInBounds_toArray, List.set_cons_zero, List.set_cons_succ]
        refine held_take 10 ?_ rfl (by kernel_rfl) (by kernel_rfl) (by kernel_rfl) (fun _ _ _ h => h) (by rfl) ?_ hSc ?_
        rotate_left
        · (intro W hSW; obtain ⟨k0, k1, k2, k3⟩ := L1.out W hSW; go_simp; try rfl)
        try simp only [Act.put, List.setIfInBounds_toArray, List.set_cons_zero, List.set_cons_succ]
        clear L0 L1
        refine held_two 2 13 rfl rfl (by kernel_rfl) (by rfl) (by rfl) ?_ ?_
        · skip
          go_simp
          refine (cand _ _ p q ka kb _ (TT.out.step hSc) NL.out.all (Cx.out.old hSc NL.out) (Cy.out.old hSc NL.out)).mono ?_
          rintro e y1 ⟨v', rfl, g, bq⟩
          obtain ⟨κf, Af, nf, cf, Bf, mf, df, Df, qf, ef, rfl⟩ := g.form
          have NL := Lib.hid (NL.out.le bq.size)
          have hS2 : Below U0.heap.size U0 y1 := hSc.trans (bq.mono hSc.size)
          clear hSc
          have hSc := hS2
          clear hS2
          have C1 := Lib.hid g
          clear g bq
          refine ⟨fun W => Below U0.heap.size U0 W, fun W hW => hW, hSc, ?_⟩
          try simp only [Act.put, List.setIfInBounds_toArray, List.set_cons_zero, List.set_cons_succ]
          refine held_two 5 13 rfl rfl (by kernel_rfl) (by rfl) (by rfl) ?_ ?_
          · skip
            go_simp
            refine (cor _ _ p q ka kb _ (TT.out.step hSc) NL.out.all (Cx.out.old hSc NL.out) (Cy.out.old hSc NL.out)).mono ?_
            rintro e y2 ⟨v', rfl, g, bq⟩
            obtain ⟨κg, Ag, ng, cg, Bg, mg, dg, Dg, qg, eg, rfl⟩ := g.form
            have C1 := Lib.hid (C1.out.step bq)
            have NL := Lib.hid (NL.out.le bq.size)
            have hS2 : Below U0.heap.size U0 y2 := hSc.trans (bq.mono hSc.size)
            clear hSc
            have hSc := hS2
            clear hS2
            have C2 := Lib.hid g
            clear g bq
            refine ⟨fun W => Below U0.heap.size U0 W, fun W hW => hW, hSc, ?_⟩
            try simp only [Act.put, List.setIfInBounds_toArray, List.set_cons_zero, List.set_cons_succ]
            refine held_two 8 13 rfl rfl (by kernel_rfl) (by rfl) (by rfl) ?_ ?_
            · skip
              go_simp
              refine (cnot _ _ p q ka kb _ (TT.out.step hSc) NL.out.all (Cx.out.old hSc NL.out) (Cy.out.old hSc NL.out)).mono ?_
              rintro e y3 ⟨v', rfl, g, bq⟩
              obtain ⟨κh, Ah, nh, ch, Bh, mh, dh, Dh, qh, eh, rfl⟩ := g.form
              have C1 := Lib.hid (C1.out.step bq)
              have C2 := Lib.hid (C2.out.step bq)
              have NL := Lib.hid (NL.out.le bq.size)
              have hS2 : Below U0.heap.size U0 y3 := hSc.trans (bq.mono hSc.size)
              clear hSc
              have hSc := hS2
              clear hS2
              have C3 := Lib.hid g
              clear g bq
              refine ⟨fun W => Below U0.heap.size U0 W, fun W hW => hW, hSc, ?_⟩
              try simp only [Act.put, List.setIfInBounds_toArray, List.set_cons_zero, List.set_cons_succ]
              refine held_two 11 13 rfl rfl (by kernel_rfl) (by rfl) (by rfl) ?_ ?_
              · skip
                go_simp
                refine (cxor _ _ p q ka kb _ (TT.out.step hSc) NL.out.all (Cx.out.old hSc NL.out) (Cy.out.old hSc NL.out)).mono ?_
                rintro e y4 ⟨v', rfl, g, bq⟩
                obtain ⟨κi, Ai, ni, ci, Bi, mi, di, Di, qi, ei, rfl⟩ := g.form
                have C1 := Lib.hid (C1.out.step bq)
                have C2 := Lib.hid (C2.out.step bq)
                have C3 := Lib.hid (C3.out.step bq)
                have NL := Lib.hid (NL.out.le bq.size)
                have hS2 : Below U0.heap.size U0 y4 := hSc.trans (bq.mono hSc.size)
                clear hSc
                have hSc := hS2
                clear hS2
                have C4 := Lib.hid g
                clear g bq
                refine ⟨fun W => Below U0.heap.size U0 W, fun W hW => hW, hSc, ?_⟩
                try simp only [Act.put, List.setIfInBounds_toArray, List.set_cons_zero, List.set_cons_succ]
                refine held_take 12 ?_ rfl (by kernel_rfl) (by kernel_rfl) (by kernel_rfl) (fun _ _ _ h => h) (by rfl) ?_ hSc ?_
                rotate_left
                · (intro W hSW; go_simp; try rfl)
                try simp only [Act.put, List.setIfInBounds_toArray, List.set_cons_zero, List.set_cons_succ]
                refine held_next 13 rfl (by kernel_rfl) (by rfl) ?_
                go_simp
                have rz := Row.new y4 33 #[.int .u8 0, .slice none 0 0, .slice none 0 0, .slice none 0 0, .int .u8 0, .slice none 0 0, .slice none 0 0, .slice none 0 0, .int .u8 0, .slice none 0 0, .slice none 0 0, .slice none 0 0, .int .u8 0, .slice none 0 0, .slice none 0 0, .slice none 0 0]
                have bq := bx y4 (.cells #[.int .u8 0, .slice none 0 0, .slice none 0 0, .slice none 0 0, .int .u8 0, .slice none 0 0, .slice none 0 0, .slice none 0 0, .int .u8 0, .slice none 0 0, .slice none 0 0, .slice none 0 0, .int .u8 0, .slice none 0 0, .slice none 0 0, .slice none 0 0] 33)
                have hz : y4.heap.size < (y4.alloc (.cells #[.int .u8 0, .slice none 0 0, .slice none 0 0, .slice none 0 0, .int .u8 0, .slice none 0 0, .slice none 0 0, .slice none 0 0, .int .u8 0, .slice none 0 0, .slice none 0 0, .slice none 0 0, .int .u8 0, .slice none 0 0, .slice none 0 0, .slice none 0 0] 33)).heap.size := rz.lt
                generalize y4.alloc (.cells #[.int .u8 0, .slice none 0 0, .slice none 0 0, .slice none 0 0, .int .u8 0, .slice none 0 0, .slice none 0 0, .slice none 0 0, .int .u8 0, .slice none 0 0, .slice none 0 0, .slice none 0 0, .int .u8 0, .slice none 0 0, .slice none 0 0, .slice none 0 0] 33) = y5 at *
                have C1 := Lib.hid (C1.out.made bq)
                have C2 := Lib.hid (C2.out.made bq)
                have C3 := Lib.hid (C3.out.made bq)
                have C4 := Lib.hid (C4.out.made bq)
                have NL := Lib.hid (NL.out.new hSc.size hz)
                have hS2 : Below U0.heap.size U0 y5 := hSc.trans (bq.mono hSc.size)
                clear hSc
                have hSc := hS2
                clear hS2
                have RE := Lib.hid rz
                clear rz bq hz
                refine ⟨fun W => Below U0.heap.size U0 W, fun W hW => hW, hSc, ?_⟩
                try simp only [Act.put, List.setIfInBounds_toArray, List.set_cons_zero, List.set_cons_succ]
                refine held_next 14 rfl (by kernel_rfl) (by rfl) ?_
                refine wp_store_row' 33 _ _ rfl (y4.heap.size) #[.int .u8 κf, .slice Af nf cf, .slice Bf mf df, .slice Df qf ef, .int .u8 κg, .slice Ag ng cg, .slice Bg mg dg, .slice Dg qg eg, .int .u8 κh, .slice Ah nh ch, .slice Bh mh dh, .slice Dh qh eh, .int .u8 κi, .slice Ai ni ci, .slice Bi mi di, .slice Di qi ei] rfl rfl _ _ RE.out (by rfl) szG (by simp [Value.oneCell']) (fun y6 s4 s5 => ?_)
                have C1 := Lib.hid (C1.out.put s5 (by simp))
                have C2 := Lib.hid (C2.out.put s5 (by simp))
                have C3 := Lib.hid (C3.out.put s5 (by simp))
                have C4 := Lib.hid (C4.out.put s5 (by simp))
                have hS2 : Below U0.heap.size U0 y6 := hSc.grown s5 hSc.size (fun j e => by injection e with e; subst e; exact (NL.out.1 _ (by simp)).1)
                have NL := Lib.hid (NL.out.le s5.size)
                have RE := Lib.hid s4
                clear hSc s4 s5
                have hSc := hS2
                clear hS2
                refine ⟨fun W => Below U0.heap.size U0 W, fun W hW => hW, hSc, ?_⟩
                try simp only [Act.put]
                refine wpAnyH_done (by kernel_rfl) ?_ _
                go_wp2_with fail
                go_meet
                case rel => exact ⟨_, rfl, ⟨_, _, _, _, _, _, _, _, _, _, _, _, _, _, _, _, _, _, _, _, _, _, _, _, _, _, _, _, _, _, _, _, _, _, _, _, _, _, _, _, RE.out, C1.out.mono fun _ _ _ => trivial, C2.out.mono fun _ _ _ => trivial, C3.out.mono fun _ _ _ => trivial, C4.out.mono fun _ _ _ => trivial⟩, below_both BD.out hSc⟩
              · skip
                go_simp
                have rz := Row.new y3 33 #[.int .u8 0, .slice none 0 0, .slice none 0 0, .slice none 0 0, .int .u8 0, .slice none 0 0, .slice none 0 0, .slice none 0 0, .int .u8 0, .slice none 0 0, .slice none 0 0, .slice none 0 0, .int .u8 0, .slice none 0 0, .slice none 0 0, .slice none 0 0]
                have bq := bx y3 (.cells #[.int .u8 0, .slice none 0 0, .slice none 0 0, .slice none 0 0, .int .u8 0, .slice none 0 0, .slice none 0 0, .slice none 0 0, .int .u8 0, .slice none 0 0, .slice none 0 0, .slice none 0 0, .int .u8 0, .slice none 0 0, .slice none 0 0, .slice none 0 0] 33)
                have hz : y3.heap.size < (y3.alloc (.cells #[.int .u8 0, .slice none 0 0, .slice none 0 0, .slice none 0 0, .int .u8 0, .slice none 0 0, .slice none 0 0, .slice none 0 0, .int .u8 0, .slice none 0 0, .slice none 0 0, .slice none 0 0, .int .u8 0, .slice none 0 0, .slice none 0 0, .slice none 0 0] 33)).heap.size := rz.lt
                generalize y3.alloc (.cells #[.int .u8 0, .slice none 0 0, .slice none 0 0, .slice none 0 0, .int .u8 0, .slice none 0 0, .slice none 0 0, .slice none 0 0, .int .u8 0, .slice none 0 0, .slice none 0 0, .slice none 0 0, .int .u8 0, .slice none 0 0, .slice none 0 0, .slice none 0 0] 33) = y7 at *
                have C1 := Lib.hid (C1.out.made bq)
                have C2 := Lib.hid (C2.out.made bq)
                have C3 := Lib.hid (C3.out.made bq)
                have NL := Lib.hid (NL.out.new hSc.size hz)
                have hS2 : Below U0.heap.size U0 y7 := hSc.trans (bq.mono hSc.size)
                clear hSc
                have hSc := hS2
                clear hS2
                have RE := Lib.hid rz
                clear rz bq hz
                refine ⟨fun W => Below U0.heap.size U0 W, fun W hW => hW, hSc, ?_⟩
                try simp only [Act.put, List.setIfInBounds_toArray, List.set_cons_zero, List.set_cons_succ]
                refine held_next 11 rfl (by kernel_rfl) (by rfl) ?_
                go_simp
                refine (cxor _ _ p q ka kb _ (TT.out.step hSc) NL.out.all (Cx.out.old hSc NL.out) (Cy.out.old hSc NL.out)).mono ?_
                rintro e y8 ⟨v', rfl, g, bq⟩
                obtain ⟨κi, Ai, ni, ci, Bi, mi, di, Di, qi, ei, rfl⟩ := g.form
                have C1 := Lib.hid (C1.out.step bq)
                have C2 := Lib.hid (C2.out.step bq)
                have C3 := Lib.hid (C3.out.step bq)
                have RE := Lib.hid (RE.out.below bq RE.out.lt)
                have NL := Lib.hid (NL.out.le bq.size)
                have hS2 : Below U0.heap.size U0 y8 := hSc.trans (bq.mono hSc.size)
                clear hSc
                have hSc := hS2
                clear hS2
                have C4 := Lib.hid g
                clear g bq
                refine ⟨fun W => Below U0.heap.size U0 W, fun W hW => hW, hSc, ?_⟩
                try simp only [Act.put, List.setIfInBounds_toArray, List.set_cons_zero, List.set_cons_succ]
                refine held_take 12 ?_ rfl (by kernel_rfl) (by kernel_rfl) (by kernel_rfl) (fun _ _ _ h => h) (by rfl) ?_ hSc ?_
                rotate_left
                · (intro W hSW; go_simp; try rfl)
                try simp only [Act.put, List.setIfInBounds_toArray, List.set_cons_zero, List.set_cons_succ]
                refine held_next 14 rfl (by kernel_rfl) (by rfl) ?_
                refine wp_store_row' 33 _ _ rfl (y3.heap.size) #[.int .u8 κf, .slice Af nf cf, .slice Bf mf df, .slice Df qf ef, .int .u8 κg, .slice Ag ng cg, .slice Bg mg dg, .slice Dg qg eg, .int .u8 κh, .slice Ah nh ch, .slice Bh mh dh, .slice Dh qh eh, .int .u8 κi, .slice Ai ni ci, .slice Bi mi di, .slice Di qi ei] rfl rfl _ _ RE.out (by rfl) szG (by simp [Value.oneCell']) (fun y9 s4 s5 => ?_)
                have C1 := Lib.hid (C1.out.put s5 (by simp))
                have C2 := Lib.hid (C2.out.put s5 (by simp))
                have C3 := Lib.hid (C3.out.put s5 (by simp))
                have C4 := Lib.hid (C4.out.put s5 (by simp))
                have hS2 : Below U0.heap.size U0 y9 := hSc.grown s5 hSc.size (fun j e => by injection e with e; subst e; exact (NL.out.1 _ (by simp)).1)
                have NL := Lib.hid (NL.out.le s5.size)
                have RE := Lib.hid s4
                clear hSc s4 s5
                have hSc := hS2
                clear hS2
                refine ⟨fun W => Below U0.heap.size U0 W, fun W hW => hW, hSc, ?_⟩
                try simp only [Act.put]
                refine wpAnyH_done (by kernel_rfl) ?_ _
                go_wp2_with fail
                go_meet
                case rel => exact ⟨_, rfl, ⟨_, _, _, _, _, _, _, _, _, _, _, _, _, _, _, _, _, _, _, _, _, _, _, _, _, _, _, _, _, _, _, _, _, _, _, _, _, _, _, _, RE.out, C1.out.mono fun _ _ _ => trivial, C2.out.mono fun _ _ _ => trivial, C3.out.mono fun _ _ _ => trivial, C4.out.mono fun _ _ _ => trivial⟩, below_both BD.out hSc⟩
            · skip
              go_simp
              have rz := Row.new y2 33 #[.int .u8 0, .slice none 0 0, .slice none 0 0, .slice none 0 0, .int .u8 0, .slice none 0 0, .slice none 0 0, .slice none 0 0, .int .u8 0, .slice none 0 0, .slice none 0 0, .slice none 0 0, .int .u8 0, .slice none 0 0, .slice none 0 0, .slice none 0 0]
              have bq := bx y2 (.cells #[.int .u8 0, .slice none 0 0, .slice none 0 0, .slice none 0 0, .int .u8 0, .slice none 0 0, .slice none 0 0, .slice none 0 0, .int .u8 0, .slice none 0 0, .slice none 0 0, .slice none 0 0, .int .u8 0, .slice none 0 0, .slice none 0 0, .slice none 0 0] 33)
              have hz : y2.heap.size < (y2.alloc (.cells #[.int .u8 0, .slice none 0 0, .slice none 0 0, .slice none 0 0, .int .u8 0, .slice none 0 0, .slice none 0 0, .slice none 0 0, .int .u8 0, .slice none 0 0, .slice none 0 0, .slice none 0 0, .int .u8 0, .slice none 0 0, .slice none 0 0, .slice none 0 0] 33)).heap.size := rz.lt
              generalize y2.alloc (.cells #[.int .u8 0, .slice none 0 0, .slice none 0 0, .slice none 0 0, .int .u8 0, .slice none 0 0, .slice none 0 0, .slice none 0 0, .int .u8 0, .slice none 0 0, .slice none 0 0, .slice none 0 0, .int .u8 0, .slice none 0 0, .slice none 0 0, .slice none 0 0] 33) = y10 at *
              have C1 := Lib.hid (C1.out.made bq)
              have C2 := Lib.hid (C2.out.made bq)
              have NL := Lib.hid (NL.out.new hSc.size hz)
              have hS2 : Below U0.heap.size U0 y10 := hSc.trans (bq.mono hSc.size)
              clear hSc
              have hSc := hS2
              clear hS2
              have RE := Lib.hid rz
              clear rz bq hz
              refine ⟨fun W => Below U0.heap.size U0 W, fun W hW => hW, hSc, ?_⟩
              try simp only [Act.put, List.setIfInBounds_toArray, List.set_cons_zero, List.set_cons_succ]
              refine held_next 8 rfl (by kernel_rfl) (by rfl) ?_
              go_simp
              refine (cnot _ _ p q ka kb _ (TT.out.step hSc) NL.out.all (Cx.out.old hSc NL.out) (Cy.out.old hSc NL.out)).mono ?_
              rintro e y11 ⟨v', rfl, g, bq⟩
              obtain ⟨κh, Ah, nh, ch, Bh, mh, dh, Dh, qh, eh, rfl⟩ := g.form
              have C1 := Lib.hid (C1.out.step bq)
              have C2 := Lib.hid (C2.out.step bq)
              have RE := Lib.hid (RE.out.below bq RE.out.lt)
              have NL := Lib.hid (NL.out.le bq.size)
              have hS2 : Below U0.heap.size U0 y11 := hSc.trans (bq.mono hSc.size)
              clear hSc
              have hSc := hS2
              clear hS2
              have C3 := Lib.hid g
              clear g bq
              refine ⟨fun W => Below U0.heap.size U0 W, fun W hW => hW, hSc, ?_⟩
              try simp only [Act.put, List.setIfInBounds_toArray, List.set_cons_zero, List.set_cons_succ]
              refine held_next 11 rfl (by kernel_rfl) (by rfl) ?_
              go_simp
              refine (cxor _ _ p q ka kb _ (TT.out.step hSc) NL.out.all (Cx.out.old hSc NL.out) (Cy.out.old hSc NL.out)).mono ?_
              rintro e y12 ⟨v', rfl, g, bq⟩
              obtain ⟨κi, Ai, ni, ci, Bi, mi, di, Di, qi, ei, rfl⟩ := g.form
              have C1 := Lib.hid (C1.out.step bq)
              have C2 := Lib.hid (C2.out.step bq)
              have C3 := Lib.hid (C3.out.step bq)
              have RE := Lib.hid (RE.out.below bq RE.out.lt)
              have NL := Lib.hid (NL.out.le bq.size)
              have hS2 : Below U0.heap.size U0 y12 := hSc.trans (bq.mono hSc.size)
              clear hSc
              have hSc := hS2
              clear hS2
              have C4 := Lib.hid g
              clear g bq
              refine ⟨fun W => Below U0.heap.size U0 W, fun W hW => hW, hSc, ?_⟩
              try simp only [Act.put, List.setIfInBounds_toArray, List.set_cons_zero, List.set_cons_succ]
              refine held_take 12 ?_ rfl (by kernel_rfl) (by kernel_rfl) (by kernel_rfl) (fun _ _ _ h => h) (by rfl) ?_ hSc ?_
              rotate_left
              · (intro W hSW; go_simp; try rfl)
              try simp only [Act.put, List.setIfInBounds_toArray, List.set_cons_zero, List.set_cons_succ]
              refine held_next 14 rfl (by kernel_rfl) (by rfl) ?_
              refine wp_store_row' 33 _ _ rfl (y2.heap.size) #[.int .u8 κf, .slice Af nf cf, .slice Bf mf df, .slice Df qf ef, .int .u8 κg, .slice Ag ng cg, .slice Bg mg dg, .slice Dg qg eg, .int .u8 κh, .slice Ah nh ch, .slice Bh mh dh, .slice Dh qh eh, .int .u8 κi, .slice Ai ni ci, .slice Bi mi di, .slice Di qi ei] rfl rfl _ _ RE.out (by rfl) szG (by simp [Value.oneCell']) (fun y13 s4 s5 => ?_)
              have C1 := Lib.hid (C1.out.put s5 (by simp))
              have C2 := Lib.hid (C2.out.put s5 (by simp))
              have C3 := Lib.hid (C3.out.put s5 (by simp))
              have C4 := Lib.hid (C4.out.put s5 (by simp))
              have hS2 : Below U0.heap.size U0 y13 := hSc.grown s5 hSc.size (fun j e => by injection e with e; subst e; exact (NL.out.1 _ (by simp)).1)
              have NL := Lib.hid (NL.out.le s5.size)
              have RE := Lib.hid s4
              clear hSc s4 s5
              have hSc := hS2
              clear hS2
              refine ⟨fun W => Below U0.heap.size U0 W, fun W hW => hW, hSc, ?_⟩
              try simp only [Act.put]
              refine wpAnyH_done (by kernel_rfl) ?_ _
              go_wp2_with fail
              go_meet
              case rel => exact ⟨_, rfl, ⟨_, _, _, _, _, _, _, _, _, _, _, _, _, _, _, _, _, _, _, _, _, _, _, _, _, _, _, _, _, _, _, _, _, _, _, _, _, _, _, _, RE.out, C1.out.mono fun _ _ _ => trivial, C2.out.mono fun _ _ _ => trivial, C3.out.mono fun _ _ _ => trivial, C4.out.mono fun _ _ _ => trivial⟩, below_both BD.out hSc⟩
          · skip
            go_simp
            have rz := Row.new y1 33 #[.int .u8 0, .slice none 0 0, .slice none 0 0, .slice none 0 0, .int .u8 0, .slice none 0 0, .slice none 0 0, .slice none 0 0, .int .u8 0, .slice none 0 0, .slice none 0 0, .slice none 0 0, .int .u8 0, .slice none 0 0, .slice none 0 0, .slice none 0 0]
            have bq := bx y1 (.cells #[.int .u8 0, .slice none 0 0, .slice none 0 0, .slice none 0 0, .int .u8 0, .slice none 0 0, .slice none 0 0, .slice none 0 0, .int .u8 0, .slice none 0 0, .slice none 0 0, .slice none 0 0, .int .u8 0, .slice none 0 0, .slice none 0 0, .slice none 0 0] 33)
            have hz : y1.heap.size < (y1.alloc (.cells #[.int .u8 0, .slice none 0 0, .slice none 0 0, .slice none 0 0, .int .u8 0, .slice none 0 0, .slice none 0 0, .slice none 0 0, .int .u8 0, .slice none 0 0, .slice none 0 0, .slice none 0 0, .int .u8 0, .slice none 0 0, .slice none 0 0, .slice none 0 0] 33)).heap.size := rz.lt
            generalize y1.alloc (.cells #[.int .u8 0, .slice none 0 0, .slice none 0 0, .slice none 0 0, .int .u8 0, .slice none 0 0, .slice none 0 0, .slice none 0 0, .int .u8 0, .slice none 0 0, .slice none 0 0, .slice none 0 0, .int .u8 0, .slice none 0 0, .slice none 0 0, .slice none 0 0] 33) = y14 at *
            have C1 := Lib.hid (C1.out.made bq)
            have NL := Lib.hid (NL.out.new hSc.size hz)
            have hS2 : Below U0.heap.size U0 y14 := hSc.trans (bq.mono hSc.size)
            clear hSc
            have hSc := hS2
            clear hS2
            have RE := Lib.hid rz
            clear rz bq hz
            refine ⟨fun W => Below U0.heap.size U0 W, fun W hW => hW, hSc, ?_⟩
            try simp only [Act.put, List.setIfInBounds_toArray, List.set_cons_zero, List.set_cons_succ]
            refine held_next 5 rfl (by kernel_rfl) (by rfl) ?_
            go_simp
            refine (cor _ _ p q ka kb _ (TT.out.step hSc) NL.out.all (Cx.out.old hSc NL.out) (Cy.out.old hSc NL.out)).mono ?_
            rintro e y15 ⟨v', rfl, g, bq⟩
            obtain ⟨κg, Ag, ng, cg, Bg, mg, dg, Dg, qg, eg, rfl⟩ := g.form
            have C1 := Lib.hid (C1.out.step bq)
            have RE := Lib.hid (RE.out.below bq RE.out.lt)
            have NL := Lib.hid (NL.out.le bq.size)
            have hS2 : Below U0.heap.size U0 y15 := hSc.trans (bq.mono hSc.size)
            clear hSc
            have hSc := hS2
            clear hS2
            have C2 := Lib.hid g
            clear g bq
            refine ⟨fun W => Below U0.heap.size U0 W, fun W hW => hW, hSc, ?_⟩
            try simp only [Act.put, List.setIfInBounds_toArray, List.set_cons_zero, List.set_cons_succ]
            refine held_next 8 rfl (by kernel_rfl) (by rfl) ?_
            go_simp
            refine (cnot _ _ p q ka kb _ (TT.out.step hSc) NL.out.all (Cx.out.old hSc NL.out) (Cy.out.old hSc NL.out)).mono ?_
            rintro e y16 ⟨v', rfl, g, bq⟩
            obtain ⟨κh, Ah, nh, ch, Bh, mh, dh, Dh, qh, eh, rfl⟩ := g.form
            have C1 := Lib.hid (C1.out.step bq)
            have C2 := Lib.hid (C2.out.step bq)
            have RE := Lib.hid (RE.out.below bq RE.out.lt)
            have NL := Lib.hid (NL.out.le bq.size)
            have hS2 : Below U0.heap.size U0 y16 := hSc.trans (bq.mono hSc.size)
            clear hSc
            have hSc := hS2
            clear hS2
            have C3 := Lib.hid g
            clear g bq
            refine ⟨fun W => Below U0.heap.size U0 W, fun W hW => hW, hSc, ?_⟩
            try simp only [Act.put, List.setIfInBounds_toArray, List.set_cons_zero, List.set_cons_succ]
            refine held_next 11 rfl (by kernel_rfl) (by rfl) ?_
            go_simp
            refine (cxor _ _ p q ka kb _ (TT.out.step hSc) NL.out.all (Cx.out.old hSc NL.out) (Cy.out.old hSc NL.out)).mono ?_
            rintro e y17 ⟨v', rfl, g, bq⟩
            obtain ⟨κi, Ai, ni, ci, Bi, mi, di, Di, qi, ei, rfl⟩ := g.form
            have C1 := Lib.hid (C1.out.step bq)
            have C2 := Lib.hid (C2.out.step bq)
            have C3 := Lib.hid (C3.out.step bq)
            have RE := Lib.hid (RE.out.below bq RE.out.lt)
            have NL := Lib.hid (NL.out.le bq.size)
            have hS2 : Below U0.heap.size U0 y17 := hSc.trans (bq.mono hSc.size)
            clear hSc
            have hSc := hS2
            clear hS2
            have C4 := Lib.hid g
            clear g bq
            refine ⟨fun W => Below U0.heap.size U0 W, fun W hW => hW, hSc, ?_⟩
            try simp only [Act.put, List.setIfInBounds_toArray, List.set_cons_zero, List.set_cons_succ]
            refine held_take 12 ?_ rfl (by kernel_rfl) (by kernel_rfl) (by kernel_rfl) (fun _ _ _ h => h) (by rfl) ?_ hSc ?_
            rotate_left
            · (intro W hSW; go_simp; try rfl)
            try simp only [Act.put, List.setIfInBounds_toArray, List.set_cons_zero, List.set_cons_succ]
            refine held_next 14 rfl (by kernel_rfl) (by rfl) ?_
            refine wp_store_row' 33 _ _ rfl (y1.heap.size) #[.int .u8 κf, .slice Af nf cf, .slice Bf mf df, .slice Df qf ef, .int .u8 κg, .slice Ag ng cg, .slice Bg mg dg, .slice Dg qg eg, .int .u8 κh, .slice Ah nh ch, .slice Bh mh dh, .slice Dh qh eh, .int .u8 κi, .slice Ai ni ci, .slice Bi mi di, .slice Di qi ei] rfl rfl _ _ RE.out (by rfl) szG (by simp [Value.oneCell']) (fun y18 s4 s5 => ?_)
            have C1 := Lib.hid (C1.out.put s5 (by simp))
            have C2 := Lib.hid (C2.out.put s5 (by simp))
            have C3 := Lib.hid (C3.out.put s5 (by simp))
            have C4 := Lib.hid (C4.out.put s5 (by simp))
            have hS2 : Below U0.heap.size U0 y18 := hSc.grown s5 hSc.size (fun j e => by injection e with e; subst e; exact (NL.out.1 _ (by simp)).1)
            have NL := Lib.hid (NL.out.le s5.size)
            have RE := Lib.hid s4
            clear hSc s4 s5
            have hSc := hS2
            clear hS2
            refine ⟨fun W => Below U0.heap.size U0 W, fun W hW => hW, hSc, ?_⟩
            try simp only [Act.put]
            refine wpAnyH_done (by kernel_rfl) ?_ _
            go_wp2_with fail
            go_meet
            case rel => exact ⟨_, rfl, ⟨_, _, _, _, _, _, _, _, _, _, _, _, _, _, _, _, _, _, _, _, _, _, _, _, _, _, _, _, _, _, _, _, _, _, _, _, _, _, _, _, RE.out, C1.out.mono fun _ _ _ => trivial, C2.out.mono fun _ _ _ => trivial, C3.out.mono fun _ _ _ => trivial, C4.out.mono fun _ _ _ => trivial⟩, below_both BD.out hSc⟩
        · skip
          go_simp
          have rz := Row.new U0 33 #[.int .u8 0, .slice none 0 0, .slice none 0 0, .slice none 0 0, .int .u8 0, .slice none 0 0, .slice none 0 0, .slice none 0 0, .int .u8 0, .slice none 0 0, .slice none 0 0, .slice none 0 0, .int .u8 0, .slice none 0 0, .slice none 0 0, .slice none 0 0]
          have bq := bx U0 (.cells #[.int .u8 0, .slice none 0 0, .slice none 0 0, .slice none 0 0, .int .u8 0, .slice none 0 0, .slice none 0 0, .slice none 0 0, .int .u8 0, .slice none 0 0, .slice none 0 0, .slice none 0 0, .int .u8 0, .slice none 0 0, .slice none 0 0, .slice none 0 0] 33)
          have hz : U0.heap.size < (U0.alloc (.cells #[.int .u8 0, .slice none 0 0, .slice none 0 0, .slice none 0 0, .int .u8 0, .slice none 0 0, .slice none 0 0, .slice none 0 0, .int .u8 0, .slice none 0 0, .slice none 0 0, .slice none 0 0, .int .u8 0, .slice none 0 0, .slice none 0 0, .slice none 0 0] 33)).heap.size := rz.lt
          generalize U0.alloc (.cells #[.int .u8 0, .slice none 0 0, .slice none 0 0, .slice none 0 0, .int .u8 0, .slice none 0 0, .slice none 0 0, .slice none 0 0, .int .u8 0, .slice none 0 0, .slice none 0 0, .slice none 0 0, .int .u8 0, .slice none 0 0, .slice none 0 0, .slice none 0 0] 33) = y19 at *
          have NL := Lib.hid (NL.out.new hSc.size hz)
          have hS2 : Below U0.heap.size U0 y19 := hSc.trans (bq.mono hSc.size)
          clear hSc
          have hSc := hS2
          clear hS2
          have RE := Lib.hid rz
          clear rz bq hz
          refine ⟨fun W => Below U0.heap.size U0 W, fun W hW => hW, hSc, ?_⟩
          try simp only [Act.put, List.setIfInBounds_toArray, List.set_cons_zero, List.set_cons_succ]
          refine held_next 2 rfl (by kernel_rfl) (by rfl) ?_
          go_simp
          refine (cand _ _ p q ka kb _ (TT.out.step hSc) NL.out.all (Cx.out.old hSc NL.out) (Cy.out.old hSc NL.out)).mono ?_
          rintro e y20 ⟨v', rfl, g, bq⟩
          obtain ⟨κf, Af, nf, cf, Bf, mf, df, Df, qf, ef, rfl⟩ := g.form
          have RE := Lib.hid (RE.out.below bq RE.out.lt)
          have NL := Lib.hid (NL.out.le bq.size)
          have hS2 : Below U0.heap.size U0 y20 := hSc.trans (bq.mono hSc.size)
          clear hSc
          have hSc := hS2
          clear hS2
          have C1 := Lib.hid g
          clear g bq
          refine ⟨fun W => Below U0.heap.size U0 W, fun W hW => hW, hSc, ?_⟩
          try simp only [Act.put, List.setIfInBounds_toArray, List.set_cons_zero, List.set_cons_succ]
          refine held_next 5 rfl (by kernel_rfl) (by rfl) ?_
          go_simp
          refine (cor _ _ p q ka kb _ (TT.out.step hSc) NL.out.all (Cx.out.old hSc NL.out) (Cy.out.old hSc NL.out)).mono ?_
          rintro e y21 ⟨v', rfl, g, bq⟩
          obtain ⟨κg, Ag, ng, cg, Bg, mg, dg, Dg, qg, eg, rfl⟩ := g.form
          have C1 := Lib.hid (C1.out.step bq)
          have RE := Lib.hid (RE.out.below bq RE.out.lt)
          have NL := Lib.hid (NL.out.le bq.size)
          have hS2 : Below U0.heap.size U0 y21 := hSc.trans (bq.mono hSc.size)
          clear hSc
          have hSc := hS2
          clear hS2
          have C2 := Lib.hid g
          clear g bq
          refine ⟨fun W => Below U0.heap.size U0 W, fun W hW => hW, hSc, ?_⟩
          try simp only [Act.put, List.setIfInBounds_toArray, List.set_cons_zero, List.set_cons_succ]
          refine held_next 8 rfl (by kernel_rfl) (by rfl) ?_
          go_simp
          refine (cnot _ _ p q ka kb _ (TT.out.step hSc) NL.out.all (Cx.out.old hSc NL.out) (Cy.out.old hSc NL.out)).mono ?_
          rintro e y22 ⟨v', rfl, g, bq⟩
          obtain ⟨κh, Ah, nh, ch, Bh, mh, dh, Dh, qh, eh, rfl⟩ := g.form
          have C1 := Lib.hid (C1.out.step bq)
          have C2 := Lib.hid (C2.out.step bq)
          have RE := Lib.hid (RE.out.below bq RE.out.lt)
          have NL := Lib.hid (NL.out.le bq.size)
          have hS2 : Below U0.heap.size U0 y22 := hSc.trans (bq.mono hSc.size)
          clear hSc
          have hSc := hS2
          clear hS2
          have C3 := Lib.hid g
          clear g bq
          refine ⟨fun W => Below U0.heap.size U0 W, fun W hW => hW, hSc, ?_⟩
          try simp only [Act.put, List.setIfInBounds_toArray, List.set_cons_zero, List.set_cons_succ]
          refine held_next 11 rfl (by kernel_rfl) (by rfl) ?_
          go_simp
          refine (cxor _ _ p q ka kb _ (TT.out.step hSc) NL.out.all (Cx.out.old hSc NL.out) (Cy.out.old hSc NL.out)).mono ?_
          rintro e y23 ⟨v', rfl, g, bq⟩
          obtain ⟨κi, Ai, ni, ci, Bi, mi, di, Di, qi, ei, rfl⟩ := g.form
          have C1 := Lib.hid (C1.out.step bq)
          have C2 := Lib.hid (C2.out.step bq)
          have C3 := Lib.hid (C3.out.step bq)
          have RE := Lib.hid (RE.out.below bq RE.out.lt)
          have NL := Lib.hid (NL.out.le bq.size)
          have hS2 : Below U0.heap.size U0 y23 := hSc.trans (bq.mono hSc.size)
          clear hSc
          have hSc := hS2
          clear hS2
          have C4 := Lib.hid g
          clear g bq
          refine ⟨fun W => Below U0.heap.size U0 W, fun W hW => hW, hSc, ?_⟩
          try simp only [Act.put, List.setIfInBounds_toArray, List.set_cons_zero, List.set_cons_succ]
          refine held_take 12 ?_ rfl (by kernel_rfl) (by kernel_rfl) (by kernel_rfl) (fun _ _ _ h => h) (by rfl) ?_ hSc ?_
          rotate_left
          · (intro W hSW; go_simp; try rfl)
          try simp only [Act.put, List.setIfInBounds_toArray, List.set_cons_zero, List.set_cons_succ]
          refine held_next 14 rfl (by kernel_rfl) (by rfl) ?_
          refine wp_store_row' 33 _ _ rfl (U0.heap.size) #[.int .u8 κf, .slice Af nf cf, .slice Bf mf df, .slice Df qf ef, .int .u8 κg, .slice Ag ng cg, .slice Bg mg dg, .slice Dg qg eg, .int .u8 κh, .slice Ah nh ch, .slice Bh mh dh, .slice Dh qh eh, .int .u8 κi, .slice Ai ni ci, .slice Bi mi di, .slice Di qi ei] rfl rfl _ _ RE.out (by rfl) szG (by simp [Value.oneCell']) (fun y24 s4 s5 => ?_)
          have C1 := Lib.hid (C1.out.put s5 (by simp))
          have C2 := Lib.hid (C2.out.put s5 (by simp))
          have C3 := Lib.hid (C3.out.put s5 (by simp))
          have C4 := Lib.hid (C4.out.put s5 (by simp))
          have hS2 : Below U0.heap.size U0 y24 := hSc.grown s5 hSc.size (fun j e => by injection e with e; subst e; exact (NL.out.1 _ (by simp)).1)
          have NL := Lib.hid (NL.out.le s5.size)
          have RE := Lib.hid s4
          clear hSc s4 s5
          have hSc := hS2
          clear hS2
          refine ⟨fun W => Below U0.heap.size U0 W, fun W hW => hW, hSc, ?_⟩
          try simp only [Act.put]
          refine wpAnyH_done (by kernel_rfl) ?_ _
          go_wp2_with fail
          go_meet
          case rel => exact ⟨_, rfl, ⟨_, _, _, _, _, _, _, _, _, _, _, _, _, _, _, _, _, _, _, _, _, _, _, _, _, _, _, _, _, _, _, _, _, _, _, _, _, _, _, _, RE.out, C1.out.mono fun _ _ _ => trivial, C2.out.mono fun _ _ _ => trivial, C3.out.mono fun _ _ _ => trivial, C4.out.mono fun _ _ _ => trivial⟩, below_both BD.out hSc⟩
      case rest =>
        obtain ⟨gg, rfl, hgot, bd⟩ := hcut
        have TT := Lib.hid (TT.out.step bd)
        have BB := Lib.hid (below_both BB.out bd)
        have GA := Lib.hid (GA.out.stp bd)
        have GB := Lib.hid (GB.out.stp bd)
        have Cx := Lib.hid (Cx.out.step bd)
        have RM := Lib.hid (RM.out.below bd RM.out.lt)
        have Rx := Lib.hid (Rx.out.below bd Rx.out.lt)
        have Cy := Lib.hid (Cy.out.step bd)
        have RN := Lib.hid (RN.out.below bd RN.out.lt)
        have Ry := Lib.hid (Ry.out.below bd Ry.out.lt)
        clear bd
        generalize wc = v1 at *
        obtain ⟨κf, Af, nf, cf, Bf, mf, df, Df, qf, ef, κg, Ag, ng, cg, Bg, mg, dg, Dg, qg, eg, κh, Ah, nh, ch, Bh, mh, dh, Dh, qh, eh, κi, Ai, ni, ci, Bi, mi, di, Di, qi, ei, hG, hf, hg, hh, hi⟩ := hgot
        obtain ⟨Pf, hPf⟩ : ∃ P, (fun x => fAnd (p x) (q x)) = P := ⟨_, rfl⟩
        obtain ⟨Kf, hKf⟩ : ∃ n, ck Pf = n := ⟨_, rfl⟩
        obtain ⟨Nf, hNf⟩ : ∃ n, ct Pf 65536 = n := ⟨_, rfl⟩
        rw [hPf, hKf] at hf
        have Cf := Lib.hid hf
        have EPf := Lib.hid hPf
        have EKf := Lib.hid hKf
        have ENf := Lib.hid hNf
        clear hf hPf hKf hNf
        obtain ⟨Pg, hPg⟩ : ∃ P, (fun x => fOr (p x) (q x)) = P := ⟨_, rfl⟩
        obtain ⟨Kg, hKg⟩ : ∃ n, ck Pg = n := ⟨_, rfl⟩
        obtain ⟨Ng, hNg⟩ : ∃ n, ct Pg 65536 = n := ⟨_, rfl⟩
        rw [hPg, hKg] at hg
        have Cg := Lib.hid hg
        have EPg := Lib.hid hPg
        have EKg := Lib.hid hKg
        have ENg := Lib.hid hNg
        clear hg hPg hKg hNg
        obtain ⟨Ph, hPh⟩ : ∃ P, (fun x => fNot (p x) (q x)) = P := ⟨_, rfl⟩
        obtain ⟨Kh, hKh⟩ : ∃ n, ck Ph = n := ⟨_, rfl⟩
        obtain ⟨Nh, hNh⟩ : ∃ n, ct Ph 65536 = n := ⟨_, rfl⟩
        rw [hPh, hKh] at hh
        have Ch := Lib.hid hh
        have EPh := Lib.hid hPh
        have EKh := Lib.hid hKh
        have ENh := Lib.hid hNh
        clear hh hPh hKh hNh
        obtain ⟨Pi, hPi⟩ : ∃ P, (fun x => fXor (p x) (q x)) = P := ⟨_, rfl⟩
        obtain ⟨Ki, hKi⟩ : ∃ n, ck Pi = n := ⟨_, rfl⟩
        obtain ⟨Ni, hNi⟩ : ∃ n, ct Pi 65536 = n := ⟨_, rfl⟩
        rw [hPi, hKi] at hi
        have Ci := Lib.hid hi
        have EPi := Lib.hid hPi
        have EKi := Lib.hid hKi
        have ENi := Lib.hid hNi
        clear hi hPi hKi hNi
        have RG := Lib.hid hG
        clear hG
        go_wp2_with fail
        go_loopg [74] 4 (fun g2 s74 wx => ∃ j : Nat, j + g2 = 4 ∧ s74 = .int .i64 j ∧ Below v1.heap.size v1 wx)
        case atStart => exact ⟨0, rfl, rfl, Below.refl _ _⟩
        case round =>
          obtain ⟨j, hj, rfl, hb2⟩ := hrel
          have TT := Lib.hid (TT.out.step hb2)
          have BB := Lib.hid (below_both BB.out hb2)
          have GA := Lib.hid (GA.out.stp hb2)
          have GB := Lib.hid (GB.out.stp hb2)
          have Cx := Lib.hid (Cx.out.step hb2)
          have RM := Lib.hid (RM.out.below hb2 RM.out.lt)
          have Rx := Lib.hid (Rx.out.below hb2 Rx.out.lt)
          have Cy := Lib.hid (Cy.out.step hb2)
          have RN := Lib.hid (RN.out.below hb2 RN.out.lt)
          have Ry := Lib.hid (Ry.out.below hb2 Ry.out.lt)
          have Cf := Lib.hid (Cf.out.step hb2)
          have Cg := Lib.hid (Cg.out.step hb2)
          have Ch := Lib.hid (Ch.out.step hb2)
          have Ci := Lib.hid (Ci.out.step hb2)
          have RG := Lib.hid (RG.out.below hb2 RG.out.lt)
          generalize wr = v2 at *
          by_cases hl2 : j < 4
          · obtain ⟨gk3, rfl⟩ : ∃ n, gk = n + 1 := ⟨gk - 1, by omega⟩
            have hj4 : j = 0 ∨ j = 1 ∨ j = 2 ∨ j = 3 := by omega
            have B2 := Lib.hid hb2
            clear hb2 hl2
            rcases hj4 with rfl | rfl | rfl | rfl
            · skip
              go_wp2_with fail
              refine (both_and gm gn p q _ RM.out RN.out).mono ?_
              rw [EPf.out]
              rintro e u111 ⟨rfl, rw_, b⟩
              have TT := Lib.hid (TT.out.step b)
              have BB := Lib.hid (below_both BB.out b)
              have Cx := Lib.hid (Cx.out.step b)
              have RM := Lib.hid (RM.out.below b RM.out.lt)
              have Rx := Lib.hid (Rx.out.below b Rx.out.lt)
              have RN := Lib.hid (RN.out.below b RN.out.lt)
              have Ry := Lib.hid (Ry.out.below b Ry.out.lt)
              have Cf := Lib.hid (Cf.out.step b)
              have RG := Lib.hid (RG.out.below b RG.out.lt)
              have B2 := Lib.hid (below_both B2.out b)
              have RW := Lib.hid (rw_)
              clear b rw_
              have kk0 : u111.cell? ⟨gg, 0, none⟩ = some (.int .u8 κf) := RG.out.cell 0
              have kk1 : u111.cell? ⟨gg, 1, none⟩ = some (.slice Af nf cf) := RG.out.cell 1
              have kk2 : u111.cell? ⟨gg, 2, none⟩ = some (.slice Bf mf df) := RG.out.cell 2
              have kk3 : u111.cell? ⟨gg, 3, none⟩ = some (.slice Df qf ef) := RG.out.cell 3
              go_wp2_with fail
              clear kk0 kk1 kk2 kk3
              refine (kind_c _ Pf Kf _ Cf.out).mono ?_
              rintro e u112 ⟨rfl, b⟩
              have TT := Lib.hid (TT.out.step b)
              have BB := Lib.hid (below_both BB.out b)
              have Cx := Lib.hid (Cx.out.step b)
              have RM := Lib.hid (RM.out.below b RM.out.lt)
              have Rx := Lib.hid (Rx.out.below b Rx.out.lt)
              have RN := Lib.hid (RN.out.below b RN.out.lt)
              have Ry := Lib.hid (Ry.out.below b Ry.out.lt)
              have Cf := Lib.hid (Cf.out.step b)
              have RG := Lib.hid (RG.out.below b RG.out.lt)
              have B2 := Lib.hid (below_both B2.out b)
              have RW := Lib.hid (RW.out.below b RW.out.lt)
              clear b
              go_wp2_with fail
              refine (refKind_c _ Pf Kf _ RW.out EKf.out).mono ?_
              rintro e u113 ⟨rfl, b⟩
              have TT := Lib.hid (TT.out.step b)
              have BB := Lib.hid (below_both BB.out b)
              have Cx := Lib.hid (Cx.out.step b)
              have RM := Lib.hid (RM.out.below b RM.out.lt)
              have Rx := Lib.hid (Rx.out.below b Rx.out.lt)
              have RN := Lib.hid (RN.out.below b RN.out.lt)
              have Ry := Lib.hid (Ry.out.below b Ry.out.lt)
              have Cf := Lib.hid (Cf.out.step b)
              have RG := Lib.hid (RG.out.below b RG.out.lt)
              have B2 := Lib.hid (below_both B2.out b)
              have RW := Lib.hid (RW.out.below b RW.out.lt)
              clear b
              have kk0 : u113.cell? ⟨gg, 0, none⟩ = some (.int .u8 κf) := RG.out.cell 0
              have kk1 : u113.cell? ⟨gg, 1, none⟩ = some (.slice Af nf cf) := RG.out.cell 1
              have kk2 : u113.cell? ⟨gg, 2, none⟩ = some (.slice Bf mf df) := RG.out.cell 2
              have kk3 : u113.cell? ⟨gg, 3, none⟩ = some (.slice Df qf ef) := RG.out.cell 3
              go_wp2_with fail
              clear kk0 kk1 kk2 kk3
              refine (array_c _ Pf Kf Nf _ TT.out ENf.out Cf.out).mono ?_
              rintro e u114 ⟨X3, x3, rfl, g, b⟩
              have TT := Lib.hid (TT.out.step b)
              have BB := Lib.hid (below_both BB.out b)
              have Cx := Lib.hid (Cx.out.step b)
              have RM := Lib.hid (RM.out.below b RM.out.lt)
              have Rx := Lib.hid (Rx.out.below b Rx.out.lt)
              have RN := Lib.hid (RN.out.below b RN.out.lt)
              have Ry := Lib.hid (Ry.out.below b Ry.out.lt)
              have Cf := Lib.hid (Cf.out.step b)
              have RG := Lib.hid (RG.out.below b RG.out.lt)
              have B2 := Lib.hid (below_both B2.out b)
              have RW := Lib.hid (RW.out.below b RW.out.lt)
              have G3 := Lib.hid (g.more (Nat.zero_le _) (Nat.le_refl _))
              clear g b
              go_wp2_with fail
              refine (marks_list_n _ Pf Nf _ RW.out ENf.out).mono ?_
              rintro e u115 ⟨X4, x4, rfl, g, b⟩
              have TT := Lib.hid (TT.out.step b)
              have BB := Lib.hid (below_both BB.out b)
              have Cx := Lib.hid (Cx.out.step b)
              have RM := Lib.hid (RM.out.below b RM.out.lt)
              have Rx := Lib.hid (Rx.out.below b Rx.out.lt)
              have RN := Lib.hid (RN.out.below b RN.out.lt)
              have Ry := Lib.hid (Ry.out.below b Ry.out.lt)
              have Cf := Lib.hid (Cf.out.step b)
              have RG := Lib.hid (RG.out.below b RG.out.lt)
              have B2 := Lib.hid (below_both B2.out b)
              have RW := Lib.hid (RW.out.below b RW.out.lt)
              have G3 := Lib.hid (G3.out.stp b)
              have G4 := Lib.hid (g.more (Nat.zero_le _) (Nat.le_refl _))
              clear g b
              go_wp2_with fail
              refine (same16_p _ _ _ _ _ G3.out G4.out rfl).mono ?_
              rintro e u116 ⟨rfl, b⟩
              have TT := Lib.hid (TT.out.step b)
              have BB := Lib.hid (below_both BB.out b)
              have Cx := Lib.hid (Cx.out.step b)
              have RM := Lib.hid (RM.out.below b RM.out.lt)
              have Rx := Lib.hid (Rx.out.below b Rx.out.lt)
              have RN := Lib.hid (RN.out.below b RN.out.lt)
              have Ry := Lib.hid (Ry.out.below b Ry.out.lt)
              have Cf := Lib.hid (Cf.out.step b)
              have RG := Lib.hid (RG.out.below b RG.out.lt)
              have B2 := Lib.hid (below_both B2.out b)
              have RW := Lib.hid (RW.out.below b RW.out.lt)
              have G3 := Lib.hid (G3.out.stp b)
              have G4 := Lib.hid (G4.out.stp b)
              clear b
              go_wp2
              go_roundg gk3
              case measure => omega
              case rel => exact ⟨1, by omega, rfl, B2.out⟩
            · skip
              go_wp2_with fail
              refine (both_or gm gn p q _ RM.out RN.out).mono ?_
              rw [EPg.out]
              rintro e u131 ⟨rfl, rw_, b⟩
              have TT := Lib.hid (TT.out.step b)
              have BB := Lib.hid (below_both BB.out b)
              have Cx := Lib.hid (Cx.out.step b)
              have RM := Lib.hid (RM.out.below b RM.out.lt)
              have Rx := Lib.hid (Rx.out.below b Rx.out.lt)
              have RN := Lib.hid (RN.out.below b RN.out.lt)
              have Ry := Lib.hid (Ry.out.below b Ry.out.lt)
              have Cg := Lib.hid (Cg.out.step b)
              have RG := Lib.hid (RG.out.below b RG.out.lt)
              have B2 := Lib.hid (below_both B2.out b)
              have RW := Lib.hid (rw_)
              clear b rw_
              have kk0 : u131.cell? ⟨gg, 4, none⟩ = some (.int .u8 κg) := RG.out.cell 4
              have kk1 : u131.cell? ⟨gg, 5, none⟩ = some (.slice Ag ng cg) := RG.out.cell 5
              have kk2 : u131.cell? ⟨gg, 6, none⟩ = some (.slice Bg mg dg) := RG.out.cell 6
              have kk3 : u131.cell? ⟨gg, 7, none⟩ = some (.slice Dg qg eg) := RG.out.cell 7
              go_wp2_with fail
              clear kk0 kk1 kk2 kk3
              refine (kind_c _ Pg Kg _ Cg.out).mono ?_
              rintro e u132 ⟨rfl, b⟩
              have TT := Lib.hid (TT.out.step b)
              have BB := Lib.hid (below_both BB.out b)
              have Cx := Lib.hid (Cx.out.step b)
              have RM := Lib.hid (RM.out.below b RM.out.lt)
              have Rx := Lib.hid (Rx.out.below b Rx.out.lt)
              have RN := Lib.hid (RN.out.below b RN.out.lt)
              have Ry := Lib.hid (Ry.out.below b Ry.out.lt)
              have Cg := Lib.hid (Cg.out.step b)
              have RG := Lib.hid (RG.out.below b RG.out.lt)
              have B2 := Lib.hid (below_both B2.out b)
              have RW := Lib.hid (RW.out.below b RW.out.lt)
              clear b
              go_wp2_with fail
              refine (refKind_c _ Pg Kg _ RW.out EKg.out).mono ?_
              rintro e u133 ⟨rfl, b⟩
              have TT := Lib.hid (TT.out.step b)
              have BB := Lib.hid (below_both BB.out b)
              have Cx := Lib.hid (Cx.out.step b)
              have RM := Lib.hid (RM.out.below b RM.out.lt)
              have Rx := Lib.hid (Rx.out.below b Rx.out.lt)
              have RN := Lib.hid (RN.out.below b RN.out.lt)
              have Ry := Lib.hid (Ry.out.below b Ry.out.lt)
              have Cg := Lib.hid (Cg.out.step b)
              have RG := Lib.hid (RG.out.below b RG.out.lt)
              have B2 := Lib.hid (below_both B2.out b)
              have RW := Lib.hid (RW.out.below b RW.out.lt)
              clear b
              have kk0 : u133.cell? ⟨gg, 4, none⟩ = some (.int .u8 κg) := RG.out.cell 4
              have kk1 : u133.cell? ⟨gg, 5, none⟩ = some (.slice Ag ng cg) := RG.out.cell 5
              have kk2 : u133.cell? ⟨gg, 6, none⟩ = some (.slice Bg mg dg) := RG.out.cell 6
              have kk3 : u133.cell? ⟨gg, 7, none⟩ = some (.slice Dg qg eg) := RG.out.cell 7
              go_wp2_with fail
              clear kk0 kk1 kk2 kk3
              refine (array_c _ Pg Kg Ng _ TT.out ENg.out Cg.out).mono ?_
              rintro e u134 ⟨X3, x3, rfl, g, b⟩
              have TT := Lib.hid (TT.out.step b)
              have BB := Lib.hid (below_both BB.out b)
              have Cx := Lib.hid (Cx.out.step b)
              have RM := Lib.hid (RM.out.below b RM.out.lt)
              have Rx := Lib.hid (Rx.out.below b Rx.out.lt)
              have RN := Lib.hid (RN.out.below b RN.out.lt)
              have Ry := Lib.hid (Ry.out.below b Ry.out.lt)
              have Cg := Lib.hid (Cg.out.step b)
              have RG := Lib.hid (RG.out.below b RG.out.lt)
              have B2 := Lib.hid (below_both B2.out b)
              have RW := Lib.hid (RW.out.below b RW.out.lt)
              have G3 := Lib.hid (g.more (Nat.zero_le _) (Nat.le_refl _))
              clear g b
              go_wp2_with fail
              refine (marks_list_n _ Pg Ng _ RW.out ENg.out).mono ?_
              rintro e u135 ⟨X4, x4, rfl, g, b⟩
              have TT := Lib.hid (TT.out.step b)
              have BB := Lib.hid (below_both BB.out b)
              have Cx := Lib.hid (Cx.out.step b)
              have RM := Lib.hid (RM.out.below b RM.out.lt)
              have Rx := Lib.hid (Rx.out.below b Rx.out.lt)
              have RN := Lib.hid (RN.out.below b RN.out.lt)
              have Ry := Lib.hid (Ry.out.below b Ry.out.lt)
              have Cg := Lib.hid (Cg.out.step b)
              have RG := Lib.hid (RG.out.below b RG.out.lt)
              have B2 := Lib.hid (below_both B2.out b)
              have RW := Lib.hid (RW.out.below b RW.out.lt)
              have G3 := Lib.hid (G3.out.stp b)
              have G4 := Lib.hid (g.more (Nat.zero_le _) (Nat.le_refl _))
              clear g b
              go_wp2_with fail
              refine (same16_p _ _ _ _ _ G3.out G4.out rfl).mono ?_
              rintro e u136 ⟨rfl, b⟩
              have TT := Lib.hid (TT.out.step b)
              have BB := Lib.hid (below_both BB.out b)
              have Cx := Lib.hid (Cx.out.step b)
              have RM := Lib.hid (RM.out.below b RM.out.lt)
              have Rx := Lib.hid (Rx.out.below b Rx.out.lt)
              have RN := Lib.hid (RN.out.below b RN.out.lt)
              have Ry := Lib.hid (Ry.out.below b Ry.out.lt)
              have Cg := Lib.hid (Cg.out.step b)
              have RG := Lib.hid (RG.out.below b RG.out.lt)
              have B2 := Lib.hid (below_both B2.out b)
              have RW := Lib.hid (RW.out.below b RW.out.lt)
              have G3 := Lib.hid (G3.out.stp b)
              have G4 := Lib.hid (G4.out.stp b)
              clear b
              go_wp2
              go_roundg gk3
              case measure => omega
              case rel => exact ⟨2, by omega, rfl, B2.out⟩
            · skip
              go_wp2_with fail
              refine (both_not gm gn p q _ RM.out RN.out).mono ?_
              rw [EPh.out]
              rintro e u151 ⟨rfl, rw_, b⟩
              have TT := Lib.hid (TT.out.step b)
              have BB := Lib.hid (below_both BB.out b)
              have Cx := Lib.hid (Cx.out.step b)
              have RM := Lib.hid (RM.out.below b RM.out.lt)
              have Rx := Lib.hid (Rx.out.below b Rx.out.lt)
              have RN := Lib.hid (RN.out.below b RN.out.lt)
              have Ry := Lib.hid (Ry.out.below b Ry.out.lt)
              have Ch := Lib.hid (Ch.out.step b)
              have RG := Lib.hid (RG.out.below b RG.out.lt)
              have B2 := Lib.hid (below_both B2.out b)
              have RW := Lib.hid (rw_)
              clear b rw_
              have kk0 : u151.cell? ⟨gg, 8, none⟩ = some (.int .u8 κh) := RG.out.cell 8
              have kk1 : u151.cell? ⟨gg, 9, none⟩ = some (.slice Ah nh ch) := RG.out.cell 9
              have kk2 : u151.cell? ⟨gg, 10, none⟩ = some (.slice Bh mh dh) := RG.out.cell 10
              have kk3 : u151.cell? ⟨gg, 11, none⟩ = some (.slice Dh qh eh) := RG.out.cell 11
              go_wp2_with fail
              clear kk0 kk1 kk2 kk3
              refine (kind_c _ Ph Kh _ Ch.out).mono ?_
              rintro e u152 ⟨rfl, b⟩
              have TT := Lib.hid (TT.out.step b)
              have BB := Lib.hid (below_both BB.out b)
              have Cx := Lib.hid (Cx.out.step b)
              have RM := Lib.hid (RM.out.below b RM.out.lt)
              have Rx := Lib.hid (Rx.out.below b Rx.out.lt)
              have RN := Lib.hid (RN.out.below b RN.out.lt)
              have Ry := Lib.hid (Ry.out.below b Ry.out.lt)
              have Ch := Lib.hid (Ch.out.step b)
              have RG := Lib.hid (RG.out.below b RG.out.lt)
              have B2 := Lib.hid (below_both B2.out b)
              have RW := Lib.hid (RW.out.below b RW.out.lt)
              clear b
              go_wp2_with fail
              refine (refKind_c _ Ph Kh _ RW.out EKh.out).mono ?_
              rintro e u153 ⟨rfl, b⟩
              have TT := Lib.hid (TT.out.step b)
              have BB := Lib.hid (below_both BB.out b)
              have Cx := Lib.hid (Cx.out.step b)
              have RM := Lib.hid (RM.out.below b RM.out.lt)
              have Rx := Lib.hid (Rx.out.below b Rx.out.lt)
              have RN := Lib.hid (RN.out.below b RN.out.lt)
              have Ry := Lib.hid (Ry.out.below b Ry.out.lt)
              have Ch := Lib.hid (Ch.out.step b)
              have RG := Lib.hid (RG.out.below b RG.out.lt)
              have B2 := Lib.hid (below_both B2.out b)
              have RW := Lib.hid (RW.out.below b RW.out.lt)
              clear b
              have kk0 : u153.cell? ⟨gg, 8, none⟩ = some (.int .u8 κh) := RG.out.cell 8
              have kk1 : u153.cell? ⟨gg, 9, none⟩ = some (.slice Ah nh ch) := RG.out.cell 9
              have kk2 : u153.cell? ⟨gg, 10, none⟩ = some (.slice Bh mh dh) := RG.out.cell 10
              have kk3 : u153.cell? ⟨gg, 11, none⟩ = some (.slice Dh qh eh) := RG.out.cell 11
              go_wp2_with fail
              clear kk0 kk1 kk2 kk3
              refine (array_c _ Ph Kh Nh _ TT.out ENh.out Ch.out).mono ?_
              rintro e u154 ⟨X3, x3, rfl, g, b⟩
              have TT := Lib.hid (TT.out.step b)
              have BB := Lib.hid (below_both BB.out b)
              have Cx := Lib.hid (Cx.out.step b)
              have RM := Lib.hid (RM.out.below b RM.out.lt)
              have Rx := Lib.hid (Rx.out.below b Rx.out.lt)
              have RN := Lib.hid (RN.out.below b RN.out.lt)
              have Ry := Lib.hid (Ry.out.below b Ry.out.lt)
              have Ch := Lib.hid (Ch.out.step b)
              have RG := Lib.hid (RG.out.below b RG.out.lt)
              have B2 := Lib.hid (below_both B2.out b)
              have RW := Lib.hid (RW.out.below b RW.out.lt)
              have G3 := Lib.hid (g.more (Nat.zero_le _) (Nat.le_refl _))
              clear g b
              go_wp2_with fail
              refine (marks_list_n _ Ph Nh _ RW.out ENh.out).mono ?_
              rintro e u155 ⟨X4, x4, rfl, g, b⟩
              have TT := Lib.hid (TT.out.step b)
              have BB := Lib.hid (below_both BB.out b)
              have Cx := Lib.hid (Cx.out.step b)
              have RM := Lib.hid (RM.out.below b RM.out.lt)
              have Rx := Lib.hid (Rx.out.below b Rx.out.lt)
              have RN := Lib.hid (RN.out.below b RN.out.lt)
              have Ry := Lib.hid (Ry.out.below b Ry.out.lt)
              have Ch := Lib.hid (Ch.out.step b)
              have RG := Lib.hid (RG.out.below b RG.out.lt)
              have B2 := Lib.hid (below_both B2.out b)
              have RW := Lib.hid (RW.out.below b RW.out.lt)
              have G3 := Lib.hid (G3.out.stp b)
              have G4 := Lib.hid (g.more (Nat.zero_le _) (Nat.le_refl _))
              clear g b
              go_wp2_with fail
              refine (same16_p _ _ _ _ _ G3.out G4.out rfl).mono ?_
              rintro e u156 ⟨rfl, b⟩
              have TT := Lib.hid (TT.out.step b)
              have BB := Lib.hid (below_both BB.out b)
              have Cx := Lib.hid (Cx.out.step b)
              have RM := Lib.hid (RM.out.below b RM.out.lt)
              have Rx := Lib.hid (Rx.out.below b Rx.out.lt)
              have RN := Lib.hid (RN.out.below b RN.out.lt)
              have Ry := Lib.hid (Ry.out.below b Ry.out.lt)
              have Ch := Lib.hid (Ch.out.step b)
              have RG := Lib.hid (RG.out.below b RG.out.lt)
              have B2 := Lib.hid (below_both B2.out b)
              have RW := Lib.hid (RW.out.below b RW.out.lt)
              have G3 := Lib.hid (G3.out.stp b)
              have G4 := Lib.hid (G4.out.stp b)
              clear b
              go_wp2
              go_roundg gk3
              case measure => omega
              case rel => exact ⟨3, by omega, rfl, B2.out⟩
            · skip
              go_wp2_with fail
              refine (both_xor gm gn p q _ RM.out RN.out).mono ?_
              rw [EPi.out]
              rintro e u171 ⟨rfl, rw_, b⟩
              have TT := Lib.hid (TT.out.step b)
              have BB := Lib.hid (below_both BB.out b)
              have Cx := Lib.hid (Cx.out.step b)
              have RM := Lib.hid (RM.out.below b RM.out.lt)
              have Rx := Lib.hid (Rx.out.below b Rx.out.lt)
              have RN := Lib.hid (RN.out.below b RN.out.lt)
              have Ry := Lib.hid (Ry.out.below b Ry.out.lt)
              have Ci := Lib.hid (Ci.out.step b)
              have RG := Lib.hid (RG.out.below b RG.out.lt)
              have B2 := Lib.hid (below_both B2.out b)
              have RW := Lib.hid (rw_)
              clear b rw_
              have kk0 : u171.cell? ⟨gg, 12, none⟩ = some (.int .u8 κi) := RG.out.cell 12
              have kk1 : u171.cell? ⟨gg, 13, none⟩ = some (.slice Ai ni ci) := RG.out.cell 13
              have kk2 : u171.cell? ⟨gg, 14, none⟩ = some (.slice Bi mi di) := RG.out.cell 14
              have kk3 : u171.cell? ⟨gg, 15, none⟩ = some (.slice Di qi ei) := RG.out.cell 15
              go_wp2_with fail
              clear kk0 kk1 kk2 kk3
              refine (kind_c _ Pi Ki _ Ci.out).mono ?_
              rintro e u172 ⟨rfl, b⟩
              have TT := Lib.hid (TT.out.step b)
              have BB := Lib.hid (below_both BB.out b)
              have Cx := Lib.hid (Cx.out.step b)
              have RM := Lib.hid (RM.out.below b RM.out.lt)
              have Rx := Lib.hid (Rx.out.below b Rx.out.lt)
              have RN := Lib.hid (RN.out.below b RN.out.lt)
              have Ry := Lib.hid (Ry.out.below b Ry.out.lt)
              have Ci := Lib.hid (Ci.out.step b)
              have RG := Lib.hid (RG.out.below b RG.out.lt)
              have B2 := Lib.hid (below_both B2.out b)
              have RW := Lib.hid (RW.out.below b RW.out.lt)
              clear b
              go_wp2_with fail
              refine (refKind_c _ Pi Ki _ RW.out EKi.out).mono ?_
              rintro e u173 ⟨rfl, b⟩
              have TT := Lib.hid (TT.out.step b)
              have BB := Lib.hid (below_both BB.out b)
              have Cx := Lib.hid (Cx.out.step b)
              have RM := Lib.hid (RM.out.below b RM.out.lt)
              have Rx := Lib.hid (Rx.out.below b Rx.out.lt)
              have RN := Lib.hid (RN.out.below b RN.out.lt)
              have Ry := Lib.hid (Ry.out.below b Ry.out.lt)
              have Ci := Lib.hid (Ci.out.step b)
              have RG := Lib.hid (RG.out.below b RG.out.lt)
              have B2 := Lib.hid (below_both B2.out b)
              have RW := Lib.hid (RW.out.below b RW.out.lt)
              clear b
              have kk0 : u173.cell? ⟨gg, 12, none⟩ = some (.int .u8 κi) := RG.out.cell 12
              have kk1 : u173.cell? ⟨gg, 13, none⟩ = some (.slice Ai ni ci) := RG.out.cell 13
              have kk2 : u173.cell? ⟨gg, 14, none⟩ = some (.slice Bi mi di) := RG.out.cell 14
              have kk3 : u173.cell? ⟨gg, 15, none⟩ = some (.slice Di qi ei) := RG.out.cell 15
              go_wp2_with fail
              clear kk0 kk1 kk2 kk3
              refine (array_c _ Pi Ki Ni _ TT.out ENi.out Ci.out).mono ?_
              rintro e u174 ⟨X3, x3, rfl, g, b⟩
              have TT := Lib.hid (TT.out.step b)
              have BB := Lib.hid (below_both BB.out b)
              have Cx := Lib.hid (Cx.out.step b)
              have RM := Lib.hid (RM.out.below b RM.out.lt)
              have Rx := Lib.hid (Rx.out.below b Rx.out.lt)
              have RN := Lib.hid (RN.out.below b RN.out.lt)
              have Ry := Lib.hid (Ry.out.below b Ry.out.lt)
              have Ci := Lib.hid (Ci.out.step b)
              have RG := Lib.hid (RG.out.below b RG.out.lt)
              have B2 := Lib.hid (below_both B2.out b)
              have RW := Lib.hid (RW.out.below b RW.out.lt)
              have G3 := Lib.hid (g.more (Nat.zero_le _) (Nat.le_refl _))
              clear g b
              go_wp2_with fail
              refine (marks_list_n _ Pi Ni _ RW.out ENi.out).mono ?_
              rintro e u175 ⟨X4, x4, rfl, g, b⟩
              have TT := Lib.hid (TT.out.step b)
              have BB := Lib.hid (below_both BB.out b)
              have Cx := Lib.hid (Cx.out.step b)
              have RM := Lib.hid (RM.out.below b RM.out.lt)
              have Rx := Lib.hid (Rx.out.below b Rx.out.lt)
              have RN := Lib.hid (RN.out.below b RN.out.lt)
              have Ry := Lib.hid (Ry.out.below b Ry.out.lt)
              have Ci := Lib.hid (Ci.out.step b)
              have RG := Lib.hid (RG.out.below b RG.out.lt)
              have B2 := Lib.hid (below_both B2.out b)
              have RW := Lib.hid (RW.out.below b RW.out.lt)
              have G3 := Lib.hid (G3.out.stp b)
              have G4 := Lib.hid (g.more (Nat.zero_le _) (Nat.le_refl _))
              clear g b
              go_wp2_with fail
              refine (same16_p _ _ _ _ _ G3.out G4.out rfl).mono ?_
              rintro e u176 ⟨rfl, b⟩
              have TT := Lib.hid (TT.out.step b)
              have BB := Lib.hid (below_both BB.out b)
              have Cx := Lib.hid (Cx.out.step b)
              have RM := Lib.hid (RM.out.below b RM.out.lt)
              have Rx := Lib.hid (Rx.out.below b Rx.out.lt)
              have RN := Lib.hid (RN.out.below b RN.out.lt)
              have Ry := Lib.hid (Ry.out.below b Ry.out.lt)
              have Ci := Lib.hid (Ci.out.step b)
              have RG := Lib.hid (RG.out.below b RG.out.lt)
              have B2 := Lib.hid (below_both B2.out b)
              have RW := Lib.hid (RW.out.below b RW.out.lt)
              have G3 := Lib.hid (G3.out.stp b)
              have G4 := Lib.hid (G4.out.stp b)
              clear b
              go_wp2
              go_roundg gk3
              case measure => omega
              case rel => exact ⟨4, by omega, rfl, B2.out⟩
          · obtain rfl : j = 4 := by omega
            clear Cf
            clear Cg
            clear Ch
            clear Ci
            clear RG
            clear GA
            clear GB
            clear hb2 hl2 hj
            go_upto_region 18 with fail
            obtain ⟨P1, hP1⟩ : ∃ P, flp p lo hi = P := ⟨_, rfl⟩
            obtain ⟨K1, hK1⟩ : ∃ n, ck P1 = n := ⟨_, rfl⟩
            obtain ⟨N1, hN1⟩ : ∃ n, ct P1 65536 = n := ⟨_, rfl⟩
            obtain ⟨P2, hP2⟩ : ∃ P, pls p x = P := ⟨_, rfl⟩
            obtain ⟨K2, hK2⟩ : ∃ n, ck P2 = n := ⟨_, rfl⟩
            obtain ⟨N2, hN2⟩ : ∃ n, ct P2 65536 = n := ⟨_, rfl⟩
            have EP1 := Lib.hid hP1
            have EK1 := Lib.hid hK1
            have EN1 := Lib.hid hN1
            have EP2 := Lib.hid hP2
            have EK2 := Lib.hid hK2
            have EN2 := Lib.hid hN2
            clear hP1 hK1 hN1 hP2 hK2 hN2
            go_cut [21, 22] (fun s21 s22 wx => ∃ ge gf, s21 = .pointer (some ⟨ge, 0, none⟩) ∧ s22 = .pointer (some ⟨gf, 0, none⟩) ∧ Bxm gm ge P1 K1 wx ∧ Bxm gm gf P2 K2 wx ∧ gf ≠ gm ∧ Below v2.heap.size v2 wx)
            case first =>
              refine wp_region_held_drew (S := fun W => Below v2.drew.heap.size v2.drew W) (by kernel_rfl) (Below.refl _ _) (fun _ => ?_)
              have bd : Below v2.heap.size v2 v2.drew := (Below.refl v2.heap.size v2).drew
              generalize v2.drew = U0 at *
              have TT := Lib.hid (TT.out.step bd)
              have BB := Lib.hid (below_both BB.out bd)
              have Cx := Lib.hid (Cx.out.step bd)
              have RM := Lib.hid (RM.out.below bd RM.out.lt)
              have Rx := Lib.hid (Rx.out.below bd Rx.out.lt)
              have Cy := Lib.hid (Cy.out.step bd)
              have RN := Lib.hid (RN.out.below bd RN.out.lt)
              have Ry := Lib.hid (Ry.out.below bd Ry.out.lt)
              have BD := Lib.hid bd
              have GM := Lib.hid RM.out.lt
              clear bd
              have L0 : Hid (∀ W, Below U0.heap.size U0 W → W.cell? ⟨u1.heap.size, 0, none⟩ = some (.int .u8 κx) ∧ W.cell? ⟨u1.heap.size, 1, none⟩ = some (.slice Ax nx cx) ∧ W.cell? ⟨u1.heap.size, 2, none⟩ = some (.slice Bx mx dx) ∧ W.cell? ⟨u1.heap.size, 3, none⟩ = some (.slice Dx qx ex)) := Lib.hid fun W hW => by
                have r := Rx.out.below hW Rx.out.lt
                exact ⟨r.cell 0, r.cell 1, r.cell 2, r.cell 3⟩
              have hSc := Below.refl U0.heap.size U0
              have NL := Lib.hid (Nl.nil_ U0 U0)
              refine held_take 0 ?_ rfl (by kernel_rfl) (by kernel_rfl) (by kernel_rfl) (fun _ _ _ h => h) (by rfl) ?_ hSc ?_
              rotate_left
              · (intro W hSW; obtain ⟨k0, k1, k2, k3⟩ := L0.out W hSW; go_simp; try rfl)
              try simp only [Act.put, List.setIfInBounds_toArray, List.set_cons_zero, List.set_cons_succ]
              refine held_take 1 ?_ rfl (by kernel_rfl) (by kernel_rfl) (by kernel_rfl) (fun _ _ _ h => h) (by rfl) ?_ hSc ?_
              rotate_left
              · (intro W hSW; go_simp; try rfl)
              try simp only [Act.put, List.setIfInBounds_toArray, List.set_cons_zero, List.set_cons_succ]
              refine held_take 2 ?_ rfl (by kernel_rfl) (by kernel_rfl) (by kernel_rfl) (fun _ _ _ h => h) (by rfl) ?_ hSc ?_
              rotate_left
              · (intro W hSW; go_simp; try rfl)
              try simp only [Act.put, List.setIfInBounds_toArray, List.set_cons_zero, List.set_cons_succ]
              refine held_take 4 ?_ rfl (by kernel_rfl) (by kernel_rfl) (by kernel_rfl) (fun _ _ _ h => h) (by rfl) ?_ hSc ?_
              rotate_left
              · (intro W hSW; obtain ⟨k0, k1, k2, k3⟩ := L0.out W hSW; go_simp; try rfl)
              try simp only [Act.put, List.setIfInBounds_toArray, List.set_cons_zero, List.set_cons_succ]
              refine held_take 5 ?_ rfl (by kernel_rfl) (by kernel_rfl) (by kernel_rfl) (fun _ _ _ h => h) (by rfl) ?_ hSc ?_
              rotate_left
              · (intro W hSW; go_simp; try rfl)
              try simp only [Act.put, List.setIfInBounds_toArray, List.set_cons_zero, List.set_cons_succ]
              clear L0
              refine held_three 3 7 8 rfl rfl rfl (by kernel_rfl) (by rfl) (by rfl) (by rfl) ?_ ?_ ?_
              · skip
                go_simp
                refine (flip_c _ p ka lo hi _ (TT.out.step hSc) (NL.out.all2 GM.out hSc.size) (Cx.out.old2 hSc NL.out)).mono ?_
                rw [EP1.out, EK1.out]
                rintro e y1 ⟨v', rfl, g, bq⟩
                obtain ⟨κj, Aj, nj, cj, Bj, mj, dj, Dj, qj, ej, rfl⟩ := g.form
                have NL := Lib.hid (NL.out.le bq.size)
                have hS2 : Below U0.heap.size U0 y1 := hSc.trans (bq.mono hSc.size)
                clear hSc
                have hSc := hS2
                clear hS2
                have C1 := Lib.hid g
                clear g bq
                refine ⟨fun W => Below U0.heap.size U0 W, fun W hW => hW, hSc, ?_⟩
                try simp only [Act.put, List.setIfInBounds_toArray, List.set_cons_zero, List.set_cons_succ]
                refine held_three 6 7 8 rfl rfl rfl (by kernel_rfl) (by rfl) (by rfl) (by rfl) ?_ ?_ ?_
                · skip
                  go_simp
                  refine (with_c _ p ka x _ (TT.out.step hSc) (NL.out.all2 GM.out hSc.size) HX.out (Cx.out.old2 hSc NL.out)).mono ?_
                  rw [EP2.out, EK2.out]
                  rintro e y2 ⟨v', rfl, g, bq⟩
                  obtain ⟨κk, Ak, nk, ck, Bk, mk, dk, Dk, qk, ek, rfl⟩ := g.form
                  have C1 := Lib.hid (C1.out.step bq)
                  have NL := Lib.hid (NL.out.le bq.size)
                  have hS2 : Below U0.heap.size U0 y2 := hSc.trans (bq.mono hSc.size)
                  clear hSc
                  have hSc := hS2
                  clear hS2
                  have C2 := Lib.hid g
                  clear g bq
                  refine ⟨fun W => Below U0.heap.size U0 W, fun W hW => hW, hSc, ?_⟩
                  try simp only [Act.put, List.setIfInBounds_toArray, List.set_cons_zero, List.set_cons_succ]
                  refine held_two 7 8 rfl rfl (by kernel_rfl) (by rfl) (by rfl) ?_ ?_
                  · skip
                    go_simp
                    have rz := Row.new y2 28 #[.int .u8 0, .slice none 0 0, .slice none 0 0, .slice none 0 0]
                    have bq := bx y2 (.cells #[.int .u8 0, .slice none 0 0, .slice none 0 0, .slice none 0 0] 28)
                    have hz : y2.heap.size < (y2.alloc (.cells #[.int .u8 0, .slice none 0 0, .slice none 0 0, .slice none 0 0] 28)).heap.size := rz.lt
                    generalize y2.alloc (.cells #[.int .u8 0, .slice none 0 0, .slice none 0 0, .slice none 0 0] 28) = y3 at *
                    have C1 := Lib.hid (C1.out.made2 bq)
                    have C2 := Lib.hid (C2.out.made2 bq)
                    have NL := Lib.hid (NL.out.new hSc.size hz)
                    have hS2 : Below U0.heap.size U0 y3 := hSc.trans (bq.mono hSc.size)
                    clear hSc
                    have hSc := hS2
                    clear hS2
                    have RE := Lib.hid rz
                    clear rz bq hz
                    refine ⟨fun W => Below U0.heap.size U0 W, fun W hW => hW, hSc, ?_⟩
                    try simp only [Act.put, List.setIfInBounds_toArray, List.set_cons_zero, List.set_cons_succ]
                    refine held_next 8 rfl (by kernel_rfl) (by rfl) ?_
                    go_simp
                    have rz := Row.new y3 28 #[.int .u8 0, .slice none 0 0, .slice none 0 0, .slice none 0 0]
                    have bq := bx y3 (.cells #[.int .u8 0, .slice none 0 0, .slice none 0 0, .slice none 0 0] 28)
                    have hz : y3.heap.size < (y3.alloc (.cells #[.int .u8 0, .slice none 0 0, .slice none 0 0, .slice none 0 0] 28)).heap.size := rz.lt
                    generalize y3.alloc (.cells #[.int .u8 0, .slice none 0 0, .slice none 0 0, .slice none 0 0] 28) = y4 at *
                    have C1 := Lib.hid (C1.out.made2 bq)
                    have C2 := Lib.hid (C2.out.made2 bq)
                    have RE := Lib.hid (RE.out.below bq RE.out.lt)
                    have NL := Lib.hid (NL.out.new hSc.size hz)
                    have hS2 : Below U0.heap.size U0 y4 := hSc.trans (bq.mono hSc.size)
                    clear hSc
                    have hSc := hS2
                    clear hS2
                    have RF := Lib.hid rz
                    clear rz bq hz
                    refine ⟨fun W => Below U0.heap.size U0 W, fun W hW => hW, hSc, ?_⟩
                    try simp only [Act.put, List.setIfInBounds_toArray, List.set_cons_zero, List.set_cons_succ]
                    have d0 : y4.cell? ⟨y2.heap.size, 0, none⟩ = some (.int .u8 0) := RE.out.cell 0
                    have f0 := RE.out.frozen 0
                    have d1 : y4.cell? ⟨y2.heap.size, 1, none⟩ = some (.slice none 0 0) := RE.out.cell 1
                    have f1 := RE.out.frozen 1
                    have d2 : y4.cell? ⟨y2.heap.size, 2, none⟩ = some (.slice none 0 0) := RE.out.cell 2
                    have f2 := RE.out.frozen 2
                    have d3 : y4.cell? ⟨y2.heap.size, 3, none⟩ = some (.slice none 0 0) := RE.out.cell 3
                    have f3 := RE.out.frozen 3
                    refine held_next 9 rfl (by kernel_rfl) (by rfl) ?_
                    go_simp
                    have S4 := set4 (a' := .int .u8 κj) (b' := .slice Aj nj cj) (c' := .slice Bj mj dj) (d' := .slice Dj qj ej) RE.out
                    generalize (((y4.setCell ⟨y2.heap.size, 0, none⟩ (.int .u8 κj)).setCell ⟨y2.heap.size, 1, none⟩ (.slice Aj nj cj)).setCell ⟨y2.heap.size, 2, none⟩ (.slice Bj mj dj)).setCell ⟨y2.heap.size, 3, none⟩ (.slice Dj qj ej) = y5 at *
                    obtain ⟨s4, s5⟩ := S4
                    have C1 := Lib.hid (C1.out.put2 s5 (by simp))
                    have C2 := Lib.hid (C2.out.put2 s5 (by simp))
                    have RF := Lib.hid (RF.out.grown s5 (by intro e; injection e with e; have := NL.out.2; simp at this; omega))
                    have hS2 : Below U0.heap.size U0 y5 := hSc.grown s5 hSc.size (fun j e => by injection e with e; subst e; exact (NL.out.1 _ (by simp)).1)
                    have NL := Lib.hid (NL.out.le s5.size)
                    have RE := Lib.hid s4
                    clear hSc d0 d1 d2 d3 f0 f1 f2 f3 s4 s5
                    have hSc := hS2
                    clear hS2
                    refine ⟨fun W => Below U0.heap.size U0 W, fun W hW => hW, hSc, ?_⟩
                    try simp only [Act.put, List.setIfInBounds_toArray, List.set_cons_zero, List.set_cons_succ]
                    have d0 : y5.cell? ⟨y3.heap.size, 0, none⟩ = some (.int .u8 0) := RF.out.cell 0
                    have f0 := RF.out.frozen 0
                    have d1 : y5.cell? ⟨y3.heap.size, 1, none⟩ = some (.slice none 0 0) := RF.out.cell 1
                    have f1 := RF.out.frozen 1
                    have d2 : y5.cell? ⟨y3.heap.size, 2, none⟩ = some (.slice none 0 0) := RF.out.cell 2
                    have f2 := RF.out.frozen 2
                    have d3 : y5.cell? ⟨y3.heap.size, 3, none⟩ = some (.slice none 0 0) := RF.out.cell 3
                    have f3 := RF.out.frozen 3
                    refine held_next 10 rfl (by kernel_rfl) (by rfl) ?_
                    go_simp
                    have S4 := set4 (a' := .int .u8 κk) (b' := .slice Ak nk ck) (c' := .slice Bk mk dk) (d' := .slice Dk qk ek) RF.out
                    generalize (((y5.setCell ⟨y3.heap.size, 0, none⟩ (.int .u8 κk)).setCell ⟨y3.heap.size, 1, none⟩ (.slice Ak nk ck)).setCell ⟨y3.heap.size, 2, none⟩ (.slice Bk mk dk)).setCell ⟨y3.heap.size, 3, none⟩ (.slice Dk qk ek) = y6 at *
                    obtain ⟨s4, s5⟩ := S4
                    have C1 := Lib.hid (C1.out.put2 s5 (by simp))
                    have C2 := Lib.hid (C2.out.put2 s5 (by simp))
                    have RE := Lib.hid (RE.out.grown s5 (by intro e; injection e with e; have := NL.out.2; simp at this; omega))
                    have hS2 : Below U0.heap.size U0 y6 := hSc.grown s5 hSc.size (fun j e => by injection e with e; subst e; exact (NL.out.1 _ (by simp)).1)
                    have NL := Lib.hid (NL.out.le s5.size)
                    have RF := Lib.hid s4
                    clear hSc d0 d1 d2 d3 f0 f1 f2 f3 s4 s5
                    have hSc := hS2
                    clear hS2
                    refine ⟨fun W => Below U0.heap.size U0 W, fun W hW => hW, hSc, ?_⟩
                    try simp only [Act.put, List.setIfInBounds_toArray, List.set_cons_zero, List.set_cons_succ]
                    refine wpAnyH_done (by kernel_rfl) ?_ _
                    go_wp2_with fail
                    have hne : y3.heap.size ≠ gm := by have h8 := (NL.out.1 (y3.heap.size) (by simp)).1; have h9 := GM.out; omega
                    go_meet
                    case rel => exact ⟨_, _, rfl, rfl, ⟨_, _, _, _, _, _, _, _, _, _, RE.out, C1.out.mono fun _ _ h => h.1⟩, ⟨_, _, _, _, _, _, _, _, _, _, RF.out, C2.out.mono fun _ _ h => h.1⟩, hne, below_both BD.out hSc⟩
                  · skip
                    go_simp
                    have rz := Row.new y2 28 #[.int .u8 0, .slice none 0 0, .slice none 0 0, .slice none 0 0]
                    have bq := bx y2 (.cells #[.int .u8 0, .slice none 0 0, .slice none 0 0, .slice none 0 0] 28)
                    have hz : y2.heap.size < (y2.alloc (.cells #[.int .u8 0, .slice none 0 0, .slice none 0 0, .slice none 0 0] 28)).heap.size := rz.lt
                    generalize y2.alloc (.cells #[.int .u8 0, .slice none 0 0, .slice none 0 0, .slice none 0 0] 28) = y7 at *
                    have C1 := Lib.hid (C1.out.made2 bq)
                    have C2 := Lib.hid (C2.out.made2 bq)
                    have NL := Lib.hid (NL.out.new hSc.size hz)
                    have hS2 : Below U0.heap.size U0 y7 := hSc.trans (bq.mono hSc.size)
                    clear hSc
                    have hSc := hS2
                    clear hS2
                    have RF := Lib.hid rz
                    clear rz bq hz
                    refine ⟨fun W => Below U0.heap.size U0 W, fun W hW => hW, hSc, ?_⟩
                    try simp only [Act.put, List.setIfInBounds_toArray, List.set_cons_zero, List.set_cons_succ]
                    refine held_next 7 rfl (by kernel_rfl) (by rfl) ?_
                    go_simp
                    have rz := Row.new y7 28 #[.int .u8 0, .slice none 0 0, .slice none 0 0, .slice none 0 0]
                    have bq := bx y7 (.cells #[.int .u8 0, .slice none 0 0, .slice none 0 0, .slice none 0 0] 28)
                    have hz : y7.heap.size < (y7.alloc (.cells #[.int .u8 0, .slice none 0 0, .slice none 0 0, .slice none 0 0] 28)).heap.size := rz.lt
                    generalize y7.alloc (.cells #[.int .u8 0, .slice none 0 0, .slice none 0 0, .slice none 0 0] 28) = y8 at *
                    have C1 := Lib.hid (C1.out.made2 bq)
                    have C2 := Lib.hid (C2.out.made2 bq)
                    have RF := Lib.hid (RF.out.below bq RF.out.lt)
                    have NL := Lib.hid (NL.out.new hSc.size hz)
                    have hS2 : Below U0.heap.size U0 y8 := hSc.trans (bq.mono hSc.size)
                    clear hSc
                    have hSc := hS2
                    clear hS2
                    have RE := Lib.hid rz
                    clear rz bq hz
                    refine ⟨fun W => Below U0.heap.size U0 W, fun W hW => hW, hSc, ?_⟩
                    try simp only [Act.put, List.setIfInBounds_toArray, List.set_cons_zero, List.set_cons_succ]
                    have d0 : y8.cell? ⟨y7.heap.size, 0, none⟩ = some (.int .u8 0) := RE.out.cell 0
                    have f0 := RE.out.frozen 0
                    have d1 : y8.cell? ⟨y7.heap.size, 1, none⟩ = some (.slice none 0 0) := RE.out.cell 1
                    have f1 := RE.out.frozen 1
                    have d2 : y8.cell? ⟨y7.heap.size, 2, none⟩ = some (.slice none 0 0) := RE.out.cell 2
                    have f2 := RE.out.frozen 2
                    have d3 : y8.cell? ⟨y7.heap.size, 3, none⟩ = some (.slice none 0 0) := RE.out.cell 3
                    have f3 := RE.out.frozen 3
                    refine held_next 9 rfl (by kernel_rfl) (by rfl) ?_
                    go_simp
                    have S4 := set4 (a' := .int .u8 κj) (b' := .slice Aj nj cj) (c' := .slice Bj mj dj) (d' := .slice Dj qj ej) RE.out
                    generalize (((y8.setCell ⟨y7.heap.size, 0, none⟩ (.int .u8 κj)).setCell ⟨y7.heap.size, 1, none⟩ (.slice Aj nj cj)).setCell ⟨y7.heap.size, 2, none⟩ (.slice Bj mj dj)).setCell ⟨y7.heap.size, 3, none⟩ (.slice Dj qj ej) = y9 at *
                    obtain ⟨s4, s5⟩ := S4
                    have C1 := Lib.hid (C1.out.put2 s5 (by simp))
                    have C2 := Lib.hid (C2.out.put2 s5 (by simp))
                    have RF := Lib.hid (RF.out.grown s5 (by intro e; injection e with e; have := NL.out.2; simp at this; omega))
                    have hS2 : Below U0.heap.size U0 y9 := hSc.grown s5 hSc.size (fun j e => by injection e with e; subst e; exact (NL.out.1 _ (by simp)).1)
                    have NL := Lib.hid (NL.out.le s5.size)
                    have RE := Lib.hid s4
                    clear hSc d0 d1 d2 d3 f0 f1 f2 f3 s4 s5
                    have hSc := hS2
                    clear hS2
                    refine ⟨fun W => Below U0.heap.size U0 W, fun W hW => hW, hSc, ?_⟩
                    try simp only [Act.put, List.setIfInBounds_toArray, List.set_cons_zero, List.set_cons_succ]
                    have d0 : y9.cell? ⟨y2.heap.size, 0, none⟩ = some (.int .u8 0) := RF.out.cell 0
                    have f0 := RF.out.frozen 0
                    have d1 : y9.cell? ⟨y2.heap.size, 1, none⟩ = some (.slice none 0 0) := RF.out.cell 1
                    have f1 := RF.out.frozen 1
                    have d2 : y9.cell? ⟨y2.heap.size, 2, none⟩ = some (.slice none 0 0) := RF.out.cell 2
                    have f2 := RF.out.frozen 2
                    have d3 : y9.cell? ⟨y2.heap.size, 3, none⟩ = some (.slice none 0 0) := RF.out.cell 3
                    have f3 := RF.out.frozen 3
                    refine held_next 10 rfl (by kernel_rfl) (by rfl) ?_
                    go_simp
                    have S4 := set4 (a' := .int .u8 κk) (b' := .slice Ak nk ck) (c' := .slice Bk mk dk) (d' := .slice Dk qk ek) RF.out
                    generalize (((y9.setCell ⟨y2.heap.size, 0, none⟩ (.int .u8 κk)).setCell ⟨y2.heap.size, 1, none⟩ (.slice Ak nk ck)).setCell ⟨y2.heap.size, 2, none⟩ (.slice Bk mk dk)).setCell ⟨y2.heap.size, 3, none⟩ (.slice Dk qk ek) = y10 at *
                    obtain ⟨s4, s5⟩ := S4
                    have C1 := Lib.hid (C1.out.put2 s5 (by simp))
                    have C2 := Lib.hid (C2.out.put2 s5 (by simp))
                    have RE := Lib.hid (RE.out.grown s5 (by intro e; injection e with e; have := NL.out.2; simp at this; omega))
                    have hS2 : Below U0.heap.size U0 y10 := hSc.grown s5 hSc.size (fun j e => by injection e with e; subst e; exact (NL.out.1 _ (by simp)).1)
                    have NL := Lib.hid (NL.out.le s5.size)
                    have RF := Lib.hid s4
                    clear hSc d0 d1 d2 d3 f0 f1 f2 f3 s4 s5
                    have hSc := hS2
                    clear hS2
                    refine ⟨fun W => Below U0.heap.size U0 W, fun W hW => hW, hSc, ?_⟩
                    try simp only [Act.put, List.setIfInBounds_toArray, List.set_cons_zero, List.set_cons_succ]
                    refine wpAnyH_done (by kernel_rfl) ?_ _
                    go_wp2_with fail
                    have hne : y2.heap.size ≠ gm := by have h8 := (NL.out.1 (y2.heap.size) (by simp)).1; have h9 := GM.out; omega
                    go_meet
                    case rel => exact ⟨_, _, rfl, rfl, ⟨_, _, _, _, _, _, _, _, _, _, RE.out, C1.out.mono fun _ _ h => h.1⟩, ⟨_, _, _, _, _, _, _, _, _, _, RF.out, C2.out.mono fun _ _ h => h.1⟩, hne, below_both BD.out hSc⟩
                · skip
                  go_simp
                  have rz := Row.new y1 28 #[.int .u8 0, .slice none 0 0, .slice none 0 0, .slice none 0 0]
                  have bq := bx y1 (.cells #[.int .u8 0, .slice none 0 0, .slice none 0 0, .slice none 0 0] 28)
                  have hz : y1.heap.size < (y1.alloc (.cells #[.int .u8 0, .slice none 0 0, .slice none 0 0, .slice none 0 0] 28)).heap.size := rz.lt
                  generalize y1.alloc (.cells #[.int .u8 0, .slice none 0 0, .slice none 0 0, .slice none 0 0] 28) = y11 at *
                  have C1 := Lib.hid (C1.out.made2 bq)
                  have NL := Lib.hid (NL.out.new hSc.size hz)
                  have hS2 : Below U0.heap.size U0 y11 := hSc.trans (bq.mono hSc.size)
                  clear hSc
                  have hSc := hS2
                  clear hS2
                  have RE := Lib.hid rz
                  clear rz bq hz
                  refine ⟨fun W => Below U0.heap.size U0 W, fun W hW => hW, hSc, ?_⟩
                  try simp only [Act.put, List.setIfInBounds_toArray, List.set_cons_zero, List.set_cons_succ]
                  refine held_two 6 8 rfl rfl (by kernel_rfl) (by rfl) (by rfl) ?_ ?_
                  · skip
                    go_simp
                    refine (with_c _ p ka x _ (TT.out.step hSc) (NL.out.all2 GM.out hSc.size) HX.out (Cx.out.old2 hSc NL.out)).mono ?_
                    rw [EP2.out, EK2.out]
                    rintro e y12 ⟨v', rfl, g, bq⟩
                    obtain ⟨κk, Ak, nk, ck, Bk, mk, dk, Dk, qk, ek, rfl⟩ := g.form
                    have C1 := Lib.hid (C1.out.step bq)
                    have RE := Lib.hid (RE.out.below bq RE.out.lt)
                    have NL := Lib.hid (NL.out.le bq.size)
                    have hS2 : Below U0.heap.size U0 y12 := hSc.trans (bq.mono hSc.size)
                    clear hSc
                    have hSc := hS2
                    clear hS2
                    have C2 := Lib.hid g
                    clear g bq
                    refine ⟨fun W => Below U0.heap.size U0 W, fun W hW => hW, hSc, ?_⟩
                    try simp only [Act.put, List.setIfInBounds_toArray, List.set_cons_zero, List.set_cons_succ]
                    refine held_next 8 rfl (by kernel_rfl) (by rfl) ?_
                    go_simp
                    have rz := Row.new y12 28 #[.int .u8 0, .slice none 0 0, .slice none 0 0, .slice none 0 0]
                    have bq := bx y12 (.cells #[.int .u8 0, .slice none 0 0, .slice none 0 0, .slice none 0 0] 28)
                    have hz : y12.heap.size < (y12.alloc (.cells #[.int .u8 0, .slice none 0 0, .slice none 0 0, .slice none 0 0] 28)).heap.size := rz.lt
                    generalize y12.alloc (.cells #[.int .u8 0, .slice none 0 0, .slice none 0 0, .slice none 0 0] 28) = y13 at *
                    have C1 := Lib.hid (C1.out.made2 bq)
                    have C2 := Lib.hid (C2.out.made2 bq)
                    have RE := Lib.hid (RE.out.below bq RE.out.lt)
                    have NL := Lib.hid (NL.out.new hSc.size hz)
                    have hS2 : Below U0.heap.size U0 y13 := hSc.trans (bq.mono hSc.size)
                    clear hSc
                    have hSc := hS2
                    clear hS2
                    have RF := Lib.hid rz
                    clear rz bq hz
                    refine ⟨fun W => Below U0.heap.size U0 W, fun W hW => hW, hSc, ?_⟩
                    try simp only [Act.put, List.setIfInBounds_toArray, List.set_cons_zero, List.set_cons_succ]
                    have d0 : y13.cell? ⟨y1.heap.size, 0, none⟩ = some (.int .u8 0) := RE.out.cell 0
                    have f0 := RE.out.frozen 0
                    have d1 : y13.cell? ⟨y1.heap.size, 1, none⟩ = some (.slice none 0 0) := RE.out.cell 1
                    have f1 := RE.out.frozen 1
                    have d2 : y13.cell? ⟨y1.heap.size, 2, none⟩ = some (.slice none 0 0) := RE.out.cell 2
                    have f2 := RE.out.frozen 2
                    have d3 : y13.cell? ⟨y1.heap.size, 3, none⟩ = some (.slice none 0 0) := RE.out.cell 3
                    have f3 := RE.out.frozen 3
                    refine held_next 9 rfl (by kernel_rfl) (by rfl) ?_
                    go_simp
                    have S4 := set4 (a' := .int .u8 κj) (b' := .slice Aj nj cj) (c' := .slice Bj mj dj) (d' := .slice Dj qj ej) RE.out
                    generalize (((y13.setCell ⟨y1.heap.size, 0, none⟩ (.int .u8 κj)).setCell ⟨y1.heap.size, 1, none⟩ (.slice Aj nj cj)).setCell ⟨y1.heap.size, 2, none⟩ (.slice Bj mj dj)).setCell ⟨y1.heap.size, 3, none⟩ (.slice Dj qj ej) = y14 at *
                    obtain ⟨s4, s5⟩ := S4
                    have C1 := Lib.hid (C1.out.put2 s5 (by simp))
                    have C2 := Lib.hid (C2.out.put2 s5 (by simp))
                    have RF := Lib.hid (RF.out.grown s5 (by intro e; injection e with e; have := NL.out.2; simp at this; omega))
                    have hS2 : Below U0.heap.size U0 y14 := hSc.grown s5 hSc.size (fun j e => by injection e with e; subst e; exact (NL.out.1 _ (by simp)).1)
                    have NL := Lib.hid (NL.out.le s5.size)
                    have RE := Lib.hid s4
                    clear hSc d0 d1 d2 d3 f0 f1 f2 f3 s4 s5
                    have hSc := hS2
                    clear hS2
                    refine ⟨fun W => Below U0.heap.size U0 W, fun W hW => hW, hSc, ?_⟩
                    try simp only [Act.put, List.setIfInBounds_toArray, List.set_cons_zero, List.set_cons_succ]
                    have d0 : y14.cell? ⟨y12.heap.size, 0, none⟩ = some (.int .u8 0) := RF.out.cell 0
                    have f0 := RF.out.frozen 0
                    have d1 : y14.cell? ⟨y12.heap.size, 1, none⟩ = some (.slice none 0 0) := RF.out.cell 1
                    have f1 := RF.out.frozen 1
                    have d2 : y14.cell? ⟨y12.heap.size, 2, none⟩ = some (.slice none 0 0) := RF.out.cell 2
                    have f2 := RF.out.frozen 2
                    have d3 : y14.cell? ⟨y12.heap.size, 3, none⟩ = some (.slice none 0 0) := RF.out.cell 3
                    have f3 := RF.out.frozen 3
                    refine held_next 10 rfl (by kernel_rfl) (by rfl) ?_
                    go_simp
                    have S4 := set4 (a' := .int .u8 κk) (b' := .slice Ak nk ck) (c' := .slice Bk mk dk) (d' := .slice Dk qk ek) RF.out
                    generalize (((y14.setCell ⟨y12.heap.size, 0, none⟩ (.int .u8 κk)).setCell ⟨y12.heap.size, 1, none⟩ (.slice Ak nk ck)).setCell ⟨y12.heap.size, 2, none⟩ (.slice Bk mk dk)).setCell ⟨y12.heap.size, 3, none⟩ (.slice Dk qk ek) = y15 at *
                    obtain ⟨s4, s5⟩ := S4
                    have C1 := Lib.hid (C1.out.put2 s5 (by simp))
                    have C2 := Lib.hid (C2.out.put2 s5 (by simp))
                    have RE := Lib.hid (RE.out.grown s5 (by intro e; injection e with e; have := NL.out.2; simp at this; omega))
                    have hS2 : Below U0.heap.size U0 y15 := hSc.grown s5 hSc.size (fun j e => by injection e with e; subst e; exact (NL.out.1 _ (by simp)).1)
                    have NL := Lib.hid (NL.out.le s5.size)
                    have RF := Lib.hid s4
                    clear hSc d0 d1 d2 d3 f0 f1 f2 f3 s4 s5
                    have hSc := hS2
                    clear hS2
                    refine ⟨fun W => Below U0.heap.size U0 W, fun W hW => hW, hSc, ?_⟩
                    try simp only [Act.put, List.setIfInBounds_toArray, List.set_cons_zero, List.set_cons_succ]
                    refine wpAnyH_done (by kernel_rfl) ?_ _
                    go_wp2_with fail
                    have hne : y12.heap.size ≠ gm := by have h8 := (NL.out.1 (y12.heap.size) (by simp)).1; have h9 := GM.out; omega
                    go_meet
                    case rel => exact ⟨_, _, rfl, rfl, ⟨_, _, _, _, _, _, _, _, _, _, RE.out, C1.out.mono fun _ _ h => h.1⟩, ⟨_, _, _, _, _, _, _, _, _, _, RF.out, C2.out.mono fun _ _ h => h.1⟩, hne, below_both BD.out hSc⟩
                  · skip
                    go_simp
                    have rz := Row.new y11 28 #[.int .u8 0, .slice none 0 0, .slice none 0 0, .slice none 0 0]
                    have bq := bx y11 (.cells #[.int .u8 0, .slice none 0 0, .slice none 0 0, .slice none 0 0] 28)
                    have hz : y11.heap.size < (y11.alloc (.cells #[.int .u8 0, .slice none 0 0, .slice none 0 0, .slice none 0 0] 28)).heap.size := rz.lt
                    generalize y11.alloc (.cells #[.int .u8 0, .slice none 0 0, .slice none 0 0, .slice none 0 0] 28) = y16 at *
                    have C1 := Lib.hid (C1.out.made2 bq)
                    have RE := Lib.hid (RE.out.below bq RE.out.lt)
                    have NL := Lib.hid (NL.out.new hSc.size hz)
                    have hS2 : Below U0.heap.size U0 y16 := hSc.trans (bq.mono hSc.size)
                    clear hSc
                    have hSc := hS2
                    clear hS2
                    have RF := Lib.hid rz
                    clear rz bq hz
                    refine ⟨fun W => Below U0.heap.size U0 W, fun W hW => hW, hSc, ?_⟩
                    try simp only [Act.put, List.setIfInBounds_toArray, List.set_cons_zero, List.set_cons_succ]
                    refine held_next 6 rfl (by kernel_rfl) (by rfl) ?_
                    go_simp
                    refine (with_c _ p ka x _ (TT.out.step hSc) (NL.out.all2 GM.out hSc.size) HX.out (Cx.out.old2 hSc NL.out)).mono ?_
                    rw [EP2.out, EK2.out]
                    rintro e y17 ⟨v', rfl, g, bq⟩
                    obtain ⟨κk, Ak, nk, ck, Bk, mk, dk, Dk, qk, ek, rfl⟩ := g.form
                    have C1 := Lib.hid (C1.out.step bq)
                    have RE := Lib.hid (RE.out.below bq RE.out.lt)
                    have RF := Lib.hid (RF.out.below bq RF.out.lt)
                    have NL := Lib.hid (NL.out.le bq.size)
                    have hS2 : Below U0.heap.size U0 y17 := hSc.trans (bq.mono hSc.size)
                    clear hSc
                    have hSc := hS2
                    clear hS2
                    have C2 := Lib.hid g
                    clear g bq
                    refine ⟨fun W => Below U0.heap.size U0 W, fun W hW => hW, hSc, ?_⟩
                    try simp only [Act.put, List.setIfInBounds_toArray, List.set_cons_zero, List.set_cons_succ]
                    have d0 : y17.cell? ⟨y1.heap.size, 0, none⟩ = some (.int .u8 0) := RE.out.cell 0
                    have f0 := RE.out.frozen 0
                    have d1 : y17.cell? ⟨y1.heap.size, 1, none⟩ = some (.slice none 0 0) := RE.out.cell 1
                    have f1 := RE.out.frozen 1
                    have d2 : y17.cell? ⟨y1.heap.size, 2, none⟩ = some (.slice none 0 0) := RE.out.cell 2
                    have f2 := RE.out.frozen 2
                    have d3 : y17.cell? ⟨y1.heap.size, 3, none⟩ = some (.slice none 0 0) := RE.out.cell 3
                    have f3 := RE.out.frozen 3
                    refine held_next 9 rfl (by kernel_rfl) (by rfl) ?_
                    go_simp
                    have S4 := set4 (a' := .int .u8 κj) (b' := .slice Aj nj cj) (c' := .slice Bj mj dj) (d' := .slice Dj qj ej) RE.out
                    generalize (((y17.setCell ⟨y1.heap.size, 0, none⟩ (.int .u8 κj)).setCell ⟨y1.heap.size, 1, none⟩ (.slice Aj nj cj)).setCell ⟨y1.heap.size, 2, none⟩ (.slice Bj mj dj)).setCell ⟨y1.heap.size, 3, none⟩ (.slice Dj qj ej) = y18 at *
                    obtain ⟨s4, s5⟩ := S4
                    have C1 := Lib.hid (C1.out.put2 s5 (by simp))
                    have C2 := Lib.hid (C2.out.put2 s5 (by simp))
                    have RF := Lib.hid (RF.out.grown s5 (by intro e; injection e with e; have := NL.out.2; simp at this; omega))
                    have hS2 : Below U0.heap.size U0 y18 := hSc.grown s5 hSc.size (fun j e => by injection e with e; subst e; exact (NL.out.1 _ (by simp)).1)
                    have NL := Lib.hid (NL.out.le s5.size)
                    have RE := Lib.hid s4
                    clear hSc d0 d1 d2 d3 f0 f1 f2 f3 s4 s5
                    have hSc := hS2
                    clear hS2
                    refine ⟨fun W => Below U0.heap.size U0 W, fun W hW => hW, hSc, ?_⟩
                    try simp only [Act.put, List.setIfInBounds_toArray, List.set_cons_zero, List.set_cons_succ]
                    have d0 : y18.cell? ⟨y11.heap.size, 0, none⟩ = some (.int .u8 0) := RF.out.cell 0
                    have f0 := RF.out.frozen 0
                    have d1 : y18.cell? ⟨y11.heap.size, 1, none⟩ = some (.slice none 0 0) := RF.out.cell 1
                    have f1 := RF.out.frozen 1
                    have d2 : y18.cell? ⟨y11.heap.size, 2, none⟩ = some (.slice none 0 0) := RF.out.cell 2
                    have f2 := RF.out.frozen 2
                    have d3 : y18.cell? ⟨y11.heap.size, 3, none⟩ = some (.slice none 0 0) := RF.out.cell 3
                    have f3 := RF.out.frozen 3
                    refine held_next 10 rfl (by kernel_rfl) (by rfl) ?_
                    go_simp
                    have S4 := set4 (a' := .int .u8 κk) (b' := .slice Ak nk ck) (c' := .slice Bk mk dk) (d' := .slice Dk qk ek) RF.out
                    generalize (((y18.setCell ⟨y11.heap.size, 0, none⟩ (.int .u8 κk)).setCell ⟨y11.heap.size, 1, none⟩ (.slice Ak nk ck)).setCell ⟨y11.heap.size, 2, none⟩ (.slice Bk mk dk)).setCell ⟨y11.heap.size, 3, none⟩ (.slice Dk qk ek) = y19 at *
                    obtain ⟨s4, s5⟩ := S4
                    have C1 := Lib.hid (C1.out.put2 s5 (by simp))
                    have C2 := Lib.hid (C2.out.put2 s5 (by simp))
                    have RE := Lib.hid (RE.out.grown s5 (by intro e; injection e with e; have := NL.out.2; simp at this; omega))
                    have hS2 : Below U0.heap.size U0 y19 := hSc.grown s5 hSc.size (fun j e => by injection e with e; subst e; exact (NL.out.1 _ (by simp)).1)
                    have NL := Lib.hid (NL.out.le s5.size)
                    have RF := Lib.hid s4
                    clear hSc d0 d1 d2 d3 f0 f1 f2 f3 s4 s5
                    have hSc := hS2
                    clear hS2
                    refine ⟨fun W => Below U0.heap.size U0 W, fun W hW => hW, hSc, ?_⟩
                    try simp only [Act.put, List.setIfInBounds_toArray, List.set_cons_zero, List.set_cons_succ]
                    refine wpAnyH_done (by kernel_rfl) ?_ _
                    go_wp2_with fail
                    have hne : y11.heap.size ≠ gm := by have h8 := (NL.out.1 (y11.heap.size) (by simp)).1; have h9 := GM.out; omega
                    go_meet
                    case rel => exact ⟨_, _, rfl, rfl, ⟨_, _, _, _, _, _, _, _, _, _, RE.out, C1.out.mono fun _ _ h => h.1⟩, ⟨_, _, _, _, _, _, _, _, _, _, RF.out, C2.out.mono fun _ _ h => h.1⟩, hne, below_both BD.out hSc⟩
                · skip
                  go_simp
                  have rz := Row.new y1 28 #[.int .u8 0, .slice none 0 0, .slice none 0 0, .slice none 0 0]
                  have bq := bx y1 (.cells #[.int .u8 0, .slice none 0 0, .slice none 0 0, .slice none 0 0] 28)
                  have hz : y1.heap.size < (y1.alloc (.cells #[.int .u8 0, .slice none 0 0, .slice none 0 0, .slice none 0 0] 28)).heap.size := rz.lt
                  generalize y1.alloc (.cells #[.int .u8 0, .slice none 0 0, .slice none 0 0, .slice none 0 0] 28) = y20 at *
                  have C1 := Lib.hid (C1.out.made2 bq)
                  have NL := Lib.hid (NL.out.new hSc.size hz)
                  have hS2 : Below U0.heap.size U0 y20 := hSc.trans (bq.mono hSc.size)
                  clear hSc
                  have hSc := hS2
                  clear hS2
                  have RF := Lib.hid rz
                  clear rz bq hz
                  refine ⟨fun W => Below U0.heap.size U0 W, fun W hW => hW, hSc, ?_⟩
                  try simp only [Act.put, List.setIfInBounds_toArray, List.set_cons_zero, List.set_cons_succ]
                  refine held_two 6 7 rfl rfl (by kernel_rfl) (by rfl) (by rfl) ?_ ?_
                  · skip
                    go_simp
                    refine (with_c _ p ka x _ (TT.out.step hSc) (NL.out.all2 GM.out hSc.size) HX.out (Cx.out.old2 hSc NL.out)).mono ?_
                    rw [EP2.out, EK2.out]
                    rintro e y21 ⟨v', rfl, g, bq⟩
                    obtain ⟨κk, Ak, nk, ck, Bk, mk, dk, Dk, qk, ek, rfl⟩ := g.form
                    have C1 := Lib.hid (C1.out.step bq)
                    have RF := Lib.hid (RF.out.below bq RF.out.lt)
                    have NL := Lib.hid (NL.out.le bq.size)
                    have hS2 : Below U0.heap.size U0 y21 := hSc.trans (bq.mono hSc.size)
                    clear hSc
                    have hSc := hS2
                    clear hS2
                    have C2 := Lib.hid g
                    clear g bq
                    refine ⟨fun W => Below U0.heap.size U0 W, fun W hW => hW, hSc, ?_⟩
                    try simp only [Act.put, List.setIfInBounds_toArray, List.set_cons_zero, List.set_cons_succ]
                    refine held_next 7 rfl (by kernel_rfl) (by rfl) ?_
                    go_simp
                    have rz := Row.new y21 28 #[.int .u8 0, .slice none 0 0, .slice none 0 0, .slice none 0 0]
                    have bq := bx y21 (.cells #[.int .u8 0, .slice none 0 0, .slice none 0 0, .slice none 0 0] 28)
                    have hz : y21.heap.size < (y21.alloc (.cells #[.int .u8 0, .slice none 0 0, .slice none 0 0, .slice none 0 0] 28)).heap.size := rz.lt
                    generalize y21.alloc (.cells #[.int .u8 0, .slice none 0 0, .slice none 0 0, .slice none 0 0] 28) = y22 at *
                    have C1 := Lib.hid (C1.out.made2 bq)
                    have C2 := Lib.hid (C2.out.made2 bq)
                    have RF := Lib.hid (RF.out.below bq RF.out.lt)
                    have NL := Lib.hid (NL.out.new hSc.size hz)
                    have hS2 : Below U0.heap.size U0 y22 := hSc.trans (bq.mono hSc.size)
                    clear hSc
                    have hSc := hS2
                    clear hS2
                    have RE := Lib.hid rz
                    clear rz bq hz
                    refine ⟨fun W => Below U0.heap.size U0 W, fun W hW => hW, hSc, ?_⟩
                    try simp only [Act.put, List.setIfInBounds_toArray, List.set_cons_zero, List.set_cons_succ]
                    have d0 : y22.cell? ⟨y21.heap.size, 0, none⟩ = some (.int .u8 0) := RE.out.cell 0
                    have f0 := RE.out.frozen 0
                    have d1 : y22.cell? ⟨y21.heap.size, 1, none⟩ = some (.slice none 0 0) := RE.out.cell 1
                    have f1 := RE.out.frozen 1
                    have d2 : y22.cell? ⟨y21.heap.size, 2, none⟩ = some (.slice none 0 0) := RE.out.cell 2
                    have f2 := RE.out.frozen 2
                    have d3 : y22.cell? ⟨y21.heap.size, 3, none⟩ = some (.slice none 0 0) := RE.out.cell 3
                    have f3 := RE.out.frozen 3
                    refine held_next 9 rfl (by kernel_rfl) (by rfl) ?_
                    go_simp
                    have S4 := set4 (a' := .int .u8 κj) (b' := .slice Aj nj cj) (c' := .slice Bj mj dj) (d' := .slice Dj qj ej) RE.out
                    generalize (((y22.setCell ⟨y21.heap.size, 0, none⟩ (.int .u8 κj)).setCell ⟨y21.heap.size, 1, none⟩ (.slice Aj nj cj)).setCell ⟨y21.heap.size, 2, none⟩ (.slice Bj mj dj)).setCell ⟨y21.heap.size, 3, none⟩ (.slice Dj qj ej) = y23 at *
                    obtain ⟨s4, s5⟩ := S4
                    have C1 := Lib.hid (C1.out.put2 s5 (by simp))
                    have C2 := Lib.hid (C2.out.put2 s5 (by simp))
                    have RF := Lib.hid (RF.out.grown s5 (by intro e; injection e with e; have := NL.out.2; simp at this; omega))
                    have hS2 : Below U0.heap.size U0 y23 := hSc.grown s5 hSc.size (fun j e => by injection e with e; subst e; exact (NL.out.1 _ (by simp)).1)
                    have NL := Lib.hid (NL.out.le s5.size)
                    have RE := Lib.hid s4
                    clear hSc d0 d1 d2 d3 f0 f1 f2 f3 s4 s5
                    have hSc := hS2
                    clear hS2
                    refine ⟨fun W => Below U0.heap.size U0 W, fun W hW => hW, hSc, ?_⟩
                    try simp only [Act.put, List.setIfInBounds_toArray, List.set_cons_zero, List.set_cons_succ]
                    have d0 : y23.cell? ⟨y1.heap.size, 0, none⟩ = some (.int .u8 0) := RF.out.cell 0
                    have f0 := RF.out.frozen 0
                    have d1 : y23.cell? ⟨y1.heap.size, 1, none⟩ = some (.slice none 0 0) := RF.out.cell 1
                    have f1 := RF.out.frozen 1
                    have d2 : y23.cell? ⟨y1.heap.size, 2, none⟩ = some (.slice none 0 0) := RF.out.cell 2
                    have f2 := RF.out.frozen 2
                    have d3 : y23.cell? ⟨y1.heap.size, 3, none⟩ = some (.slice none 0 0) := RF.out.cell 3
                    have f3 := RF.out.frozen 3
                    refine held_next 10 rfl (by kernel_rfl) (by rfl) ?_
                    go_simp
                    have S4 := set4 (a' := .int .u8 κk) (b' := .slice Ak nk ck) (c' := .slice Bk mk dk) (d' := .slice Dk qk ek) RF.out
                    generalize (((y23.setCell ⟨y1.heap.size, 0, none⟩ (.int .u8 κk)).setCell ⟨y1.heap.size, 1, none⟩ (.slice Ak nk ck)).setCell ⟨y1.heap.size, 2, none⟩ (.slice Bk mk dk)).setCell ⟨y1.heap.size, 3, none⟩ (.slice Dk qk ek) = y24 at *
                    obtain ⟨s4, s5⟩ := S4
                    have C1 := Lib.hid (C1.out.put2 s5 (by simp))
                    have C2 := Lib.hid (C2.out.put2 s5 (by simp))
                    have RE := Lib.hid (RE.out.grown s5 (by intro e; injection e with e; have := NL.out.2; simp at this; omega))
                    have hS2 : Below U0.heap.size U0 y24 := hSc.grown s5 hSc.size (fun j e => by injection e with e; subst e; exact (NL.out.1 _ (by simp)).1)
                    have NL := Lib.hid (NL.out.le s5.size)
                    have RF := Lib.hid s4
                    clear hSc d0 d1 d2 d3 f0 f1 f2 f3 s4 s5
                    have hSc := hS2
                    clear hS2
                    refine ⟨fun W => Below U0.heap.size U0 W, fun W hW => hW, hSc, ?_⟩
                    try simp only [Act.put, List.setIfInBounds_toArray, List.set_cons_zero, List.set_cons_succ]
                    refine wpAnyH_done (by kernel_rfl) ?_ _
                    go_wp2_with fail
                    have hne : y1.heap.size ≠ gm := by have h8 := (NL.out.1 (y1.heap.size) (by simp)).1; have h9 := GM.out; omega
                    go_meet
                    case rel => exact ⟨_, _, rfl, rfl, ⟨_, _, _, _, _, _, _, _, _, _, RE.out, C1.out.mono fun _ _ h => h.1⟩, ⟨_, _, _, _, _, _, _, _, _, _, RF.out, C2.out.mono fun _ _ h => h.1⟩, hne, below_both BD.out hSc⟩
                  · skip
                    go_simp
                    have rz := Row.new y20 28 #[.int .u8 0, .slice none 0 0, .slice none 0 0, .slice none 0 0]
                    have bq := bx y20 (.cells #[.int .u8 0, .slice none 0 0, .slice none 0 0, .slice none 0 0] 28)
                    have hz : y20.heap.size < (y20.alloc (.cells #[.int .u8 0, .slice none 0 0, .slice none 0 0, .slice none 0 0] 28)).heap.size := rz.lt
                    generalize y20.alloc (.cells #[.int .u8 0, .slice none 0 0, .slice none 0 0, .slice none 0 0] 28) = y25 at *
                    have C1 := Lib.hid (C1.out.made2 bq)
                    have RF := Lib.hid (RF.out.below bq RF.out.lt)
                    have NL := Lib.hid (NL.out.new hSc.size hz)
                    have hS2 : Below U0.heap.size U0 y25 := hSc.trans (bq.mono hSc.size)
                    clear hSc
                    have hSc := hS2
                    clear hS2
                    have RE := Lib.hid rz
                    clear rz bq hz
                    refine ⟨fun W => Below U0.heap.size U0 W, fun W hW => hW, hSc, ?_⟩
                    try simp only [Act.put, List.setIfInBounds_toArray, List.set_cons_zero, List.set_cons_succ]
                    refine held_next 6 rfl (by kernel_rfl) (by rfl) ?_
                    go_simp
                    refine (with_c _ p ka x _ (TT.out.step hSc) (NL.out.all2 GM.out hSc.size) HX.out (Cx.out.old2 hSc NL.out)).mono ?_
                    rw [EP2.out, EK2.out]
                    rintro e y26 ⟨v', rfl, g, bq⟩
                    obtain ⟨κk, Ak, nk, ck, Bk, mk, dk, Dk, qk, ek, rfl⟩ := g.form
                    have C1 := Lib.hid (C1.out.step bq)
                    have RF := Lib.hid (RF.out.below bq RF.out.lt)
                    have RE := Lib.hid (RE.out.below bq RE.out.lt)
                    have NL := Lib.hid (NL.out.le bq.size)
                    have hS2 : Below U0.heap.size U0 y26 := hSc.trans (bq.mono hSc.size)
                    clear hSc
                    have hSc := hS2
                    clear hS2
                    have C2 := Lib.hid g
                    clear g bq
                    refine ⟨fun W => Below U0.heap.size U0 W, fun W hW => hW, hSc, ?_⟩
                    try simp only [Act.put, List.setIfInBounds_toArray, List.set_cons_zero, List.set_cons_succ]
                    have d0 : y26.cell? ⟨y20.heap.size, 0, none⟩ = some (.int .u8 0) := RE.out.cell 0
                    have f0 := RE.out.frozen 0
                    have d1 : y26.cell? ⟨y20.heap.size, 1, none⟩ = some (.slice none 0 0) := RE.out.cell 1
                    have f1 := RE.out.frozen 1
                    have d2 : y26.cell? ⟨y20.heap.size, 2, none⟩ = some (.slice none 0 0) := RE.out.cell 2
                    have f2 := RE.out.frozen 2
                    have d3 : y26.cell? ⟨y20.heap.size, 3, none⟩ = some (.slice none 0 0) := RE.out.cell 3
                    have f3 := RE.out.frozen 3
                    refine held_next 9 rfl (by kernel_rfl) (by rfl) ?_
                    go_simp
                    have S4 := set4 (a' := .int .u8 κj) (b' := .slice Aj nj cj) (c' := .slice Bj mj dj) (d' := .slice Dj qj ej) RE.out
                    generalize (((y26.setCell ⟨y20.heap.size, 0, none⟩ (.int .u8 κj)).setCell ⟨y20.heap.size, 1, none⟩ (.slice Aj nj cj)).setCell ⟨y20.heap.size, 2, none⟩ (.slice Bj mj dj)).setCell ⟨y20.heap.size, 3, none⟩ (.slice Dj qj ej) = y27 at *
                    obtain ⟨s4, s5⟩ := S4
                    have C1 := Lib.hid (C1.out.put2 s5 (by simp))
                    have C2 := Lib.hid (C2.out.put2 s5 (by simp))
                    have RF := Lib.hid (RF.out.grown s5 (by intro e; injection e with e; have := NL.out.2; simp at this; omega))
                    have hS2 : Below U0.heap.size U0 y27 := hSc.grown s5 hSc.size (fun j e => by injection e with e; subst e; exact (NL.out.1 _ (by simp)).1)
                    have NL := Lib.hid (NL.out.le s5.size)
                    have RE := Lib.hid s4
                    clear hSc d0 d1 d2 d3 f0 f1 f2 f3 s4 s5
                    have hSc := hS2
                    clear hS2
                    refine ⟨fun W => Below U0.heap.size U0 W, fun W hW => hW, hSc, ?_⟩
                    try simp only [Act.put, List.setIfInBounds_toArray, List.set_cons_zero, List.set_cons_succ]
                    have d0 : y27.cell? ⟨y1.heap.size, 0, none⟩ = some (.int .u8 0) := RF.out.cell 0
                    have f0 := RF.out.frozen 0
                    have d1 : y27.cell? ⟨y1.heap.size, 1, none⟩ = some (.slice none 0 0) := RF.out.cell 1
                    have f1 := RF.out.frozen 1
                    have d2 : y27.cell? ⟨y1.heap.size, 2, none⟩ = some (.slice none 0 0) := RF.out.cell 2
                    have f2 := RF.out.frozen 2
                    have d3 : y27.cell? ⟨y1.heap.size, 3, none⟩ = some (.slice none 0 0) := RF.out.cell 3
                    have f3 := RF.out.frozen 3
                    refine held_next 10 rfl (by kernel_rfl) (by rfl) ?_
                    go_simp
                    have S4 := set4 (a' := .int .u8 κk) (b' := .slice Ak nk ck) (c' := .slice Bk mk dk) (d' := .slice Dk qk ek) RF.out
                    generalize (((y27.setCell ⟨y1.heap.size, 0, none⟩ (.int .u8 κk)).setCell ⟨y1.heap.size, 1, none⟩ (.slice Ak nk ck)).setCell ⟨y1.heap.size, 2, none⟩ (.slice Bk mk dk)).setCell ⟨y1.heap.size, 3, none⟩ (.slice Dk qk ek) = y28 at *
                    obtain ⟨s4, s5⟩ := S4
                    have C1 := Lib.hid (C1.out.put2 s5 (by simp))
                    have C2 := Lib.hid (C2.out.put2 s5 (by simp))
                    have RE := Lib.hid (RE.out.grown s5 (by intro e; injection e with e; have := NL.out.2; simp at this; omega))
                    have hS2 : Below U0.heap.size U0 y28 := hSc.grown s5 hSc.size (fun j e => by injection e with e; subst e; exact (NL.out.1 _ (by simp)).1)
                    have NL := Lib.hid (NL.out.le s5.size)
                    have RF := Lib.hid s4
                    clear hSc d0 d1 d2 d3 f0 f1 f2 f3 s4 s5
                    have hSc := hS2
                    clear hS2
                    refine ⟨fun W => Below U0.heap.size U0 W, fun W hW => hW, hSc, ?_⟩
                    try simp only [Act.put, List.setIfInBounds_toArray, List.set_cons_zero, List.set_cons_succ]
                    refine wpAnyH_done (by kernel_rfl) ?_ _
                    go_wp2_with fail
                    have hne : y1.heap.size ≠ gm := by have h8 := (NL.out.1 (y1.heap.size) (by simp)).1; have h9 := GM.out; omega
                    go_meet
                    case rel => exact ⟨_, _, rfl, rfl, ⟨_, _, _, _, _, _, _, _, _, _, RE.out, C1.out.mono fun _ _ h => h.1⟩, ⟨_, _, _, _, _, _, _, _, _, _, RF.out, C2.out.mono fun _ _ h => h.1⟩, hne, below_both BD.out hSc⟩
              · skip
                go_simp
                have rz := Row.new U0 28 #[.int .u8 0, .slice none 0 0, .slice none 0 0, .slice none 0 0]
                have bq := bx U0 (.cells #[.int .u8 0, .slice none 0 0, .slice none 0 0, .slice none 0 0] 28)
                have hz : U0.heap.size < (U0.alloc (.cells #[.int .u8 0, .slice none 0 0, .slice none 0 0, .slice none 0 0] 28)).heap.size := rz.lt
                generalize U0.alloc (.cells #[.int .u8 0, .slice none 0 0, .slice none 0 0, .slice none 0 0] 28) = y29 at *
                have NL := Lib.hid (NL.out.new hSc.size hz)
                have hS2 : Below U0.heap.size U0 y29 := hSc.trans (bq.mono hSc.size)
                clear hSc
                have hSc := hS2
                clear hS2
                have RE := Lib.hid rz
                clear rz bq hz
                refine ⟨fun W => Below U0.heap.size U0 W, fun W hW => hW, hSc, ?_⟩
                try simp only [Act.put, List.setIfInBounds_toArray, List.set_cons_zero, List.set_cons_succ]
                refine held_two 3 8 rfl rfl (by kernel_rfl) (by rfl) (by rfl) ?_ ?_
                · skip
                  go_simp
                  refine (flip_c _ p ka lo hi _ (TT.out.step hSc) (NL.out.all2 GM.out hSc.size) (Cx.out.old2 hSc NL.out)).mono ?_
                  rw [EP1.out, EK1.out]
                  rintro e y30 ⟨v', rfl, g, bq⟩
                  obtain ⟨κj, Aj, nj, cj, Bj, mj, dj, Dj, qj, ej, rfl⟩ := g.form
                  have RE := Lib.hid (RE.out.below bq RE.out.lt)
                  have NL := Lib.hid (NL.out.le bq.size)
                  have hS2 : Below U0.heap.size U0 y30 := hSc.trans (bq.mono hSc.size)
                  clear hSc
                  have hSc := hS2
                  clear hS2
                  have C1 := Lib.hid g
                  clear g bq
                  refine ⟨fun W => Below U0.heap.size U0 W, fun W hW => hW, hSc, ?_⟩
                  try simp only [Act.put, List.setIfInBounds_toArray, List.set_cons_zero, List.set_cons_succ]
                  refine held_two 6 8 rfl rfl (by kernel_rfl) (by rfl) (by rfl) ?_ ?_
                  · skip
                    go_simp
                    refine (with_c _ p ka x _ (TT.out.step hSc) (NL.out.all2 GM.out hSc.size) HX.out (Cx.out.old2 hSc NL.out)).mono ?_
                    rw [EP2.out, EK2.out]
                    rintro e y31 ⟨v', rfl, g, bq⟩
                    obtain ⟨κk, Ak, nk, ck, Bk, mk, dk, Dk, qk, ek, rfl⟩ := g.form
                    have C1 := Lib.hid (C1.out.step bq)
                    have RE := Lib.hid (RE.out.below bq RE.out.lt)
                    have NL := Lib.hid (NL.out.le bq.size)
                    have hS2 : Below U0.heap.size U0 y31 := hSc.trans (bq.mono hSc.size)
                    clear hSc
                    have hSc := hS2
                    clear hS2
                    have C2 := Lib.hid g
                    clear g bq
                    refine ⟨fun W => Below U0.heap.size U0 W, fun W hW => hW, hSc, ?_⟩
                    try simp only [Act.put, List.setIfInBounds_toArray, List.set_cons_zero, List.set_cons_succ]
                    refine held_next 8 rfl (by kernel_rfl) (by rfl) ?_
                    go_simp
                    have rz := Row.new y31 28 #[.int .u8 0, .slice none 0 0, .slice none 0 0, .slice none 0 0]
                    have bq := bx y31 (.cells #[.int .u8 0, .slice none 0 0, .slice none 0 0, .slice none 0 0] 28)
                    have hz : y31.heap.size < (y31.alloc (.cells #[.int .u8 0, .slice none 0 0, .slice none 0 0, .slice none 0 0] 28)).heap.size := rz.lt
                    generalize y31.alloc (.cells #[.int .u8 0, .slice none 0 0, .slice none 0 0, .slice none 0 0] 28) = y32 at *
                    have C1 := Lib.hid (C1.out.made2 bq)
                    have C2 := Lib.hid (C2.out.made2 bq)
                    have RE := Lib.hid (RE.out.below bq RE.out.lt)
                    have NL := Lib.hid (NL.out.new hSc.size hz)
                    have hS2 : Below U0.heap.size U0 y32 := hSc.trans (bq.mono hSc.size)
                    clear hSc
                    have hSc := hS2
                    clear hS2
                    have RF := Lib.hid rz
                    clear rz bq hz
                    refine ⟨fun W => Below U0.heap.size U0 W, fun W hW => hW, hSc, ?_⟩
                    try simp only [Act.put, List.setIfInBounds_toArray, List.set_cons_zero, List.set_cons_succ]
                    have d0 : y32.cell? ⟨U0.heap.size, 0, none⟩ = some (.int .u8 0) := RE.out.cell 0
                    have f0 := RE.out.frozen 0
                    have d1 : y32.cell? ⟨U0.heap.size, 1, none⟩ = some (.slice none 0 0) := RE.out.cell 1
                    have f1 := RE.out.frozen 1
                    have d2 : y32.cell? ⟨U0.heap.size, 2, none⟩ = some (.slice none 0 0) := RE.out.cell 2
                    have f2 := RE.out.frozen 2
                    have d3 : y32.cell? ⟨U0.heap.size, 3, none⟩ = some (.slice none 0 0) := RE.out.cell 3
                    have f3 := RE.out.frozen 3
                    refine held_next 9 rfl (by kernel_rfl) (by rfl) ?_
                    go_simp
                    have S4 := set4 (a' := .int .u8 κj) (b' := .slice Aj nj cj) (c' := .slice Bj mj dj) (d' := .slice Dj qj ej) RE.out
                    generalize (((y32.setCell ⟨U0.heap.size, 0, none⟩ (.int .u8 κj)).setCell ⟨U0.heap.size, 1, none⟩ (.slice Aj nj cj)).setCell ⟨U0.heap.size, 2, none⟩ (.slice Bj mj dj)).setCell ⟨U0.heap.size, 3, none⟩ (.slice Dj qj ej) = y33 at *
                    obtain ⟨s4, s5⟩ := S4
                    have C1 := Lib.hid (C1.out.put2 s5 (by simp))
                    have C2 := Lib.hid (C2.out.put2 s5 (by simp))
                    have RF := Lib.hid (RF.out.grown s5 (by intro e; injection e with e; have := NL.out.2; simp at this; omega))
                    have hS2 : Below U0.heap.size U0 y33 := hSc.grown s5 hSc.size (fun j e => by injection e with e; subst e; exact (NL.out.1 _ (by simp)).1)
                    have NL := Lib.hid (NL.out.le s5.size)
                    have RE := Lib.hid s4
                    clear hSc d0 d1 d2 d3 f0 f1 f2 f3 s4 s5
                    have hSc := hS2
                    clear hS2
                    refine ⟨fun W => Below U0.heap.size U0 W, fun W hW => hW, hSc, ?_⟩
                    try simp only [Act.put, List.setIfInBounds_toArray, List.set_cons_zero, List.set_cons_succ]
                    have d0 : y33.cell? ⟨y31.heap.size, 0, none⟩ = some (.int .u8 0) := RF.out.cell 0
                    have f0 := RF.out.frozen 0
                    have d1 : y33.cell? ⟨y31.heap.size, 1, none⟩ = some (.slice none 0 0) := RF.out.cell 1
                    have f1 := RF.out.frozen 1
                    have d2 : y33.cell? ⟨y31.heap.size, 2, none⟩ = some (.slice none 0 0) := RF.out.cell 2
                    have f2 := RF.out.frozen 2
                    have d3 : y33.cell? ⟨y31.heap.size, 3, none⟩ = some (.slice none 0 0) := RF.out.cell 3
                    have f3 := RF.out.frozen 3
                    refine held_next 10 rfl (by kernel_rfl) (by rfl) ?_
                    go_simp
                    have S4 := set4 (a' := .int .u8 κk) (b' := .slice Ak nk ck) (c' := .slice Bk mk dk) (d' := .slice Dk qk ek) RF.out
                    generalize (((y33.setCell ⟨y31.heap.size, 0, none⟩ (.int .u8 κk)).setCell ⟨y31.heap.size, 1, none⟩ (.slice Ak nk ck)).setCell ⟨y31.heap.size, 2, none⟩ (.slice Bk mk dk)).setCell ⟨y31.heap.size, 3, none⟩ (.slice Dk qk ek) = y34 at *
                    obtain ⟨s4, s5⟩ := S4
                    have C1 := Lib.hid (C1.out.put2 s5 (by simp))
                    have C2 := Lib.hid (C2.out.put2 s5 (by simp))
                    have RE := Lib.hid (RE.out.grown s5 (by intro e; injection e with e; have := NL.out.2; simp at this; omega))
                    have hS2 : Below U0.heap.size U0 y34 := hSc.grown s5 hSc.size (fun j e => by injection e with e; subst e; exact (NL.out.1 _ (by simp)).1)
                    have NL := Lib.hid (NL.out.le s5.size)
                    have RF := Lib.hid s4
                    clear hSc d0 d1 d2 d3 f0 f1 f2 f3 s4 s5
                    have hSc := hS2
                    clear hS2
                    refine ⟨fun W => Below U0.heap.size U0 W, fun W hW => hW, hSc, ?_⟩
                    try simp only [Act.put, List.setIfInBounds_toArray, List.set_cons_zero, List.set_cons_succ]
                    refine wpAnyH_done (by kernel_rfl) ?_ _
                    go_wp2_with fail
                    have hne : y31.heap.size ≠ gm := by have h8 := (NL.out.1 (y31.heap.size) (by simp)).1; have h9 := GM.out; omega
                    go_meet
                    case rel => exact ⟨_, _, rfl, rfl, ⟨_, _, _, _, _, _, _, _, _, _, RE.out, C1.out.mono fun _ _ h => h.1⟩, ⟨_, _, _, _, _, _, _, _, _, _, RF.out, C2.out.mono fun _ _ h => h.1⟩, hne, below_both BD.out hSc⟩
                  · skip
                    go_simp
                    have rz := Row.new y30 28 #[.int .u8 0, .slice none 0 0, .slice none 0 0, .slice none 0 0]
                    have bq := bx y30 (.cells #[.int .u8 0, .slice none 0 0, .slice none 0 0, .slice none 0 0] 28)
                    have hz : y30.heap.size < (y30.alloc (.cells #[.int .u8 0, .slice none 0 0, .slice none 0 0, .slice none 0 0] 28)).heap.size := rz.lt
                    generalize y30.alloc (.cells #[.int .u8 0, .slice none 0 0, .slice none 0 0, .slice none 0 0] 28) = y35 at *
                    have C1 := Lib.hid (C1.out.made2 bq)
                    have RE := Lib.hid (RE.out.below bq RE.out.lt)
                    have NL := Lib.hid (NL.out.new hSc.size hz)
                    have hS2 : Below U0.heap.size U0 y35 := hSc.trans (bq.mono hSc.size)
                    clear hSc
                    have hSc := hS2
                    clear hS2
                    have RF := Lib.hid rz
                    clear rz bq hz
                    refine ⟨fun W => Below U0.heap.size U0 W, fun W hW => hW, hSc, ?_⟩
                    try simp only [Act.put, List.setIfInBounds_toArray, List.set_cons_zero, List.set_cons_succ]
                    refine held_next 6 rfl (by kernel_rfl) (by rfl) ?_
                    go_simp
                    refine (with_c _ p ka x _ (TT.out.step hSc) (NL.out.all2 GM.out hSc.size) HX.out (Cx.out.old2 hSc NL.out)).mono ?_
                    rw [EP2.out, EK2.out]
                    rintro e y36 ⟨v', rfl, g, bq⟩
                    obtain ⟨κk, Ak, nk, ck, Bk, mk, dk, Dk, qk, ek, rfl⟩ := g.form
                    have C1 := Lib.hid (C1.out.step bq)
                    have RE := Lib.hid (RE.out.below bq RE.out.lt)
                    have RF := Lib.hid (RF.out.below bq RF.out.lt)
                    have NL := Lib.hid (NL.out.le bq.size)
                    have hS2 : Below U0.heap.size U0 y36 := hSc.trans (bq.mono hSc.size)
                    clear hSc
                    have hSc := hS2
                    clear hS2
                    have C2 := Lib.hid g
                    clear g bq
                    refine ⟨fun W => Below U0.heap.size U0 W, fun W hW => hW, hSc, ?_⟩
                    try simp only [Act.put, List.setIfInBounds_toArray, List.set_cons_zero, List.set_cons_succ]
                    have d0 : y36.cell? ⟨U0.heap.size, 0, none⟩ = some (.int .u8 0) := RE.out.cell 0
                    have f0 := RE.out.frozen 0
                    have d1 : y36.cell? ⟨U0.heap.size, 1, none⟩ = some (.slice none 0 0) := RE.out.cell 1
                    have f1 := RE.out.frozen 1
                    have d2 : y36.cell? ⟨U0.heap.size, 2, none⟩ = some (.slice none 0 0) := RE.out.cell 2
                    have f2 := RE.out.frozen 2
                    have d3 : y36.cell? ⟨U0.heap.size, 3, none⟩ = some (.slice none 0 0) := RE.out.cell 3
                    have f3 := RE.out.frozen 3
                    refine held_next 9 rfl (by kernel_rfl) (by rfl) ?_
                    go_simp
                    have S4 := set4 (a' := .int .u8 κj) (b' := .slice Aj nj cj) (c' := .slice Bj mj dj) (d' := .slice Dj qj ej) RE.out
                    generalize (((y36.setCell ⟨U0.heap.size, 0, none⟩ (.int .u8 κj)).setCell ⟨U0.heap.size, 1, none⟩ (.slice Aj nj cj)).setCell ⟨U0.heap.size, 2, none⟩ (.slice Bj mj dj)).setCell ⟨U0.heap.size, 3, none⟩ (.slice Dj qj ej) = y37 at *
                    obtain ⟨s4, s5⟩ := S4
                    have C1 := Lib.hid (C1.out.put2 s5 (by simp))
                    have C2 := Lib.hid (C2.out.put2 s5 (by simp))
                    have RF := Lib.hid (RF.out.grown s5 (by intro e; injection e with e; have := NL.out.2; simp at this; omega))
                    have hS2 : Below U0.heap.size U0 y37 := hSc.grown s5 hSc.size (fun j e => by injection e with e; subst e; exact (NL.out.1 _ (by simp)).1)
                    have NL := Lib.hid (NL.out.le s5.size)
                    have RE := Lib.hid s4
                    clear hSc d0 d1 d2 d3 f0 f1 f2 f3 s4 s5
                    have hSc := hS2
                    clear hS2
                    refine ⟨fun W => Below U0.heap.size U0 W, fun W hW => hW, hSc, ?_⟩
                    try simp only [Act.put, List.setIfInBounds_toArray, List.set_cons_zero, List.set_cons_succ]
                    have d0 : y37.cell? ⟨y30.heap.size, 0, none⟩ = some (.int .u8 0) := RF.out.cell 0
                    have f0 := RF.out.frozen 0
                    have d1 : y37.cell? ⟨y30.heap.size, 1, none⟩ = some (.slice none 0 0) := RF.out.cell 1
                    have f1 := RF.out.frozen 1
                    have d2 : y37.cell? ⟨y30.heap.size, 2, none⟩ = some (.slice none 0 0) := RF.out.cell 2
                    have f2 := RF.out.frozen 2
                    have d3 : y37.cell? ⟨y30.heap.size, 3, none⟩ = some (.slice none 0 0) := RF.out.cell 3
                    have f3 := RF.out.frozen 3
                    refine held_next 10 rfl (by kernel_rfl) (by rfl) ?_
                    go_simp
                    have S4 := set4 (a' := .int .u8 κk) (b' := .slice Ak nk ck) (c' := .slice Bk mk dk) (d' := .slice Dk qk ek) RF.out
                    generalize (((y37.setCell ⟨y30.heap.size, 0, none⟩ (.int .u8 κk)).setCell ⟨y30.heap.size, 1, none⟩ (.slice Ak nk ck)).setCell ⟨y30.heap.size, 2, none⟩ (.slice Bk mk dk)).setCell ⟨y30.heap.size, 3, none⟩ (.slice Dk qk ek) = y38 at *
                    obtain ⟨s4, s5⟩ := S4
                    have C1 := Lib.hid (C1.out.put2 s5 (by simp))
                    have C2 := Lib.hid (C2.out.put2 s5 (by simp))
                    have RE := Lib.hid (RE.out.grown s5 (by intro e; injection e with e; have := NL.out.2; simp at this; omega))
                    have hS2 : Below U0.heap.size U0 y38 := hSc.grown s5 hSc.size (fun j e => by injection e with e; subst e; exact (NL.out.1 _ (by simp)).1)
                    have NL := Lib.hid (NL.out.le s5.size)
                    have RF := Lib.hid s4
                    clear hSc d0 d1 d2 d3 f0 f1 f2 f3 s4 s5
                    have hSc := hS2
                    clear hS2
                    refine ⟨fun W => Below U0.heap.size U0 W, fun W hW => hW, hSc, ?_⟩
                    try simp only [Act.put, List.setIfInBounds_toArray, List.set_cons_zero, List.set_cons_succ]
                    refine wpAnyH_done (by kernel_rfl) ?_ _
                    go_wp2_with fail
                    have hne : y30.heap.size ≠ gm := by have h8 := (NL.out.1 (y30.heap.size) (by simp)).1; have h9 := GM.out; omega
                    go_meet
                    case rel => exact ⟨_, _, rfl, rfl, ⟨_, _, _, _, _, _, _, _, _, _, RE.out, C1.out.mono fun _ _ h => h.1⟩, ⟨_, _, _, _, _, _, _, _, _, _, RF.out, C2.out.mono fun _ _ h => h.1⟩, hne, below_both BD.out hSc⟩
                · skip
                  go_simp
                  have rz := Row.new y29 28 #[.int .u8 0, .slice none 0 0, .slice none 0 0, .slice none 0 0]
                  have bq := bx y29 (.cells #[.int .u8 0, .slice none 0 0, .slice none 0 0, .slice none 0 0] 28)
                  have hz : y29.heap.size < (y29.alloc (.cells #[.int .u8 0, .slice none 0 0, .slice none 0 0, .slice none 0 0] 28)).heap.size := rz.lt
                  generalize y29.alloc (.cells #[.int .u8 0, .slice none 0 0, .slice none 0 0, .slice none 0 0] 28) = y39 at *
                  have RE := Lib.hid (RE.out.below bq RE.out.lt)
                  have NL := Lib.hid (NL.out.new hSc.size hz)
                  have hS2 : Below U0.heap.size U0 y39 := hSc.trans (bq.mono hSc.size)
                  clear hSc
                  have hSc := hS2
                  clear hS2
                  have RF := Lib.hid rz
                  clear rz bq hz
                  refine ⟨fun W => Below U0.heap.size U0 W, fun W hW => hW, hSc, ?_⟩
                  try simp only [Act.put, List.setIfInBounds_toArray, List.set_cons_zero, List.set_cons_succ]
                  refine held_next 3 rfl (by kernel_rfl) (by rfl) ?_
                  go_simp
                  refine (flip_c _ p ka lo hi _ (TT.out.step hSc) (NL.out.all2 GM.out hSc.size) (Cx.out.old2 hSc NL.out)).mono ?_
                  rw [EP1.out, EK1.out]
                  rintro e y40 ⟨v', rfl, g, bq⟩
                  obtain ⟨κj, Aj, nj, cj, Bj, mj, dj, Dj, qj, ej, rfl⟩ := g.form
                  have RE := Lib.hid (RE.out.below bq RE.out.lt)
                  have RF := Lib.hid (RF.out.below bq RF.out.lt)
                  have NL := Lib.hid (NL.out.le bq.size)
                  have hS2 : Below U0.heap.size U0 y40 := hSc.trans (bq.mono hSc.size)
                  clear hSc
                  have hSc := hS2
                  clear hS2
                  have C1 := Lib.hid g
                  clear g bq
                  refine ⟨fun W => Below U0.heap.size U0 W, fun W hW => hW, hSc, ?_⟩
                  try simp only [Act.put, List.setIfInBounds_toArray, List.set_cons_zero, List.set_cons_succ]
                  refine held_next 6 rfl (by kernel_rfl) (by rfl) ?_
                  go_simp
                  refine (with_c _ p ka x _ (TT.out.step hSc) (NL.out.all2 GM.out hSc.size) HX.out (Cx.out.old2 hSc NL.out)).mono ?_
                  rw [EP2.out, EK2.out]
                  rintro e y41 ⟨v', rfl, g, bq⟩
                  obtain ⟨κk, Ak, nk, ck, Bk, mk, dk, Dk, qk, ek, rfl⟩ := g.form
                  have C1 := Lib.hid (C1.out.step bq)
                  have RE := Lib.hid (RE.out.below bq RE.out.lt)
                  have RF := Lib.hid (RF.out.below bq RF.out.lt)
                  have NL := Lib.hid (NL.out.le bq.size)
                  have hS2 : Below U0.heap.size U0 y41 := hSc.trans (bq.mono hSc.size)
                  clear hSc
                  have hSc := hS2
                  clear hS2
                  have C2 := Lib.hid g
                  clear g bq
                  refine ⟨fun W => Below U0.heap.size U0 W, fun W hW => hW, hSc, ?_⟩
                  try simp only [Act.put, List.setIfInBounds_toArray, List.set_cons_zero, List.set_cons_succ]
                  have d0 : y41.cell? ⟨U0.heap.size, 0, none⟩ = some (.int .u8 0) := RE.out.cell 0
                  have f0 := RE.out.frozen 0
                  have d1 : y41.cell? ⟨U0.heap.size, 1, none⟩ = some (.slice none 0 0) := RE.out.cell 1
                  have f1 := RE.out.frozen 1
                  have d2 : y41.cell? ⟨U0.heap.size, 2, none⟩ = some (.slice none 0 0) := RE.out.cell 2
                  have f2 := RE.out.frozen 2
                  have d3 : y41.cell? ⟨U0.heap.size, 3, none⟩ = some (.slice none 0 0) := RE.out.cell 3
                  have f3 := RE.out.frozen 3
                  refine held_next 9 rfl (by kernel_rfl) (by rfl) ?_
                  go_simp
                  have S4 := set4 (a' := .int .u8 κj) (b' := .slice Aj nj cj) (c' := .slice Bj mj dj) (d' := .slice Dj qj ej) RE.out
                  generalize (((y41.setCell ⟨U0.heap.size, 0, none⟩ (.int .u8 κj)).setCell ⟨U0.heap.size, 1, none⟩ (.slice Aj nj cj)).setCell ⟨U0.heap.size, 2, none⟩ (.slice Bj mj dj)).setCell ⟨U0.heap.size, 3, none⟩ (.slice Dj qj ej) = y42 at *
                  obtain ⟨s4, s5⟩ := S4
                  have C1 := Lib.hid (C1.out.put2 s5 (by simp))
                  have C2 := Lib.hid (C2.out.put2 s5 (by simp))
                  have RF := Lib.hid (RF.out.grown s5 (by intro e; injection e with e; have := NL.out.2; simp at this; omega))
                  have hS2 : Below U0.heap.size U0 y42 := hSc.grown s5 hSc.size (fun j e => by injection e with e; subst e; exact (NL.out.1 _ (by simp)).1)
                  have NL := Lib.hid (NL.out.le s5.size)
                  have RE := Lib.hid s4
                  clear hSc d0 d1 d2 d3 f0 f1 f2 f3 s4 s5
                  have hSc := hS2
                  clear hS2
                  refine ⟨fun W => Below U0.heap.size U0 W, fun W hW => hW, hSc, ?_⟩
                  try simp only [Act.put, List.setIfInBounds_toArray, List.set_cons_zero, List.set_cons_succ]
                  have d0 : y42.cell? ⟨y29.heap.size, 0, none⟩ = some (.int .u8 0) := RF.out.cell 0
                  have f0 := RF.out.frozen 0
                  have d1 : y42.cell? ⟨y29.heap.size, 1, none⟩ = some (.slice none 0 0) := RF.out.cell 1
                  have f1 := RF.out.frozen 1
                  have d2 : y42.cell? ⟨y29.heap.size, 2, none⟩ = some (.slice none 0 0) := RF.out.cell 2
                  have f2 := RF.out.frozen 2
                  have d3 : y42.cell? ⟨y29.heap.size, 3, none⟩ = some (.slice none 0 0) := RF.out.cell 3
                  have f3 := RF.out.frozen 3
                  refine held_next 10 rfl (by kernel_rfl) (by rfl) ?_
                  go_simp
                  have S4 := set4 (a' := .int .u8 κk) (b' := .slice Ak nk ck) (c' := .slice Bk mk dk) (d' := .slice Dk qk ek) RF.out
                  generalize (((y42.setCell ⟨y29.heap.size, 0, none⟩ (.int .u8 κk)).setCell ⟨y29.heap.size, 1, none⟩ (.slice Ak nk ck)).setCell ⟨y29.heap.size, 2, none⟩ (.slice Bk mk dk)).setCell ⟨y29.heap.size, 3, none⟩ (.slice Dk qk ek) = y43 at *
                  obtain ⟨s4, s5⟩ := S4
                  have C1 := Lib.hid (C1.out.put2 s5 (by simp))
                  have C2 := Lib.hid (C2.out.put2 s5 (by simp))
                  have RE := Lib.hid (RE.out.grown s5 (by intro e; injection e with e; have := NL.out.2; simp at this; omega))
                  have hS2 : Below U0.heap.size U0 y43 := hSc.grown s5 hSc.size (fun j e => by injection e with e; subst e; exact (NL.out.1 _ (by simp)).1)
                  have NL := Lib.hid (NL.out.le s5.size)
                  have RF := Lib.hid s4
                  clear hSc d0 d1 d2 d3 f0 f1 f2 f3 s4 s5
                  have hSc := hS2
                  clear hS2
                  refine ⟨fun W => Below U0.heap.size U0 W, fun W hW => hW, hSc, ?_⟩
                  try simp only [Act.put, List.setIfInBounds_toArray, List.set_cons_zero, List.set_cons_succ]
                  refine wpAnyH_done (by kernel_rfl) ?_ _
                  go_wp2_with fail
                  have hne : y29.heap.size ≠ gm := by have h8 := (NL.out.1 (y29.heap.size) (by simp)).1; have h9 := GM.out; omega
                  go_meet
                  case rel => exact ⟨_, _, rfl, rfl, ⟨_, _, _, _, _, _, _, _, _, _, RE.out, C1.out.mono fun _ _ h => h.1⟩, ⟨_, _, _, _, _, _, _, _, _, _, RF.out, C2.out.mono fun _ _ h => h.1⟩, hne, below_both BD.out hSc⟩
              · skip
                go_simp
                have rz := Row.new U0 28 #[.int .u8 0, .slice none 0 0, .slice none 0 0, .slice none 0 0]
                have bq := bx U0 (.cells #[.int .u8 0, .slice none 0 0, .slice none 0 0, .slice none 0 0] 28)
                have hz : U0.heap.size < (U0.alloc (.cells #[.int .u8 0, .slice none 0 0, .slice none 0 0, .slice none 0 0] 28)).heap.size := rz.lt
                generalize U0.alloc (.cells #[.int .u8 0, .slice none 0 0, .slice none 0 0, .slice none 0 0] 28) = y44 at *
                have NL := Lib.hid (NL.out.new hSc.size hz)
                have hS2 : Below U0.heap.size U0 y44 := hSc.trans (bq.mono hSc.size)
                clear hSc
                have hSc := hS2
                clear hS2
                have RF := Lib.hid rz
                clear rz bq hz
                refine ⟨fun W => Below U0.heap.size U0 W, fun W hW => hW, hSc, ?_⟩
                try simp only [Act.put, List.setIfInBounds_toArray, List.set_cons_zero, List.set_cons_succ]
                refine held_two 3 7 rfl rfl (by kernel_rfl) (by rfl) (by rfl) ?_ ?_
                · skip
                  go_simp
                  refine (flip_c _ p ka lo hi _ (TT.out.step hSc) (NL.out.all2 GM.out hSc.size) (Cx.out.old2 hSc NL.out)).mono ?_
                  rw [EP1.out, EK1.out]
                  rintro e y45 ⟨v', rfl, g, bq⟩
                  obtain ⟨κj, Aj, nj, cj, Bj, mj, dj, Dj, qj, ej, rfl⟩ := g.form
                  have RF := Lib.hid (RF.out.below bq RF.out.lt)
                  have NL := Lib.hid (NL.out.le bq.size)
                  have hS2 : Below U0.heap.size U0 y45 := hSc.trans (bq.mono hSc.size)
                  clear hSc
                  have hSc := hS2
                  clear hS2
                  have C1 := Lib.hid g
                  clear g bq
                  refine ⟨fun W => Below U0.heap.size U0 W, fun W hW => hW, hSc, ?_⟩
                  try simp only [Act.put, List.setIfInBounds_toArray, List.set_cons_zero, List.set_cons_succ]
                  refine held_two 6 7 rfl rfl (by kernel_rfl) (by rfl) (by rfl) ?_ ?_
                  · skip
                    go_simp
                    refine (with_c _ p ka x _ (TT.out.step hSc) (NL.out.all2 GM.out hSc.size) HX.out (Cx.out.old2 hSc NL.out)).mono ?_
                    rw [EP2.out, EK2.out]
                    rintro e y46 ⟨v', rfl, g, bq⟩
                    obtain ⟨κk, Ak, nk, ck, Bk, mk, dk, Dk, qk, ek, rfl⟩ := g.form
                    have C1 := Lib.hid (C1.out.step bq)
                    have RF := Lib.hid (RF.out.below bq RF.out.lt)
                    have NL := Lib.hid (NL.out.le bq.size)
                    have hS2 : Below U0.heap.size U0 y46 := hSc.trans (bq.mono hSc.size)
                    clear hSc
                    have hSc := hS2
                    clear hS2
                    have C2 := Lib.hid g
                    clear g bq
                    refine ⟨fun W => Below U0.heap.size U0 W, fun W hW => hW, hSc, ?_⟩
                    try simp only [Act.put, List.setIfInBounds_toArray, List.set_cons_zero, List.set_cons_succ]
                    refine held_next 7 rfl (by kernel_rfl) (by rfl) ?_
                    go_simp
                    have rz := Row.new y46 28 #[.int .u8 0, .slice none 0 0, .slice none 0 0, .slice none 0 0]
                    have bq := bx y46 (.cells #[.int .u8 0, .slice none 0 0, .slice none 0 0, .slice none 0 0] 28)
                    have hz : y46.heap.size < (y46.alloc (.cells #[.int .u8 0, .slice none 0 0, .slice none 0 0, .slice none 0 0] 28)).heap.size := rz.lt
                    generalize y46.alloc (.cells #[.int .u8 0, .slice none 0 0, .slice none 0 0, .slice none 0 0] 28) = y47 at *
                    have C1 := Lib.hid (C1.out.made2 bq)
                    have C2 := Lib.hid (C2.out.made2 bq)
                    have RF := Lib.hid (RF.out.below bq RF.out.lt)
                    have NL := Lib.hid (NL.out.new hSc.size hz)
                    have hS2 : Below U0.heap.size U0 y47 := hSc.trans (bq.mono hSc.size)
                    clear hSc
                    have hSc := hS2
                    clear hS2
                    have RE := Lib.hid rz
                    clear rz bq hz
                    refine ⟨fun W => Below U0.heap.size U0 W, fun W hW => hW, hSc, ?_⟩
                    try simp only [Act.put, List.setIfInBounds_toArray, List.set_cons_zero, List.set_cons_succ]
                    have d0 : y47.cell? ⟨y46.heap.size, 0, none⟩ = some (.int .u8 0) := RE.out.cell 0
                    have f0 := RE.out.frozen 0
                    have d1 : y47.cell? ⟨y46.heap.size, 1, none⟩ = some (.slice none 0 0) := RE.out.cell 1
                    have f1 := RE.out.frozen 1
                    have d2 : y47.cell? ⟨y46.heap.size, 2, none⟩ = some (.slice none 0 0) := RE.out.cell 2
                    have f2 := RE.out.frozen 2
                    have d3 : y47.cell? ⟨y46.heap.size, 3, none⟩ = some (.slice none 0 0) := RE.out.cell 3
                    have f3 := RE.out.frozen 3
                    refine held_next 9 rfl (by kernel_rfl) (by rfl) ?_
                    go_simp
                    have S4 := set4 (a' := .int .u8 κj) (b' := .slice Aj nj cj) (c' := .slice Bj mj dj) (d' := .slice Dj qj ej) RE.out
                    generalize (((y47.setCell ⟨y46.heap.size, 0, none⟩ (.int .u8 κj)).setCell ⟨y46.heap.size, 1, none⟩ (.slice Aj nj cj)).setCell ⟨y46.heap.size, 2, none⟩ (.slice Bj mj dj)).setCell ⟨y46.heap.size, 3, none⟩ (.slice Dj qj ej) = y48 at *
                    obtain ⟨s4, s5⟩ := S4
                    have C1 := Lib.hid (C1.out.put2 s5 (by simp))
                    have C2 := Lib.hid (C2.out.put2 s5 (by simp))
                    have RF := Lib.hid (RF.out.grown s5 (by intro e; injection e with e; have := NL.out.2; simp at this; omega))
                    have hS2 : Below U0.heap.size U0 y48 := hSc.grown s5 hSc.size (fun j e => by injection e with e; subst e; exact (NL.out.1 _ (by simp)).1)
                    have NL := Lib.hid (NL.out.le s5.size)
                    have RE := Lib.hid s4
                    clear hSc d0 d1 d2 d3 f0 f1 f2 f3 s4 s5
                    have hSc := hS2
                    clear hS2
                    refine ⟨fun W => Below U0.heap.size U0 W, fun W hW => hW, hSc, ?_⟩
                    try simp only [Act.put, List.setIfInBounds_toArray, List.set_cons_zero, List.set_cons_succ]
                    have d0 : y48.cell? ⟨U0.heap.size, 0, none⟩ = some (.int .u8 0) := RF.out.cell 0
                    have f0 := RF.out.frozen 0
                    have d1 : y48.cell? ⟨U0.heap.size, 1, none⟩ = some (.slice none 0 0) := RF.out.cell 1
                    have f1 := RF.out.frozen 1
                    have d2 : y48.cell? ⟨U0.heap.size, 2, none⟩ = some (.slice none 0 0) := RF.out.cell 2
                    have f2 := RF.out.frozen 2
                    have d3 : y48.cell? ⟨U0.heap.size, 3, none⟩ = some (.slice none 0 0) := RF.out.cell 3
                    have f3 := RF.out.frozen 3
                    refine held_next 10 rfl (by kernel_rfl) (by rfl) ?_
                    go_simp
                    have S4 := set4 (a' := .int .u8 κk) (b' := .slice Ak nk ck) (c' := .slice Bk mk dk) (d' := .slice Dk qk ek) RF.out
                    generalize (((y48.setCell ⟨U0.heap.size, 0, none⟩ (.int .u8 κk)).setCell ⟨U0.heap.size, 1, none⟩ (.slice Ak nk ck)).setCell ⟨U0.heap.size, 2, none⟩ (.slice Bk mk dk)).setCell ⟨U0.heap.size, 3, none⟩ (.slice Dk qk ek) = y49 at *
                    obtain ⟨s4, s5⟩ := S4
                    have C1 := Lib.hid (C1.out.put2 s5 (by simp))
                    have C2 := Lib.hid (C2.out.put2 s5 (by simp))
                    have RE := Lib.hid (RE.out.grown s5 (by intro e; injection e with e; have := NL.out.2; simp at this; omega))
                    have hS2 : Below U0.heap.size U0 y49 := hSc.grown s5 hSc.size (fun j e => by injection e with e; subst e; exact (NL.out.1 _ (by simp)).1)
                    have NL := Lib.hid (NL.out.le s5.size)
                    have RF := Lib.hid s4
                    clear hSc d0 d1 d2 d3 f0 f1 f2 f3 s4 s5
                    have hSc := hS2
                    clear hS2
                    refine ⟨fun W => Below U0.heap.size U0 W, fun W hW => hW, hSc, ?_⟩
                    try simp only [Act.put, List.setIfInBounds_toArray, List.set_cons_zero, List.set_cons_succ]
                    refine wpAnyH_done (by kernel_rfl) ?_ _
                    go_wp2_with fail
                    have hne : U0.heap.size ≠ gm := by have h8 := (NL.out.1 (U0.heap.size) (by simp)).1; have h9 := GM.out; omega
                    go_meet
                    case rel => exact ⟨_, _, rfl, rfl, ⟨_, _, _, _, _, _, _, _, _, _, RE.out, C1.out.mono fun _ _ h => h.1⟩, ⟨_, _, _, _, _, _, _, _, _, _, RF.out, C2.out.mono fun _ _ h => h.1⟩, hne, below_both BD.out hSc⟩
                  · skip
                    go_simp
                    have rz := Row.new y45 28 #[.int .u8 0, .slice none 0 0, .slice none 0 0, .slice none 0 0]
                    have bq := bx y45 (.cells #[.int .u8 0, .slice none 0 0, .slice none 0 0, .slice none 0 0] 28)
                    have hz : y45.heap.size < (y45.alloc (.cells #[.int .u8 0, .slice none 0 0, .slice none 0 0, .slice none 0 0] 28)).heap.size := rz.lt
                    generalize y45.alloc (.cells #[.int .u8 0, .slice none 0 0, .slice none 0 0, .slice none 0 0] 28) = y50 at *
                    have C1 := Lib.hid (C1.out.made2 bq)
                    have RF := Lib.hid (RF.out.below bq RF.out.lt)
                    have NL := Lib.hid (NL.out.new hSc.size hz)
                    have hS2 : Below U0.heap.size U0 y50 := hSc.trans (bq.mono hSc.size)
                    clear hSc
                    have hSc := hS2
                    clear hS2
                    have RE := Lib.hid rz
                    clear rz bq hz
                    refine ⟨fun W => Below U0.heap.size U0 W, fun W hW => hW, hSc, ?_⟩
                    try simp only [Act.put, List.setIfInBounds_toArray, List.set_cons_zero, List.set_cons_succ]
                    refine held_next 6 rfl (by kernel_rfl) (by rfl) ?_
                    go_simp
                    refine (with_c _ p ka x _ (TT.out.step hSc) (NL.out.all2 GM.out hSc.size) HX.out (Cx.out.old2 hSc NL.out)).mono ?_
                    rw [EP2.out, EK2.out]
                    rintro e y51 ⟨v', rfl, g, bq⟩
                    obtain ⟨κk, Ak, nk, ck, Bk, mk, dk, Dk, qk, ek, rfl⟩ := g.form
                    have C1 := Lib.hid (C1.out.step bq)
                    have RF := Lib.hid (RF.out.below bq RF.out.lt)
                    have RE := Lib.hid (RE.out.below bq RE.out.lt)
                    have NL := Lib.hid (NL.out.le bq.size)
                    have hS2 : Below U0.heap.size U0 y51 := hSc.trans (bq.mono hSc.size)
                    clear hSc
                    have hSc := hS2
                    clear hS2
                    have C2 := Lib.hid g
                    clear g bq
                    refine ⟨fun W => Below U0.heap.size U0 W, fun W hW => hW, hSc, ?_⟩
                    try simp only [Act.put, List.setIfInBounds_toArray, List.set_cons_zero, List.set_cons_succ]
                    have d0 : y51.cell? ⟨y45.heap.size, 0, none⟩ = some (.int .u8 0) := RE.out.cell 0
                    have f0 := RE.out.frozen 0
                    have d1 : y51.cell? ⟨y45.heap.size, 1, none⟩ = some (.slice none 0 0) := RE.out.cell 1
                    have f1 := RE.out.frozen 1
                    have d2 : y51.cell? ⟨y45.heap.size, 2, none⟩ = some (.slice none 0 0) := RE.out.cell 2
                    have f2 := RE.out.frozen 2
                    have d3 : y51.cell? ⟨y45.heap.size, 3, none⟩ = some (.slice none 0 0) := RE.out.cell 3
                    have f3 := RE.out.frozen 3
                    refine held_next 9 rfl (by kernel_rfl) (by rfl) ?_
                    go_simp
                    have S4 := set4 (a' := .int .u8 κj) (b' := .slice Aj nj cj) (c' := .slice Bj mj dj) (d' := .slice Dj qj ej) RE.out
                    generalize (((y51.setCell ⟨y45.heap.size, 0, none⟩ (.int .u8 κj)).setCell ⟨y45.heap.size, 1, none⟩ (.slice Aj nj cj)).setCell ⟨y45.heap.size, 2, none⟩ (.slice Bj mj dj)).setCell ⟨y45.heap.size, 3, none⟩ (.slice Dj qj ej) = y52 at *
                    obtain ⟨s4, s5⟩ := S4
                    have C1 := Lib.hid (C1.out.put2 s5 (by simp))
                    have C2 := Lib.hid (C2.out.put2 s5 (by simp))
                    have RF := Lib.hid (RF.out.grown s5 (by intro e; injection e with e; have := NL.out.2; simp at this; omega))
                    have hS2 : Below U0.heap.size U0 y52 := hSc.grown s5 hSc.size (fun j e => by injection e with e; subst e; exact (NL.out.1 _ (by simp)).1)
                    have NL := Lib.hid (NL.out.le s5.size)
                    have RE := Lib.hid s4
                    clear hSc d0 d1 d2 d3 f0 f1 f2 f3 s4 s5
                    have hSc := hS2
                    clear hS2
                    refine ⟨fun W => Below U0.heap.size U0 W, fun W hW => hW, hSc, ?_⟩
                    try simp only [Act.put, List.setIfInBounds_toArray, List.set_cons_zero, List.set_cons_succ]
                    have d0 : y52.cell? ⟨U0.heap.size, 0, none⟩ = some (.int .u8 0) := RF.out.cell 0
                    have f0 := RF.out.frozen 0
                    have d1 : y52.cell? ⟨U0.heap.size, 1, none⟩ = some (.slice none 0 0) := RF.out.cell 1
                    have f1 := RF.out.frozen 1
                    have d2 : y52.cell? ⟨U0.heap.size, 2, none⟩ = some (.slice none 0 0) := RF.out.cell 2
                    have f2 := RF.out.frozen 2
                    have d3 : y52.cell? ⟨U0.heap.size, 3, none⟩ = some (.slice none 0 0) := RF.out.cell 3
                    have f3 := RF.out.frozen 3
                    refine held_next 10 rfl (by kernel_rfl) (by rfl) ?_
                    go_simp
                    have S4 := set4 (a' := .int .u8 κk) (b' := .slice Ak nk ck) (c' := .slice Bk mk dk) (d' := .slice Dk qk ek) RF.out
                    generalize (((y52.setCell ⟨U0.heap.size, 0, none⟩ (.int .u8 κk)).setCell ⟨U0.heap.size, 1, none⟩ (.slice Ak nk ck)).setCell ⟨U0.heap.size, 2, none⟩ (.slice Bk mk dk)).setCell ⟨U0.heap.size, 3, none⟩ (.slice Dk qk ek) = y53 at *
                    obtain ⟨s4, s5⟩ := S4
                    have C1 := Lib.hid (C1.out.put2 s5 (by simp))
                    have C2 := Lib.hid (C2.out.put2 s5 (by simp))
                    have RE := Lib.hid (RE.out.grown s5 (by intro e; injection e with e; have := NL.out.2; simp at this; omega))
                    have hS2 : Below U0.heap.size U0 y53 := hSc.grown s5 hSc.size (fun j e => by injection e with e; subst e; exact (NL.out.1 _ (by simp)).1)
                    have NL := Lib.hid (NL.out.le s5.size)
                    have RF := Lib.hid s4
                    clear hSc d0 d1 d2 d3 f0 f1 f2 f3 s4 s5
                    have hSc := hS2
                    clear hS2
                    refine ⟨fun W => Below U0.heap.size U0 W, fun W hW => hW, hSc, ?_⟩
                    try simp only [Act.put, List.setIfInBounds_toArray, List.set_cons_zero, List.set_cons_succ]
                    refine wpAnyH_done (by kernel_rfl) ?_ _
                    go_wp2_with fail
                    have hne : U0.heap.size ≠ gm := by have h8 := (NL.out.1 (U0.heap.size) (by simp)).1; have h9 := GM.out; omega
                    go_meet
                    case rel => exact ⟨_, _, rfl, rfl, ⟨_, _, _, _, _, _, _, _, _, _, RE.out, C1.out.mono fun _ _ h => h.1⟩, ⟨_, _, _, _, _, _, _, _, _, _, RF.out, C2.out.mono fun _ _ h => h.1⟩, hne, below_both BD.out hSc⟩
                · skip
                  go_simp
                  have rz := Row.new y44 28 #[.int .u8 0, .slice none 0 0, .slice none 0 0, .slice none 0 0]
                  have bq := bx y44 (.cells #[.int .u8 0, .slice none 0 0, .slice none 0 0, .slice none 0 0] 28)
                  have hz : y44.heap.size < (y44.alloc (.cells #[.int .u8 0, .slice none 0 0, .slice none 0 0, .slice none 0 0] 28)).heap.size := rz.lt
                  generalize y44.alloc (.cells #[.int .u8 0, .slice none 0 0, .slice none 0 0, .slice none 0 0] 28) = y54 at *
                  have RF := Lib.hid (RF.out.below bq RF.out.lt)
                  have NL := Lib.hid (NL.out.new hSc.size hz)
                  have hS2 : Below U0.heap.size U0 y54 := hSc.trans (bq.mono hSc.size)
                  clear hSc
                  have hSc := hS2
                  clear hS2
                  have RE := Lib.hid rz
                  clear rz bq hz
                  refine ⟨fun W => Below U0.heap.size U0 W, fun W hW => hW, hSc, ?_⟩
                  try simp only [Act.put, List.setIfInBounds_toArray, List.set_cons_zero, List.set_cons_succ]
                  refine held_next 3 rfl (by kernel_rfl) (by rfl) ?_
                  go_simp
                  refine (flip_c _ p ka lo hi _ (TT.out.step hSc) (NL.out.all2 GM.out hSc.size) (Cx.out.old2 hSc NL.out)).mono ?_
                  rw [EP1.out, EK1.out]
                  rintro e y55 ⟨v', rfl, g, bq⟩
                  obtain ⟨κj, Aj, nj, cj, Bj, mj, dj, Dj, qj, ej, rfl⟩ := g.form
                  have RF := Lib.hid (RF.out.below bq RF.out.lt)
                  have RE := Lib.hid (RE.out.below bq RE.out.lt)
                  have NL := Lib.hid (NL.out.le bq.size)
                  have hS2 : Below U0.heap.size U0 y55 := hSc.trans (bq.mono hSc.size)
                  clear hSc
                  have hSc := hS2
                  clear hS2
                  have C1 := Lib.hid g
                  clear g bq
                  refine ⟨fun W => Below U0.heap.size U0 W, fun W hW => hW, hSc, ?_⟩
                  try simp only [Act.put, List.setIfInBounds_toArray, List.set_cons_zero, List.set_cons_succ]
                  refine held_next 6 rfl (by kernel_rfl) (by rfl) ?_
                  go_simp
                  refine (with_c _ p ka x _ (TT.out.step hSc) (NL.out.all2 GM.out hSc.size) HX.out (Cx.out.old2 hSc NL.out)).mono ?_
                  rw [EP2.out, EK2.out]
                  rintro e y56 ⟨v', rfl, g, bq⟩
                  obtain ⟨κk, Ak, nk, ck, Bk, mk, dk, Dk, qk, ek, rfl⟩ := g.form
                  have C1 := Lib.hid (C1.out.step bq)
                  have RF := Lib.hid (RF.out.below bq RF.out.lt)
                  have RE := Lib.hid (RE.out.below bq RE.out.lt)
                  have NL := Lib.hid (NL.out.le bq.size)
                  have hS2 : Below U0.heap.size U0 y56 := hSc.trans (bq.mono hSc.size)
                  clear hSc
                  have hSc := hS2
                  clear hS2
                  have C2 := Lib.hid g
                  clear g bq
                  refine ⟨fun W => Below U0.heap.size U0 W, fun W hW => hW, hSc, ?_⟩
                  try simp only [Act.put, List.setIfInBounds_toArray, List.set_cons_zero, List.set_cons_succ]
                  have d0 : y56.cell? ⟨y44.heap.size, 0, none⟩ = some (.int .u8 0) := RE.out.cell 0
                  have f0 := RE.out.frozen 0
                  have d1 : y56.cell? ⟨y44.heap.size, 1, none⟩ = some (.slice none 0 0) := RE.out.cell 1
                  have f1 := RE.out.frozen 1
                  have d2 : y56.cell? ⟨y44.heap.size, 2, none⟩ = some (.slice none 0 0) := RE.out.cell 2
                  have f2 := RE.out.frozen 2
                  have d3 : y56.cell? ⟨y44.heap.size, 3, none⟩ = some (.slice none 0 0) := RE.out.cell 3
                  have f3 := RE.out.frozen 3
                  refine held_next 9 rfl (by kernel_rfl) (by rfl) ?_
                  go_simp
                  have S4 := set4 (a' := .int .u8 κj) (b' := .slice Aj nj cj) (c' := .slice Bj mj dj) (d' := .slice Dj qj ej) RE.out
                  generalize (((y56.setCell ⟨y44.heap.size, 0, none⟩ (.int .u8 κj)).setCell ⟨y44.heap.size, 1, none⟩ (.slice Aj nj cj)).setCell ⟨y44.heap.size, 2, none⟩ (.slice Bj mj dj)).setCell ⟨y44.heap.size, 3, none⟩ (.slice Dj qj ej) = y57 at *
                  obtain ⟨s4, s5⟩ := S4
                  have C1 := Lib.hid (C1.out.put2 s5 (by simp))
                  have C2 := Lib.hid (C2.out.put2 s5 (by simp))
                  have RF := Lib.hid (RF.out.grown s5 (by intro e; injection e with e; have := NL.out.2; simp at this; omega))
                  have hS2 : Below U0.heap.size U0 y57 := hSc.grown s5 hSc.size (fun j e => by injection e with e; subst e; exact (NL.out.1 _ (by simp)).1)
                  have NL := Lib.hid (NL.out.le s5.size)
                  have RE := Lib.hid s4
                  clear hSc d0 d1 d2 d3 f0 f1 f2 f3 s4 s5
                  have hSc := hS2
                  clear hS2
                  refine ⟨fun W => Below U0.heap.size U0 W, fun W hW => hW, hSc, ?_⟩
                  try simp only [Act.put, List.setIfInBounds_toArray, List.set_cons_zero, List.set_cons_succ]
                  have d0 : y57.cell? ⟨U0.heap.size, 0, none⟩ = some (.int .u8 0) := RF.out.cell 0
                  have f0 := RF.out.frozen 0
                  have d1 : y57.cell? ⟨U0.heap.size, 1, none⟩ = some (.slice none 0 0) := RF.out.cell 1
                  have f1 := RF.out.frozen 1
                  have d2 : y57.cell? ⟨U0.heap.size, 2, none⟩ = some (.slice none 0 0) := RF.out.cell 2
                  have f2 := RF.out.frozen 2
                  have d3 : y57.cell? ⟨U0.heap.size, 3, none⟩ = some (.slice none 0 0) := RF.out.cell 3
                  have f3 := RF.out.frozen 3
                  refine held_next 10 rfl (by kernel_rfl) (by rfl) ?_
                  go_simp
                  have S4 := set4 (a' := .int .u8 κk) (b' := .slice Ak nk ck) (c' := .slice Bk mk dk) (d' := .slice Dk qk ek) RF.out
                  generalize (((y57.setCell ⟨U0.heap.size, 0, none⟩ (.int .u8 κk)).setCell ⟨U0.heap.size, 1, none⟩ (.slice Ak nk ck)).setCell ⟨U0.heap.size, 2, none⟩ (.slice Bk mk dk)).setCell ⟨U0.heap.size, 3, none⟩ (.slice Dk qk ek) = y58 at *
                  obtain ⟨s4, s5⟩ := S4
                  have C1 := Lib.hid (C1.out.put2 s5 (by simp))
                  have C2 := Lib.hid (C2.out.put2 s5 (by simp))
                  have RE := Lib.hid (RE.out.grown s5 (by intro e; injection e with e; have := NL.out.2; simp at this; omega))
                  have hS2 : Below U0.heap.size U0 y58 := hSc.grown s5 hSc.size (fun j e => by injection e with e; subst e; exact (NL.out.1 _ (by simp)).1)
                  have NL := Lib.hid (NL.out.le s5.size)
                  have RF := Lib.hid s4
                  clear hSc d0 d1 d2 d3 f0 f1 f2 f3 s4 s5
                  have hSc := hS2
                  clear hS2
                  refine ⟨fun W => Below U0.heap.size U0 W, fun W hW => hW, hSc, ?_⟩
                  try simp only [Act.put, List.setIfInBounds_toArray, List.set_cons_zero, List.set_cons_succ]
                  refine wpAnyH_done (by kernel_rfl) ?_ _
                  go_wp2_with fail
                  have hne : U0.heap.size ≠ gm := by have h8 := (NL.out.1 (U0.heap.size) (by simp)).1; have h9 := GM.out; omega
                  go_meet
                  case rel => exact ⟨_, _, rfl, rfl, ⟨_, _, _, _, _, _, _, _, _, _, RE.out, C1.out.mono fun _ _ h => h.1⟩, ⟨_, _, _, _, _, _, _, _, _, _, RF.out, C2.out.mono fun _ _ h => h.1⟩, hne, below_both BD.out hSc⟩
            case rest =>
              obtain ⟨ge, gf, rfl, rfl, ⟨κu, Au, nu, cu, Bu, mu, du, Du, qu, eu, hre, hce⟩, ⟨κv, Av, nv, cv, Bv, mv, dv, Dv, qv, ev, hrf, hcf⟩, hne, bd⟩ := hcut
              have TT := Lib.hid (TT.out.step bd)
              have BB := Lib.hid (below_both BB.out bd)
              have Cx := Lib.hid (Cx.out.step bd)
              have RM := Lib.hid (RM.out.below bd RM.out.lt)
              have Rx := Lib.hid (Rx.out.below bd Rx.out.lt)
              have Cy := Lib.hid (Cy.out.step bd)
              have RN := Lib.hid (RN.out.below bd RN.out.lt)
              have Ry := Lib.hid (Ry.out.below bd Ry.out.lt)
              clear bd
              generalize wc = v3 at *
              have RU := Lib.hid hre
              have RV := Lib.hid hrf
              have CU := Lib.hid hce
              have CV := Lib.hid hcf
              clear hre hrf hce hcf
              go_wp2_with fail
              refine (refFlip_any gm p lo hi _ RM.out).mono ?_
              rw [EP1.out]
              rintro e u221 ⟨rfl, rw_, b⟩
              have TT := Lib.hid (TT.out.step b)
              have BB := Lib.hid (below_both BB.out b)
              have Cx := Lib.hid (Cx.out.step b)
              have RM := Lib.hid (RM.out.below b RM.out.lt)
              have Rx := Lib.hid (Rx.out.below b Rx.out.lt)
              have Cy := Lib.hid (Cy.out.step b)
              have RN := Lib.hid (RN.out.below b RN.out.lt)
              have Ry := Lib.hid (Ry.out.below b Ry.out.lt)
              have RU := Lib.hid (RU.out.below b RU.out.lt)
              have RV := Lib.hid (RV.out.below b RV.out.lt)
              have CU := Lib.hid (CU.out.step b)
              have CV := Lib.hid (CV.out.step b)
              have RT := Lib.hid (rw_)
              clear b rw_
              have kk0 : u221.cell? ⟨ge, 0, none⟩ = some (.int .u8 κu) := RU.out.cell 0
              have kk1 : u221.cell? ⟨ge, 1, none⟩ = some (.slice Au nu cu) := RU.out.cell 1
              have kk2 : u221.cell? ⟨ge, 2, none⟩ = some (.slice Bu mu du) := RU.out.cell 2
              have kk3 : u221.cell? ⟨ge, 3, none⟩ = some (.slice Du qu eu) := RU.out.cell 3
              go_wp2_with fail
              clear kk0 kk1 kk2 kk3
              refine (kind_c _ P1 K1 _ CU.out).mono ?_
              rintro e u222 ⟨rfl, b⟩
              have TT := Lib.hid (TT.out.step b)
              have BB := Lib.hid (below_both BB.out b)
              have Cx := Lib.hid (Cx.out.step b)
              have RM := Lib.hid (RM.out.below b RM.out.lt)
              have Rx := Lib.hid (Rx.out.below b Rx.out.lt)
              have Cy := Lib.hid (Cy.out.step b)
              have RN := Lib.hid (RN.out.below b RN.out.lt)
              have Ry := Lib.hid (Ry.out.below b Ry.out.lt)
              have RU := Lib.hid (RU.out.below b RU.out.lt)
              have RV := Lib.hid (RV.out.below b RV.out.lt)
              have CU := Lib.hid (CU.out.step b)
              have CV := Lib.hid (CV.out.step b)
              have RT := Lib.hid (RT.out.below b RT.out.lt)
              clear b
              go_wp2_with fail
              refine (refKind_c _ P1 K1 _ RT.out EK1.out).mono ?_
              rintro e u223 ⟨rfl, b⟩
              have TT := Lib.hid (TT.out.step b)
              have BB := Lib.hid (below_both BB.out b)
              have Cx := Lib.hid (Cx.out.step b)
              have RM := Lib.hid (RM.out.below b RM.out.lt)
              have Rx := Lib.hid (Rx.out.below b Rx.out.lt)
              have Cy := Lib.hid (Cy.out.step b)
              have RN := Lib.hid (RN.out.below b RN.out.lt)
              have Ry := Lib.hid (Ry.out.below b Ry.out.lt)
              have RU := Lib.hid (RU.out.below b RU.out.lt)
              have RV := Lib.hid (RV.out.below b RV.out.lt)
              have CU := Lib.hid (CU.out.step b)
              have CV := Lib.hid (CV.out.step b)
              have RT := Lib.hid (RT.out.below b RT.out.lt)
              clear b
              have kk0 : u223.cell? ⟨ge, 0, none⟩ = some (.int .u8 κu) := RU.out.cell 0
              have kk1 : u223.cell? ⟨ge, 1, none⟩ = some (.slice Au nu cu) := RU.out.cell 1
              have kk2 : u223.cell? ⟨ge, 2, none⟩ = some (.slice Bu mu du) := RU.out.cell 2
              have kk3 : u223.cell? ⟨ge, 3, none⟩ = some (.slice Du qu eu) := RU.out.cell 3
              go_wp2_with fail
              clear kk0 kk1 kk2 kk3
              refine (array_c _ P1 K1 N1 _ TT.out EN1.out CU.out).mono ?_
              rintro e u224 ⟨X3, x3, rfl, g, b⟩
              have TT := Lib.hid (TT.out.step b)
              have BB := Lib.hid (below_both BB.out b)
              have Cx := Lib.hid (Cx.out.step b)
              have RM := Lib.hid (RM.out.below b RM.out.lt)
              have Rx := Lib.hid (Rx.out.below b Rx.out.lt)
              have Cy := Lib.hid (Cy.out.step b)
              have RN := Lib.hid (RN.out.below b RN.out.lt)
              have Ry := Lib.hid (Ry.out.below b Ry.out.lt)
              have RU := Lib.hid (RU.out.below b RU.out.lt)
              have RV := Lib.hid (RV.out.below b RV.out.lt)
              have CU := Lib.hid (CU.out.step b)
              have CV := Lib.hid (CV.out.step b)
              have RT := Lib.hid (RT.out.below b RT.out.lt)
              have G3 := Lib.hid (g.more (Nat.zero_le _) (Nat.le_refl _))
              clear g b
              go_wp2_with fail
              refine (marks_list_n _ P1 N1 _ RT.out EN1.out).mono ?_
              rintro e u225 ⟨X4, x4, rfl, g, b⟩
              have TT := Lib.hid (TT.out.step b)
              have BB := Lib.hid (below_both BB.out b)
              have Cx := Lib.hid (Cx.out.step b)
              have RM := Lib.hid (RM.out.below b RM.out.lt)
              have Rx := Lib.hid (Rx.out.below b Rx.out.lt)
              have Cy := Lib.hid (Cy.out.step b)
              have RN := Lib.hid (RN.out.below b RN.out.lt)
              have Ry := Lib.hid (Ry.out.below b Ry.out.lt)
              have RU := Lib.hid (RU.out.below b RU.out.lt)
              have RV := Lib.hid (RV.out.below b RV.out.lt)
              have CU := Lib.hid (CU.out.step b)
              have CV := Lib.hid (CV.out.step b)
              have RT := Lib.hid (RT.out.below b RT.out.lt)
              have G3 := Lib.hid (G3.out.stp b)
              have G4 := Lib.hid (g.more (Nat.zero_le _) (Nat.le_refl _))
              clear g b
              go_wp2_with fail
              refine (same16_p _ _ _ _ _ G3.out G4.out rfl).mono ?_
              rintro e u226 ⟨rfl, b⟩
              have TT := Lib.hid (TT.out.step b)
              have BB := Lib.hid (below_both BB.out b)
              have Cx := Lib.hid (Cx.out.step b)
              have RM := Lib.hid (RM.out.below b RM.out.lt)
              have Rx := Lib.hid (Rx.out.below b Rx.out.lt)
              have Cy := Lib.hid (Cy.out.step b)
              have RN := Lib.hid (RN.out.below b RN.out.lt)
              have Ry := Lib.hid (Ry.out.below b Ry.out.lt)
              have RU := Lib.hid (RU.out.below b RU.out.lt)
              have RV := Lib.hid (RV.out.below b RV.out.lt)
              have CU := Lib.hid (CU.out.step b)
              have CV := Lib.hid (CV.out.step b)
              have RT := Lib.hid (RT.out.below b RT.out.lt)
              have G3 := Lib.hid (G3.out.stp b)
              have G4 := Lib.hid (G4.out.stp b)
              clear b
              clear G3
              clear G4
              have kk0 : u226.cell? ⟨u1.heap.size, 0, none⟩ = some (.int .u8 κx) := Rx.out.cell 0
              have kk1 : u226.cell? ⟨u1.heap.size, 1, none⟩ = some (.slice Ax nx cx) := Rx.out.cell 1
              have kk2 : u226.cell? ⟨u1.heap.size, 2, none⟩ = some (.slice Bx mx dx) := Rx.out.cell 2
              have kk3 : u226.cell? ⟨u1.heap.size, 3, none⟩ = some (.slice Dx qx ex) := Rx.out.cell 3
              go_wp2_with fail
              clear kk0 kk1 kk2 kk3
              refine (array_c _ p ka np _ TT.out NP.out Cx.out).mono ?_
              rintro e u227 ⟨X3, x3, rfl, g, b⟩
              have TT := Lib.hid (TT.out.step b)
              have BB := Lib.hid (below_both BB.out b)
              have Cx := Lib.hid (Cx.out.step b)
              have RM := Lib.hid (RM.out.below b RM.out.lt)
              have Rx := Lib.hid (Rx.out.below b Rx.out.lt)
              have Cy := Lib.hid (Cy.out.step b)
              have RN := Lib.hid (RN.out.below b RN.out.lt)
              have Ry := Lib.hid (Ry.out.below b Ry.out.lt)
              have RU := Lib.hid (RU.out.below b RU.out.lt)
              have RV := Lib.hid (RV.out.below b RV.out.lt)
              have CU := Lib.hid (CU.out.step b)
              have CV := Lib.hid (CV.out.step b)
              have RT := Lib.hid (RT.out.below b RT.out.lt)
              have G3 := Lib.hid (g.more (Nat.zero_le _) (Nat.le_refl _))
              clear g b
              go_wp2_with fail
              refine (marks_list_n _ p np _ RM.out NP.out).mono ?_
              rintro e u228 ⟨X4, x4, rfl, g, b⟩
              have TT := Lib.hid (TT.out.step b)
              have BB := Lib.hid (below_both BB.out b)
              have Cx := Lib.hid (Cx.out.step b)
              have RM := Lib.hid (RM.out.below b RM.out.lt)
              have Rx := Lib.hid (Rx.out.below b Rx.out.lt)
              have Cy := Lib.hid (Cy.out.step b)
              have RN := Lib.hid (RN.out.below b RN.out.lt)
              have Ry := Lib.hid (Ry.out.below b Ry.out.lt)
              have RU := Lib.hid (RU.out.below b RU.out.lt)
              have RV := Lib.hid (RV.out.below b RV.out.lt)
              have CU := Lib.hid (CU.out.step b)
              have CV := Lib.hid (CV.out.step b)
              have RT := Lib.hid (RT.out.below b RT.out.lt)
              have G3 := Lib.hid (G3.out.stp b)
              have G4 := Lib.hid (g.more (Nat.zero_le _) (Nat.le_refl _))
              clear g b
              go_wp2_with fail
              refine (same16_p _ _ _ _ _ G3.out G4.out rfl).mono ?_
              rintro e u229 ⟨rfl, b⟩
              have TT := Lib.hid (TT.out.step b)
              have BB := Lib.hid (below_both BB.out b)
              have Cx := Lib.hid (Cx.out.step b)
              have RM := Lib.hid (RM.out.below b RM.out.lt)
              have Rx := Lib.hid (Rx.out.below b Rx.out.lt)
              have Cy := Lib.hid (Cy.out.step b)
              have RN := Lib.hid (RN.out.below b RN.out.lt)
              have Ry := Lib.hid (Ry.out.below b Ry.out.lt)
              have RU := Lib.hid (RU.out.below b RU.out.lt)
              have RV := Lib.hid (RV.out.below b RV.out.lt)
              have CU := Lib.hid (CU.out.step b)
              have CV := Lib.hid (CV.out.step b)
              have RT := Lib.hid (RT.out.below b RT.out.lt)
              have G3 := Lib.hid (G3.out.stp b)
              have G4 := Lib.hid (G4.out.stp b)
              clear b
              clear G3
              clear G4
              have kk0 : u229.cell? ⟨u3.heap.size, 0, none⟩ = some (.int .u8 κy) := Ry.out.cell 0
              have kk1 : u229.cell? ⟨u3.heap.size, 1, none⟩ = some (.slice Ay ny cy) := Ry.out.cell 1
              have kk2 : u229.cell? ⟨u3.heap.size, 2, none⟩ = some (.slice By my dy) := Ry.out.cell 2
              have kk3 : u229.cell? ⟨u3.heap.size, 3, none⟩ = some (.slice Dy qy ey) := Ry.out.cell 3
              go_wp2_with fail
              clear kk0 kk1 kk2 kk3
              refine (array_c _ q kb nq _ TT.out NQ.out Cy.out).mono ?_
              rintro e u230 ⟨X3, x3, rfl, g, b⟩
              have TT := Lib.hid (TT.out.step b)
              have BB := Lib.hid (below_both BB.out b)
              have Cx := Lib.hid (Cx.out.step b)
              have RM := Lib.hid (RM.out.below b RM.out.lt)
              have Rx := Lib.hid (Rx.out.below b Rx.out.lt)
              have Cy := Lib.hid (Cy.out.step b)
              have RN := Lib.hid (RN.out.below b RN.out.lt)
              have Ry := Lib.hid (Ry.out.below b Ry.out.lt)
              have RU := Lib.hid (RU.out.below b RU.out.lt)
              have RV := Lib.hid (RV.out.below b RV.out.lt)
              have CU := Lib.hid (CU.out.step b)
              have CV := Lib.hid (CV.out.step b)
              have RT := Lib.hid (RT.out.below b RT.out.lt)
              have G3 := Lib.hid (g.more (Nat.zero_le _) (Nat.le_refl _))
              clear g b
              go_wp2_with fail
              refine (marks_list_n _ q nq _ RN.out NQ.out).mono ?_
              rintro e u231 ⟨X4, x4, rfl, g, b⟩
              have TT := Lib.hid (TT.out.step b)
              have BB := Lib.hid (below_both BB.out b)
              have Cx := Lib.hid (Cx.out.step b)
              have RM := Lib.hid (RM.out.below b RM.out.lt)
              have Rx := Lib.hid (Rx.out.below b Rx.out.lt)
              have Cy := Lib.hid (Cy.out.step b)
              have RN := Lib.hid (RN.out.below b RN.out.lt)
              have Ry := Lib.hid (Ry.out.below b Ry.out.lt)
              have RU := Lib.hid (RU.out.below b RU.out.lt)
              have RV := Lib.hid (RV.out.below b RV.out.lt)
              have CU := Lib.hid (CU.out.step b)
              have CV := Lib.hid (CV.out.step b)
              have RT := Lib.hid (RT.out.below b RT.out.lt)
              have G3 := Lib.hid (G3.out.stp b)
              have G4 := Lib.hid (g.more (Nat.zero_le _) (Nat.le_refl _))
              clear g b
              go_wp2_with fail
              refine (same16_p _ _ _ _ _ G3.out G4.out rfl).mono ?_
              rintro e u232 ⟨rfl, b⟩
              have TT := Lib.hid (TT.out.step b)
              have BB := Lib.hid (below_both BB.out b)
              have Cx := Lib.hid (Cx.out.step b)
              have RM := Lib.hid (RM.out.below b RM.out.lt)
              have Rx := Lib.hid (Rx.out.below b Rx.out.lt)
              have Cy := Lib.hid (Cy.out.step b)
              have RN := Lib.hid (RN.out.below b RN.out.lt)
              have Ry := Lib.hid (Ry.out.below b Ry.out.lt)
              have RU := Lib.hid (RU.out.below b RU.out.lt)
              have RV := Lib.hid (RV.out.below b RV.out.lt)
              have CU := Lib.hid (CU.out.step b)
              have CV := Lib.hid (CV.out.step b)
              have RT := Lib.hid (RT.out.below b RT.out.lt)
              have G3 := Lib.hid (G3.out.stp b)
              have G4 := Lib.hid (G4.out.stp b)
              clear b
              clear G3
              clear G4
              clear RU
              clear CU
              clear RT
              have hx2 : (x : Int) < 65536 := by have := HX.out; omega
              have hx3 : (0 : Int) ≤ (x : Int) := by omega
              have c1 := RM.out.cell x
              rw [mA_at _ _ _ HX.out] at c1
              have c2 := RM.out.frozen x
              have s5 := grown_set u232 gm x (.bool true)
              have s4 := RM.out.set_ x (.bool true)
              rw [marks_put, EP2.out] at s4
              have hrv5 := RV.out.grown s5 (by intro e; injection e with e; exact hne e.symm)
              have hcv5 := CV.out.grown s5 (fun hh => hh rfl)
              have hbb5 := BB.out.grown s5 BB.out.size (fun j e => by injection e with e; subst e; exact GMW.out)
              have kk0 : (u232.setCell ⟨gm, x, none⟩ (.bool true)).cell? ⟨gf, 0, none⟩ = some (.int .u8 κv) := hrv5.cell 0
              have kk1 : (u232.setCell ⟨gm, x, none⟩ (.bool true)).cell? ⟨gf, 1, none⟩ = some (.slice Av nv cv) := hrv5.cell 1
              have kk2 : (u232.setCell ⟨gm, x, none⟩ (.bool true)).cell? ⟨gf, 2, none⟩ = some (.slice Bv mv dv) := hrv5.cell 2
              have kk3 : (u232.setCell ⟨gm, x, none⟩ (.bool true)).cell? ⟨gf, 3, none⟩ = some (.slice Dv qv ev) := hrv5.cell 3
              go_wp2_with fail
              generalize u232.setCell ⟨gm, x, none⟩ (.bool true) = v4 at *
              have RM := Lib.hid s4
              have RV := Lib.hid hrv5
              have CV := Lib.hid hcv5
              have BB := Lib.hid hbb5
              have TT := Lib.hid (T0.out.below hbb5 (Nat.le_refl _))
              clear c1 c2 s4 s5 hrv5 hcv5 hbb5 hx2 hx3 Rx Ry Cx Cy RN
              clear kk0 kk1 kk2 kk3
              refine (kind_c _ P2 K2 _ CV.out).mono ?_
              rintro e u233 ⟨rfl, b⟩
              have TT := Lib.hid (TT.out.step b)
              have BB := Lib.hid (below_both BB.out b)
              have RM := Lib.hid (RM.out.below b RM.out.lt)
              have RV := Lib.hid (RV.out.below b RV.out.lt)
              have CV := Lib.hid (CV.out.step b)
              clear b
              go_wp2_with fail
              refine (refKind_c _ P2 K2 _ RM.out EK2.out).mono ?_
              rintro e u234 ⟨rfl, b⟩
              have TT := Lib.hid (TT.out.step b)
              have BB := Lib.hid (below_both BB.out b)
              have RM := Lib.hid (RM.out.below b RM.out.lt)
              have RV := Lib.hid (RV.out.below b RV.out.lt)
              have CV := Lib.hid (CV.out.step b)
              clear b
              have kk0 : u234.cell? ⟨gf, 0, none⟩ = some (.int .u8 κv) := RV.out.cell 0
              have kk1 : u234.cell? ⟨gf, 1, none⟩ = some (.slice Av nv cv) := RV.out.cell 1
              have kk2 : u234.cell? ⟨gf, 2, none⟩ = some (.slice Bv mv dv) := RV.out.cell 2
              have kk3 : u234.cell? ⟨gf, 3, none⟩ = some (.slice Dv qv ev) := RV.out.cell 3
              go_wp2_with fail
              clear kk0 kk1 kk2 kk3
              refine (array_c _ P2 K2 N2 _ TT.out EN2.out CV.out).mono ?_
              rintro e u235 ⟨X3, x3, rfl, g, b⟩
              have TT := Lib.hid (TT.out.step b)
              have BB := Lib.hid (below_both BB.out b)
              have RM := Lib.hid (RM.out.below b RM.out.lt)
              have RV := Lib.hid (RV.out.below b RV.out.lt)
              have CV := Lib.hid (CV.out.step b)
              have G3 := Lib.hid (g.more (Nat.zero_le _) (Nat.le_refl _))
              clear g b
              go_wp2_with fail
              refine (marks_list_n _ P2 N2 _ RM.out EN2.out).mono ?_
              rintro e u236 ⟨X4, x4, rfl, g, b⟩
              have TT := Lib.hid (TT.out.step b)
              have BB := Lib.hid (below_both BB.out b)
              have RM := Lib.hid (RM.out.below b RM.out.lt)
              have RV := Lib.hid (RV.out.below b RV.out.lt)
              have CV := Lib.hid (CV.out.step b)
              have G3 := Lib.hid (G3.out.stp b)
              have G4 := Lib.hid (g.more (Nat.zero_le _) (Nat.le_refl _))
              clear g b
              go_wp2_with fail
              refine (same16_p _ _ _ _ _ G3.out G4.out rfl).mono ?_
              rintro e u237 ⟨rfl, b⟩
              have TT := Lib.hid (TT.out.step b)
              have BB := Lib.hid (below_both BB.out b)
              have RM := Lib.hid (RM.out.below b RM.out.lt)
              have RV := Lib.hid (RV.out.below b RV.out.lt)
              have CV := Lib.hid (CV.out.step b)
              have G3 := Lib.hid (G3.out.stp b)
              have G4 := Lib.hid (G4.out.stp b)
              clear b
              clear G3
              clear G4
              have wk := WK.out
              go_wp2
              go_roundg gk2
              case measure => omega
              case rel => exact ⟨k + 1, by have := KG.out; omega, by push_cast; rfl, BB.out⟩
    · have hki : ¬ (k : Int) < 9 := by omega
      have hkd : decide ((k : Int) < 9) = false := decide_eq_false hki
      clear hbl hkg hlt
      go_wp2_with fail
      refine (known_any _ TT.out).mono ?_
      rintro e y1 ⟨rfl, b⟩
      have BB := Lib.hid (below_both BB.out b)
      clear b
      go_wp2
      go_ret
      exact ⟨rfl, BB.out⟩
end Go.Proofs.YtfefmlnlicilbaaGreatDoor
namespace Go.Proofs.YtfefmlnlicilbaaGreatDoor
open Go.ChangeShapes Go.WideShapes Go.ChangeAt Go.RowKit
open Go.ChangeMaps (open_string shut_string)
set_option linter.unusedVariables false

theorem containerPairs_walk (a0 : Option Addr) (len0 cap0 : Nat) (z0 : List Int) (a1 : Option Addr) (len1 cap1 : Nat) (z1 : List Int) (a2 : Int) (a3 : Int) (a4 : Int) (w : World) (hT : Tb w) (w0 : IsRow .u16 w a0 len0 cap0 z0) (w1 : IsRow .u16 w a1 len1 cap1 z1) (w2 : (Lit.int .u16 a2).wf = true) (w3 : (Lit.int .i64 a3).wf = true) (w4 : (Lit.int .i64 a4).wf = true) :
    Calls Tryz.prog 3 #[.slice a0 len0 cap0, .slice a1 len1 cap1, .int .u16 a2, .int .i64 a3, .int .i64 a4] w fun e w' => e = .returned (.bool true) ∧ Below w.heap.size w w' := by
  obtain ⟨l0, rfl, g0⟩ := gs16_of_row w0
  obtain ⟨l1, rfl, g1⟩ := gs16_of_row w1
  have r0 := g0.len
  have r1 := g1.len
  have hx : 0 ≤ a2 ∧ a2 ≤ 65535 := by
    simp [Lit.wf, IntKind.min, IntKind.max, IntKind.bits, IntKind.signed] at w2
    omega
  obtain ⟨x, rfl⟩ : ∃ n : Nat, a2 = (n : Int) := ⟨a2.toNat, by omega⟩
  by_cases h0 : 3000 < l0.length
  · exact pairs_long0 a0 a1 l0.length cap0 l1.length cap1 x a3 a4 w hT h0 r0
  · by_cases h1 : 3000 < l1.length
    · exact pairs_long1 a0 a1 l0.length cap0 l1.length cap1 x a3 a4 w hT (by omega) h1 r1
    · exact pairs_good _ _ l0 l1 x a3 a4 w hT g0 g1 (by omega) (by omega) (by omega)

set_option maxRecDepth 100000 in
theorem containerPairs_lifted (os : Os) (started : os.Started) (H : Type) (enc : TypeId × Value → H) :
    ReturnsInHanded {} Tryz.checked os 3 .any (fun w args => (Rows.containerPairsSpec.pre enc Tryz.prog Tryz.f3 [] false w args ∧ laidMetH Tryz.prog laidAll w) ∧ sizedMet enc Tryz.prog Tryz.f3 (OpenSpec.ofChange Rows.containerPairsSpec) false w args) (Rows.containerPairsSpec.post enc Tryz.prog Tryz.f3 false true false false) := by
  refine returnsInHanded_of_change_and (C := Tryz.checked) (X := fun w _ => laidMetH Tryz.prog laidAll w) (fun _ _ _ hh h => h.of_heap hh) own_knob started (by kernel_rfl) Tryz.func3
    (ChangeSpec.witness_shaped (enc := enc) (C := Tryz.checked) (os := os) (X := fun w _ => laidMetH Tryz.prog laidAll w) false (World.doorLaid Tryz.prog 14 os) #[.slice none 0 0, .slice none 0 0, .int .u16 0, .int .i64 0, .int .i64 0] 8 rfl (World.shaped_of_RefB (by kernel_rfl) (by kernel_rfl)) (by kernel_rfl) (by kernel_rfl) (by kernel_rfl) (door_met os _)) ?_
  intro W base args ds gs before hval0 hW _ _ hL _
  have hval : ∀ (j : Nat) t v, Tryz.f3.params[j]? = some t → args[j]? = some v → Value.okWide Tryz.prog W .any base t v := hval0
  have hW' := hW
  obtain ⟨p, q, hA0, hV, rfl, hfz, hnd⟩ := hW
  have hA : DataW.TrodAll enc Tryz.prog W 0 (fun _ => true) true Tryz.f3.params.toList args.toList ds p := hA0
  rw [Tryz.params3] at hA hval
  obtain ⟨v0, vs0, d0, ds0, p0, q0, hargs, rfl, rfl, h0, r0⟩ := trodAll_cons hA
  obtain ⟨v1, vs1, d1, ds1, p1, q1, rfl, rfl, rfl, h1, r1⟩ := trodAll_cons r0
  obtain ⟨v2, vs2, d2, ds2, p2, q2, rfl, rfl, rfl, h2, r2⟩ := trodAll_cons r1
  obtain ⟨v3, vs3, d3, ds3, p3, q3, rfl, rfl, rfl, h3, r3⟩ := trodAll_cons r2
  obtain ⟨v4, vs4, d4, ds4, p4, q4, rfl, rfl, rfl, h4, r4⟩ := trodAll_cons r3
  obtain ⟨rfl, rfl, rfl⟩ := trodAll_nil r4
  obtain rfl : args = #[v0, v1, v2, v3, v4] := by cases args; simp_all
  obtain ⟨rfl, rfl⟩ := trodVars_none hV
  obtain ⟨a0, len0, cap0, rfl⟩ := okWide_slice Tryz.underlying22 (hval 0 22 v0 rfl rfl)
  have k0 := h0
  have lt0 : ∀ x ∈ p0, x.block < W.heap.size := by obtain ⟨m, hm⟩ := k0; exact DataW.trod_lt m _ _ _ hm
  obtain ⟨z0, w0⟩ : ∃ zs, IsRow .u16 W a0 len0 cap0 zs := by
    obtain ⟨fuel, hf⟩ := h0
    rcases open_ints Tryz.underlying22 Tryz.underlying23 (by kernel_rfl) hf with ⟨hcs, _⟩ | ⟨x, l, c, zs, hcs, _, hl, hm, hz, _, hcell, hwz⟩
    · simp [Value.cells] at hcs
      obtain ⟨rfl, rfl, rfl⟩ := hcs
      exact ⟨[], .inl ⟨rfl, rfl, rfl, rfl⟩⟩
    · simp [Value.cells] at hcs
      obtain ⟨rfl, rfl, rfl⟩ := hcs
      exact ⟨zs, .inr ⟨_, rfl, hl, hm, by simpa using hz, hcell, hwz⟩⟩
  obtain ⟨a1, len1, cap1, rfl⟩ := okWide_slice Tryz.underlying22 (hval 1 22 v1 rfl rfl)
  have k1 := h1
  have lt1 : ∀ x ∈ p1, x.block < W.heap.size := by obtain ⟨m, hm⟩ := k1; exact DataW.trod_lt m _ _ _ hm
  obtain ⟨z1, w1⟩ : ∃ zs, IsRow .u16 W a1 len1 cap1 zs := by
    obtain ⟨fuel, hf⟩ := h1
    rcases open_ints Tryz.underlying22 Tryz.underlying23 (by kernel_rfl) hf with ⟨hcs, _⟩ | ⟨x, l, c, zs, hcs, _, hl, hm, hz, _, hcell, hwz⟩
    · simp [Value.cells] at hcs
      obtain ⟨rfl, rfl, rfl⟩ := hcs
      exact ⟨[], .inl ⟨rfl, rfl, rfl, rfl⟩⟩
    · simp [Value.cells] at hcs
      obtain ⟨rfl, rfl, rfl⟩ := hcs
      exact ⟨zs, .inr ⟨_, rfl, hl, hm, by simpa using hz, hcell, hwz⟩⟩
  obtain ⟨a2, rfl, rfl, rfl, w2⟩ := open_int Tryz.underlying23 (hval 2 23 v2 rfl rfl) h2
  obtain ⟨a3, rfl, rfl, rfl, w3⟩ := open_int Tryz.underlying3 (hval 3 3 v3 rfl rfl) h3
  obtain ⟨a4, rfl, rfl, rfl, w4⟩ := open_int Tryz.underlying3 (hval 4 3 v4 rfl rfl) h4
  clear hA0 hval0
  refine (containerPairs_walk a0 len0 cap0 z0 a1 len1 cap1 z1 a2 a3 a4 W (tb_of_laid hL) w0 w1 w2 w3 w4).mono fun e W' ⟨he, bel⟩ => ?_
  subst he
  exact ⟨_, rfl, _, _, _, [], _, [], hW', trodAll_mk1 (shut_bool Tryz.underlying4 _), (trodAll_cons_mk (Below.trod laid_out (by kernel_rfl) (of_decide_eq_true (by kernel_rfl)) k0 bel lt0) (trodAll_cons_mk (Below.trod laid_out (by kernel_rfl) (of_decide_eq_true (by kernel_rfl)) k1 bel lt1) (trodAll_cons_mk (shut_int Tryz.underlying23 w2) (trodAll_cons_mk (shut_int Tryz.underlying3 w3) (trodAll_cons_mk (shut_int Tryz.underlying3 w4) trodAll_mk0))))), rfl, bel.frame _, fun h => by cases h⟩

theorem containerPairs_over : Rows.containerPairsRow.holds Tryz.pinned (OpenSpec.ofChange Rows.containerPairsSpec) :=
  OpenClaim.holds_of_wide 3 Tryz.f3 rfl rfl rfl rfl rfl rfl rfl ⟨rfl, rfl, rfl, rfl, rfl⟩ rfl rfl rfl rfl rfl (by kernel_rfl) Tryz.func3 (by kernel_rfl)
    (of_decide_eq_true (by kernel_rfl)) (by unfold Func.isWrapper; first | (rw [if_pos (by decide +kernel)]; kernel_rfl) | (rw [if_neg (by decide +kernel)]; exact ⟨rfl, rfl⟩))
    (fun os started H enc _ => containerPairs_lifted os started H enc)


theorem containerPairs_holds : Rows.ContainerPairsCardSaid :=
  Claim7.holds_tied_plain_at .later [] [.data] true _ false
    containerPairs_over (fun _ h => by cases h) (by kernel_rfl) (fun _ h => by cases h) containerPairs_row_tie rfl ⟨rfl, rfl⟩ (by kernel_rfl) rfl
    (fun f fn hf hfn => by
      obtain rfl : f = 3 := Option.some.inj ((show Tryz.prog.funcNamed "isinglass/isinglasslaw07.ContainerPairs" = some 3 by kernel_rfl).symm.trans hf) |>.symm
      obtain rfl : fn = Tryz.f3 := (Option.some.inj (Tryz.func3.symm.trans hfn)).symm
      exact ⟨by kernel_rfl, fun j t ht => by
        rw [Tryz.params3] at ht
        have hm : t ∈ [22, 23, 3] := by have := Array.mem_of_getElem? ht; simp at this ⊢; omega
        have hall : ([22, 23, 3].all fun u => !Tryz.prog.wantsStandIn u) = true := by kernel_rfl
        exact (show Tryz.prog.wantsStandIn t = false by simpa using List.all_eq_true.1 hall t hm)⟩)
    (by kernel_rfl)
#print axioms containerPairs_holds
end Go.Proofs.YtfefmlnlicilbaaGreatDoor
