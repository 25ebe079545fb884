/- Walks: what is known of containers. -/
import Derived.Test.YtfefmlnlicilbaaDoorHi
namespace Go.Proofs.YtfefmlnlicilbaaDoor
open Go.RowKit
set_option linter.unusedVariables false

def anyN (b : Nat) : Prop := True
theorem anyN_all (n : Nat) : ∀ b, n ≤ b → anyN b := fun _ _ => trivial
def kA : Nat → Bool := mk [1, 2, 3]
def kB : Nat → Bool := mk [1, 2, 3, 4]
def kZ : Nat → Bool := fun _ => false
def kO : Nat → Bool := fun _ => true
theorem kA_ris : ris [1, 2, 3] = true := by decide
theorem kB_ris : ris [1, 2, 3, 4] = true := by decide
theorem kA_ls : ls kA 65536 = [1, 2, 3] := ls_mk kA_ris
theorem kA_ct : ct kA 65536 = 3 := ct_mk kA_ris
theorem kB_ct : ct kB 65536 = 4 := ct_mk kB_ris
theorem kA_hm : ct (hm kA) 65536 = 1 := (hm_mk kA_ris).trans (by decide)
theorem kB_hm : ct (hm kB) 65536 = 1 := (hm_mk kB_ris).trans (by decide)
theorem kO_ct : ct kO 65536 = 65536 := ct_all fun _ _ => rfl
theorem one_ct (n : Nat) : ct (fun i => decide (i = 0)) (n + 1) = 1 := by
  induction n with
  | zero => rfl
  | succ n ih => rw [ct, ih]; simp
theorem kO_hm : ct (hm kO) 65536 = 1 := by
  rw [show (65536 : Nat) = 65535 + 1 from rfl, ct_ext (q := fun i => decide (i = 0)) fun j _ => by simp [hm, kO]]
  exact one_ct _
theorem kA_ck : ck kA = 1 := by unfold ck; rw [kA_ct, kA_hm]; rfl
theorem kB_ck : ck kB = 3 := by unfold ck; rw [kB_ct, kB_hm]; rfl
theorem kO_ck : ck kO = 3 := by unfold ck; rw [kO_ct, kO_hm]; rfl
theorem kB_pls : pls kA 4 = kB := by
  funext i
  simp only [pls, kA, kB, mk, List.any_cons, List.any_nil, Bool.or_false]
  by_cases h : i = 4
  · subst h; decide
  · rw [decide_eq_false h]
    have : decide ((4 : UInt16).toNat = i) = false := decide_eq_false fun e => h e.symm
    rw [this]; simp
theorem kO_flp : flp kZ 0 65536 = fun x => flp kZ 0 65536 x := rfl
theorem kO_ext : ∀ x, x < 65536 → flp kZ 0 65536 x = kO x := fun x hx => flp_all kZ x hx
theorem kO_ck2 : ck (flp kZ 0 65536) = 3 := (ck_ext kO_ext).trans kO_ck
theorem kA_sz : szn 1 (ct kA 65536) (ct (hm kA) 65536) = 6 := by rw [kA_ct, kA_hm]; rfl
theorem kB_sz : szn 3 (ct kB 65536) (ct (hm kB) 65536) = 6 := by rw [kB_ct, kB_hm]; rfl
theorem kO_sz : szn 3 (ct kO 65536) (ct (hm kO) 65536) = 6 := by rw [kO_ct, kO_hm]; rfl
section
variable (v : Value) (w : World)
theorem k_of (hv : Gs e16 w 0 w.heap.size v [1, 2, 3]) : Calls Tryd.prog 6 #[v] w fun e w' => ∃ κ A n c A2 n2 c2 A3 n3 c3, e = .returned (.tuple #[.agg #[.int .u8 κ, .slice A n c, .slice A2 n2 c2, .slice A3 n3 c3], .bool true]) ∧ Cn anyN w' (.agg #[.int .u8 κ, .slice A n c, .slice A2 n2 c2, .slice A3 n3 c3]) kA 1 ∧ Below w.heap.size w w' := by
  refine (ofArray_yes v _ kA w (anyN_all _) hv kA_ris (by simp) kA_ls).mono ?_
  rintro e w' ⟨v', rfl, g, b⟩
  obtain ⟨κ, A, n, c, A2, n2, c2, A3, n3, c3, rfl⟩ := g.form
  exact ⟨_, _, _, _, _, _, _, _, _, _, rfl, g, b⟩
theorem k_no (hv : Gs e16 w 0 w.heap.size v [2, 1]) : Calls Tryd.prog 6 #[v] w fun e w' => e = .returned (.tuple #[.agg #[.int .u8 0, .slice none 0 0, .slice none 0 0, .slice none 0 0], .bool false]) ∧ Below w.heap.size w w' :=
  ofArray_no v _ w hv (by decide)
theorem k_with (hT : Tb w) (h : Cn anyN w v kA 1) : Calls Tryd.prog 5 #[v, .int .u16 4] w fun e w' => ∃ κ A n c A2 n2 c2 A3 n3 c3, e = .returned (.agg #[.int .u8 κ, .slice A n c, .slice A2 n2 c2, .slice A3 n3 c3]) ∧ Cn anyN w' (.agg #[.int .u8 κ, .slice A n c, .slice A2 n2 c2, .slice A3 n3 c3]) kB 3 ∧ Below w.heap.size w w' := by
  refine (with_c v kA 1 4 w hT (anyN_all _) (by omega) h).mono ?_
  rintro e w' ⟨v', rfl, g, b⟩
  obtain ⟨κ, A, n, c, A2, n2, c2, A3, n3, c3, rfl⟩ := g.form
  rw [kB_pls, kB_ck] at g
  exact ⟨_, _, _, _, _, _, _, _, _, _, rfl, g, b⟩
theorem k_flip (hT : Tb w) (h : Cn anyN w v kZ 1) : Calls Tryd.prog 13 #[v, .int .i64 0, .int .i64 65536] w fun e w' => ∃ κ A n c A2 n2 c2 A3 n3 c3, e = .returned (.agg #[.int .u8 κ, .slice A n c, .slice A2 n2 c2, .slice A3 n3 c3]) ∧ Cn anyN w' (.agg #[.int .u8 κ, .slice A n c, .slice A2 n2 c2, .slice A3 n3 c3]) kO 3 ∧ Below w.heap.size w w' := by
  refine (flip_c v kZ 1 0 65536 w hT (anyN_all _) h).mono ?_
  rintro e w' ⟨v', rfl, g, b⟩
  obtain ⟨κ, A, n, c, A2, n2, c2, A3, n3, c3, rfl⟩ := g.form
  rw [kO_ck2] at g
  exact ⟨_, _, _, _, _, _, _, _, _, _, rfl, g.ext kO_ext, b⟩
theorem k_can (hT : Tb w) (h : Cn anyN w v kA 1) : Calls Tryd.prog 9 #[v] w fun e w' => ∃ v', e = .returned v' ∧ Cn anyN w' v' kA 1 ∧ Below w.heap.size w w' := by
  have := canonical_c v kA 1 w hT (anyN_all _) h
  rw [kA_ck] at this
  exact this
theorem k_kind {p : Nat → Bool} {k : Nat} (h : Cn anyN w v p k) (z : Int) (hz : (k : Int) = z) : Calls Tryd.prog 10 #[v] w fun e w' => e = .returned (.int .u8 z) ∧ Below w.heap.size w w' := by
  rw [← hz]; exact kind_c v p k w h
theorem k_size {p : Nat → Bool} {k m : Nat} (h : Cn anyN w v p k) (hm2 : szn k (ct p 65536) (ct (hm p) 65536) = m) (z : Int) (hz : (m : Int) = z) : Calls Tryd.prog 14 #[v] w fun e w' => e = .returned (.int .i64 z) ∧ Below w.heap.size w w' := by
  rw [← hz]; exact sizeOf_c v p k m w h hm2
theorem k_len {p : Nat → Bool} {k m : Nat} (h : Cn anyN w v p k) (hm2 : ct p 65536 = m) (z : Int) (hz : (m : Int) = z) : Calls Tryd.prog 15 #[v] w fun e w' => e = .returned (.int .i64 z) ∧ Below w.heap.size w w' := by
  rw [← hz]; exact len_c v p k m w hm2 h
end

set_option maxHeartbeats 4000000 in
theorem known_any (w : World) (hT : Tb w) : Calls Tryd.prog 4 #[] w fun e w' => e = .returned (.bool true) ∧ Below w.heap.size w w' := by
  have TT := Lib.hid hT
  have L0 := lit16 w [1, 2, 3] #[.int .u16 1, .int .u16 2, .int .u16 3] 3 (by rfl) rfl (by omega)
  have b0 := bx w (.cells #[.int .u16 1, .int .u16 2, .int .u16 3] 29)
  clear hT
  go_enter Tryd.func4, Tryd.ntmps4
  go_wp2_with fail
  generalize w.alloc (.cells #[.int .u16 1, .int .u16 2, .int .u16 3] 29) = W0 at *
  have TT := Lib.hid (TT.out.step b0)
  have BB := Lib.hid b0
  have G0 := Lib.hid L0
  clear b0 L0
  refine (k_of _ _ G0.out).mono ?_
  rintro e u1 ⟨κa, Aa, na, ca, Ba, ma, da, Da, qa, ea, rfl, g, b⟩
  have TT := Lib.hid (TT.out.step b)
  have BB := Lib.hid (below_both BB.out b)
  have CA := Lib.hid (g)
  clear g b G0
  go_wp2_with fail
  have rz := Row.new u1 27 #[.int .u8 κa, .slice Aa na ca, .slice Ba ma da, .slice Da qa ea]
  have bz := bx u1 (.cells #[.int .u8 κa, .slice Aa na ca, .slice Ba ma da, .slice Da qa ea] 27)
  generalize u1.alloc (.cells #[.int .u8 κa, .slice Aa na ca, .slice Ba ma da, .slice Da qa ea] 27) = u2 at *
  have TT := Lib.hid (TT.out.step bz)
  have BB := Lib.hid (below_both BB.out bz)
  have CA := Lib.hid (CA.out.step bz)
  have RA := Lib.hid rz
  clear rz bz
  refine (k_with _ _ TT.out CA.out).mono ?_
  rintro e u3 ⟨κb, Ab, nb, cb, Bb, mb, db, Db, qb, eb, rfl, g, b⟩
  have TT := Lib.hid (TT.out.step b)
  have BB := Lib.hid (below_both BB.out b)
  have CA := Lib.hid (CA.out.step b)
  have RA := Lib.hid (RA.out.below b RA.out.lt)
  have CB := Lib.hid (g)
  clear g b
  go_wp2_with fail
  have lz := lit16 (u3.alloc (.cells #[.int .u8 κb, .slice Ab nb cb, .slice Bb mb db, .slice Db qb eb] 27)) [2, 1] #[.int .u16 2, .int .u16 1] 2 (by rfl) rfl (by omega)
  have hs3 : (u3.alloc (.cells #[.int .u8 κb, .slice Ab nb cb, .slice Bb mb db, .slice Db qb eb] 27)).heap.size = u3.heap.size + 1 := by simp
  rw [hs3] at lz
  have rz := Row.new u3 27 #[.int .u8 κb, .slice Ab nb cb, .slice Bb mb db, .slice Db qb eb]
  have bz := bx u3 (.cells #[.int .u8 κb, .slice Ab nb cb, .slice Bb mb db, .slice Db qb eb] 27)
  generalize u3.alloc (.cells #[.int .u8 κb, .slice Ab nb cb, .slice Bb mb db, .slice Db qb eb] 27) = u4 at *
  have TT := Lib.hid (TT.out.step bz)
  have BB := Lib.hid (below_both BB.out bz)
  have CA := Lib.hid (CA.out.step bz)
  have RA := Lib.hid (RA.out.below bz RA.out.lt)
  have CB := Lib.hid (CB.out.step bz)
  have RB := Lib.hid rz
  clear rz bz
  have bz := bx u4 (.cells #[.int .u16 2, .int .u16 1] 29)
  generalize u4.alloc (.cells #[.int .u16 2, .int .u16 1] 29) = u5 at *
  have TT := Lib.hid (TT.out.step bz)
  have BB := Lib.hid (below_both BB.out bz)
  have CA := Lib.hid (CA.out.step bz)
  have RA := Lib.hid (RA.out.below bz RA.out.lt)
  have CB := Lib.hid (CB.out.step bz)
  have RB := Lib.hid (RB.out.below bz RB.out.lt)
  clear bz
  refine (k_no _ _ lz).mono ?_
  rintro e u6 ⟨rfl, b⟩
  have TT := Lib.hid (TT.out.step b)
  have BB := Lib.hid (below_both BB.out b)
  have CA := Lib.hid (CA.out.step b)
  have RA := Lib.hid (RA.out.below b RA.out.lt)
  have CB := Lib.hid (CB.out.step b)
  have RB := Lib.hid (RB.out.below b RB.out.lt)
  clear b lz
  go_wp2_with fail
  have hs6 : (u6.alloc (.cells #[.int .u8 0, .slice none 0 0, .slice none 0 0, .slice none 0 0] 27)).heap.size = u6.heap.size + 1 := by simp
  have bz := bx u6 (.cells #[.int .u8 0, .slice none 0 0, .slice none 0 0, .slice none 0 0] 27)
  generalize u6.alloc (.cells #[.int .u8 0, .slice none 0 0, .slice none 0 0, .slice none 0 0] 27) = u7 at *
  have TT := Lib.hid (TT.out.step bz)
  have BB := Lib.hid (below_both BB.out bz)
  have CA := Lib.hid (CA.out.step bz)
  have RA := Lib.hid (RA.out.below bz RA.out.lt)
  have CB := Lib.hid (CB.out.step bz)
  have RB := Lib.hid (RB.out.below bz RB.out.lt)
  clear bz
  have rz := Row.new u7 27 #[.int .u8 0, .slice none 0 0, .slice none 0 0, .slice none 0 0]
  have bz := bx u7 (.cells #[.int .u8 0, .slice none 0 0, .slice none 0 0, .slice none 0 0] 27)
  generalize u7.alloc (.cells #[.int .u8 0, .slice none 0 0, .slice none 0 0, .slice none 0 0] 27) = u8 at *
  have TT := Lib.hid (TT.out.step bz)
  have BB := Lib.hid (below_both BB.out bz)
  have CA := Lib.hid (CA.out.step bz)
  have RA := Lib.hid (RA.out.below bz RA.out.lt)
  have CB := Lib.hid (CB.out.step bz)
  have RB := Lib.hid (RB.out.below bz RB.out.lt)
  have RZ := Lib.hid rz
  clear rz bz
  have RZ := RZ.out
  rw [hs6] at RZ
  have RZ := Lib.hid RZ
  clear hs6 hs3
  refine (k_flip _ _ TT.out (Cn.zero fun _ _ => rfl)).mono ?_
  rintro e u9 ⟨κt, At, nt, ct, Bt, mt, dt, Dt, qt, et, rfl, g, b⟩
  have TT := Lib.hid (TT.out.step b)
  have BB := Lib.hid (below_both BB.out b)
  have CA := Lib.hid (CA.out.step b)
  have RA := Lib.hid (RA.out.below b RA.out.lt)
  have CB := Lib.hid (CB.out.step b)
  have RB := Lib.hid (RB.out.below b RB.out.lt)
  have RZ := Lib.hid (RZ.out.below b RZ.out.lt)
  have CO := Lib.hid (g)
  clear g b
  have RAc0 : (u9.alloc (.cells #[.int .u8 κt, .slice At nt ct, .slice Bt mt dt, .slice Dt qt et] 27)).cell? ⟨u1.heap.size, 0, none⟩ = some (.int .u8 κa) := (RA.out.alloc _).cell 0
  have RAc1 : (u9.alloc (.cells #[.int .u8 κt, .slice At nt ct, .slice Bt mt dt, .slice Dt qt et] 27)).cell? ⟨u1.heap.size, 1, none⟩ = some (.slice Aa na ca) := (RA.out.alloc _).cell 1
  have RAc2 : (u9.alloc (.cells #[.int .u8 κt, .slice At nt ct, .slice Bt mt dt, .slice Dt qt et] 27)).cell? ⟨u1.heap.size, 2, none⟩ = some (.slice Ba ma da) := (RA.out.alloc _).cell 2
  have RAc3 : (u9.alloc (.cells #[.int .u8 κt, .slice At nt ct, .slice Bt mt dt, .slice Dt qt et] 27)).cell? ⟨u1.heap.size, 3, none⟩ = some (.slice Da qa ea) := (RA.out.alloc _).cell 3
  go_wp2_with fail
  clear RAc0 RAc1 RAc2 RAc3
  have rz := Row.new u9 27 #[.int .u8 κt, .slice At nt ct, .slice Bt mt dt, .slice Dt qt et]
  have bz := bx u9 (.cells #[.int .u8 κt, .slice At nt ct, .slice Bt mt dt, .slice Dt qt et] 27)
  generalize u9.alloc (.cells #[.int .u8 κt, .slice At nt ct, .slice Bt mt dt, .slice Dt qt et] 27) = u10 at *
  have TT := Lib.hid (TT.out.step bz)
  have BB := Lib.hid (below_both BB.out bz)
  have CA := Lib.hid (CA.out.step bz)
  have RA := Lib.hid (RA.out.below bz RA.out.lt)
  have CB := Lib.hid (CB.out.step bz)
  have RB := Lib.hid (RB.out.below bz RB.out.lt)
  have RZ := Lib.hid (RZ.out.below bz RZ.out.lt)
  have CO := Lib.hid (CO.out.step bz)
  have RO := Lib.hid rz
  clear rz bz
  refine (k_can _ _ TT.out CA.out).mono ?_
  rintro e u11 ⟨vc, rfl, gc, b⟩
  have TT := Lib.hid (TT.out.step b)
  have BB := Lib.hid (below_both BB.out b)
  have CA := Lib.hid (CA.out.step b)
  have RA := Lib.hid (RA.out.below b RA.out.lt)
  have CB := Lib.hid (CB.out.step b)
  have RB := Lib.hid (RB.out.below b RB.out.lt)
  have RZ := Lib.hid (RZ.out.below b RZ.out.lt)
  have CO := Lib.hid (CO.out.step b)
  have RO := Lib.hid (RO.out.below b RO.out.lt)
  have CC := Lib.hid (gc)
  clear gc
  clear b
  go_wp2_with fail
  refine (k_kind _ _ CC.out 1 rfl).mono ?_
  rintro e u12 ⟨rfl, b⟩
  have TT := Lib.hid (TT.out.step b)
  have BB := Lib.hid (below_both BB.out b)
  have CA := Lib.hid (CA.out.step b)
  have RA := Lib.hid (RA.out.below b RA.out.lt)
  have CB := Lib.hid (CB.out.step b)
  have RB := Lib.hid (RB.out.below b RB.out.lt)
  have RZ := Lib.hid (RZ.out.below b RZ.out.lt)
  have CO := Lib.hid (CO.out.step b)
  have RO := Lib.hid (RO.out.below b RO.out.lt)
  have CC := Lib.hid (CC.out.step b)
  clear b
  have RAc0 : u12.cell? ⟨u1.heap.size, 0, none⟩ = some (.int .u8 κa) := RA.out.cell 0
  have RAc1 : u12.cell? ⟨u1.heap.size, 1, none⟩ = some (.slice Aa na ca) := RA.out.cell 1
  have RAc2 : u12.cell? ⟨u1.heap.size, 2, none⟩ = some (.slice Ba ma da) := RA.out.cell 2
  have RAc3 : u12.cell? ⟨u1.heap.size, 3, none⟩ = some (.slice Da qa ea) := RA.out.cell 3
  go_wp2_with fail
  clear RAc0 RAc1 RAc2 RAc3
  refine (k_size _ _ CA.out kA_sz 6 rfl).mono ?_
  rintro e u13 ⟨rfl, b⟩
  have TT := Lib.hid (TT.out.step b)
  have BB := Lib.hid (below_both BB.out b)
  have CA := Lib.hid (CA.out.step b)
  have RA := Lib.hid (RA.out.below b RA.out.lt)
  have CB := Lib.hid (CB.out.step b)
  have RB := Lib.hid (RB.out.below b RB.out.lt)
  have RZ := Lib.hid (RZ.out.below b RZ.out.lt)
  have CO := Lib.hid (CO.out.step b)
  have RO := Lib.hid (RO.out.below b RO.out.lt)
  have CC := Lib.hid (CC.out.step b)
  clear b
  have RBc0 : u13.cell? ⟨u3.heap.size, 0, none⟩ = some (.int .u8 κb) := RB.out.cell 0
  have RBc1 : u13.cell? ⟨u3.heap.size, 1, none⟩ = some (.slice Ab nb cb) := RB.out.cell 1
  have RBc2 : u13.cell? ⟨u3.heap.size, 2, none⟩ = some (.slice Bb mb db) := RB.out.cell 2
  have RBc3 : u13.cell? ⟨u3.heap.size, 3, none⟩ = some (.slice Db qb eb) := RB.out.cell 3
  go_wp2_with fail
  clear RBc0 RBc1 RBc2 RBc3
  refine (k_kind _ _ CB.out 3 rfl).mono ?_
  rintro e u14 ⟨rfl, b⟩
  have TT := Lib.hid (TT.out.step b)
  have BB := Lib.hid (below_both BB.out b)
  have CA := Lib.hid (CA.out.step b)
  have RA := Lib.hid (RA.out.below b RA.out.lt)
  have CB := Lib.hid (CB.out.step b)
  have RB := Lib.hid (RB.out.below b RB.out.lt)
  have RZ := Lib.hid (RZ.out.below b RZ.out.lt)
  have CO := Lib.hid (CO.out.step b)
  have RO := Lib.hid (RO.out.below b RO.out.lt)
  have CC := Lib.hid (CC.out.step b)
  clear b
  have RBc0 : u14.cell? ⟨u3.heap.size, 0, none⟩ = some (.int .u8 κb) := RB.out.cell 0
  have RBc1 : u14.cell? ⟨u3.heap.size, 1, none⟩ = some (.slice Ab nb cb) := RB.out.cell 1
  have RBc2 : u14.cell? ⟨u3.heap.size, 2, none⟩ = some (.slice Bb mb db) := RB.out.cell 2
  have RBc3 : u14.cell? ⟨u3.heap.size, 3, none⟩ = some (.slice Db qb eb) := RB.out.cell 3
  go_wp2_with fail
  clear RBc0 RBc1 RBc2 RBc3
  refine (k_size _ _ CB.out kB_sz 6 rfl).mono ?_
  rintro e u15 ⟨rfl, b⟩
  have TT := Lib.hid (TT.out.step b)
  have BB := Lib.hid (below_both BB.out b)
  have CA := Lib.hid (CA.out.step b)
  have RA := Lib.hid (RA.out.below b RA.out.lt)
  have CB := Lib.hid (CB.out.step b)
  have RB := Lib.hid (RB.out.below b RB.out.lt)
  have RZ := Lib.hid (RZ.out.below b RZ.out.lt)
  have CO := Lib.hid (CO.out.step b)
  have RO := Lib.hid (RO.out.below b RO.out.lt)
  have CC := Lib.hid (CC.out.step b)
  clear b
  have RBc0 : u15.cell? ⟨u3.heap.size, 0, none⟩ = some (.int .u8 κb) := RB.out.cell 0
  have RBc1 : u15.cell? ⟨u3.heap.size, 1, none⟩ = some (.slice Ab nb cb) := RB.out.cell 1
  have RBc2 : u15.cell? ⟨u3.heap.size, 2, none⟩ = some (.slice Bb mb db) := RB.out.cell 2
  have RBc3 : u15.cell? ⟨u3.heap.size, 3, none⟩ = some (.slice Db qb eb) := RB.out.cell 3
  go_wp2_with fail
  clear RBc0 RBc1 RBc2 RBc3
  refine (k_len _ _ CB.out kB_ct 4 rfl).mono ?_
  rintro e u16 ⟨rfl, b⟩
  have TT := Lib.hid (TT.out.step b)
  have BB := Lib.hid (below_both BB.out b)
  have CA := Lib.hid (CA.out.step b)
  have RA := Lib.hid (RA.out.below b RA.out.lt)
  have CB := Lib.hid (CB.out.step b)
  have RB := Lib.hid (RB.out.below b RB.out.lt)
  have RZ := Lib.hid (RZ.out.below b RZ.out.lt)
  have CO := Lib.hid (CO.out.step b)
  have RO := Lib.hid (RO.out.below b RO.out.lt)
  have CC := Lib.hid (CC.out.step b)
  clear b
  have ROc0 : u16.cell? ⟨u9.heap.size, 0, none⟩ = some (.int .u8 κt) := RO.out.cell 0
  have ROc1 : u16.cell? ⟨u9.heap.size, 1, none⟩ = some (.slice At nt ct) := RO.out.cell 1
  have ROc2 : u16.cell? ⟨u9.heap.size, 2, none⟩ = some (.slice Bt mt dt) := RO.out.cell 2
  have ROc3 : u16.cell? ⟨u9.heap.size, 3, none⟩ = some (.slice Dt qt et) := RO.out.cell 3
  go_wp2_with fail
  clear ROc0 ROc1 ROc2 ROc3
  refine (k_kind _ _ CO.out 3 rfl).mono ?_
  rintro e u17 ⟨rfl, b⟩
  have TT := Lib.hid (TT.out.step b)
  have BB := Lib.hid (below_both BB.out b)
  have CA := Lib.hid (CA.out.step b)
  have RA := Lib.hid (RA.out.below b RA.out.lt)
  have CB := Lib.hid (CB.out.step b)
  have RB := Lib.hid (RB.out.below b RB.out.lt)
  have RZ := Lib.hid (RZ.out.below b RZ.out.lt)
  have CO := Lib.hid (CO.out.step b)
  have RO := Lib.hid (RO.out.below b RO.out.lt)
  have CC := Lib.hid (CC.out.step b)
  clear b
  have ROc0 : u17.cell? ⟨u9.heap.size, 0, none⟩ = some (.int .u8 κt) := RO.out.cell 0
  have ROc1 : u17.cell? ⟨u9.heap.size, 1, none⟩ = some (.slice At nt ct) := RO.out.cell 1
  have ROc2 : u17.cell? ⟨u9.heap.size, 2, none⟩ = some (.slice Bt mt dt) := RO.out.cell 2
  have ROc3 : u17.cell? ⟨u9.heap.size, 3, none⟩ = some (.slice Dt qt et) := RO.out.cell 3
  go_wp2_with fail
  clear ROc0 ROc1 ROc2 ROc3
  refine (k_size _ _ CO.out kO_sz 6 rfl).mono ?_
  rintro e u18 ⟨rfl, b⟩
  have TT := Lib.hid (TT.out.step b)
  have BB := Lib.hid (below_both BB.out b)
  have CA := Lib.hid (CA.out.step b)
  have RA := Lib.hid (RA.out.below b RA.out.lt)
  have CB := Lib.hid (CB.out.step b)
  have RB := Lib.hid (RB.out.below b RB.out.lt)
  have RZ := Lib.hid (RZ.out.below b RZ.out.lt)
  have CO := Lib.hid (CO.out.step b)
  have RO := Lib.hid (RO.out.below b RO.out.lt)
  have CC := Lib.hid (CC.out.step b)
  clear b
  have ROc0 : u18.cell? ⟨u9.heap.size, 0, none⟩ = some (.int .u8 κt) := RO.out.cell 0
  have ROc1 : u18.cell? ⟨u9.heap.size, 1, none⟩ = some (.slice At nt ct) := RO.out.cell 1
  have ROc2 : u18.cell? ⟨u9.heap.size, 2, none⟩ = some (.slice Bt mt dt) := RO.out.cell 2
  have ROc3 : u18.cell? ⟨u9.heap.size, 3, none⟩ = some (.slice Dt qt et) := RO.out.cell 3
  go_wp2_with fail
  clear ROc0 ROc1 ROc2 ROc3
  refine (k_len _ _ CO.out kO_ct 65536 rfl).mono ?_
  rintro e u19 ⟨rfl, b⟩
  have TT := Lib.hid (TT.out.step b)
  have BB := Lib.hid (below_both BB.out b)
  have CA := Lib.hid (CA.out.step b)
  have RA := Lib.hid (RA.out.below b RA.out.lt)
  have CB := Lib.hid (CB.out.step b)
  have RB := Lib.hid (RB.out.below b RB.out.lt)
  have RZ := Lib.hid (RZ.out.below b RZ.out.lt)
  have CO := Lib.hid (CO.out.step b)
  have RO := Lib.hid (RO.out.below b RO.out.lt)
  have CC := Lib.hid (CC.out.step b)
  clear b
  have RZc0 : u19.cell? ⟨u6.heap.size + 1, 0, none⟩ = some (.int .u8 0) := RZ.out.cell 0
  have RZc1 : u19.cell? ⟨u6.heap.size + 1, 1, none⟩ = some (.slice none 0 0) := RZ.out.cell 1
  have RZc2 : u19.cell? ⟨u6.heap.size + 1, 2, none⟩ = some (.slice none 0 0) := RZ.out.cell 2
  have RZc3 : u19.cell? ⟨u6.heap.size + 1, 3, none⟩ = some (.slice none 0 0) := RZ.out.cell 3
  go_wp2_with fail
  clear RZc0 RZc1 RZc2 RZc3
  refine (k_kind _ _ (Cn.zero (p := kZ) fun _ _ => rfl) 1 rfl).mono ?_
  rintro e u20 ⟨rfl, b⟩
  have TT := Lib.hid (TT.out.step b)
  have BB := Lib.hid (below_both BB.out b)
  have CA := Lib.hid (CA.out.step b)
  have RA := Lib.hid (RA.out.below b RA.out.lt)
  have CB := Lib.hid (CB.out.step b)
  have RB := Lib.hid (RB.out.below b RB.out.lt)
  have RZ := Lib.hid (RZ.out.below b RZ.out.lt)
  have CO := Lib.hid (CO.out.step b)
  have RO := Lib.hid (RO.out.below b RO.out.lt)
  have CC := Lib.hid (CC.out.step b)
  clear b
  go_wp2
  go_ret
  exact ⟨rfl, BB.out⟩
end Go.Proofs.YtfefmlnlicilbaaDoor
