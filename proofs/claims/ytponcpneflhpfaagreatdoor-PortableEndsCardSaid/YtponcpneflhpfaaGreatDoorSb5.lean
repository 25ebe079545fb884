/- Walks: Rank and Select of numbers, words, runs, as a container's methods; runs.Rank at any place. -/
import Derived.Test.YtponcpneflhpfaaGreatDoorSb4
import Derived.BigQuiet
import Derived.Deep.QuietTactic
import Derived.Test.YtponcpneflhpfaaGreatDoorSa9
import Derived.Test.YtponcpneflhpfaaGreatDoorSa6
import Derived.Test.YtponcpneflhpfaaGreatDoorSb0
import Derived.Test.YtponcpneflhpfaaGreatDoorSb3
namespace Go.Proofs.YtponcpneflhpfaaGreatDoor
open Go.RowKit
set_option linter.unusedVariables false

/-- The last span's end, where it lies. -/
theorem ended {w : World} {base b c m : Nat} {L : List Sn} {r : Sn} (h : Gw2 eSp w base (.slice (some ⟨b, 0, none⟩) (m + 1) c) (L ++ [r])) (hm : L.length = m) (a : Nat) (ha : a = m * 2 + 1) (z : UInt64) :
    Gw2 eSp (w.setCell ⟨b, a, none⟩ (.int .u64 (z.toNat : Int))) base (.slice (some ⟨b, 0, none⟩) (m + 1) c) (L ++ [(r.1, z)]) := by
  subst ha
  have h1 := h.stored2 m r (r.1, z) (by rw [← hm]; simp) rfl
  have e : (L ++ [r]).set m (r.1, z) = L ++ [(r.1, z)] := by
    rw [← hm]; simp
  rw [e, Nat.mul_comm 2 m] at h1
  exact h1
theorem run_max2 (w : World) (ts : Array TypeId) (t : TypeId) (x y n : Int) (h : n = max x y) : (Builtin.max_ ts t #[.int .u64 x, .int .u64 y]).run Tryz.prog w = .ok (.int .u64 n) w := by
  subst h
  have e : ∀ a b : Int, (if a < b then b else a) = max a b := fun a b => by split <;> omega
  simp [Builtin.max_, Builtin.max2, e]
/-- What a row of spans has become: in its own block, or a new one. -/
def Sp3 (w : World) (v : Value) (w' : World) (v' : Value) : Prop := w.grownBy w' v.ownBlock ∧ (v'.ownBlock = v.ownBlock ∨ ∃ g, v'.ownBlock = some g ∧ w.heap.size ≤ g)
set_option maxHeartbeats 4000000 in
theorem withSpan_nil (s : Sn) (base : Nat) (w : World) (hbase : base ≤ w.heap.size) :
    Calls Tryz.prog 89 #[.slice none 0 0, .agg #[.int .u64 s.1.toNat, .int .u64 s.2.toNat]] w fun e w' => ∃ v', e = .returned v' ∧ Gw2 eSp w' base v' [s] ∧ Sp3 w (.slice none 0 0) w' v' ∧ Below base w w' := by
  obtain ⟨p, hp⟩ : ∃ p : Nat, p = s.1.toNat := ⟨_, rfl⟩
  obtain ⟨q, hq⟩ : ∃ q : Nat, q = s.2.toNat := ⟨_, rfl⟩
  rw [← hp, ← hq]
  have HP := Lib.hid hp
  have HQ := Lib.hid hq
  have bz := bx w (.cells #[.int .u64 (p : Int), .int .u64 (q : Int)] 34)
  have rz := Row.new w 34 #[.int .u64 (p : Int), .int .u64 (q : Int)]
  clear hp hq
  go_enter Tryz.func89, Tryz.ntmps89
  go_wp2_with fail
  generalize w.alloc (.cells #[.int .u64 (p : Int), .int .u64 (q : Int)] 34) = w1 at *
  have B1 := Lib.hid bz
  have HSB : Hid (base ≤ w1.heap.size) := Lib.hid (Nat.le_trans hbase bz.size)
  have k0 : w1.cell? ⟨w.heap.size, 0, none⟩ = some (.int .u64 (p : Int)) := rz.cell 0
  have k1 : w1.cell? ⟨w.heap.size, 1, none⟩ = some (.int .u64 (q : Int)) := rz.cell 1
  clear rz bz
  go_quiet (fail)
  go_wp2_with (at_builtin; refine wpList_gapp2_one (P := Tryz.prog) eSp _ rfl _ _ _ rfl base sliSp infSp _ [] rfl ?_ _ _ s ?_ ?_ ?_ ?_ ?_ ?_; (exact Gw2.nil_ _ _); (rw [HP.out]; rfl); (rw [HQ.out]; rfl); (first | rfl | simp); (simp); (exact HSB.out); intro v2 w2 o2 g2 g3; have O2 := Lib.hid o2; have SP : Hid (Sp3 w (.slice none 0 0) w2 v2) := Lib.hid ⟨grown_start (below_drewN B1.out nq) g2, g3.elim (fun e => .inl e) (fun e => .inr ⟨_, e, Nat.le_trans B1.out.size (Nat.le_succ _)⟩)⟩; have G2 : Hid (Below base w w2) := Lib.hid ((B1.out.mono hbase).trans ⟨g2.os, g2.tape, g2.output, g2.size, fun j hj => g2.block j (Nat.lt_of_lt_of_le hj HSB.out) (fun e => by cases e)⟩); clear o2 g2 g3)
  go_ret
  exact ⟨_, rfl, O2.out, SP.out, G2.out⟩

set_option maxHeartbeats 4000000 in
theorem withSpan_out (L : List Sn) (r s : Sn) (v : Value) (base : Nat) (w : World) (hv : Gw2 eSp w base v (L ++ [r])) (hl : (L ++ [r]).length ≤ 100000000) (hbase : base ≤ w.heap.size) (hs : ¬ s.1.toNat ≤ r.2.toNat) :
    Calls Tryz.prog 89 #[v, .agg #[.int .u64 s.1.toNat, .int .u64 s.2.toNat]] w fun e w' => ∃ v', e = .returned v' ∧ Gw2 eSp w' base v' (L ++ [r] ++ [s]) ∧ Sp3 w v w' v' ∧ Below base w w' := by
  obtain ⟨p, hp⟩ : ∃ p : Nat, p = s.1.toNat := ⟨_, rfl⟩
  obtain ⟨q, hq⟩ : ∃ q : Nat, q = s.2.toNat := ⟨_, rfl⟩
  obtain ⟨t, ht⟩ : ∃ t : Nat, t = r.2.toNat := ⟨_, rfl⟩
  rw [← hp, ← ht] at hs
  rw [← hp, ← hq]
  have HP := Lib.hid hp
  have HQ := Lib.hid hq
  have HT := Lib.hid ht
  obtain ⟨m, hm⟩ : ∃ m, L.length = m := ⟨_, rfl⟩
  have hlen : (L ++ [r]).length = m + 1 := by rw [List.length_append, hm]; rfl
  obtain ⟨b, c, rfl, hlc, hcm, hb1, hb2, hcell, hfz⟩ := hv.form (by simp)
  rw [hlen] at hv hlc hl ⊢
  have c1 := (hcell m r (by rw [← hm]; simp)).2
  rw [Nat.mul_comm 2 m] at c1
  have c1' : w.cell? ⟨b, m * 2 + 1, none⟩ = some (.int .u64 (t : Int)) := by rw [c1, ht]; rfl
  have w0 : IntKind.i64.wrap (((m + 1 : Nat) : Int) - 1) = (m : Int) := by simp [IntKind.wrap, IntKind.bits, IntKind.signed]; omega
  have w9 : IntKind.i64.wrap (m : Int) = m := by simp [IntKind.wrap, IntKind.bits, IntKind.signed]; omega
  have hm2 : (m : Int) < (m : Int) + 1 := by omega
  have hm0 : ((m + 1 : Nat) : Int) > 0 := by omega
  have hm1 : ((m + 1 : Nat) : Int) - 1 = m := by omega
  have HV := Lib.hid hv
  have HM := Lib.hid hm
  have HL := Lib.hid hl
  have bz := bx w (.cells #[.int .u64 (p : Int), .int .u64 (q : Int)] 34)
  have rz := Row.new w 34 #[.int .u64 (p : Int), .int .u64 (q : Int)]
  have HB2 := Lib.hid hb2
  have HBB := Lib.hid hb1
  clear hp hq ht hcell hfz c1 hv hlen hm hlc hcm hl
  have hs1 : decide ((p : Int) ≤ t) = false := decide_eq_false (by omega)
  have hs2 : decide (p ≤ t) = false := decide_eq_false hs
  go_enter Tryz.func89, Tryz.ntmps89
  go_wp2_with fail
  generalize w.alloc (.cells #[.int .u64 (p : Int), .int .u64 (q : Int)] 34) = w1 at *
  have B1 := Lib.hid bz
  have HSB : Hid (base ≤ w1.heap.size) := Lib.hid (Nat.le_trans hbase bz.size)
  have k0 : w1.cell? ⟨w.heap.size, 0, none⟩ = some (.int .u64 (p : Int)) := rz.cell 0
  have k1 : w1.cell? ⟨w.heap.size, 1, none⟩ = some (.int .u64 (q : Int)) := rz.cell 1
  have k2 : w1.cell? ⟨b, m * 2 + 1, none⟩ = some (.int .u64 (t : Int)) := (bz.cell (p := ⟨b, m * 2 + 1, none⟩) hb2).trans c1'
  have HV1 := Lib.hid (HV.out.below bz (Nat.le_refl _))
  clear rz bz c1'
  go_quiet (fail)
  have HV2 := Lib.hid (HV1.out.drewN nq)
  have HSB2 : Hid (base ≤ (w1.drewN nq).heap.size) := HSB
  have B2 : Hid (Below base w (w1.drewN nq)) := Lib.hid (below_drewN (B1.out.mono hbase) nq)
  have B3W : Hid (Below w.heap.size w (w1.drewN nq)) := Lib.hid (below_drewN B1.out nq)
  have k0 : (w1.drewN nq).cell? ⟨w.heap.size, 0, none⟩ = some (.int .u64 (p : Int)) := k0
  have k1 : (w1.drewN nq).cell? ⟨w.heap.size, 1, none⟩ = some (.int .u64 (q : Int)) := k1
  generalize w1.drewN nq = w3 at *
  clear k2 HV1 HSB
  go_wp2_with (at_builtin; refine wpList_gapp2_one (P := Tryz.prog) eSp _ rfl _ _ _ rfl base sliSp infSp _ (L ++ [r]) rfl ?_ _ _ s ?_ ?_ ?_ ?_ ?_ ?_; (exact HV2.out); (rw [HP.out]; rfl); (rw [HQ.out]; rfl); (first | rfl | simp); (have := HM.out; have := HL.out; simp; omega); (exact HSB2.out); intro v2 w2 o2 g2 g3; have O2 := Lib.hid o2; have SP : Hid (Sp3 w (.slice (some ⟨b, 0, none⟩) (m + 1) c) w2 v2) := Lib.hid ⟨grown_start B3W.out g2, g3.elim (fun e => .inl e) (fun e => .inr ⟨_, e, Nat.le_trans B3W.out.size (by simp)⟩)⟩; have G2 : Hid (Below base w w2) := Lib.hid (B2.out.trans ⟨g2.os, g2.tape, g2.output, g2.size, fun j hj => g2.block j (Nat.lt_of_lt_of_le hj HSB2.out) (fun e => by have := (HV2.out.lt j e.symm).1; omega)⟩); clear o2 g2 g3)
  go_ret
  exact ⟨_, rfl, O2.out, SP.out, G2.out⟩

set_option maxHeartbeats 4000000 in
theorem withSpan_in (L : List Sn) (r s : Sn) (v : Value) (base : Nat) (w : World) (hv : Gw2 eSp w base v (L ++ [r])) (hl : (L ++ [r]).length ≤ 100000000) (hbase : base ≤ w.heap.size) (hs : s.1.toNat ≤ r.2.toNat) :
    Calls Tryz.prog 89 #[v, .agg #[.int .u64 s.1.toNat, .int .u64 s.2.toNat]] w fun e w' => ∃ v', e = .returned v' ∧ Gw2 eSp w' base v' (L ++ [(r.1, if r.2.toNat < s.2.toNat then s.2 else r.2)]) ∧ Sp3 w v w' v' ∧ Below base w w' := by
  obtain ⟨z, hz⟩ : ∃ z : UInt64, z = (if r.2.toNat < s.2.toNat then s.2 else r.2) := ⟨_, rfl⟩
  rw [← hz]
  have hzm : (z.toNat : Int) = max (r.2.toNat : Int) (s.2.toNat : Int) := by rw [hz]; split <;> omega
  clear hz
  obtain ⟨y, hy⟩ : ∃ y : Nat, y = z.toNat := ⟨_, rfl⟩
  rw [← hy] at hzm
  have HY := Lib.hid hy
  clear hy
  obtain ⟨p, hp⟩ : ∃ p : Nat, p = s.1.toNat := ⟨_, rfl⟩
  obtain ⟨q, hq⟩ : ∃ q : Nat, q = s.2.toNat := ⟨_, rfl⟩
  obtain ⟨t, ht⟩ : ∃ t : Nat, t = r.2.toNat := ⟨_, rfl⟩
  rw [← hp, ← ht] at hs
  rw [← ht, ← hq] at hzm
  rw [← hp, ← hq]
  have HP := Lib.hid hp
  have HQ := Lib.hid hq
  have HT := Lib.hid ht
  obtain ⟨m, hm⟩ : ∃ m, L.length = m := ⟨_, rfl⟩
  have hlen : (L ++ [r]).length = m + 1 := by rw [List.length_append, hm]; rfl
  obtain ⟨b, c, rfl, hlc, hcm, hb1, hb2, hcell, hfz⟩ := hv.form (by simp)
  rw [hlen] at hv hlc hl ⊢
  have c1 := (hcell m r (by rw [← hm]; simp)).2
  rw [Nat.mul_comm 2 m] at c1
  have c1' : w.cell? ⟨b, m * 2 + 1, none⟩ = some (.int .u64 (t : Int)) := by rw [c1, ht]; rfl
  have w0 : IntKind.i64.wrap (((m + 1 : Nat) : Int) - 1) = (m : Int) := by simp [IntKind.wrap, IntKind.bits, IntKind.signed]; omega
  have w9 : IntKind.i64.wrap (m : Int) = m := by simp [IntKind.wrap, IntKind.bits, IntKind.signed]; omega
  have hm2 : (m : Int) < (m : Int) + 1 := by omega
  have hm0 : ((m + 1 : Nat) : Int) > 0 := by omega
  have hm1 : ((m + 1 : Nat) : Int) - 1 = m := by omega
  have HV := Lib.hid hv
  have HM := Lib.hid hm
  have HL := Lib.hid hl
  have bz := bx w (.cells #[.int .u64 (p : Int), .int .u64 (q : Int)] 34)
  have rz := Row.new w 34 #[.int .u64 (p : Int), .int .u64 (q : Int)]
  have HB2 := Lib.hid hb2
  have HBB := Lib.hid hb1
  clear hp hq ht hcell hfz c1 hv hlen hm hlc hcm hl
  have hs1 : (p : Int) ≤ t := by omega
  have hmax := fun W => run_max2 W #[29, 29] 29 (t : Int) (q : Int) (y : Int) hzm
  clear hzm
  go_enter Tryz.func89, Tryz.ntmps89
  go_wp2_with fail
  generalize w.alloc (.cells #[.int .u64 (p : Int), .int .u64 (q : Int)] 34) = w1 at *
  have B1 := Lib.hid bz
  have HSB : Hid (base ≤ w1.heap.size) := Lib.hid (Nat.le_trans hbase bz.size)
  have k0 : w1.cell? ⟨w.heap.size, 0, none⟩ = some (.int .u64 (p : Int)) := rz.cell 0
  have k1 : w1.cell? ⟨w.heap.size, 1, none⟩ = some (.int .u64 (q : Int)) := rz.cell 1
  have k2 : w1.cell? ⟨b, m * 2 + 1, none⟩ = some (.int .u64 (t : Int)) := (bz.cell (p := ⟨b, m * 2 + 1, none⟩) hb2).trans c1'
  have HV1 := Lib.hid (HV.out.below bz (Nat.le_refl _))
  have RZ := Lib.hid rz
  clear rz bz c1'
  go_quiet (fail)
  have HV2 := Lib.hid (HV1.out.drewN nq)
  have RZ2 : Hid (Row (w1.drewN nq) w.heap.size 34 #[.int .u64 (p : Int), .int .u64 (q : Int)]) := RZ
  have B2 : Hid (Below base w (w1.drewN nq)) := Lib.hid (below_drewN (B1.out.mono hbase) nq)
  have B3W : Hid (Below w.heap.size w (w1.drewN nq)) := Lib.hid (below_drewN B1.out nq)
  have k2 : (w1.drewN nq).cell? ⟨b, m * 2 + 1, none⟩ = some (.int .u64 (t : Int)) := k2
  generalize w1.drewN nq = w3 at *
  clear HV1 HSB RZ k0 k1
  go_wp2_with fail
  have hSc : Row w3.drew w.heap.size 34 #[.int .u64 (p : Int), .int .u64 (q : Int)] := RZ2.out
  have k2 : w3.drew.cell? ⟨b, m * 2 + 1, none⟩ = some (.int .u64 (t : Int)) := k2
  have f2 : w3.drew.frozen? ⟨b, m * 2 + 1, none⟩ = false := by
    obtain ⟨_, _, _, _, _, _, _, _, hf⟩ := HV2.out.form (by simp)
    rename_i e _ _ _ _ _
    injection e with e1 e2 e3
    injection e1 with e1
    injection e1 with e1
    subst e1
    exact hf _
  have HV3 : Hid (Gw2 eSp w3.drew base (.slice (some ⟨b, 0, none⟩) (m + 1) c) (L ++ [r])) := Lib.hid (HV2.out.drewN 1)
  have B3 : Hid (Below base w w3.drew) := Lib.hid (below_drewN B2.out 1)
  have NEB : Hid (b ≠ w.heap.size) := Lib.hid (by have := HB2.out; omega)
  refine wp_region_held_drew (S := fun W => Row W w.heap.size 34 #[.int .u64 (p : Int), .int .u64 (q : Int)]) (by kernel_rfl) hSc (fun _ => ?_)
  refine held_take 0 ?_ rfl (by kernel_rfl) (by kernel_rfl) (by kernel_rfl) (fun _ _ _ h => h) (by rfl) ?_ hSc ?_
  rotate_left
  · (intro W hSW; go_simp; try rfl)
  try simp only [Act.put, List.setIfInBounds_toArray, List.set_cons_zero, List.set_cons_succ]
  refine held_take 1 ?_ rfl (by kernel_rfl) (by kernel_rfl) (by kernel_rfl) (fun _ _ _ h => h) (by rfl) ?_ hSc ?_
  rotate_left
  · (intro W hSW; go_simp; try rfl)
  try simp only [Act.put, List.setIfInBounds_toArray, List.set_cons_zero, List.set_cons_succ]
  refine held_take 2 ?_ rfl (by kernel_rfl) (by kernel_rfl) (by kernel_rfl) (fun _ _ _ h => h) (by rfl) ?_ hSc ?_
  rotate_left
  · (intro W hSW; go_simp; try rfl)
  try simp only [Act.put, List.setIfInBounds_toArray, List.set_cons_zero, List.set_cons_succ]
  refine held_take 3 ?_ rfl (by kernel_rfl) (by kernel_rfl) (by kernel_rfl) (fun _ _ _ h => h) (by rfl) ?_ hSc ?_
  rotate_left
  · (intro W hSW; go_simp; try rfl)
  try simp only [Act.put, List.setIfInBounds_toArray, List.set_cons_zero, List.set_cons_succ]
  refine held_take 4 ?_ rfl (by kernel_rfl) (by kernel_rfl) (by kernel_rfl) (fun _ _ _ h => h) (by rfl) ?_ hSc ?_
  rotate_left
  · (intro W hSW; go_simp; try rfl)
  try simp only [Act.put, List.setIfInBounds_toArray, List.set_cons_zero, List.set_cons_succ]
  refine held_take 5 ?_ rfl (by kernel_rfl) (by kernel_rfl) (by kernel_rfl) (fun _ _ _ h => h) (by rfl) ?_ hSc ?_
  rotate_left
  · (intro W hSW; go_simp; try rfl)
  try simp only [Act.put, List.setIfInBounds_toArray, List.set_cons_zero, List.set_cons_succ]
  refine held_take 6 ?_ rfl (by kernel_rfl) (by kernel_rfl) (by kernel_rfl) (fun _ _ _ h => h) (by rfl) ?_ hSc ?_
  rotate_left
  · (intro W hSW; go_simp; try rfl)
  try simp only [Act.put, List.setIfInBounds_toArray, List.set_cons_zero, List.set_cons_succ]
  refine held_take 7 ?_ rfl (by kernel_rfl) (by kernel_rfl) (by kernel_rfl) (fun _ _ _ h => h) (by rfl) ?_ hSc ?_
  rotate_left
  · (intro W hSW; go_simp; try rfl)
  try simp only [Act.put, List.setIfInBounds_toArray, List.set_cons_zero, List.set_cons_succ]
  refine held_take 9 ?_ rfl (by kernel_rfl) (by kernel_rfl) (by kernel_rfl) (fun _ _ _ h => h) (by rfl) ?_ hSc ?_
  rotate_left
  · (intro W hSW; go_simp; try rfl)
  try simp only [Act.put, List.setIfInBounds_toArray, List.set_cons_zero, List.set_cons_succ]
  refine held_take 10 ?_ rfl (by kernel_rfl) (by kernel_rfl) (by kernel_rfl) (fun _ _ _ h => h) (by rfl) ?_ hSc ?_
  rotate_left
  · (intro W hSW; have k0 := hSW.cell 0; have k1 := hSW.cell 1; go_simp; try rfl)
  try simp only [Act.put, List.setIfInBounds_toArray, List.set_cons_zero, List.set_cons_succ]
  refine held_next 8 rfl (by kernel_rfl) (by rfl) ?_
  go_simp
  refine ⟨fun W => Row W w.heap.size 34 #[.int .u64 (p : Int), .int .u64 (q : Int)], fun W hW => hW, hSc, ?_⟩
  try simp only [Act.put, List.setIfInBounds_toArray, List.set_cons_zero, List.set_cons_succ]
  refine held_take 11 ?_ rfl (by kernel_rfl) (by kernel_rfl) (by kernel_rfl) (fun _ _ _ h => h) (by rfl) ?_ hSc ?_
  rotate_left
  · (intro W hSW; go_simp; try rfl)
  try simp only [Act.put, List.setIfInBounds_toArray, List.set_cons_zero, List.set_cons_succ]
  refine held_take 12 ?_ rfl (by kernel_rfl) (by kernel_rfl) (by kernel_rfl) (fun _ _ _ h => h) (by rfl) ?_ hSc ?_
  rotate_left
  · (intro W hSW; go_simp; try rfl)
  try simp only [Act.put, List.setIfInBounds_toArray, List.set_cons_zero, List.set_cons_succ]
  refine held_take 13 ?_ rfl (by kernel_rfl) (by kernel_rfl) (by kernel_rfl) (fun _ _ _ h => h) (by rfl) ?_ hSc ?_
  rotate_left
  · (intro W hSW; go_simp; try rfl)
  try simp only [Act.put, List.setIfInBounds_toArray, List.set_cons_zero, List.set_cons_succ]
  have EN := ended HV3.out HM.out (m * 2 + 1) rfl z
  rw [← HY.out] at EN
  have G4 := grown_set w3.drew b (m * 2 + 1) (.int .u64 (y : Int))
  refine held_next 14 rfl (by kernel_rfl) (by rfl) ?_
  go_simp
  have hS3 : Row (w3.drew.setCell ⟨b, m * 2 + 1, none⟩ (.int .u64 (y : Int))) w.heap.size 34 #[.int .u64 (p : Int), .int .u64 (q : Int)] := hSc.grown G4 (by intro e; injection e with e; exact NEB.out e)
  have EN : Hid (Gw2 eSp (w3.drew.setCell ⟨b, m * 2 + 1, none⟩ (.int .u64 (y : Int))) base (.slice (some ⟨b, 0, none⟩) (m + 1) c) (L ++ [(r.1, z)])) := Lib.hid EN
  have BE : Hid (Below base w (w3.drew.setCell ⟨b, m * 2 + 1, none⟩ (.int .u64 (y : Int)))) := Lib.hid (B3.out.trans ⟨G4.os, G4.tape, G4.output, G4.size, fun j hj => G4.block j (Nat.lt_of_lt_of_le hj (Nat.le_trans hbase B3.out.size)) (fun e => by injection e with e; have := HBB.out; omega)⟩)
  have SP : Hid (Sp3 w (.slice (some ⟨b, 0, none⟩) (m + 1) c) (w3.drew.setCell ⟨b, m * 2 + 1, none⟩ (.int .u64 (y : Int))) (.slice (some ⟨b, 0, none⟩) (m + 1) c)) := Lib.hid ⟨grown_start (below_drewN B3W.out 1) G4, .inl rfl⟩
  clear G4
  refine ⟨fun W => Row W w.heap.size 34 #[.int .u64 (p : Int), .int .u64 (q : Int)], fun W hW => hW, by first | exact hS3 | (simpa using hS3), ?_⟩
  refine wpAnyH_done (by kernel_rfl) ?_ _
  clear hS3 hSc
  go_wp2
  go_ret
  exact ⟨_, rfl, EN.out, SP.out, BE.out⟩

theorem withSpan_c (l : List Sn) (s : Sn) (v : Value) (base : Nat) (w : World) (hv : Gw2 eSp w base v l) (hn : l = [] → v = .slice none 0 0) (hl : l.length ≤ 100000000) (hbase : base ≤ w.heap.size) :
    Calls Tryz.prog 89 #[v, .agg #[.int .u64 s.1.toNat, .int .u64 s.2.toNat]] w fun e w' => ∃ v', e = .returned v' ∧ Gw2 eSp w' base v' (wsp l s) ∧ Sp3 w v w' v' ∧ Below base w w' := by
  rcases snoc_cases l with rfl | ⟨a, r, rfl⟩
  · obtain rfl := hn rfl
    exact withSpan_nil s base w hbase
  · by_cases h : s.1.toNat ≤ r.2.toNat
    · rw [wsp_in _ _ _ h]; exact withSpan_in a r s v base w hv hl hbase h
    · rw [wsp_out _ _ _ h]; exact withSpan_out a r s v base w hv hl hbase h
end Go.Proofs.YtponcpneflhpfaaGreatDoor
namespace Go.Proofs.YtponcpneflhpfaaGreatDoor
open Go.RowKit
set_option linter.unusedVariables false

theorem high_c (x : Nat) (w : World) (hx : x < 4294967296) :
    Calls Tryz.prog 66 #[.int .u32 x] w fun e w' => e = .returned (.int .u16 (x / 65536 : Nat)) ∧ w' = w := by
  have hw : IntKind.u16.wrap ((x : Int) / 65536) = ((x / 65536 : Nat) : Int) := by simp [IntKind.wrap, IntKind.bits, IntKind.signed]; omega
  have hw1 : IntKind.u32.wrap ((x : Int) / 65536) = (x : Int) / 65536 := by simp [IntKind.wrap, IntKind.bits, IntKind.signed]; omega
  go_enter Tryz.func66, Tryz.ntmps66
  go_wp2
  go_ret
  exact ⟨by first | rfl | rw [hw], rfl⟩
theorem low_c (x : Nat) (w : World) (hx : x < 4294967296) :
    Calls Tryz.prog 69 #[.int .u32 x] w fun e w' => e = .returned (.int .u16 (x % 65536 : Nat)) ∧ w' = w := by
  have hw : IntKind.u16.wrap ((x : Int) % 65536) = ((x % 65536 : Nat) : Int) := by rw [IntKind.wrap_u16]; omega
  have hw1 : IntKind.u32.wrap ((x : Int) % 65536) = (x : Int) % 65536 := by simp [IntKind.wrap, IntKind.bits, IntKind.signed]; omega
  go_enter Tryz.func69, Tryz.ntmps69
  go_wp2
  go_ret
  exact ⟨by first | rfl | rw [hw], rfl⟩
theorem number_c (k y : Nat) (w : World) (hk : k < 65536) (hy : y < 65536) :
    Calls Tryz.prog 88 #[.int .u16 k, .int .u16 y] w fun e w' => e = .returned (.int .u32 (65536 * k + y : Nat)) ∧ w' = w := by
  have w0 : IntKind.u32.wrap (k : Int) = k := by simp [IntKind.wrap, IntKind.bits, IntKind.signed]; omega
  have w1 : IntKind.u32.wrap (y : Int) = y := by simp [IntKind.wrap, IntKind.bits, IntKind.signed]; omega
  have w2 : IntKind.u32.wrap ((k : Int) * 65536) = (k : Int) * 65536 := by simp [IntKind.wrap, IntKind.bits, IntKind.signed]; omega
  have w3 : IntKind.u32.wrap ((k : Int) * 65536 + y) = (k : Int) * 65536 + y := by simp [IntKind.wrap, IntKind.bits, IntKind.signed]; omega
  have w4 : (k : Int) * 65536 + y = ((65536 * k + y : Nat) : Int) := by omega
  have W4 := Lib.hid w4
  clear w4
  go_enter Tryz.func88, Tryz.ntmps88
  go_wp2
  go_ret
  exact ⟨by rw [W4.out]; rfl, rfl⟩

/-- The k-th entry's five cells. -/
theorem gsv_at {w : World} {lo hi : Nat} {A : Option Addr} {n c : Nat} {l : List En} (h : GsV eN w lo hi (.slice A n c) l) {k : Nat} (hk : k < l.length) :
    ∃ b off e, A = some ⟨b, off, none⟩ ∧ n = l.length ∧ b < hi ∧ l.drop k = e :: l.drop (k + 1) ∧ l[k]? = some e ∧ w.cell? ⟨b, off + k * 5, none⟩ = some (.int .u16 e.key.toNat) ∧ w.cell? ⟨b, off + k * 5 + 1, none⟩ = some (.int .u8 e.b.κ) ∧
      w.cell? ⟨b, off + k * 5 + 2, none⟩ = some (.slice e.b.A e.b.n e.b.c) ∧ w.cell? ⟨b, off + k * 5 + 3, none⟩ = some (.slice e.b.A2 e.b.n2 e.b.c2) ∧ w.cell? ⟨b, off + k * 5 + 4, none⟩ = some (.slice e.b.A3 e.b.n3 e.b.c3) := by
  obtain ⟨b, off, c', e, -, -, -, hb, hc⟩ := h.form (by rintro rfl; simp at hk)
  injection e with e1 e2 e3
  have h1 := List.getElem?_eq_getElem hk
  have hj := hc k _ h1
  have e5 : ∀ i, off + (eN.n * k + i) = off + k * 5 + i := fun i => by show off + (5 * k + i) = _; omega
  refine ⟨b, off, _, e1, e2, hb, List.drop_eq_getElem_cons hk, h1, ?_, ?_, ?_, ?_, ?_⟩
  · have := hj 0 _ rfl; rwa [e5] at this
  · have := hj 1 _ rfl; rwa [e5] at this
  · have := hj 2 _ rfl; rwa [e5] at this
  · have := hj 3 _ rfl; rwa [e5] at this
  · have := hj 4 _ rfl; rwa [e5] at this
/-- The key at a place. -/
def ka (l : List En) (k : Nat) : Nat := (at16 (l.map En.key) k).toNat
end Go.Proofs.YtponcpneflhpfaaGreatDoor
namespace Go.Proofs.YtponcpneflhpfaaGreatDoor
open Go.RowKit
set_option linter.unusedVariables false

/-- The number of which K are below it, else 0; whether there is one. -/
def sx (p : Nat → Bool) (K : Int) : UInt16 := if 0 ≤ K then (ls p 65536).getD K.toNat 0 else 0
end Go.Proofs.YtponcpneflhpfaaGreatDoor
namespace Go.Proofs.YtponcpneflhpfaaGreatDoor
open Go.RowKit
set_option linter.unusedVariables false

set_option maxHeartbeats 4000000 in
theorem rrank_int (v : Value) (A : List Rn) (x : Int) (N : Nat) (w : World) (hv : Gs2 eR w 0 w.heap.size v A) (hA : mayr 0 A = true) (hX : -9000000000 ≤ x ∧ x ≤ 9000000000) (hN : ct (mr A) x.toNat = N) :
    Calls Tryz.prog 236 #[v, .int .i64 x] w fun e w' => e = .returned (.int .i64 N) ∧ Below w.heap.size w w' := by
  have hlen := hv.len
  have HV := Lib.hid hv
  obtain ⟨X, hXe⟩ : ∃ X, X = x.toNat := ⟨_, rfl⟩
  rw [← hXe] at hN
  have HNB := Lib.hid (show N ≤ 9000000000 by have := ct_le' (mr A) X; omega)
  have HXE := Lib.hid hXe
  have hX1 := hX.1
  have hX2 := hX.2
  clear hX hXe
  obtain ⟨A1, c1, rfl, -⟩ := hv
  have HN := Lib.hid hN
  have HA := Lib.hid hA
  clear hN hA
  go_enter Tryz.func236, Tryz.ntmps236
  go_wp2
  go_loopw [5, 10] (fun n i wr => ∃ k m d : Nat, k ≤ A.length ∧ n = .int .i64 m ∧ i = .int .i64 k ∧ Hid (mayr d (A.drop k) = true) ∧ Hid (m + ct (mr (A.drop k)) X = N) ∧ Below w.heap.size w wr) (fun _ i _ => A.length - (intOf i).toNat)
  case atStart => exact ⟨0, 0, 0, Nat.zero_le _, rfl, rfl, HA.out, by have := HN.out; show 0 + ct (mr A) X = N; omega, Below.refl _ _⟩
  case round =>
    obtain ⟨k, m, d, hk, rfl, rfl, hmr, hct, hbl⟩ := hrel
    have HB := Lib.hid hbl
    by_cases hlt : k < A.length
    · obtain ⟨b, off, r, e1, -, hb, hdr, hg, c0, c2⟩ := gs2_at HV.out hlt
      subst e1
      rw [← hbl.cell (p := ⟨b, off + k * 2, none⟩) hb] at c0
      rw [← hbl.cell (p := ⟨b, off + k * 2 + 1, none⟩) hb] at c2
      have hmr2 := hmr.out
      have hct2 := hct.out
      rw [hdr] at hmr2 hct2
      have hf := u16_lt r.1
      have hm := u16_lt r.2
      obtain ⟨f, hfe⟩ : ∃ f, f = r.1.toNat := ⟨_, rfl⟩
      obtain ⟨q, hqe⟩ : ∃ q, q = r.2.toNat := ⟨_, rfl⟩
      rw [← hfe] at c0 hf
      rw [← hqe] at c2 hm
      have HF := Lib.hid hf
      have HQ := Lib.hid hm
      have hlr : lst r = f + q := by unfold lst; rw [← hfe, ← hqe]
      have hbw : Below w.heap.size w (wr.alloc (.cells #[.int .u16 (f : Int), .int .u16 (q : Int)] 130)) := hbl.alloc hbl.size _
      have HBW := Lib.hid hbw
      have hsz := hbl.size
      by_cases h1 : x ≤ f
      · have hR : m = N := by
          rw [ct_mr_zero (m := r.1.toNat) (by obtain ⟨h1, h2, h3⟩ := mayr_cons.1 hmr2; exact mayr_cons.2 ⟨Nat.le_refl _, h2, h3⟩) (by have := HXE.out; omega)] at hct2
          omega
        have HRF := Lib.hid hR
        clear hbl hmr hct hdr hg hmr2 hct2 hR hfe hqe hlr hbw
        go_wp2
        go_ret
        exact ⟨by rw [HRF.out]; rfl, HBW.out⟩
      · obtain rfl : x = (X : Int) := by have := HXE.out; omega
        have h1' : decide ((X : Int) ≤ f) = false := decide_eq_false (by omega)
        have h1n : ¬ ((X : Int) ≤ f) := by omega
        have hnx : m + min (X - f) (q + 1) + ct (mr (A.drop (k + 1))) X = N := by
          rw [← hct2, ct_mr_cons hmr2, hlr, ← hfe]
          omega
        have hmb : m ≤ 9000000000 := by have := HNB.out; omega
        have HM3 := Lib.hid (mayr_cons.1 hmr2).2.2
        have w1 : IntKind.i64.wrap (f : Int) = f := by simp [IntKind.wrap, IntKind.bits, IntKind.signed]; omega
        have w2 : IntKind.i64.wrap ((X : Int) - f) = (X : Int) - f := by simp [IntKind.wrap, IntKind.bits, IntKind.signed]; omega
        have HNX := Lib.hid hnx
        have hfin : (m : Int) + (if (q : Int) + 1 < (X : Int) - f then (q : Int) + 1 else (X : Int) - f) = ((m + min (X - f) (q + 1) : Nat) : Int) := by split <;> omega
        have w3 : IntKind.i64.wrap ((m : Int) + (if (q : Int) + 1 < (X : Int) - f then (q : Int) + 1 else (X : Int) - f)) = (m : Int) + (if (q : Int) + 1 < (X : Int) - f then (q : Int) + 1 else (X : Int) - f) := by
          rw [hfin]; simp [IntKind.wrap, IntKind.bits, IntKind.signed]; omega
        have HFIN := Lib.hid hfin
        clear hbl hmr hct hdr hg hmr2 hct2 hfe hqe hlr hbw h1 hnx hfin
        go_wp2_with fail
        go_region_with (go_at_call 238; refine (size_any f q HQ.out _).mono ?_; rintro e w9 ⟨rfl, b9⟩; have k0 := (b9.cell (p := ⟨wr.heap.size, 0, none⟩) (by simp)).trans (show _ = some (.int .u16 (f : Int)) by simp); have k1 := (b9.cell (p := ⟨wr.heap.size, 1, none⟩) (by simp)).trans (show _ = some (.int .u16 (q : Int)) by simp); have B9 := Lib.hid b9; clear b9)
        all_goals
          go_wp2
          refine ⟨⟨k + 1, m + min (X - f) (q + 1), _, by omega, by first | rw [HFIN.out] | (congr 1; omega), by go_num, HM3.out, HNX.out, below_both (below_drewN HBW.out 1) B9.out⟩, by simp [intOf]; omega⟩
    · obtain rfl : k = A.length := by omega
      have hR := hct.out
      rw [List.drop_length] at hR
      have HRF := Lib.hid (show m = N by have : ct (mr []) X = 0 := ct_zero fun x _ => rfl; omega)
      clear hbl hmr hR hct
      go_wp2
      go_ret
      exact ⟨by rw [HRF.out]; rfl, HB.out⟩
theorem ct_clp (p : Nat → Bool) (hp : ∀ x, 65536 ≤ x → p x = false) (x : Int) : ct p x.toNat = ct p (cl x) := by
  by_cases h : x ≤ 65536
  · have : cl x = x.toNat := by unfold cl; omega
    rw [this]
  · have e : cl x = 65536 := by unfold cl; omega
    obtain ⟨d, hd⟩ := Nat.le.dest (show 65536 ≤ x.toNat by omega)
    rw [e, ← hd, ct_add, ct_zero (p := fun j => p (65536 + j)) fun j _ => hp _ (by omega), Nat.add_zero]
theorem srrank (v : Value) (p : Nat → Bool) (x : Int) (m lo : Nat) (w : World) (hv : Gs2 eR w lo w.heap.size v (rs p 65536)) (hX : -9000000000 ≤ x ∧ x ≤ 9000000000) (hm2 : ct p (cl x) = m) :
    Calls Tryz.prog 236 #[v, .int .i64 x] w fun e w' => e = .returned (.int .i64 m) ∧ Below w.heap.size w w' := by
  refine rrank_int v _ x m w (hv.more (Nat.zero_le _) (Nat.le_refl _)) (mayr_rs p) hX ?_
  rw [ct_clp _ (fun y hy => by
    cases h : mr (rs p 65536) y with
    | false => rfl
    | true => have := (mr_ge (mayr_rs p) h).2; omega) x, ← hm2]
  exact ct_ext fun j hj => mr_rs p (by have := cl_le x; omega)
theorem swrank (v : Value) (p : Nat → Bool) (x : Int) (m lo : Nat) (w : World) (hv : Gs e64 w lo w.heap.size v (wm p)) (hm2 : ct p (cl x) = m) :
    Calls Tryz.prog 235 #[v, .int .i64 x] w fun e w' => e = .returned (.int .i64 m) ∧ Below w.heap.size w w' := by
  refine (wrank_any v _ lo _ x w hv).mono ?_
  rintro e w' ⟨rfl, rfl⟩
  rw [ct_ext (q := p) fun j hj => wb_wm p j (by have := cl_le x; omega), hm2]
  exact ⟨rfl, Below.refl _ _⟩
theorem sfind2 (v : Value) (p : Nat → Bool) (x m lo : Nat) (w : World) (hv : Gs e16 w lo w.heap.size v (ls p 65536)) (hx : x < 65536) (hm2 : ct p x = m) :
    Calls Tryz.prog 232 #[v, .int .u16 x] w fun e w' => e = .returned (.tuple #[.int .i64 m, .bool (p x)]) ∧ Below w.heap.size w w' := by
  refine (find_any v _ lo _ x (UInt16.ofNat x) (by rw [u16_of x hx]) w hv (Nat.le_trans (ls_small p) (by omega))).mono ?_
  rintro e w' ⟨rfl, rfl⟩
  have e1 : fd (ls p 65536) (UInt16.ofNat x) = p x := by
    rw [fd_mem (ris_ls p 65536 (Nat.le_refl _)), Bool.eq_iff_iff, decide_eq_true_eq, ls_mem p 65536 (Nat.le_refl _), u16_of x hx]
    exact ⟨fun h => h.2, fun h => ⟨hx, h⟩⟩
  have e2 : bs (ls p 65536) (UInt16.ofNat x) = m := by
    rw [bs_ls (ris_ls p 65536 (Nat.le_refl _)), u16_of x hx, ls_ct, ← hm2]
    exact ct_ext fun j hj => mk_ls p (by omega)
  rw [e1, e2]
  exact ⟨rfl, Below.refl _ _⟩
theorem wordsRank_c (p : Nat → Bool) (A : Option Addr) (c : Nat) (x : Int) (m : Nat) (lo : Nat) (w : World) (hm2 : ct p (cl x) = m) (h : Gs e64 w lo w.heap.size (.slice A 1024 c) (wm p)) :
    Calls Tryz.prog 169 #[.agg #[.int .u8 2, .slice none 0 0, .slice A 1024 c, .slice none 0 0], .int .i64 x] w fun e w' => e = .returned (.int .i64 m) ∧ Below w.heap.size w w' := by
  have H := Lib.hid h
  clear h
  go_enter Tryz.func169, Tryz.ntmps169
  go_wp2_with fail
  refine (swrank _ p x m lo _ (H.out.stp (bx w _)) hm2).mono ?_
  rintro e w1 ⟨rfl, b1⟩
  have B1 := Lib.hid (below_both (bx w _) b1)
  clear b1
  go_wp2
  go_ret
  exact ⟨rfl, B1.out⟩

theorem runsRank_c (p : Nat → Bool) (A : Option Addr) (n c : Nat) (x : Int) (m : Nat) (lo : Nat) (w : World) (hX : -9000000000 ≤ x ∧ x ≤ 9000000000) (hm2 : ct p (cl x) = m) (h : Gs2 eR w lo w.heap.size (.slice A n c) (rs p 65536)) :
    Calls Tryz.prog 170 #[.agg #[.int .u8 3, .slice none 0 0, .slice none 0 0, .slice A n c], .int .i64 x] w fun e w' => e = .returned (.int .i64 m) ∧ Below w.heap.size w w' := by
  have H := Lib.hid h
  clear h
  go_enter Tryz.func170, Tryz.ntmps170
  go_wp2_with fail
  refine (srrank _ p x m lo _ (H.out.stp (bx w _)) hX hm2).mono ?_
  rintro e w1 ⟨rfl, b1⟩
  have B1 := Lib.hid (below_both (bx w _) b1)
  clear b1
  go_wp2
  go_ret
  exact ⟨rfl, B1.out⟩

set_option maxHeartbeats 1000000 in
theorem arrayRank_c (p : Nat → Bool) (κ : Int) (A : Option Addr) (n c : Nat) (x : Int) (m : Nat) (lo : Nat) (w : World) (hX : -9000000000 ≤ x ∧ x ≤ 9000000000) (hm2 : ct p (cl x) = m) (hn : ct p 65536 = n) (h : Gs e16 w lo w.heap.size (.slice A n c) (ls p 65536)) :
    Calls Tryz.prog 168 #[.agg #[.int .u8 κ, .slice A n c, .slice none 0 0, .slice none 0 0], .int .i64 x] w fun e w' => e = .returned (.int .i64 m) ∧ Below w.heap.size w w' := by
  have H := Lib.hid h
  clear h
  have hX1 := hX.1
  have hX2 := hX.2
  rcases Int.lt_or_le x 0 with h0 | h0
  · have hz : cl x = 0 := by unfold cl; omega
    rw [hz] at hm2
    obtain rfl : m = 0 := hm2.symm
    clear hm2 hz hX hn
    go_enter Tryz.func168, Tryz.ntmps168
    go_wp2
    go_ret
    exact ⟨rfl, (Below.refl _ _).alloc (Nat.le_refl _) _⟩
  · have h0' : decide (x < 0) = false := decide_eq_false (by omega)
    rcases Int.lt_or_le x 65536 with h1 | h1
    · have h1' : decide (65536 ≤ x) = false := decide_eq_false (by omega)
      obtain ⟨y, rfl⟩ := Int.eq_ofNat_of_zero_le h0
      have hy : y < 65536 := by omega
      have hc : cl (y : Int) = y := by unfold cl; omega
      rw [hc] at hm2
      have HM := Lib.hid hm2
      have hw : IntKind.u16.wrap (y : Int) = y := by simp [IntKind.wrap, IntKind.bits, IntKind.signed]; omega
      clear hm2 hc hX hn
      go_enter Tryz.func168, Tryz.ntmps168
      go_wp2_with fail
      refine (sfind2 _ p y m lo _ (H.out.stp (bx w _)) hy HM.out).mono ?_
      rintro e w1 ⟨rfl, b1⟩
      have B1 := Lib.hid (below_both (bx w _) b1)
      clear b1
      go_wp2
      go_ret
      exact ⟨rfl, B1.out⟩
    · have hz : cl x = 65536 := by unfold cl; omega
      rw [hz, hn] at hm2
      subst hm2
      clear hz hX hn
      go_enter Tryz.func168, Tryz.ntmps168
      go_wp2
      go_ret
      exact ⟨rfl, (Below.refl _ _).alloc (Nat.le_refl _) _⟩

end Go.Proofs.YtponcpneflhpfaaGreatDoor
