/- Walks: all calls of two rows, in one array. -/
import Derived.Test.YthfhkcnbpbmenaaDa
import Derived.Test.YthfhkcnbpbmenaaGr
namespace Go.Proofs.Ythfhkcnbpbmenaa
open Go.RowKit
set_option linter.unusedVariables false

theorem zero4 : (Try.prog.info? 26).map (fun i => (i.zero, i.size)) = some (some (.agg #[.slice none 0 0, .slice none 0 0, .slice none 0 0, .slice none 0 0]), 4) := by kernel_rfl
/-- Four slices of the call's own, each in memory of its own. -/
structure Four (w : World) (base : Nat) (v1 v2 v3 v4 : Value) (l1 l2 l3 l4 : List UInt16) : Prop where
  e : ∃ s1 s2 s3 s4, base ≤ s1 ∧ s1 ≤ s2 ∧ s2 ≤ s3 ∧ s3 ≤ s4 ∧ s4 ≤ w.heap.size ∧ Gw e16 w base v1 l1 ∧ (∀ k, v1.ownBlock = some k → k < s1) ∧ Gw e16 w s1 v2 l2 ∧ (∀ k, v2.ownBlock = some k → k < s2) ∧
    Gw e16 w s2 v3 l3 ∧ (∀ k, v3.ownBlock = some k → k < s3) ∧ Gw e16 w s3 v4 l4 ∧ (∀ k, v4.ownBlock = some k → k < s4)

theorem set4 {w : World} {g : Nat} {t : TypeId} {a b c d a' b' c' d' : Value} (R : Row w g t #[a, b, c, d]) :
    Row ((((w.setCell ⟨g, 0, none⟩ a').setCell ⟨g, 1, none⟩ b').setCell ⟨g, 2, none⟩ c').setCell ⟨g, 3, none⟩ d') g t #[a', b', c', d'] ∧ w.grownBy ((((w.setCell ⟨g, 0, none⟩ a').setCell ⟨g, 1, none⟩ b').setCell ⟨g, 2, none⟩ c').setCell ⟨g, 3, none⟩ d') (some g) := by
  refine ⟨by simpa using (((R.set_ 0 a').set_ 1 b').set_ 2 c').set_ 3 d', ⟨rfl, rfl, rfl, by simp [World.setCell], fun k hk hne => ?_⟩⟩
  have h : ∀ (w : World) (i : Nat) (u : Value), (w.setCell ⟨g, i, none⟩ u).heap[k]? = w.heap[k]? := fun w i u => Below.heap_setCell w _ u k (fun e => hne (by rw [e]))
  rw [h, h, h, h]

set_option maxHeartbeats 1000000 in
theorem calls_any (v u : Value) (A B : List UInt16) (w : World) (hv : Gs e16 w 0 w.heap.size v A) (hu : Gs e16 w 0 w.heap.size u B) (hA : A.length ≤ 1000000) (hB : B.length ≤ 1000000) :
    Calls Try.prog 11 #[v, u] w fun e w' => ∃ v1 v2 v3 v4, e = .returned (.agg #[v1, v2, v3, v4]) ∧ Four w' w.heap.size v1 v2 v3 v4 (mg fAnd A B) (mg fOr A B) (mg fNot A B) (mg fXor A B) ∧ Below w.heap.size w w' := by
  have HV := Lib.hid hv
  have HU := Lib.hid hu
  clear hv hu
  have hz := (zero_of_info zero4).1
  have R0 := Lib.hid (Row.new w 26 #[.slice none 0 0, .slice none 0 0, .slice none 0 0, .slice none 0 0])
  have B0 := Lib.hid ((Below.refl w.heap.size w).alloc (Nat.le_refl _) (.cells #[.slice none 0 0, .slice none 0 0, .slice none 0 0, .slice none 0 0] 26))
  have S0 : (w.alloc (.cells #[.slice none 0 0, .slice none 0 0, .slice none 0 0, .slice none 0 0] 26)).heap.size = w.heap.size + 1 := by simp
  go_enter Try.func11, Try.ntmps11
  go_wp2_with fail
  generalize w.alloc (.cells #[.slice none 0 0, .slice none 0 0, .slice none 0 0, .slice none 0 0] 26) = W0 at *
  have hb : w.heap.size ≤ W0.heap.size := by omega
  refine (and_any v u A B 0 W0 ((HV.out.below B0.out).more (Nat.le_refl _) hb) ((HU.out.below B0.out).more (Nat.le_refl _) hb) hA hB).mono ?_
  rintro e w1 ⟨v1, rfl, o1, b1⟩
  have O1 := Lib.hid o1
  have C1 := Lib.hid b1
  clear o1 b1
  go_wp2_with fail
  refine (or_any v u A B 0 w1 ((HV.out.below (B0.out.trans (C1.out.mono hb))).more (Nat.le_refl _) (Nat.le_trans hb C1.out.size)) ((HU.out.below (B0.out.trans (C1.out.mono hb))).more (Nat.le_refl _) (Nat.le_trans hb C1.out.size)) hA hB).mono ?_
  rintro e w2 ⟨v2, rfl, o2, b2⟩
  have O2 := Lib.hid o2
  have P1 := Lib.hid (O1.out.below b2 (Nat.le_refl _))
  have C2 := Lib.hid (C1.out.trans (b2.mono C1.out.size))
  have L2 := b2.size
  clear o2 b2
  go_wp2_with fail
  refine (not_any v u A B 0 w2 ((HV.out.below (B0.out.trans (C2.out.mono hb))).more (Nat.le_refl _) (Nat.le_trans hb C2.out.size)) ((HU.out.below (B0.out.trans (C2.out.mono hb))).more (Nat.le_refl _) (Nat.le_trans hb C2.out.size)) hA hB).mono ?_
  rintro e w3 ⟨v3, rfl, o3, b3⟩
  have O3 := Lib.hid o3
  have P2 := Lib.hid (O2.out.below b3 (Nat.le_refl _))
  have Q1 := Lib.hid (P1.out.below b3 (Nat.le_refl _))
  have C3 := Lib.hid (C2.out.trans (b3.mono C2.out.size))
  have L3 := b3.size
  clear o3 b3
  go_wp2_with fail
  refine (xor_any v u A B 0 w3 ((HV.out.below (B0.out.trans (C3.out.mono hb))).more (Nat.le_refl _) (Nat.le_trans hb C3.out.size)) ((HU.out.below (B0.out.trans (C3.out.mono hb))).more (Nat.le_refl _) (Nat.le_trans hb C3.out.size)) hA hB).mono ?_
  rintro e w4 ⟨v4, rfl, o4, b4⟩
  have O4 := Lib.hid o4
  have P3 := Lib.hid (O3.out.below b4 (Nat.le_refl _))
  have Q2 := Lib.hid (P2.out.below b4 (Nat.le_refl _))
  have X1 := Lib.hid (Q1.out.below b4 (Nat.le_refl _))
  have C4 := Lib.hid (C3.out.trans (b4.mono C3.out.size))
  have L4 := b4.size
  have L1 := C1.out.size
  clear o4 b4
  have R4 := Lib.hid (R0.out.below C4.out (by omega))
  have hv1 := O1.out.lt
  have hv2 := O2.out.lt
  have hv3 := O3.out.lt
  have hv4 := O4.out.lt
  have I := Lib.hid (zero_of_info zero4).2
  have F1 : ∀ k, v1.ownBlock = some k → some w.heap.size ≠ some k := fun k hk e => by have := hv1 k hk; injection e; omega
  have F2 : ∀ k, v2.ownBlock = some k → some w.heap.size ≠ some k := fun k hk e => by have := hv2 k hk; injection e; omega
  have F3 : ∀ k, v3.ownBlock = some k → some w.heap.size ≠ some k := fun k hk e => by have := hv3 k hk; injection e; omega
  have F4 : ∀ k, v4.ownBlock = some k → some w.heap.size ≠ some k := fun k hk e => by have := hv4 k hk; injection e; omega
  have D : Four w4 w.heap.size v1 v2 v3 v4 (mg fAnd A B) (mg fOr A B) (mg fNot A B) (mg fXor A B) := ⟨w1.heap.size, w2.heap.size, w3.heap.size, w4.heap.size, by omega, L2, L3, L4, Nat.le_refl _, X1.out.more hb, fun k hk => (hv1 k hk).2, Q2.out, fun k hk => (hv2 k hk).2, P3.out, fun k hk => (hv3 k hk).2, O4.out, fun k hk => (hv4 k hk).2⟩
  have D' := Lib.hid D
  have FF := Lib.hid (And.intro F1 (And.intro F2 (And.intro F3 F4)))
  have BB := Lib.hid (B0.out.trans (C4.out.mono hb))
  obtain ⟨A1, c1, rfl, -⟩ := O1.out.sl
  obtain ⟨A2, c2, rfl, -⟩ := O2.out.sl
  obtain ⟨A3, c3, rfl, -⟩ := O3.out.sl
  obtain ⟨A4, c4, rfl, -⟩ := O4.out.sl
  clear D F1 F2 F3 F4 hv1 hv2 hv3 hv4 hb S0 L1 L2 L3 L4 X1 Q1 Q2 P1 P2 P3 O1 O2 O3 O4 C1 C2 C3 C4 R0 hz
  have d0 : w4.cell? ⟨w.heap.size, 0, none⟩ = some (.slice none 0 0) := R4.out.cell 0
  have d1 : w4.cell? ⟨w.heap.size, 1, none⟩ = some (.slice none 0 0) := R4.out.cell 1
  have d2 : w4.cell? ⟨w.heap.size, 2, none⟩ = some (.slice none 0 0) := R4.out.cell 2
  have d3 : w4.cell? ⟨w.heap.size, 3, none⟩ = some (.slice none 0 0) := R4.out.cell 3
  have e0 := R4.out.frozen 0
  have e1 := R4.out.frozen 1
  have e2 := R4.out.frozen 2
  have e3 := R4.out.frozen 3
  go_wp2
  have S4 := set4 (a' := .slice A1 (mg fAnd A B).length c1) (b' := .slice A2 (mg fOr A B).length c2) (c' := .slice A3 (mg fNot A B).length c3) (d' := .slice A4 (mg fXor A B).length c4) R4.out
  have R5 := Lib.hid S4.1
  have G5 := Lib.hid S4.2
  have B5 := Lib.hid (BB.out.grown S4.2 BB.out.size (fun k h => by injection h with h; subst h; exact Nat.le_refl _))
  refine bodyPost_ret (v := .agg #[.slice A1 (mg fAnd A B).length c1, .slice A2 (mg fOr A B).length c2, .slice A3 (mg fNot A B).length c3, .slice A4 (mg fXor A B).length c4]) ?_ rfl ⟨_, _, _, _, rfl, ?_, B5.out⟩
  · exact results_cell_row rfl _ _ w.heap.size _ _ (0, 0) _ rfl R5.out Try.underlying26 rfl I.out
  · obtain ⟨s1, s2, s3, s4, l1, l2, l3, l4, l5, x1, y1, x2, y2, x3, y3, x4, y4⟩ := D'.out.e
    obtain ⟨f1, f2, f3, f4⟩ := FF.out
    exact ⟨s1, s2, s3, s4, l1, l2, l3, l4, Nat.le_trans l5 G5.out.size, x1.kept G5.out f1, y1, x2.kept G5.out f2, y2, x3.kept G5.out f3, y3, x4.kept G5.out f4, y4⟩
end Go.Proofs.Ythfhkcnbpbmenaa
