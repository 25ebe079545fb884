/- Walks: RoaringLaws. -/
import Derived.Test.YtcmifbjeabkihaaGreatDoorJ8b
import Derived.Test.YtcmifbjeabkihaaGreatDoorJ7
import Derived.Test.YtcmifbjeabkihaaGreatDoorMd4
import Derived.RangeFuncFrom
import Derived.RangeFuncLeaves
import Derived.CallsIn
import Derived.ControlIn
import Derived.Shelf.Abstract
namespace Go.Proofs.YtcmifbjeabkihaaGreatDoor
open Go.RowKit Go.Shelf
set_option linter.unusedVariables false

theorem and_p (v u : Value) (P Q : Nat → Bool) (w : World) (hT : Tb w) (hv : St (fun _ => True) w v P) (hu : St (fun _ => True) w u Q) : Calls Tryz.prog 20 #[v, u] w (OfAns w fun x => fAnd (P x) (Q x)) :=
  (setAnd_c (N := fun _ => True) v u P Q w hT (fun _ _ => trivial) hv hu).mono fun e w' h => Made.ans h
theorem or_p (v u : Value) (P Q : Nat → Bool) (w : World) (hT : Tb w) (hv : St (fun _ => True) w v P) (hu : St (fun _ => True) w u Q) : Calls Tryz.prog 21 #[v, u] w (OfAns w fun x => fOr (P x) (Q x)) :=
  (setOr_c (N := fun _ => True) v u P Q w hT (fun _ _ => trivial) hv hu).mono fun e w' h => Made.ans h
theorem not_p (v u : Value) (P Q : Nat → Bool) (w : World) (hT : Tb w) (hv : St (fun _ => True) w v P) (hu : St (fun _ => True) w u Q) : Calls Tryz.prog 22 #[v, u] w (OfAns w fun x => fNot (P x) (Q x)) :=
  (setAndNot_c (N := fun _ => True) v u P Q w hT (fun _ _ => trivial) hv hu).mono fun e w' h => Made.ans h
theorem xor_p (v u : Value) (P Q : Nat → Bool) (w : World) (hT : Tb w) (hv : St (fun _ => True) w v P) (hu : St (fun _ => True) w u Q) : Calls Tryz.prog 23 #[v, u] w (OfAns w fun x => fXor (P x) (Q x)) :=
  (setXor_c (N := fun _ => True) v u P Q w hT (fun _ _ => trivial) hv hu).mono fun e w' h => Made.ans h
theorem rest_p (v : Value) (P : Nat → Bool) (n : UInt64) (m : Nat) (w : World) (hm : m = n.toNat) (hT : Tb w) (hv : St (fun _ => True) w v P) : Calls Tryz.prog 24 #[v, .int .u64 (m : Int)] w (OfAns w fun x => fNot (clp32 [((0 : UInt64), n)] x) (P x)) :=
  (setNot_c (N := fun _ => True) v P n m w hm hT (fun _ _ => trivial) hv).mono fun e w' h => Made.ans h
theorem same_p (v u : Value) (P Q : Nat → Bool) (w : World) (he : ∀ x, P x = Q x) (hT : Tb w) (hv : St (fun _ => True) w v P) (hu : St (fun _ => True) w u Q) :
    Calls Tryz.prog 27 #[v, u] w fun e w' => e = .returned (.bool true) ∧ Below w.heap.size w w' :=
  (setsame_c (N := fun _ => True) v u P Q w hT (fun _ _ => trivial) hv hu).mono fun e w' ⟨B, h1, h2, h3⟩ => ⟨by rw [h1, h2.2 fun x _ => he x], h3⟩
theorem ct_and_or (P Q : Nat → Bool) : ∀ n, ct (fun x => fAnd (P x) (Q x)) n + ct (fun x => fOr (P x) (Q x)) n = ct P n + ct Q n
  | 0 => by simp [ct]
  | n + 1 => by
    have ih := ct_and_or P Q n
    have s1 : ct (fun x => fAnd (P x) (Q x)) (n + 1) = ct (fun x => fAnd (P x) (Q x)) n + (fAnd (P n) (Q n)).toNat := rfl
    have s2 : ct (fun x => fOr (P x) (Q x)) (n + 1) = ct (fun x => fOr (P x) (Q x)) n + (fOr (P n) (Q n)).toNat := rfl
    have s3 : ct P (n + 1) = ct P n + (P n).toNat := rfl
    have s4 : ct Q (n + 1) = ct Q n + (Q n).toNat := rfl
    have e : (fAnd (P n) (Q n)).toNat + (fOr (P n) (Q n)).toNat = (P n).toNat + (Q n).toNat := by cases P n <;> cases Q n <;> rfl
    omega
theorem lspans_any (v : Value) (l : List Sn) (P : Nat → Bool) (w : World) (hP : P = clp32 l) (hT : Tb w) (hv : Gs2 eSp w 0 w.heap.size v l) (hl : l.length ≤ 1000000) : Calls Tryz.prog 12 #[v] w (OfAns w P) := by
  subst hP
  exact (spans_c (N := fun _ => True) v l w hT (fun _ _ => trivial) hv hl).mono fun e w' h => Made.ans h
/-- How a function ends that ranges over a function: before that, and behind it. -/
theorem leaves_ret {F : Fence} {n : Nat} {P : Program} {fn : Func} {R : Ending → World → Prop} {a : Act} {w : World} {v : Value} (hr : (results fn a.tmps).run P w = .ok v w) (hd : a.defers = []) (hR : R (.returned v) w) : bodyPostM F n P fn R .ret a w := by
  show LeavesInM F n P fn a.tmps R a.defers .returning w
  rw [hd]
  exact ⟨v, hr, hR⟩
theorem leaves_mark {F : Fence} {n D : Nat} {P : Program} {fn : Func} {R : Ending → World → Prop} {a : Act} {w : World} {v : Value} (hd : a.defers = [{ target := .collected D, args := #[] }]) (hK : w.heap[D]? = some (.deferred (some [])))
    (hr : (results fn a.tmps).run P (w.putObj D (.deferred none)) = .ok v (w.putObj D (.deferred none))) (hR : R (.returned v) (w.putObj D (.deferred none))) : bodyPostM F n P fn R .ret a w := by
  show LeavesInM F n P fn a.tmps R a.defers .returning w
  rw [hd]
  exact ⟨by simp, .inl ⟨_, _, rfl, run_takeDeferred hK, v, hr, hR⟩⟩
set_option maxHeartbeats 8000000 in
set_option maxRecDepth 100000 in
theorem laws_ga (A : Option Addr) (c : Nat) (a : List Sn) (A2 : Option Addr) (c2 : Nat) (b : List Sn) (n : Nat) (w : World) (hT : Tb w) (hva : Gs2 eSp w 0 w.heap.size (.slice A a.length c) a) (hvb : Gs2 eSp w 0 w.heap.size (.slice A2 b.length c2) b) (hla : a.length ≤ 8796093022209) (hlb : b.length ≤ 8796093022209) (ha : grt a = true) :
    Calls Tryz.prog 6 #[.slice A a.length c, .slice A2 b.length c2, .int .u64 (n : Int)] w fun e w' => e = .returned (.bool true) ∧ Below w.heap.size w w' := by
  have CGa := Lib.hid (fun (v : Value) (W : World) (h : Gs2 eSp W 0 W.heap.size v a) => great_is v a true W ha hla h)
  have TT := Lib.hid hT
  have HA := Lib.hid hva
  have HB := Lib.hid hvb
  clear hT hva hvb ha hla hlb
  refine (callsIn_wide (n := 3)).1 ?_
  refine callsIn_of_wp_marks Tryz.func6 rfl trivial ?_ rfl
  refine wpIn_wide.2 ?_
  simp only [Tryz.ntmps6, List.size_toArray, List.length_cons, List.length_nil, Nat.reduceAdd, Nat.reduceSub, Array.replicate_succ, Array.replicate_zero, List.push_toArray, List.append_toArray, List.nil_append, List.cons_append]
  go_wp2_with fail
  have bq1 := bx w (.cells #[.bool false] 4)
  have gX_1 := Row.new w 4 #[.bool false]
  generalize w.alloc (.cells #[.bool false] 4) = u1 at *
  have X_1 := Lib.hid gX_1
  have A_1 := Lib.hid (HA.out.step bq1)
  have B_1 := Lib.hid (HB.out.step bq1)
  have B1 := Lib.hid bq1
  clear bq1 HA HB gX_1
  refine (CGa.out _ u1 A_1.out).mono ?_
  rintro e u2 ⟨rfl, bq2⟩
  have A_2 := Lib.hid (A_1.out.step bq2)
  have B_2 := Lib.hid (B_1.out.step bq2)
  have X_2 := Lib.hid (X_1.out.below bq2 X_1.out.lt)
  have B2 := Lib.hid (below_both B1.out bq2)
  clear bq2 A_1 B_1 X_1
  go_wp2_with fail
  refine (known8 u2 (TT.out.step B2.out)).mono ?_
  rintro e u3 ⟨rfl, bq3⟩
  have X_3 := Lib.hid (X_2.out.below bq3 X_2.out.lt)
  have B3 := Lib.hid (below_both B2.out bq3)
  clear bq3 X_2
  have c0 := X_3.out.cell 0
  have f0 := X_3.out.frozen 0
  go_wp2
  refine leaves_ret (v := .bool true) ?_ rfl ⟨rfl, B3.out.setCell (p := ⟨w.heap.size, 0, none⟩) (Nat.le_refl _) _⟩
  have hres : Tryz.f6.results = #[.cell 6 4] := by kernel_rfl
  have hc := World.cell?_setCell_same' u3 ⟨w.heap.size, 0, none⟩ (.bool true) (by rw [c0]; rfl)
  simp only [results, hres]
  go_simp
set_option maxHeartbeats 8000000 in
set_option maxRecDepth 100000 in
theorem laws_gb (A : Option Addr) (c : Nat) (a : List Sn) (A2 : Option Addr) (c2 : Nat) (b : List Sn) (n : Nat) (w : World) (hT : Tb w) (hva : Gs2 eSp w 0 w.heap.size (.slice A a.length c) a) (hvb : Gs2 eSp w 0 w.heap.size (.slice A2 b.length c2) b) (hla : a.length ≤ 8796093022209) (hlb : b.length ≤ 8796093022209) (ha : grt a = false) (hb : grt b = true) :
    Calls Tryz.prog 6 #[.slice A a.length c, .slice A2 b.length c2, .int .u64 (n : Int)] w fun e w' => e = .returned (.bool true) ∧ Below w.heap.size w w' := by
  have CGa := Lib.hid (fun (v : Value) (W : World) (h : Gs2 eSp W 0 W.heap.size v a) => great_is v a false W ha hla h)
  have CGb := Lib.hid (fun (v : Value) (W : World) (h : Gs2 eSp W 0 W.heap.size v b) => great_is v b true W hb hlb h)
  have TT := Lib.hid hT
  have HA := Lib.hid hva
  have HB := Lib.hid hvb
  clear hT hva hvb ha hb hla hlb
  refine (callsIn_wide (n := 3)).1 ?_
  refine callsIn_of_wp_marks Tryz.func6 rfl trivial ?_ rfl
  refine wpIn_wide.2 ?_
  simp only [Tryz.ntmps6, List.size_toArray, List.length_cons, List.length_nil, Nat.reduceAdd, Nat.reduceSub, Array.replicate_succ, Array.replicate_zero, List.push_toArray, List.append_toArray, List.nil_append, List.cons_append]
  go_wp2_with fail
  have bq1 := bx w (.cells #[.bool false] 4)
  have gX_1 := Row.new w 4 #[.bool false]
  generalize w.alloc (.cells #[.bool false] 4) = u1 at *
  have X_1 := Lib.hid gX_1
  have A_1 := Lib.hid (HA.out.step bq1)
  have B_1 := Lib.hid (HB.out.step bq1)
  have B1 := Lib.hid bq1
  clear bq1 HA HB gX_1
  refine (CGa.out _ u1 A_1.out).mono ?_
  rintro e u2 ⟨rfl, bq2⟩
  have A_2 := Lib.hid (A_1.out.step bq2)
  have B_2 := Lib.hid (B_1.out.step bq2)
  have X_2 := Lib.hid (X_1.out.below bq2 X_1.out.lt)
  have B2 := Lib.hid (below_both B1.out bq2)
  clear bq2 A_1 B_1 X_1
  go_wp2_with fail
  refine (CGb.out _ u2 B_2.out).mono ?_
  rintro e u3 ⟨rfl, bq3⟩
  have A_3 := Lib.hid (A_2.out.step bq3)
  have B_3 := Lib.hid (B_2.out.step bq3)
  have X_3 := Lib.hid (X_2.out.below bq3 X_2.out.lt)
  have B3 := Lib.hid (below_both B2.out bq3)
  clear bq3 A_2 B_2 X_2
  go_wp2_with fail
  refine (known8 u3 (TT.out.step B3.out)).mono ?_
  rintro e u4 ⟨rfl, bq4⟩
  have X_4 := Lib.hid (X_3.out.below bq4 X_3.out.lt)
  have B4 := Lib.hid (below_both B3.out bq4)
  clear bq4 X_3
  have c0 := X_4.out.cell 0
  have f0 := X_4.out.frozen 0
  go_wp2
  refine leaves_ret (v := .bool true) ?_ rfl ⟨rfl, B4.out.setCell (p := ⟨w.heap.size, 0, none⟩) (Nat.le_refl _) _⟩
  have hres : Tryz.f6.results = #[.cell 6 4] := by kernel_rfl
  have hc := World.cell?_setCell_same' u4 ⟨w.heap.size, 0, none⟩ (.bool true) (by rw [c0]; rfl)
  simp only [results, hres]
  go_simp
set_option maxHeartbeats 8000000 in
set_option maxRecDepth 100000 in
theorem laws_gn (A : Option Addr) (c : Nat) (a : List Sn) (A2 : Option Addr) (c2 : Nat) (b : List Sn) (n : Nat) (w : World) (hT : Tb w) (hva : Gs2 eSp w 0 w.heap.size (.slice A a.length c) a) (hvb : Gs2 eSp w 0 w.heap.size (.slice A2 b.length c2) b) (hla : a.length ≤ 8796093022209) (hlb : b.length ≤ 8796093022209) (ha : grt a = false) (hb : grt b = false) (hn : 500000 < n) :
    Calls Tryz.prog 6 #[.slice A a.length c, .slice A2 b.length c2, .int .u64 (n : Int)] w fun e w' => e = .returned (.bool true) ∧ Below w.heap.size w w' := by
  have CGa := Lib.hid (fun (v : Value) (W : World) (h : Gs2 eSp W 0 W.heap.size v a) => great_is v a false W ha hla h)
  have CGb := Lib.hid (fun (v : Value) (W : World) (h : Gs2 eSp W 0 W.heap.size v b) => great_is v b false W hb hlb h)
  have g1 : decide ((n : Int) > 500000) = true := decide_eq_true (by omega)
  have g1n : decide (n > 500000) = true := decide_eq_true (by omega)
  have TT := Lib.hid hT
  have HA := Lib.hid hva
  have HB := Lib.hid hvb
  clear hT hva hvb ha hb hla hlb
  refine (callsIn_wide (n := 3)).1 ?_
  refine callsIn_of_wp_marks Tryz.func6 rfl trivial ?_ rfl
  refine wpIn_wide.2 ?_
  simp only [Tryz.ntmps6, List.size_toArray, List.length_cons, List.length_nil, Nat.reduceAdd, Nat.reduceSub, Array.replicate_succ, Array.replicate_zero, List.push_toArray, List.append_toArray, List.nil_append, List.cons_append]
  go_wp2_with fail
  have bq1 := bx w (.cells #[.bool false] 4)
  have gX_1 := Row.new w 4 #[.bool false]
  generalize w.alloc (.cells #[.bool false] 4) = u1 at *
  have X_1 := Lib.hid gX_1
  have A_1 := Lib.hid (HA.out.step bq1)
  have B_1 := Lib.hid (HB.out.step bq1)
  have B1 := Lib.hid bq1
  clear bq1 HA HB gX_1
  refine (CGa.out _ u1 A_1.out).mono ?_
  rintro e u2 ⟨rfl, bq2⟩
  have A_2 := Lib.hid (A_1.out.step bq2)
  have B_2 := Lib.hid (B_1.out.step bq2)
  have X_2 := Lib.hid (X_1.out.below bq2 X_1.out.lt)
  have B2 := Lib.hid (below_both B1.out bq2)
  clear bq2 A_1 B_1 X_1
  go_wp2_with fail
  refine (CGb.out _ u2 B_2.out).mono ?_
  rintro e u3 ⟨rfl, bq3⟩
  have A_3 := Lib.hid (A_2.out.step bq3)
  have B_3 := Lib.hid (B_2.out.step bq3)
  have X_3 := Lib.hid (X_2.out.below bq3 X_2.out.lt)
  have B3 := Lib.hid (below_both B2.out bq3)
  clear bq3 A_2 B_2 X_2
  go_wp2_with fail
  refine (known8 u3 (TT.out.step B3.out)).mono ?_
  rintro e u4 ⟨rfl, bq4⟩
  have X_4 := Lib.hid (X_3.out.below bq4 X_3.out.lt)
  have B4 := Lib.hid (below_both B3.out bq4)
  clear bq4 X_3
  have c0 := X_4.out.cell 0
  have f0 := X_4.out.frozen 0
  go_wp2
  refine leaves_ret (v := .bool true) ?_ rfl ⟨rfl, B4.out.setCell (p := ⟨w.heap.size, 0, none⟩) (Nat.le_refl _) _⟩
  have hres : Tryz.f6.results = #[.cell 6 4] := by kernel_rfl
  have hc := World.cell?_setCell_same' u4 ⟨w.heap.size, 0, none⟩ (.bool true) (by rw [c0]; rfl)
  simp only [results, hres]
  go_simp
end Go.Proofs.YtcmifbjeabkihaaGreatDoor
