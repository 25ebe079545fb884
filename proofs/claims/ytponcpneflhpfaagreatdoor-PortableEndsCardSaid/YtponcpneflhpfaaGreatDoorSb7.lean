/- Walks: And, Or, Xor, AndNot of arrays (cut from stages 4 to 6) -/
import Derived.Test.YtponcpneflhpfaaGreatDoorSb0
import Derived.Shelf.Abstract
namespace Go.Proofs.YtponcpneflhpfaaGreatDoor
open Go.RowKit
set_option linter.unusedVariables false

set_option maxHeartbeats 4000000 in
set_option maxRecDepth 100000 in
theorem paired_any (fn : FuncId) (hE : Enters Tryz.prog fn) (F : Nat → Nat → Nat) (f : Bool → Bool → Bool) (hF : ∀ a b, a < 18446744073709551616 → b < 18446744073709551616 → F a b < 18446744073709551616) (hb : ∀ a b j, j < 64 → (F a b).testBit j = f (a.testBit j) (b.testBit j))
    (hf : ∀ (a b : Nat) (W : World), a < 18446744073709551616 → b < 18446744073709551616 → Calls Tryz.prog fn #[.int .u64 a, .int .u64 b] W fun e w' => e = .returned (.int .u64 (F a b)) ∧ w' = W)
    (v u : Value) (l m : List UInt64) (lo : Nat) (w : World) (hv : Gs e64 w lo w.heap.size v l) (hu : Gs e64 w lo w.heap.size u m) :
    Calls Tryz.prog 214 #[v, u, .func (.func fn) #[] #[]] w fun e w' => ∃ v', e = .returned v' ∧ Gw e64 w' w.heap.size v' (wm fun x => f (wb l x) (wb m x)) ∧ Below w.heap.size w w' := by
  have HE := hE
  unfold Enters at HE
  have HV := Lib.hid hv
  have HU := Lib.hid hu
  obtain ⟨A1, c1, rfl, -⟩ := hv
  obtain ⟨A2, c2, rfl, -⟩ := hu
  clear hE
  go_enter Tryz.func214, Tryz.ntmps214
  go_wp2_with (at_make; refine wpList_gfull e64 _ rfl _ _ _ rfl sli64 inf64 _ _ _ _ 1024 rfl rfl rfl rfl (by omega) ?_; intro w1 o1 g1; have O1 := Lib.hid o1; have B1 := Lib.hid (below_of_grown g1 (fun k h => by cases h)); clear o1 g1)
  go_loopw [10] (fun i wr => ∃ k : Nat, k ≤ 1024 ∧ i = .int .i64 k ∧ Gw e64 wr w.heap.size (.slice (some ⟨w.heap.size, 0, none⟩) 1024 1024) (wm (pp (fun x => f (wb l x) (wb m x)) k)) ∧ Below w.heap.size w wr) (fun i _ => ((1024 : Int) - intOf i).toNat)
  case atStart => exact ⟨0, Nat.zero_le _, rfl, by have := O1.out; rw [show e64.zero = (0 : UInt64) from rfl, wm_none, pp_none (fun x => f (wb l x) (wb m x))] at this; exact this, B1.out⟩
  case round =>
    obtain ⟨k, hk, rfl, ok, hbl⟩ := hrel
    have OK := Lib.hid ok
    have HB := Lib.hid hbl
    by_cases hlt : k < 1024
    · obtain ⟨a, ha⟩ : ∃ a, a = (l.getD k 0).toNat := ⟨_, rfl⟩
      obtain ⟨b, hb'⟩ : ∃ b, b = (m.getD k 0).toNat := ⟨_, rfl⟩
      have ha1 : a < 18446744073709551616 := by rw [ha]; exact u64_lt _
      have hb1 : b < 18446744073709551616 := by rw [hb']; exact u64_lt _
      obtain ⟨z, hz⟩ : ∃ z : Nat, z = ((wm (pp (fun x => f (wb l x) (wb m x)) k)).getD k 0).toNat := ⟨_, rfl⟩
      obtain ⟨k1, k2⟩ := wm_cell ok rfl k z hlt hz
      have hq := pp_step (fun x => f (wb l x) (wb m x)) k (F a b) (fun j hj => by rw [hb a b j hj, ha, hb', wb_at _ _ _ hj, wb_at _ _ _ hj])
      have hy1 := hF a b ha1 hb1
      have hki : (k : Int) < 1024 := by omega
      obtain ⟨y, hy⟩ : ∃ y, y = F a b := ⟨_, rfl⟩
      rw [← hy] at hq hy1
      have HQ := Lib.hid hq
      have HY := Lib.hid hy1
      have HYE := Lib.hid hy
      have HA := Lib.hid ha
      have HBB := Lib.hid hb'
      have HA1 := Lib.hid ha1
      have HB1 := Lib.hid hb1
      have HI := Lib.hid hlt
      clear ha hb' ha1 hb1 hz hq hy1 hy ok hbl hlt hk
      go_wp2_with fail
      go_at_call 240
      refine (at_of (.slice A1 l.length c1) l lo w.heap.size k k a rfl HA.out _ (HV.out.below HB.out)).mono ?_
      rintro e w1 ⟨rfl, hz⟩
      have hz := hz.symm
      subst hz
      go_wp2_with fail
      go_at_call 240
      refine (at_of (.slice A2 m.length c2) m lo w.heap.size k k b rfl HBB.out _ (HU.out.below HB.out)).mono ?_
      rintro e w1 ⟨rfl, hz⟩
      have hz := hz.symm
      subst hz
      go_wp2_with fail
      refine (hf a b _ HA1.out HB1.out).mono ?_
      rw [← HYE.out]
      rintro e w1 ⟨rfl, hz⟩
      have hz := hz.symm
      subst hz
      go_wp2
      refine ⟨⟨k + 1, HI.out, by go_num, wm_stored OK.out k _ HY.out HI.out HQ.out, HB.out.grown (grown_set _ _ _ _) HB.out.size (fun j h => by injection h with h; subst h; exact Nat.le_refl _)⟩, by simp [intOf]; omega⟩
    · obtain rfl : k = 1024 := by omega
      rw [pp_all] at ok
      have OK := Lib.hid ok
      clear ok hbl
      go_wp2
      go_ret
      exact ⟨_, rfl, OK.out, HB.out⟩
theorem wxor_says (a b : Nat) (W : World) (ha : a < 18446744073709551616) (hb : b < 18446744073709551616) : Calls Tryz.prog 226 #[.int .u64 a, .int .u64 b] W fun e w' => e = .returned (.int .u64 ((a ^^^ b : Nat) : Int)) ∧ w' = W := by
  have HA := Lib.hid ha
  have HB := Lib.hid hb
  clear ha hb
  go_enter Tryz.func226, Tryz.ntmps226
  go_wp2
  go_ret
  have ha := HA.out
  have hb := HB.out
  exact ⟨congrArg Ending.returned (congrArg (Value.int IntKind.u64) (bits_xor_u64 a b ha hb)), rfl⟩
set_option maxHeartbeats 400000 in
theorem wxor_any (v u : Value) (l m : List UInt64) (lo : Nat) (w : World) (hv : Gs e64 w lo w.heap.size v l) (hu : Gs e64 w lo w.heap.size u m) :
    Calls Tryz.prog 154 #[v, u] w fun e w' => ∃ v', e = .returned v' ∧ Gw e64 w' w.heap.size v' (wm fun x => fXor (wb l x) (wb m x)) ∧ Below w.heap.size w w' := by
  have T := Lib.hid (paired_any 226 (enters_of Tryz.func226 (by kernel_rfl) rfl) (fun a b => a ^^^ b) fXor (fun a b ha hb => xor_lt ha hb) (fun a b j hj => by rw [Nat.testBit_xor]; cases a.testBit j <;> cases b.testBit j <;> rfl) wxor_says v u l m lo w hv hu)
  clear hv hu
  go_enter Tryz.func154, Tryz.ntmps154
  go_wp2_with (go_at_call 214; refine T.out.mono ?_; rintro e w1 ⟨v1, rfl, o1, b1⟩; have O1 := Lib.hid o1; have B1 := Lib.hid b1; clear o1 b1)
  go_ret
  exact ⟨_, rfl, O1.out, B1.out⟩
end Go.Proofs.YtponcpneflhpfaaGreatDoor
namespace Go.Proofs.YtponcpneflhpfaaGreatDoor
open Go.RowKit
set_option linter.unusedVariables false

end Go.Proofs.YtponcpneflhpfaaGreatDoor
namespace Go.Proofs.YtponcpneflhpfaaGreatDoor
open Go.RowKit
set_option linter.unusedVariables false

end Go.Proofs.YtponcpneflhpfaaGreatDoor
namespace Go.Proofs.YtponcpneflhpfaaGreatDoor
open Go.RowKit
set_option linter.unusedVariables false

def lenS : Value → Nat
  | .slice _ n _ => n
  | _ => 0
theorem gs_next {w : World} {lo hi bb o n c : Nat} {y : UInt16} {b : List UInt16} (h : Gs e16 w lo hi (.slice (some ⟨bb, o, none⟩) n c) (y :: b)) (hn : n = (y :: b).length) (hc : c ≠ 1) : Gs e16 w lo hi (.slice (some ⟨bb, o + 1, none⟩) (n - 1) (c - 1)) b := by
  subst hn
  exact h.tail (p := 1) (by simp) hc
theorem gs_void {w : World} {lo hi : Nat} (A : Option Addr) : Gs e16 w lo hi (.slice A 0 0) [] := ⟨A, 0, rfl, fun _ => rfl, Nat.le_refl _, Nat.zero_le _, fun h => absurd rfl h⟩
set_option maxHeartbeats 4000000 in
theorem taken_any (fn : FuncId) (hE : Enters Tryz.prog fn) (f : Bool → Bool → Bool) (hf : ∀ (p q : Bool) (W : World), Calls Tryz.prog fn #[.bool p, .bool q] W fun e w' => e = .returned (.bool (f p q)) ∧ w' = W)
    (v u : Value) (A B : List UInt16) (lo : Nat) (w : World) (hv : Gs e16 w lo w.heap.size v A) (hu : Gs e16 w lo w.heap.size u B) (hA : A.length ≤ 1000000) (hB : B.length ≤ 1000000) :
    Calls Tryz.prog 212 #[v, u, .func (.func fn) #[] #[]] w fun e w' => ∃ v', e = .returned v' ∧ Gw e16 w' w.heap.size v' (mg f A B) ∧ Below w.heap.size w w' := by
  have HE := hE
  unfold Enters at HE
  have HV := Lib.hid hv
  have HU := Lib.hid hu
  clear hv hu hE
  go_enter Tryz.func212, Tryz.ntmps212
  go_wp2
  go_loopw [0, 1, 7] (fun s0 s1 s7 wr => ∃ a b out : List UInt16, Gs e16 wr lo w.heap.size s0 a ∧ Gs e16 wr lo w.heap.size s1 b ∧ Gw e16 wr w.heap.size s7 out ∧ Below w.heap.size w wr ∧ out ++ mg f a b = mg f A B) (fun s0 s1 s7 _ => lenS s0 + lenS s1)
  case atStart => exact ⟨A, B, [], HV.out, HU.out, Gw.nil_ _ _, Below.refl _ _, rfl⟩
  case round =>
    obtain ⟨a, b, out, ga, gb, ho, hbel, hm⟩ := hrel
    have HO := Lib.hid ho
    have HBL := Lib.hid hbel
    have HM := Lib.hid hm
    have hol : out.length ≤ 2000000 := by have := mg_le f A B; rw [← hm, List.length_append] at this; omega
    cases a with
    | nil =>
      cases b with
      | nil =>
        obtain ⟨A1, c1, rfl, -⟩ := ga
        obtain ⟨A2, c2, rfl, -⟩ := gb
        obtain ⟨A5, c5, rfl, -⟩ := ho.sl
        clear ho hbel hm hol
        go_wp2
        go_ret
        exact ⟨_, rfl, by have := HM.out; rw [mg, List.append_nil] at this; rw [← this]; exact HO.out, HBL.out⟩
      | cons y b =>
        have Ea := Lib.hid ga
        obtain ⟨Aa, ca, rfl, -⟩ := ga
        obtain ⟨bb, ob, cb, rfl, hb1, hb2, -, -, hbc⟩ := gb.form (by simp)
        have kb := hbc 0 y rfl
        simp only [e16, b16, Nat.add_zero] at kb
        obtain ⟨Y, hY⟩ : ∃ z : Int, z = (y.toNat : Int) := ⟨_, rfl⟩
        rw [← hY] at kb
        have HY := Lib.hid hY
        have hmb : cb ≤ 9223372036854775807 := by unfold maxLen at hb2; omega
        obtain ⟨nb, hnb⟩ : ∃ n, n = (y :: b).length := ⟨_, rfl⟩
        rw [← hnb] at hb1 gb ⊢
        have hpb : 1 ≤ nb := by rw [hnb]; simp
        have Gb := Lib.hid gb
        have Nb := Lib.hid hnb
        have qb1 : decide ((nb : Int) = 0) = false := decide_eq_false (by omega)
        have qb2 : decide (nb = 0) = false := decide_eq_false (by omega)
        have qb3 : decide ((0 : Int) < nb) = true := decide_eq_true (by omega)
        have qb4 : decide (0 < nb) = true := decide_eq_true (by omega)
        have qb5 : ((nb : Int) == 0) = false := by simp; omega
        have wb : IntKind.i64.wrap ((nb : Int) - 1) = (nb : Int) - 1 := by rw [IntKind.wrap_i64]; omega
        clear hb2 hbc gb hnb hY
        clear hbel hm ho
        by_cases hbq : cb = 1
        · subst hbq
          obtain rfl : nb = 1 := by omega
          have zb : b = [] := by have := Nb.out; simp at this; exact this
          have Zb := Lib.hid zb
          clear zb
          cases hT : f false true with
          | true =>
            have HM2 : out ++ ((if f false true = true then [y] else []) ++ mg f [] b) = mg f A B := by rw [← HM.out, mg]
            rw [hT] at HM2
            have HM3 := Lib.hid HM2
            clear HM2 HM
            go_wp2_with fail
            go_region
            go_wp2_with fail
            go_region
            go_wp2_with fail
            go_region
            go_wp2_with fail
            refine (hf _ _ _).mono ?_
            rintro e wz ⟨rfl, rfl⟩
            rw [hT]
            go_wp2_with (at_builtin; refine wpList_gapp1 (P := Tryz.prog) e16 wr.drew.drew.drew rfl _ _ _ rfl w.heap.size sli16 inf16 _ out rfl ?_ _ y ?_ ?_ ?_ ?_ ?_; (exact HO.out.drew.drew.drew); (rw [HY.out]; rfl); rfl; omega; exact HBL.out.size; intro v2 w2 o2 g2 _; have O2 := Lib.hid o2; have G2 := Lib.hid g2; have B2 := Lib.hid (Below.grown HBL.out.drew.drew.drew g2 HBL.out.size (fun j hj => (HO.out.lt j hj).1)); clear o2 g2)
            go_roundw
            case rel => exact ⟨[], b, out ++ [y], Gs.grown (by exact Ea.out) G2.out HBL.out.size (fun j hj => .inr (HO.out.lt j hj).1), Gs.grown (by exact (by rw [Zb.out]; exact gs_void _)) G2.out HBL.out.size (fun j hj => .inr (HO.out.lt j hj).1), O2.out, B2.out, by rw [List.append_assoc]; exact HM3.out⟩
            case measure => simp [lenS]; try omega
          | false =>
            have HM2 : out ++ ((if f false true = true then [y] else []) ++ mg f [] b) = mg f A B := by rw [← HM.out, mg]
            rw [hT] at HM2
            have HM3 := Lib.hid HM2
            clear HM2 HM
            go_wp2_with fail
            go_region
            go_wp2_with fail
            go_region
            go_wp2_with fail
            go_region
            go_wp2_with fail
            refine (hf _ _ _).mono ?_
            rintro e wz ⟨rfl, rfl⟩
            rw [hT]
            go_wp2
            go_roundw
            case rel => exact ⟨[], b, out, Ea.out, (by rw [Zb.out]; exact gs_void _), HO.out.drew.drew.drew, HBL.out.drew.drew.drew, HM3.out⟩
            case measure => simp [lenS]; try omega
        · skip
          cases hT : f false true with
          | true =>
            have HM2 : out ++ ((if f false true = true then [y] else []) ++ mg f [] b) = mg f A B := by rw [← HM.out, mg]
            rw [hT] at HM2
            have HM3 := Lib.hid HM2
            clear HM2 HM
            go_wp2_with fail
            go_region
            go_wp2_with fail
            go_region
            go_wp2_with fail
            go_region
            go_wp2_with fail
            refine (hf _ _ _).mono ?_
            rintro e wz ⟨rfl, rfl⟩
            rw [hT]
            go_wp2_with (at_builtin; refine wpList_gapp1 (P := Tryz.prog) e16 wr.drew.drew.drew rfl _ _ _ rfl w.heap.size sli16 inf16 _ out rfl ?_ _ y ?_ ?_ ?_ ?_ ?_; (exact HO.out.drew.drew.drew); (rw [HY.out]; rfl); rfl; omega; exact HBL.out.size; intro v2 w2 o2 g2 _; have O2 := Lib.hid o2; have G2 := Lib.hid g2; have B2 := Lib.hid (Below.grown HBL.out.drew.drew.drew g2 HBL.out.size (fun j hj => (HO.out.lt j hj).1)); clear o2 g2)
            go_roundw
            case rel => exact ⟨[], b, out ++ [y], Gs.grown (by exact Ea.out) G2.out HBL.out.size (fun j hj => .inr (HO.out.lt j hj).1), Gs.grown (by exact (gs_next Gb.out Nb.out hbq)) G2.out HBL.out.size (fun j hj => .inr (HO.out.lt j hj).1), O2.out, B2.out, by rw [List.append_assoc]; exact HM3.out⟩
            case measure => simp [lenS]; try omega
          | false =>
            have HM2 : out ++ ((if f false true = true then [y] else []) ++ mg f [] b) = mg f A B := by rw [← HM.out, mg]
            rw [hT] at HM2
            have HM3 := Lib.hid HM2
            clear HM2 HM
            go_wp2_with fail
            go_region
            go_wp2_with fail
            go_region
            go_wp2_with fail
            go_region
            go_wp2_with fail
            refine (hf _ _ _).mono ?_
            rintro e wz ⟨rfl, rfl⟩
            rw [hT]
            go_wp2
            go_roundw
            case rel => exact ⟨[], b, out, Ea.out, (gs_next Gb.out Nb.out hbq), HO.out.drew.drew.drew, HBL.out.drew.drew.drew, HM3.out⟩
            case measure => simp [lenS]; try omega
    | cons x a =>
      cases b with
      | nil =>
        have Eb := Lib.hid gb
        obtain ⟨Ab, cb, rfl, -⟩ := gb
        obtain ⟨ba, oa, ca, rfl, ha1, ha2, -, -, hac⟩ := ga.form (by simp)
        have ka := hac 0 x rfl
        simp only [e16, b16, Nat.add_zero] at ka
        obtain ⟨X, hX⟩ : ∃ z : Int, z = (x.toNat : Int) := ⟨_, rfl⟩
        rw [← hX] at ka
        have HX := Lib.hid hX
        have hma : ca ≤ 9223372036854775807 := by unfold maxLen at ha2; omega
        obtain ⟨na, hna⟩ : ∃ n, n = (x :: a).length := ⟨_, rfl⟩
        rw [← hna] at ha1 ga ⊢
        have hpa : 1 ≤ na := by rw [hna]; simp
        have Ga := Lib.hid ga
        have Na := Lib.hid hna
        have qa1 : decide ((na : Int) = 0) = false := decide_eq_false (by omega)
        have qa2 : decide (na = 0) = false := decide_eq_false (by omega)
        have qa3 : decide ((0 : Int) < na) = true := decide_eq_true (by omega)
        have qa4 : decide (0 < na) = true := decide_eq_true (by omega)
        have qa5 : ((na : Int) == 0) = false := by simp; omega
        have wa : IntKind.i64.wrap ((na : Int) - 1) = (na : Int) - 1 := by rw [IntKind.wrap_i64]; omega
        clear ha2 hac ga hna hX
        clear hbel hm ho
        by_cases haq : ca = 1
        · subst haq
          obtain rfl : na = 1 := by omega
          have za : a = [] := by have := Na.out; simp at this; exact this
          have Za := Lib.hid za
          clear za
          cases hT : f true false with
          | true =>
            have HM2 : out ++ ((if f true false = true then [x] else []) ++ mg f a []) = mg f A B := by rw [← HM.out, mg]
            rw [hT] at HM2
            have HM3 := Lib.hid HM2
            clear HM2 HM
            go_wp2_with fail
            go_region
            go_wp2_with fail
            go_region
            go_wp2_with fail
            go_region
            go_wp2_with fail
            refine (hf _ _ _).mono ?_
            rintro e wz ⟨rfl, rfl⟩
            rw [hT]
            go_wp2_with (at_builtin; refine wpList_gapp1 (P := Tryz.prog) e16 wr.drew.drew.drew rfl _ _ _ rfl w.heap.size sli16 inf16 _ out rfl ?_ _ x ?_ ?_ ?_ ?_ ?_; (exact HO.out.drew.drew.drew); (rw [HX.out]; rfl); rfl; omega; exact HBL.out.size; intro v2 w2 o2 g2 _; have O2 := Lib.hid o2; have G2 := Lib.hid g2; have B2 := Lib.hid (Below.grown HBL.out.drew.drew.drew g2 HBL.out.size (fun j hj => (HO.out.lt j hj).1)); clear o2 g2)
            go_roundw
            case rel => exact ⟨a, [], out ++ [x], Gs.grown (by exact (by rw [Za.out]; exact gs_void _)) G2.out HBL.out.size (fun j hj => .inr (HO.out.lt j hj).1), Gs.grown (by exact Eb.out) G2.out HBL.out.size (fun j hj => .inr (HO.out.lt j hj).1), O2.out, B2.out, by rw [List.append_assoc]; exact HM3.out⟩
            case measure => simp [lenS]; try omega
          | false =>
            have HM2 : out ++ ((if f true false = true then [x] else []) ++ mg f a []) = mg f A B := by rw [← HM.out, mg]
            rw [hT] at HM2
            have HM3 := Lib.hid HM2
            clear HM2 HM
            go_wp2_with fail
            go_region
            go_wp2_with fail
            go_region
            go_wp2_with fail
            go_region
            go_wp2_with fail
            refine (hf _ _ _).mono ?_
            rintro e wz ⟨rfl, rfl⟩
            rw [hT]
            go_wp2
            go_roundw
            case rel => exact ⟨a, [], out, (by rw [Za.out]; exact gs_void _), Eb.out, HO.out.drew.drew.drew, HBL.out.drew.drew.drew, HM3.out⟩
            case measure => simp [lenS]; try omega
        · skip
          cases hT : f true false with
          | true =>
            have HM2 : out ++ ((if f true false = true then [x] else []) ++ mg f a []) = mg f A B := by rw [← HM.out, mg]
            rw [hT] at HM2
            have HM3 := Lib.hid HM2
            clear HM2 HM
            go_wp2_with fail
            go_region
            go_wp2_with fail
            go_region
            go_wp2_with fail
            go_region
            go_wp2_with fail
            refine (hf _ _ _).mono ?_
            rintro e wz ⟨rfl, rfl⟩
            rw [hT]
            go_wp2_with (at_builtin; refine wpList_gapp1 (P := Tryz.prog) e16 wr.drew.drew.drew rfl _ _ _ rfl w.heap.size sli16 inf16 _ out rfl ?_ _ x ?_ ?_ ?_ ?_ ?_; (exact HO.out.drew.drew.drew); (rw [HX.out]; rfl); rfl; omega; exact HBL.out.size; intro v2 w2 o2 g2 _; have O2 := Lib.hid o2; have G2 := Lib.hid g2; have B2 := Lib.hid (Below.grown HBL.out.drew.drew.drew g2 HBL.out.size (fun j hj => (HO.out.lt j hj).1)); clear o2 g2)
            go_roundw
            case rel => exact ⟨a, [], out ++ [x], Gs.grown (by exact (gs_next Ga.out Na.out haq)) G2.out HBL.out.size (fun j hj => .inr (HO.out.lt j hj).1), Gs.grown (by exact Eb.out) G2.out HBL.out.size (fun j hj => .inr (HO.out.lt j hj).1), O2.out, B2.out, by rw [List.append_assoc]; exact HM3.out⟩
            case measure => simp [lenS]; try omega
          | false =>
            have HM2 : out ++ ((if f true false = true then [x] else []) ++ mg f a []) = mg f A B := by rw [← HM.out, mg]
            rw [hT] at HM2
            have HM3 := Lib.hid HM2
            clear HM2 HM
            go_wp2_with fail
            go_region
            go_wp2_with fail
            go_region
            go_wp2_with fail
            go_region
            go_wp2_with fail
            refine (hf _ _ _).mono ?_
            rintro e wz ⟨rfl, rfl⟩
            rw [hT]
            go_wp2
            go_roundw
            case rel => exact ⟨a, [], out, (gs_next Ga.out Na.out haq), Eb.out, HO.out.drew.drew.drew, HBL.out.drew.drew.drew, HM3.out⟩
            case measure => simp [lenS]; try omega
      | cons y b =>
        obtain ⟨ba, oa, ca, rfl, ha1, ha2, -, -, hac⟩ := ga.form (by simp)
        have ka := hac 0 x rfl
        simp only [e16, b16, Nat.add_zero] at ka
        obtain ⟨X, hX⟩ : ∃ z : Int, z = (x.toNat : Int) := ⟨_, rfl⟩
        rw [← hX] at ka
        have HX := Lib.hid hX
        have hma : ca ≤ 9223372036854775807 := by unfold maxLen at ha2; omega
        obtain ⟨na, hna⟩ : ∃ n, n = (x :: a).length := ⟨_, rfl⟩
        rw [← hna] at ha1 ga ⊢
        have hpa : 1 ≤ na := by rw [hna]; simp
        have Ga := Lib.hid ga
        have Na := Lib.hid hna
        have qa1 : decide ((na : Int) = 0) = false := decide_eq_false (by omega)
        have qa2 : decide (na = 0) = false := decide_eq_false (by omega)
        have qa3 : decide ((0 : Int) < na) = true := decide_eq_true (by omega)
        have qa4 : decide (0 < na) = true := decide_eq_true (by omega)
        have qa5 : ((na : Int) == 0) = false := by simp; omega
        have wa : IntKind.i64.wrap ((na : Int) - 1) = (na : Int) - 1 := by rw [IntKind.wrap_i64]; omega
        clear ha2 hac ga hna hX
        obtain ⟨bb, ob, cb, rfl, hb1, hb2, -, -, hbc⟩ := gb.form (by simp)
        have kb := hbc 0 y rfl
        simp only [e16, b16, Nat.add_zero] at kb
        obtain ⟨Y, hY⟩ : ∃ z : Int, z = (y.toNat : Int) := ⟨_, rfl⟩
        rw [← hY] at kb
        have HY := Lib.hid hY
        have hmb : cb ≤ 9223372036854775807 := by unfold maxLen at hb2; omega
        obtain ⟨nb, hnb⟩ : ∃ n, n = (y :: b).length := ⟨_, rfl⟩
        rw [← hnb] at hb1 gb ⊢
        have hpb : 1 ≤ nb := by rw [hnb]; simp
        have Gb := Lib.hid gb
        have Nb := Lib.hid hnb
        have qb1 : decide ((nb : Int) = 0) = false := decide_eq_false (by omega)
        have qb2 : decide (nb = 0) = false := decide_eq_false (by omega)
        have qb3 : decide ((0 : Int) < nb) = true := decide_eq_true (by omega)
        have qb4 : decide (0 < nb) = true := decide_eq_true (by omega)
        have qb5 : ((nb : Int) == 0) = false := by simp; omega
        have wb : IntKind.i64.wrap ((nb : Int) - 1) = (nb : Int) - 1 := by rw [IntKind.wrap_i64]; omega
        clear hb2 hbc gb hnb hY
        clear hbel hm ho
        rcases Int.lt_trichotomy X Y with hcmp | hcmp | hcmp
        · have hl : x.toNat < y.toNat := by have := HX.out; have := HY.out; omega
          have c1 : decide (X ≤ Y) = true := decide_eq_true (by omega)
          have c2 : decide (Y ≤ X) = false := decide_eq_false (by omega)
          by_cases haq : ca = 1
          · subst haq
            obtain rfl : na = 1 := by omega
            have za : a = [] := by have := Na.out; simp at this; exact this
            have Za := Lib.hid za
            clear za
            cases hT : f true false with
            | true =>
              have HM2 : out ++ ((if f true false = true then [x] else []) ++ mg f a (y :: b)) = mg f A B := by rw [← HM.out, mg, if_pos hl]
              rw [hT] at HM2
              have HM3 := Lib.hid HM2
              clear HM2 HM hcmp
              go_wp2_with fail
              go_region
              go_wp2_with fail
              go_region
              go_wp2_with fail
              go_region
              go_wp2_with fail
              refine (hf _ _ _).mono ?_
              rintro e wz ⟨rfl, rfl⟩
              rw [hT]
              go_wp2_with (at_builtin; refine wpList_gapp1 (P := Tryz.prog) e16 wr.drew.drew.drew rfl _ _ _ rfl w.heap.size sli16 inf16 _ out rfl ?_ _ x ?_ ?_ ?_ ?_ ?_; (exact HO.out.drew.drew.drew); (rw [HX.out]; rfl); rfl; omega; exact HBL.out.size; intro v2 w2 o2 g2 _; have O2 := Lib.hid o2; have G2 := Lib.hid g2; have B2 := Lib.hid (Below.grown HBL.out.drew.drew.drew g2 HBL.out.size (fun j hj => (HO.out.lt j hj).1)); clear o2 g2)
              go_roundw
              case rel => exact ⟨a, (y :: b), out ++ [x], Gs.grown (by exact (by rw [Za.out]; exact gs_void _)) G2.out HBL.out.size (fun j hj => .inr (HO.out.lt j hj).1), Gs.grown (by exact Gb.out) G2.out HBL.out.size (fun j hj => .inr (HO.out.lt j hj).1), O2.out, B2.out, by rw [List.append_assoc]; exact HM3.out⟩
              case measure => simp [lenS]; try omega
            | false =>
              have HM2 : out ++ ((if f true false = true then [x] else []) ++ mg f a (y :: b)) = mg f A B := by rw [← HM.out, mg, if_pos hl]
              rw [hT] at HM2
              have HM3 := Lib.hid HM2
              clear HM2 HM hcmp
              go_wp2_with fail
              go_region
              go_wp2_with fail
              go_region
              go_wp2_with fail
              go_region
              go_wp2_with fail
              refine (hf _ _ _).mono ?_
              rintro e wz ⟨rfl, rfl⟩
              rw [hT]
              go_wp2
              go_roundw
              case rel => exact ⟨a, (y :: b), out, (by rw [Za.out]; exact gs_void _), Gb.out, HO.out.drew.drew.drew, HBL.out.drew.drew.drew, HM3.out⟩
              case measure => simp [lenS]; try omega
          · skip
            cases hT : f true false with
            | true =>
              have HM2 : out ++ ((if f true false = true then [x] else []) ++ mg f a (y :: b)) = mg f A B := by rw [← HM.out, mg, if_pos hl]
              rw [hT] at HM2
              have HM3 := Lib.hid HM2
              clear HM2 HM hcmp
              go_wp2_with fail
              go_region
              go_wp2_with fail
              go_region
              go_wp2_with fail
              go_region
              go_wp2_with fail
              refine (hf _ _ _).mono ?_
              rintro e wz ⟨rfl, rfl⟩
              rw [hT]
              go_wp2_with (at_builtin; refine wpList_gapp1 (P := Tryz.prog) e16 wr.drew.drew.drew rfl _ _ _ rfl w.heap.size sli16 inf16 _ out rfl ?_ _ x ?_ ?_ ?_ ?_ ?_; (exact HO.out.drew.drew.drew); (rw [HX.out]; rfl); rfl; omega; exact HBL.out.size; intro v2 w2 o2 g2 _; have O2 := Lib.hid o2; have G2 := Lib.hid g2; have B2 := Lib.hid (Below.grown HBL.out.drew.drew.drew g2 HBL.out.size (fun j hj => (HO.out.lt j hj).1)); clear o2 g2)
              go_roundw
              case rel => exact ⟨a, (y :: b), out ++ [x], Gs.grown (by exact (gs_next Ga.out Na.out haq)) G2.out HBL.out.size (fun j hj => .inr (HO.out.lt j hj).1), Gs.grown (by exact Gb.out) G2.out HBL.out.size (fun j hj => .inr (HO.out.lt j hj).1), O2.out, B2.out, by rw [List.append_assoc]; exact HM3.out⟩
              case measure => simp [lenS]; try omega
            | false =>
              have HM2 : out ++ ((if f true false = true then [x] else []) ++ mg f a (y :: b)) = mg f A B := by rw [← HM.out, mg, if_pos hl]
              rw [hT] at HM2
              have HM3 := Lib.hid HM2
              clear HM2 HM hcmp
              go_wp2_with fail
              go_region
              go_wp2_with fail
              go_region
              go_wp2_with fail
              go_region
              go_wp2_with fail
              refine (hf _ _ _).mono ?_
              rintro e wz ⟨rfl, rfl⟩
              rw [hT]
              go_wp2
              go_roundw
              case rel => exact ⟨a, (y :: b), out, (gs_next Ga.out Na.out haq), Gb.out, HO.out.drew.drew.drew, HBL.out.drew.drew.drew, HM3.out⟩
              case measure => simp [lenS]; try omega
        · obtain rfl : x = y := u16_eq (by have := HX.out; have := HY.out; omega)
          have hl : ¬ x.toNat < x.toNat := by omega
          have hl2 : ¬ x.toNat < x.toNat := by omega
          have c1 : decide (X ≤ Y) = true := decide_eq_true (by omega)
          have c2 : decide (Y ≤ X) = true := decide_eq_true (by omega)
          by_cases haq : ca = 1
          · subst haq
            obtain rfl : na = 1 := by omega
            have za : a = [] := by have := Na.out; simp at this; exact this
            have Za := Lib.hid za
            clear za
            by_cases hbq : cb = 1
            · subst hbq
              obtain rfl : nb = 1 := by omega
              have zb : b = [] := by have := Nb.out; simp at this; exact this
              have Zb := Lib.hid zb
              clear zb
              cases hT : f true true with
              | true =>
                have HM2 : out ++ ((if f true true = true then [x] else []) ++ mg f a b) = mg f A B := by rw [← HM.out, mg, if_neg hl, if_neg hl2]
                rw [hT] at HM2
                have HM3 := Lib.hid HM2
                clear HM2 HM hcmp
                go_wp2_with fail
                go_region
                go_wp2_with fail
                go_region
                go_wp2_with fail
                go_region
                go_wp2_with fail
                go_region
                go_wp2_with fail
                refine (hf _ _ _).mono ?_
                rintro e wz ⟨rfl, rfl⟩
                rw [hT]
                go_wp2_with (at_builtin; refine wpList_gapp1 (P := Tryz.prog) e16 wr.drew.drew.drew.drew rfl _ _ _ rfl w.heap.size sli16 inf16 _ out rfl ?_ _ x ?_ ?_ ?_ ?_ ?_; (exact HO.out.drew.drew.drew.drew); (rw [HY.out]; rfl); rfl; omega; exact HBL.out.size; intro v2 w2 o2 g2 _; have O2 := Lib.hid o2; have G2 := Lib.hid g2; have B2 := Lib.hid (Below.grown HBL.out.drew.drew.drew.drew g2 HBL.out.size (fun j hj => (HO.out.lt j hj).1)); clear o2 g2)
                go_roundw
                case rel => exact ⟨a, b, out ++ [x], Gs.grown (by exact (by rw [Za.out]; exact gs_void _)) G2.out HBL.out.size (fun j hj => .inr (HO.out.lt j hj).1), Gs.grown (by exact (by rw [Zb.out]; exact gs_void _)) G2.out HBL.out.size (fun j hj => .inr (HO.out.lt j hj).1), O2.out, B2.out, by rw [List.append_assoc]; exact HM3.out⟩
                case measure => simp [lenS]; try omega
              | false =>
                have HM2 : out ++ ((if f true true = true then [x] else []) ++ mg f a b) = mg f A B := by rw [← HM.out, mg, if_neg hl, if_neg hl2]
                rw [hT] at HM2
                have HM3 := Lib.hid HM2
                clear HM2 HM hcmp
                go_wp2_with fail
                go_region
                go_wp2_with fail
                go_region
                go_wp2_with fail
                go_region
                go_wp2_with fail
                go_region
                go_wp2_with fail
                refine (hf _ _ _).mono ?_
                rintro e wz ⟨rfl, rfl⟩
                rw [hT]
                go_wp2
                go_roundw
                case rel => exact ⟨a, b, out, (by rw [Za.out]; exact gs_void _), (by rw [Zb.out]; exact gs_void _), HO.out.drew.drew.drew.drew, HBL.out.drew.drew.drew.drew, HM3.out⟩
                case measure => simp [lenS]; try omega
            · skip
              cases hT : f true true with
              | true =>
                have HM2 : out ++ ((if f true true = true then [x] else []) ++ mg f a b) = mg f A B := by rw [← HM.out, mg, if_neg hl, if_neg hl2]
                rw [hT] at HM2
                have HM3 := Lib.hid HM2
                clear HM2 HM hcmp
                go_wp2_with fail
                go_region
                go_wp2_with fail
                go_region
                go_wp2_with fail
                go_region
                go_wp2_with fail
                go_region
                go_wp2_with fail
                refine (hf _ _ _).mono ?_
                rintro e wz ⟨rfl, rfl⟩
                rw [hT]
                go_wp2_with (at_builtin; refine wpList_gapp1 (P := Tryz.prog) e16 wr.drew.drew.drew.drew rfl _ _ _ rfl w.heap.size sli16 inf16 _ out rfl ?_ _ x ?_ ?_ ?_ ?_ ?_; (exact HO.out.drew.drew.drew.drew); (rw [HY.out]; rfl); rfl; omega; exact HBL.out.size; intro v2 w2 o2 g2 _; have O2 := Lib.hid o2; have G2 := Lib.hid g2; have B2 := Lib.hid (Below.grown HBL.out.drew.drew.drew.drew g2 HBL.out.size (fun j hj => (HO.out.lt j hj).1)); clear o2 g2)
                go_roundw
                case rel => exact ⟨a, b, out ++ [x], Gs.grown (by exact (by rw [Za.out]; exact gs_void _)) G2.out HBL.out.size (fun j hj => .inr (HO.out.lt j hj).1), Gs.grown (by exact (gs_next Gb.out Nb.out hbq)) G2.out HBL.out.size (fun j hj => .inr (HO.out.lt j hj).1), O2.out, B2.out, by rw [List.append_assoc]; exact HM3.out⟩
                case measure => simp [lenS]; try omega
              | false =>
                have HM2 : out ++ ((if f true true = true then [x] else []) ++ mg f a b) = mg f A B := by rw [← HM.out, mg, if_neg hl, if_neg hl2]
                rw [hT] at HM2
                have HM3 := Lib.hid HM2
                clear HM2 HM hcmp
                go_wp2_with fail
                go_region
                go_wp2_with fail
                go_region
                go_wp2_with fail
                go_region
                go_wp2_with fail
                go_region
                go_wp2_with fail
                refine (hf _ _ _).mono ?_
                rintro e wz ⟨rfl, rfl⟩
                rw [hT]
                go_wp2
                go_roundw
                case rel => exact ⟨a, b, out, (by rw [Za.out]; exact gs_void _), (gs_next Gb.out Nb.out hbq), HO.out.drew.drew.drew.drew, HBL.out.drew.drew.drew.drew, HM3.out⟩
                case measure => simp [lenS]; try omega
          · skip
            by_cases hbq : cb = 1
            · subst hbq
              obtain rfl : nb = 1 := by omega
              have zb : b = [] := by have := Nb.out; simp at this; exact this
              have Zb := Lib.hid zb
              clear zb
              cases hT : f true true with
              | true =>
                have HM2 : out ++ ((if f true true = true then [x] else []) ++ mg f a b) = mg f A B := by rw [← HM.out, mg, if_neg hl, if_neg hl2]
                rw [hT] at HM2
                have HM3 := Lib.hid HM2
                clear HM2 HM hcmp
                go_wp2_with fail
                go_region
                go_wp2_with fail
                go_region
                go_wp2_with fail
                go_region
                go_wp2_with fail
                go_region
                go_wp2_with fail
                refine (hf _ _ _).mono ?_
                rintro e wz ⟨rfl, rfl⟩
                rw [hT]
                go_wp2_with (at_builtin; refine wpList_gapp1 (P := Tryz.prog) e16 wr.drew.drew.drew.drew rfl _ _ _ rfl w.heap.size sli16 inf16 _ out rfl ?_ _ x ?_ ?_ ?_ ?_ ?_; (exact HO.out.drew.drew.drew.drew); (rw [HY.out]; rfl); rfl; omega; exact HBL.out.size; intro v2 w2 o2 g2 _; have O2 := Lib.hid o2; have G2 := Lib.hid g2; have B2 := Lib.hid (Below.grown HBL.out.drew.drew.drew.drew g2 HBL.out.size (fun j hj => (HO.out.lt j hj).1)); clear o2 g2)
                go_roundw
                case rel => exact ⟨a, b, out ++ [x], Gs.grown (by exact (gs_next Ga.out Na.out haq)) G2.out HBL.out.size (fun j hj => .inr (HO.out.lt j hj).1), Gs.grown (by exact (by rw [Zb.out]; exact gs_void _)) G2.out HBL.out.size (fun j hj => .inr (HO.out.lt j hj).1), O2.out, B2.out, by rw [List.append_assoc]; exact HM3.out⟩
                case measure => simp [lenS]; try omega
              | false =>
                have HM2 : out ++ ((if f true true = true then [x] else []) ++ mg f a b) = mg f A B := by rw [← HM.out, mg, if_neg hl, if_neg hl2]
                rw [hT] at HM2
                have HM3 := Lib.hid HM2
                clear HM2 HM hcmp
                go_wp2_with fail
                go_region
                go_wp2_with fail
                go_region
                go_wp2_with fail
                go_region
                go_wp2_with fail
                go_region
                go_wp2_with fail
                refine (hf _ _ _).mono ?_
                rintro e wz ⟨rfl, rfl⟩
                rw [hT]
                go_wp2
                go_roundw
                case rel => exact ⟨a, b, out, (gs_next Ga.out Na.out haq), (by rw [Zb.out]; exact gs_void _), HO.out.drew.drew.drew.drew, HBL.out.drew.drew.drew.drew, HM3.out⟩
                case measure => simp [lenS]; try omega
            · skip
              cases hT : f true true with
              | true =>
                have HM2 : out ++ ((if f true true = true then [x] else []) ++ mg f a b) = mg f A B := by rw [← HM.out, mg, if_neg hl, if_neg hl2]
                rw [hT] at HM2
                have HM3 := Lib.hid HM2
                clear HM2 HM hcmp
                go_wp2_with fail
                go_region
                go_wp2_with fail
                go_region
                go_wp2_with fail
                go_region
                go_wp2_with fail
                go_region
                go_wp2_with fail
                refine (hf _ _ _).mono ?_
                rintro e wz ⟨rfl, rfl⟩
                rw [hT]
                go_wp2_with (at_builtin; refine wpList_gapp1 (P := Tryz.prog) e16 wr.drew.drew.drew.drew rfl _ _ _ rfl w.heap.size sli16 inf16 _ out rfl ?_ _ x ?_ ?_ ?_ ?_ ?_; (exact HO.out.drew.drew.drew.drew); (rw [HY.out]; rfl); rfl; omega; exact HBL.out.size; intro v2 w2 o2 g2 _; have O2 := Lib.hid o2; have G2 := Lib.hid g2; have B2 := Lib.hid (Below.grown HBL.out.drew.drew.drew.drew g2 HBL.out.size (fun j hj => (HO.out.lt j hj).1)); clear o2 g2)
                go_roundw
                case rel => exact ⟨a, b, out ++ [x], Gs.grown (by exact (gs_next Ga.out Na.out haq)) G2.out HBL.out.size (fun j hj => .inr (HO.out.lt j hj).1), Gs.grown (by exact (gs_next Gb.out Nb.out hbq)) G2.out HBL.out.size (fun j hj => .inr (HO.out.lt j hj).1), O2.out, B2.out, by rw [List.append_assoc]; exact HM3.out⟩
                case measure => simp [lenS]; try omega
              | false =>
                have HM2 : out ++ ((if f true true = true then [x] else []) ++ mg f a b) = mg f A B := by rw [← HM.out, mg, if_neg hl, if_neg hl2]
                rw [hT] at HM2
                have HM3 := Lib.hid HM2
                clear HM2 HM hcmp
                go_wp2_with fail
                go_region
                go_wp2_with fail
                go_region
                go_wp2_with fail
                go_region
                go_wp2_with fail
                go_region
                go_wp2_with fail
                refine (hf _ _ _).mono ?_
                rintro e wz ⟨rfl, rfl⟩
                rw [hT]
                go_wp2
                go_roundw
                case rel => exact ⟨a, b, out, (gs_next Ga.out Na.out haq), (gs_next Gb.out Nb.out hbq), HO.out.drew.drew.drew.drew, HBL.out.drew.drew.drew.drew, HM3.out⟩
                case measure => simp [lenS]; try omega
        · have hl : ¬ x.toNat < y.toNat := by have := HX.out; have := HY.out; omega
          have hl2 : y.toNat < x.toNat := by have := HX.out; have := HY.out; omega
          have c1 : decide (X ≤ Y) = false := decide_eq_false (by omega)
          have c2 : decide (Y ≤ X) = true := decide_eq_true (by omega)
          by_cases hbq : cb = 1
          · subst hbq
            obtain rfl : nb = 1 := by omega
            have zb : b = [] := by have := Nb.out; simp at this; exact this
            have Zb := Lib.hid zb
            clear zb
            cases hT : f false true with
            | true =>
              have HM2 : out ++ ((if f false true = true then [y] else []) ++ mg f (x :: a) b) = mg f A B := by rw [← HM.out, mg, if_neg hl, if_pos hl2]
              rw [hT] at HM2
              have HM3 := Lib.hid HM2
              clear HM2 HM hcmp
              go_wp2_with fail
              go_region
              go_wp2_with fail
              go_region
              go_wp2_with fail
              go_region
              go_wp2_with fail
              refine (hf _ _ _).mono ?_
              rintro e wz ⟨rfl, rfl⟩
              rw [hT]
              go_wp2_with (at_builtin; refine wpList_gapp1 (P := Tryz.prog) e16 wr.drew.drew.drew rfl _ _ _ rfl w.heap.size sli16 inf16 _ out rfl ?_ _ y ?_ ?_ ?_ ?_ ?_; (exact HO.out.drew.drew.drew); (rw [HY.out]; rfl); rfl; omega; exact HBL.out.size; intro v2 w2 o2 g2 _; have O2 := Lib.hid o2; have G2 := Lib.hid g2; have B2 := Lib.hid (Below.grown HBL.out.drew.drew.drew g2 HBL.out.size (fun j hj => (HO.out.lt j hj).1)); clear o2 g2)
              go_roundw
              case rel => exact ⟨(x :: a), b, out ++ [y], Gs.grown (by exact Ga.out) G2.out HBL.out.size (fun j hj => .inr (HO.out.lt j hj).1), Gs.grown (by exact (by rw [Zb.out]; exact gs_void _)) G2.out HBL.out.size (fun j hj => .inr (HO.out.lt j hj).1), O2.out, B2.out, by rw [List.append_assoc]; exact HM3.out⟩
              case measure => simp [lenS]; try omega
            | false =>
              have HM2 : out ++ ((if f false true = true then [y] else []) ++ mg f (x :: a) b) = mg f A B := by rw [← HM.out, mg, if_neg hl, if_pos hl2]
              rw [hT] at HM2
              have HM3 := Lib.hid HM2
              clear HM2 HM hcmp
              go_wp2_with fail
              go_region
              go_wp2_with fail
              go_region
              go_wp2_with fail
              go_region
              go_wp2_with fail
              refine (hf _ _ _).mono ?_
              rintro e wz ⟨rfl, rfl⟩
              rw [hT]
              go_wp2
              go_roundw
              case rel => exact ⟨(x :: a), b, out, Ga.out, (by rw [Zb.out]; exact gs_void _), HO.out.drew.drew.drew, HBL.out.drew.drew.drew, HM3.out⟩
              case measure => simp [lenS]; try omega
          · skip
            cases hT : f false true with
            | true =>
              have HM2 : out ++ ((if f false true = true then [y] else []) ++ mg f (x :: a) b) = mg f A B := by rw [← HM.out, mg, if_neg hl, if_pos hl2]
              rw [hT] at HM2
              have HM3 := Lib.hid HM2
              clear HM2 HM hcmp
              go_wp2_with fail
              go_region
              go_wp2_with fail
              go_region
              go_wp2_with fail
              go_region
              go_wp2_with fail
              refine (hf _ _ _).mono ?_
              rintro e wz ⟨rfl, rfl⟩
              rw [hT]
              go_wp2_with (at_builtin; refine wpList_gapp1 (P := Tryz.prog) e16 wr.drew.drew.drew rfl _ _ _ rfl w.heap.size sli16 inf16 _ out rfl ?_ _ y ?_ ?_ ?_ ?_ ?_; (exact HO.out.drew.drew.drew); (rw [HY.out]; rfl); rfl; omega; exact HBL.out.size; intro v2 w2 o2 g2 _; have O2 := Lib.hid o2; have G2 := Lib.hid g2; have B2 := Lib.hid (Below.grown HBL.out.drew.drew.drew g2 HBL.out.size (fun j hj => (HO.out.lt j hj).1)); clear o2 g2)
              go_roundw
              case rel => exact ⟨(x :: a), b, out ++ [y], Gs.grown (by exact Ga.out) G2.out HBL.out.size (fun j hj => .inr (HO.out.lt j hj).1), Gs.grown (by exact (gs_next Gb.out Nb.out hbq)) G2.out HBL.out.size (fun j hj => .inr (HO.out.lt j hj).1), O2.out, B2.out, by rw [List.append_assoc]; exact HM3.out⟩
              case measure => simp [lenS]; try omega
            | false =>
              have HM2 : out ++ ((if f false true = true then [y] else []) ++ mg f (x :: a) b) = mg f A B := by rw [← HM.out, mg, if_neg hl, if_pos hl2]
              rw [hT] at HM2
              have HM3 := Lib.hid HM2
              clear HM2 HM hcmp
              go_wp2_with fail
              go_region
              go_wp2_with fail
              go_region
              go_wp2_with fail
              go_region
              go_wp2_with fail
              refine (hf _ _ _).mono ?_
              rintro e wz ⟨rfl, rfl⟩
              rw [hT]
              go_wp2
              go_roundw
              case rel => exact ⟨(x :: a), b, out, Ga.out, (gs_next Gb.out Nb.out hbq), HO.out.drew.drew.drew, HBL.out.drew.drew.drew, HM3.out⟩
              case measure => simp [lenS]; try omega
end Go.Proofs.YtponcpneflhpfaaGreatDoor
namespace Go.Proofs.YtponcpneflhpfaaGreatDoor
open Go.RowKit
set_option linter.unusedVariables false

theorem xor_says (p q : Bool) (W : World) : Calls Tryz.prog 225 #[.bool p, .bool q] W fun e w' => e = .returned (.bool (fXor p q)) ∧ w' = W := by
  cases p <;> cases q <;>
  · go_enter Tryz.func225, Tryz.ntmps225
    go_wp2
    go_ret
    exact ⟨rfl, rfl⟩
theorem xor_any (v u : Value) (A B : List UInt16) (lo : Nat) (w : World) (hv : Gs e16 w lo w.heap.size v A) (hu : Gs e16 w lo w.heap.size u B) (hA : A.length ≤ 1000000) (hB : B.length ≤ 1000000) :
    Calls Tryz.prog 153 #[v, u] w fun e w' => ∃ v', e = .returned v' ∧ Gw e16 w' w.heap.size v' (mg fXor A B) ∧ Below w.heap.size w w' := by
  have T := Lib.hid (taken_any 225 (enters_of Tryz.func225 (by kernel_rfl) rfl) fXor xor_says v u A B lo w hv hu hA hB)
  clear hv hu
  go_enter Tryz.func153, Tryz.ntmps153
  go_wp2_with (go_at_call 212; refine T.out.mono ?_; rintro e w1 ⟨v1, rfl, o1, b1⟩; have O1 := Lib.hid o1; have B1 := Lib.hid b1; clear o1 b1)
  go_ret
  exact ⟨_, rfl, O1.out, B1.out⟩
end Go.Proofs.YtponcpneflhpfaaGreatDoor
