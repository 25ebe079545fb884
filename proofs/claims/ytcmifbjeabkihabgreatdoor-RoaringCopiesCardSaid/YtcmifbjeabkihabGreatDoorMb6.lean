/- Walks: And, Or, Xor, AndNot of arrays (cut from stages 4 to 6) -/
import Derived.Test.YtcmifbjeabkihabGreatDoorMb5
import Derived.Test.YtcmifbjeabkihabGreatDoorMa8
import Derived.Shelf.Abstract
/- The document's words of marks, marks flipped; whether two rows of words are the same (cut from stages 4 to 6) -/
namespace Go.Proofs.YtcmifbjeabkihabGreatDoor
open Go.RowKit
set_option linter.unusedVariables false

theorem add_or (z s : Nat) (hz : z < 2 ^ s) : z + 2 ^ s = z ||| 2 ^ s := by
  apply Nat.eq_of_testBit_eq
  intro t
  have e : z + 2 ^ s = 2 ^ s * 1 + z := by omega
  rw [e, Nat.testBit_two_pow_mul_add _ hz, Nat.testBit_or, Nat.testBit_two_pow]
  by_cases h : t < s
  · have : ¬ s = t := by omega
    simp [h, this]
  · have hp : 2 ^ s ≤ 2 ^ t := Nat.pow_le_pow_right (by omega) (by omega)
    rw [if_neg h, Nat.testBit_lt_two_pow (Nat.lt_of_lt_of_le hz hp), Bool.false_or]
    show (2 ^ 0).testBit (t - s) = _
    rw [Nat.testBit_two_pow]
    exact decide_eq_decide.2 (by omega)
theorem lt_bits {z s : Nat} (h : ∀ j, s ≤ j → z.testBit j = false) : z < 2 ^ s := Nat.lt_pow_two_of_testBit z h
/-- The marks below k. -/
def pq (p : Nat → Bool) (k x : Nat) : Bool := decide (x < k) && p x
theorem pq_none (p : Nat → Bool) : wm (fun _ => false) = wm (pq p 0) := wm_ext fun x hx => by simp [pq]
theorem pq_all (p : Nat → Bool) : wm (pq p 65536) = wm p := wm_ext fun x hx => by unfold pq; rw [decide_eq_true hx, Bool.true_and]
theorem pq_skip {p : Nat → Bool} {k : Nat} (h : p k = false) : wm (pq p (k + 1)) = wm (pq p k) := wm_ext fun x hx => by
  unfold pq
  by_cases he : x = k
  · subst he; rw [h]; simp
  · congr 1
    exact decide_eq_decide.2 (by omega)
theorem word_add (p : Nat → Bool) (k z : Nat) (hk : k < 65536) (h : p k = true) (hz : z = ((wm (pq p k)).getD (k / 64) 0).toNat) :
    IntKind.u64.wrap ((z : Int) + IntKind.u64.wrap (2 ^ (k % 64))) = ((z + 2 ^ (k % 64) : Nat) : Int) ∧ z + 2 ^ (k % 64) < 18446744073709551616 ∧
    ∀ x, x < 65536 → pq p (k + 1) x = if x / 64 = k / 64 then (z + 2 ^ (k % 64)).testBit (x % 64) else pq p k x := by
  have hb : ∀ j, z.testBit j = (decide (j < 64) && pq p k (64 * (k / 64) + j)) := by
    intro j
    rw [hz, wm_word _ _ (by omega), wn_bit]
  have hlt : z < 2 ^ (k % 64) := lt_bits fun j hj => by
    rw [hb j]
    unfold pq
    rw [decide_eq_false (show ¬ 64 * (k / 64) + j < k by omega), Bool.false_and, Bool.and_false]
  have h1 : 2 ^ (k % 64) ≤ 2 ^ 63 := Nat.pow_le_pow_right (by omega) (by omega)
  have hs : z + 2 ^ (k % 64) < 18446744073709551616 := by omega
  refine ⟨?_, hs, fun x hx => ?_⟩
  · have e : ((2 : Int) ^ (k % 64)) = ((2 ^ (k % 64) : Nat) : Int) := by push_cast; rfl
    rw [e, wrap_nat _ (two_lt _ (by omega)), ← Int.natCast_add]
    exact wrap_nat _ hs
  · by_cases he : x / 64 = k / 64
    · have e1 : 64 * (k / 64) + x % 64 = x := by omega
      rw [if_pos he, add_or _ _ hlt, Nat.testBit_or, hb, decide_eq_true (show x % 64 < 64 by omega), Bool.true_and, e1, Nat.testBit_two_pow]
      unfold pq
      by_cases hxk : x = k
      · subst hxk; rw [h]; simp
      · have h2 : ¬ k % 64 = x % 64 := by omega
        have h3 : x < k + 1 ↔ x < k := by omega
        simp [h2, h3]
    · rw [if_neg he]
      unfold pq
      congr 1
      exact decide_eq_decide.2 (by omega)
/-- Where marks are flipped. -/
def qf (lo hi : Int) (x : Nat) : Bool := decide (lo ≤ (x : Int)) && decide ((x : Int) < hi)
/-- The word at a place. -/
def at64 (l : List UInt64) (k : Nat) : UInt64 := l.getD k 0
theorem at64_get {l : List UInt64} {k : Nat} (h : k < l.length) : l[k]? = some (at64 l k) := by rw [List.getElem?_eq_getElem h]; simp [at64, List.getD, h]
theorem take_succ64 {l m : List UInt64} {k : Nat} (hl : k < l.length) (hm : k < m.length) (h : l.take k = m.take k) (he : at64 l k = at64 m k) : l.take (k + 1) = m.take (k + 1) := by
  rw [List.take_add_one, List.take_add_one, h, at64_get hl, at64_get hm, he]
end Go.Proofs.YtcmifbjeabkihabGreatDoor
/- Walks: two rows of numbers side by side (cut from stages 4 to 6) -/
namespace Go.Proofs.YtcmifbjeabkihabGreatDoor
open Go.RowKit
set_option linter.unusedVariables false

def lenS : Value → Nat
  | .slice _ n _ => n
  | _ => 0
theorem gs_next {w : World} {lo hi bb o n c : Nat} {y : UInt16} {b : List UInt16} (h : Gs e16 w lo hi (.slice (some ⟨bb, o, none⟩) n c) (y :: b)) (hn : n = (y :: b).length) (hc : c ≠ 1) : Gs e16 w lo hi (.slice (some ⟨bb, o + 1, none⟩) (n - 1) (c - 1)) b := by
  subst hn
  exact h.tail (p := 1) (by simp) hc
theorem gs_void {w : World} {lo hi : Nat} (A : Option Addr) : Gs e16 w lo hi (.slice A 0 0) [] := ⟨A, 0, rfl, fun _ => rfl, Nat.le_refl _, Nat.zero_le _, fun h => absurd rfl h⟩
set_option maxHeartbeats 4000000 in
theorem taken_any (fn : FuncId) (hE : Enters Tryz.prog fn) (f : Bool → Bool → Bool) (hf : ∀ (p q : Bool) (W : World), Calls Tryz.prog fn #[.bool p, .bool q] W fun e w' => e = .returned (.bool (f p q)) ∧ w' = W)
    (v u : Value) (A B : List UInt16) (lo : Nat) (w : World) (hv : Gs e16 w lo w.heap.size v A) (hu : Gs e16 w lo w.heap.size u B) (hA : A.length ≤ 1000000) (hB : B.length ≤ 1000000) :
    Calls Tryz.prog 116 #[v, u, .func (.func fn) #[] #[]] w fun e w' => ∃ v', e = .returned v' ∧ Gw e16 w' w.heap.size v' (mg f A B) ∧ Below w.heap.size w w' := by
  have HE := hE
  unfold Enters at HE
  have HV := Lib.hid hv
  have HU := Lib.hid hu
  clear hv hu hE
  go_enter Tryz.func116, Tryz.ntmps116
  go_wp2
  go_loopw [0, 1, 7] (fun s0 s1 s7 wr => ∃ a b out : List UInt16, Gs e16 wr lo w.heap.size s0 a ∧ Gs e16 wr lo w.heap.size s1 b ∧ Gw e16 wr w.heap.size s7 out ∧ Below w.heap.size w wr ∧ out ++ mg f a b = mg f A B) (fun s0 s1 s7 _ => lenS s0 + lenS s1)
  case atStart => exact ⟨A, B, [], HV.out, HU.out, Gw.nil_ _ _, Below.refl _ _, rfl⟩
  case round =>
    obtain ⟨a, b, out, ga, gb, ho, hbel, hm⟩ := hrel
    have HO := Lib.hid ho
    have HBL := Lib.hid hbel
    have HM := Lib.hid hm
    have hol : out.length ≤ 2000000 := by have := mg_le f A B; rw [← hm, List.length_append] at this; omega
    cases a with
    | nil =>
      cases b with
      | nil =>
        obtain ⟨A1, c1, rfl, -⟩ := ga
        obtain ⟨A2, c2, rfl, -⟩ := gb
        obtain ⟨A5, c5, rfl, -⟩ := ho.sl
        clear ho hbel hm hol
        go_wp2
        go_ret
        exact ⟨_, rfl, by have := HM.out; rw [mg, List.append_nil] at this; rw [← this]; exact HO.out, HBL.out⟩
      | cons y b =>
        have Ea := Lib.hid ga
        obtain ⟨Aa, ca, rfl, -⟩ := ga
        obtain ⟨bb, ob, cb, rfl, hb1, hb2, -, -, hbc⟩ := gb.form (by simp)
        have kb := hbc 0 y rfl
        simp only [e16, b16, Nat.add_zero] at kb
        obtain ⟨Y, hY⟩ : ∃ z : Int, z = (y.toNat : Int) := ⟨_, rfl⟩
        rw [← hY] at kb
        have HY := Lib.hid hY
        have hmb : cb ≤ 9223372036854775807 := by unfold maxLen at hb2; omega
        obtain ⟨nb, hnb⟩ : ∃ n, n = (y :: b).length := ⟨_, rfl⟩
        rw [← hnb] at hb1 gb ⊢
        have hpb : 1 ≤ nb := by rw [hnb]; simp
        have Gb := Lib.hid gb
        have Nb := Lib.hid hnb
        have qb1 : decide ((nb : Int) = 0) = false := decide_eq_false (by omega)
        have qb2 : decide (nb = 0) = false := decide_eq_false (by omega)
        have qb3 : decide ((0 : Int) < nb) = true := decide_eq_true (by omega)
        have qb4 : decide (0 < nb) = true := decide_eq_true (by omega)
        have qb5 : ((nb : Int) == 0) = false := by simp; omega
        have wb : IntKind.i64.wrap ((nb : Int) - 1) = (nb : Int) - 1 := by rw [IntKind.wrap_i64]; omega
        clear hb2 hbc gb hnb hY
        clear hbel hm ho
        by_cases hbq : cb = 1
        · subst hbq
          obtain rfl : nb = 1 := by omega
          have zb : b = [] := by have := Nb.out; simp at this; exact this
          have Zb := Lib.hid zb
          clear zb
          cases hT : f false true with
          | true =>
            have HM2 : out ++ ((if f false true = true then [y] else []) ++ mg f [] b) = mg f A B := by rw [← HM.out, mg]
            rw [hT] at HM2
            have HM3 := Lib.hid HM2
            clear HM2 HM
            go_wp2_with fail
            go_region
            go_wp2_with fail
            go_region
            go_wp2_with fail
            go_region
            go_wp2_with fail
            refine (hf _ _ _).mono ?_
            rintro e wz ⟨rfl, rfl⟩
            rw [hT]
            go_wp2_with (at_builtin; refine wpList_gapp1 (P := Tryz.prog) e16 wr.drew.drew.drew rfl _ _ _ rfl w.heap.size sli16 inf16 _ out rfl ?_ _ y ?_ ?_ ?_ ?_ ?_; (exact HO.out.drew.drew.drew); (rw [HY.out]; rfl); rfl; omega; exact HBL.out.size; intro v2 w2 o2 g2 _; have O2 := Lib.hid o2; have G2 := Lib.hid g2; have B2 := Lib.hid (Below.grown HBL.out.drew.drew.drew g2 HBL.out.size (fun j hj => (HO.out.lt j hj).1)); clear o2 g2)
            go_roundw
            case rel => exact ⟨[], b, out ++ [y], Gs.grown (by exact Ea.out) G2.out HBL.out.size (fun j hj => .inr (HO.out.lt j hj).1), Gs.grown (by exact (by rw [Zb.out]; exact gs_void _)) G2.out HBL.out.size (fun j hj => .inr (HO.out.lt j hj).1), O2.out, B2.out, by rw [List.append_assoc]; exact HM3.out⟩
            case measure => simp [lenS]; try omega
          | false =>
            have HM2 : out ++ ((if f false true = true then [y] else []) ++ mg f [] b) = mg f A B := by rw [← HM.out, mg]
            rw [hT] at HM2
            have HM3 := Lib.hid HM2
            clear HM2 HM
            go_wp2_with fail
            go_region
            go_wp2_with fail
            go_region
            go_wp2_with fail
            go_region
            go_wp2_with fail
            refine (hf _ _ _).mono ?_
            rintro e wz ⟨rfl, rfl⟩
            rw [hT]
            go_wp2
            go_roundw
            case rel => exact ⟨[], b, out, Ea.out, (by rw [Zb.out]; exact gs_void _), HO.out.drew.drew.drew, HBL.out.drew.drew.drew, HM3.out⟩
            case measure => simp [lenS]; try omega
        · skip
          cases hT : f false true with
          | true =>
            have HM2 : out ++ ((if f false true = true then [y] else []) ++ mg f [] b) = mg f A B := by rw [← HM.out, mg]
            rw [hT] at HM2
            have HM3 := Lib.hid HM2
            clear HM2 HM
            go_wp2_with fail
            go_region
            go_wp2_with fail
            go_region
            go_wp2_with fail
            go_region
            go_wp2_with fail
            refine (hf _ _ _).mono ?_
            rintro e wz ⟨rfl, rfl⟩
            rw [hT]
            go_wp2_with (at_builtin; refine wpList_gapp1 (P := Tryz.prog) e16 wr.drew.drew.drew rfl _ _ _ rfl w.heap.size sli16 inf16 _ out rfl ?_ _ y ?_ ?_ ?_ ?_ ?_; (exact HO.out.drew.drew.drew); (rw [HY.out]; rfl); rfl; omega; exact HBL.out.size; intro v2 w2 o2 g2 _; have O2 := Lib.hid o2; have G2 := Lib.hid g2; have B2 := Lib.hid (Below.grown HBL.out.drew.drew.drew g2 HBL.out.size (fun j hj => (HO.out.lt j hj).1)); clear o2 g2)
            go_roundw
            case rel => exact ⟨[], b, out ++ [y], Gs.grown (by exact Ea.out) G2.out HBL.out.size (fun j hj => .inr (HO.out.lt j hj).1), Gs.grown (by exact (gs_next Gb.out Nb.out hbq)) G2.out HBL.out.size (fun j hj => .inr (HO.out.lt j hj).1), O2.out, B2.out, by rw [List.append_assoc]; exact HM3.out⟩
            case measure => simp [lenS]; try omega
          | false =>
            have HM2 : out ++ ((if f false true = true then [y] else []) ++ mg f [] b) = mg f A B := by rw [← HM.out, mg]
            rw [hT] at HM2
            have HM3 := Lib.hid HM2
            clear HM2 HM
            go_wp2_with fail
            go_region
            go_wp2_with fail
            go_region
            go_wp2_with fail
            go_region
            go_wp2_with fail
            refine (hf _ _ _).mono ?_
            rintro e wz ⟨rfl, rfl⟩
            rw [hT]
            go_wp2
            go_roundw
            case rel => exact ⟨[], b, out, Ea.out, (gs_next Gb.out Nb.out hbq), HO.out.drew.drew.drew, HBL.out.drew.drew.drew, HM3.out⟩
            case measure => simp [lenS]; try omega
    | cons x a =>
      cases b with
      | nil =>
        have Eb := Lib.hid gb
        obtain ⟨Ab, cb, rfl, -⟩ := gb
        obtain ⟨ba, oa, ca, rfl, ha1, ha2, -, -, hac⟩ := ga.form (by simp)
        have ka := hac 0 x rfl
        simp only [e16, b16, Nat.add_zero] at ka
        obtain ⟨X, hX⟩ : ∃ z : Int, z = (x.toNat : Int) := ⟨_, rfl⟩
        rw [← hX] at ka
        have HX := Lib.hid hX
        have hma : ca ≤ 9223372036854775807 := by unfold maxLen at ha2; omega
        obtain ⟨na, hna⟩ : ∃ n, n = (x :: a).length := ⟨_, rfl⟩
        rw [← hna] at ha1 ga ⊢
        have hpa : 1 ≤ na := by rw [hna]; simp
        have Ga := Lib.hid ga
        have Na := Lib.hid hna
        have qa1 : decide ((na : Int) = 0) = false := decide_eq_false (by omega)
        have qa2 : decide (na = 0) = false := decide_eq_false (by omega)
        have qa3 : decide ((0 : Int) < na) = true := decide_eq_true (by omega)
        have qa4 : decide (0 < na) = true := decide_eq_true (by omega)
        have qa5 : ((na : Int) == 0) = false := by simp; omega
        have wa : IntKind.i64.wrap ((na : Int) - 1) = (na : Int) - 1 := by rw [IntKind.wrap_i64]; omega
        clear ha2 hac ga hna hX
        clear hbel hm ho
        by_cases haq : ca = 1
        · subst haq
          obtain rfl : na = 1 := by omega
          have za : a = [] := by have := Na.out; simp at this; exact this
          have Za := Lib.hid za
          clear za
          cases hT : f true false with
          | true =>
            have HM2 : out ++ ((if f true false = true then [x] else []) ++ mg f a []) = mg f A B := by rw [← HM.out, mg]
            rw [hT] at HM2
            have HM3 := Lib.hid HM2
            clear HM2 HM
            go_wp2_with fail
            go_region
            go_wp2_with fail
            go_region
            go_wp2_with fail
            go_region
            go_wp2_with fail
            refine (hf _ _ _).mono ?_
            rintro e wz ⟨rfl, rfl⟩
            rw [hT]
            go_wp2_with (at_builtin; refine wpList_gapp1 (P := Tryz.prog) e16 wr.drew.drew.drew rfl _ _ _ rfl w.heap.size sli16 inf16 _ out rfl ?_ _ x ?_ ?_ ?_ ?_ ?_; (exact HO.out.drew.drew.drew); (rw [HX.out]; rfl); rfl; omega; exact HBL.out.size; intro v2 w2 o2 g2 _; have O2 := Lib.hid o2; have G2 := Lib.hid g2; have B2 := Lib.hid (Below.grown HBL.out.drew.drew.drew g2 HBL.out.size (fun j hj => (HO.out.lt j hj).1)); clear o2 g2)
            go_roundw
            case rel => exact ⟨a, [], out ++ [x], Gs.grown (by exact (by rw [Za.out]; exact gs_void _)) G2.out HBL.out.size (fun j hj => .inr (HO.out.lt j hj).1), Gs.grown (by exact Eb.out) G2.out HBL.out.size (fun j hj => .inr (HO.out.lt j hj).1), O2.out, B2.out, by rw [List.append_assoc]; exact HM3.out⟩
            case measure => simp [lenS]; try omega
          | false =>
            have HM2 : out ++ ((if f true false = true then [x] else []) ++ mg f a []) = mg f A B := by rw [← HM.out, mg]
            rw [hT] at HM2
            have HM3 := Lib.hid HM2
            clear HM2 HM
            go_wp2_with fail
            go_region
            go_wp2_with fail
            go_region
            go_wp2_with fail
            go_region
            go_wp2_with fail
            refine (hf _ _ _).mono ?_
            rintro e wz ⟨rfl, rfl⟩
            rw [hT]
            go_wp2
            go_roundw
            case rel => exact ⟨a, [], out, (by rw [Za.out]; exact gs_void _), Eb.out, HO.out.drew.drew.drew, HBL.out.drew.drew.drew, HM3.out⟩
            case measure => simp [lenS]; try omega
        · skip
          cases hT : f true false with
          | true =>
            have HM2 : out ++ ((if f true false = true then [x] else []) ++ mg f a []) = mg f A B := by rw [← HM.out, mg]
            rw [hT] at HM2
            have HM3 := Lib.hid HM2
            clear HM2 HM
            go_wp2_with fail
            go_region
            go_wp2_with fail
            go_region
            go_wp2_with fail
            go_region
            go_wp2_with fail
            refine (hf _ _ _).mono ?_
            rintro e wz ⟨rfl, rfl⟩
            rw [hT]
            go_wp2_with (at_builtin; refine wpList_gapp1 (P := Tryz.prog) e16 wr.drew.drew.drew rfl _ _ _ rfl w.heap.size sli16 inf16 _ out rfl ?_ _ x ?_ ?_ ?_ ?_ ?_; (exact HO.out.drew.drew.drew); (rw [HX.out]; rfl); rfl; omega; exact HBL.out.size; intro v2 w2 o2 g2 _; have O2 := Lib.hid o2; have G2 := Lib.hid g2; have B2 := Lib.hid (Below.grown HBL.out.drew.drew.drew g2 HBL.out.size (fun j hj => (HO.out.lt j hj).1)); clear o2 g2)
            go_roundw
            case rel => exact ⟨a, [], out ++ [x], Gs.grown (by exact (gs_next Ga.out Na.out haq)) G2.out HBL.out.size (fun j hj => .inr (HO.out.lt j hj).1), Gs.grown (by exact Eb.out) G2.out HBL.out.size (fun j hj => .inr (HO.out.lt j hj).1), O2.out, B2.out, by rw [List.append_assoc]; exact HM3.out⟩
            case measure => simp [lenS]; try omega
          | false =>
            have HM2 : out ++ ((if f true false = true then [x] else []) ++ mg f a []) = mg f A B := by rw [← HM.out, mg]
            rw [hT] at HM2
            have HM3 := Lib.hid HM2
            clear HM2 HM
            go_wp2_with fail
            go_region
            go_wp2_with fail
            go_region
            go_wp2_with fail
            go_region
            go_wp2_with fail
            refine (hf _ _ _).mono ?_
            rintro e wz ⟨rfl, rfl⟩
            rw [hT]
            go_wp2
            go_roundw
            case rel => exact ⟨a, [], out, (gs_next Ga.out Na.out haq), Eb.out, HO.out.drew.drew.drew, HBL.out.drew.drew.drew, HM3.out⟩
            case measure => simp [lenS]; try omega
      | cons y b =>
        obtain ⟨ba, oa, ca, rfl, ha1, ha2, -, -, hac⟩ := ga.form (by simp)
        have ka := hac 0 x rfl
        simp only [e16, b16, Nat.add_zero] at ka
        obtain ⟨X, hX⟩ : ∃ z : Int, z = (x.toNat : Int) := ⟨_, rfl⟩
        rw [← hX] at ka
        have HX := Lib.hid hX
        have hma : ca ≤ 9223372036854775807 := by unfold maxLen at ha2; omega
        obtain ⟨na, hna⟩ : ∃ n, n = (x :: a).length := ⟨_, rfl⟩
        rw [← hna] at ha1 ga ⊢
        have hpa : 1 ≤ na := by rw [hna]; simp
        have Ga := Lib.hid ga
        have Na := Lib.hid hna
        have qa1 : decide ((na : Int) = 0) = false := decide_eq_false (by omega)
        have qa2 : decide (na = 0) = false := decide_eq_false (by omega)
        have qa3 : decide ((0 : Int) < na) = true := decide_eq_true (by omega)
        have qa4 : decide (0 < na) = true := decide_eq_true (by omega)
        have qa5 : ((na : Int) == 0) = false := by simp; omega
        have wa : IntKind.i64.wrap ((na : Int) - 1) = (na : Int) - 1 := by rw [IntKind.wrap_i64]; omega
        clear ha2 hac ga hna hX
        obtain ⟨bb, ob, cb, rfl, hb1, hb2, -, -, hbc⟩ := gb.form (by simp)
        have kb := hbc 0 y rfl
        simp only [e16, b16, Nat.add_zero] at kb
        obtain ⟨Y, hY⟩ : ∃ z : Int, z = (y.toNat : Int) := ⟨_, rfl⟩
        rw [← hY] at kb
        have HY := Lib.hid hY
        have hmb : cb ≤ 9223372036854775807 := by unfold maxLen at hb2; omega
        obtain ⟨nb, hnb⟩ : ∃ n, n = (y :: b).length := ⟨_, rfl⟩
        rw [← hnb] at hb1 gb ⊢
        have hpb : 1 ≤ nb := by rw [hnb]; simp
        have Gb := Lib.hid gb
        have Nb := Lib.hid hnb
        have qb1 : decide ((nb : Int) = 0) = false := decide_eq_false (by omega)
        have qb2 : decide (nb = 0) = false := decide_eq_false (by omega)
        have qb3 : decide ((0 : Int) < nb) = true := decide_eq_true (by omega)
        have qb4 : decide (0 < nb) = true := decide_eq_true (by omega)
        have qb5 : ((nb : Int) == 0) = false := by simp; omega
        have wb : IntKind.i64.wrap ((nb : Int) - 1) = (nb : Int) - 1 := by rw [IntKind.wrap_i64]; omega
        clear hb2 hbc gb hnb hY
        clear hbel hm ho
        rcases Int.lt_trichotomy X Y with hcmp | hcmp | hcmp
        · have hl : x.toNat < y.toNat := by have := HX.out; have := HY.out; omega
          have c1 : decide (X ≤ Y) = true := decide_eq_true (by omega)
          have c2 : decide (Y ≤ X) = false := decide_eq_false (by omega)
          by_cases haq : ca = 1
          · subst haq
            obtain rfl : na = 1 := by omega
            have za : a = [] := by have := Na.out; simp at this; exact this
            have Za := Lib.hid za
            clear za
            cases hT : f true false with
            | true =>
              have HM2 : out ++ ((if f true false = true then [x] else []) ++ mg f a (y :: b)) = mg f A B := by rw [← HM.out, mg, if_pos hl]
              rw [hT] at HM2
              have HM3 := Lib.hid HM2
              clear HM2 HM hcmp
              go_wp2_with fail
              go_region
              go_wp2_with fail
              go_region
              go_wp2_with fail
              go_region
              go_wp2_with fail
              refine (hf _ _ _).mono ?_
              rintro e wz ⟨rfl, rfl⟩
              rw [hT]
              go_wp2_with (at_builtin; refine wpList_gapp1 (P := Tryz.prog) e16 wr.drew.drew.drew rfl _ _ _ rfl w.heap.size sli16 inf16 _ out rfl ?_ _ x ?_ ?_ ?_ ?_ ?_; (exact HO.out.drew.drew.drew); (rw [HX.out]; rfl); rfl; omega; exact HBL.out.size; intro v2 w2 o2 g2 _; have O2 := Lib.hid o2; have G2 := Lib.hid g2; have B2 := Lib.hid (Below.grown HBL.out.drew.drew.drew g2 HBL.out.size (fun j hj => (HO.out.lt j hj).1)); clear o2 g2)
              go_roundw
              case rel => exact ⟨a, (y :: b), out ++ [x], Gs.grown (by exact (by rw [Za.out]; exact gs_void _)) G2.out HBL.out.size (fun j hj => .inr (HO.out.lt j hj).1), Gs.grown (by exact Gb.out) G2.out HBL.out.size (fun j hj => .inr (HO.out.lt j hj).1), O2.out, B2.out, by rw [List.append_assoc]; exact HM3.out⟩
              case measure => simp [lenS]; try omega
            | false =>
              have HM2 : out ++ ((if f true false = true then [x] else []) ++ mg f a (y :: b)) = mg f A B := by rw [← HM.out, mg, if_pos hl]
              rw [hT] at HM2
              have HM3 := Lib.hid HM2
              clear HM2 HM hcmp
              go_wp2_with fail
              go_region
              go_wp2_with fail
              go_region
              go_wp2_with fail
              go_region
              go_wp2_with fail
              refine (hf _ _ _).mono ?_
              rintro e wz ⟨rfl, rfl⟩
              rw [hT]
              go_wp2
              go_roundw
              case rel => exact ⟨a, (y :: b), out, (by rw [Za.out]; exact gs_void _), Gb.out, HO.out.drew.drew.drew, HBL.out.drew.drew.drew, HM3.out⟩
              case measure => simp [lenS]; try omega
          · skip
            cases hT : f true false with
            | true =>
              have HM2 : out ++ ((if f true false = true then [x] else []) ++ mg f a (y :: b)) = mg f A B := by rw [← HM.out, mg, if_pos hl]
              rw [hT] at HM2
              have HM3 := Lib.hid HM2
              clear HM2 HM hcmp
              go_wp2_with fail
              go_region
              go_wp2_with fail
              go_region
              go_wp2_with fail
              go_region
              go_wp2_with fail
              refine (hf _ _ _).mono ?_
              rintro e wz ⟨rfl, rfl⟩
              rw [hT]
              go_wp2_with (at_builtin; refine wpList_gapp1 (P := Tryz.prog) e16 wr.drew.drew.drew rfl _ _ _ rfl w.heap.size sli16 inf16 _ out rfl ?_ _ x ?_ ?_ ?_ ?_ ?_; (exact HO.out.drew.drew.drew); (rw [HX.out]; rfl); rfl; omega; exact HBL.out.size; intro v2 w2 o2 g2 _; have O2 := Lib.hid o2; have G2 := Lib.hid g2; have B2 := Lib.hid (Below.grown HBL.out.drew.drew.drew g2 HBL.out.size (fun j hj => (HO.out.lt j hj).1)); clear o2 g2)
              go_roundw
              case rel => exact ⟨a, (y :: b), out ++ [x], Gs.grown (by exact (gs_next Ga.out Na.out haq)) G2.out HBL.out.size (fun j hj => .inr (HO.out.lt j hj).1), Gs.grown (by exact Gb.out) G2.out HBL.out.size (fun j hj => .inr (HO.out.lt j hj).1), O2.out, B2.out, by rw [List.append_assoc]; exact HM3.out⟩
              case measure => simp [lenS]; try omega
            | false =>
              have HM2 : out ++ ((if f true false = true then [x] else []) ++ mg f a (y :: b)) = mg f A B := by rw [← HM.out, mg, if_pos hl]
              rw [hT] at HM2
              have HM3 := Lib.hid HM2
              clear HM2 HM hcmp
              go_wp2_with fail
              go_region
              go_wp2_with fail
              go_region
              go_wp2_with fail
              go_region
              go_wp2_with fail
              refine (hf _ _ _).mono ?_
              rintro e wz ⟨rfl, rfl⟩
              rw [hT]
              go_wp2
              go_roundw
              case rel => exact ⟨a, (y :: b), out, (gs_next Ga.out Na.out haq), Gb.out, HO.out.drew.drew.drew, HBL.out.drew.drew.drew, HM3.out⟩
              case measure => simp [lenS]; try omega
        · obtain rfl : x = y := u16_eq (by have := HX.out; have := HY.out; omega)
          have hl : ¬ x.toNat < x.toNat := by omega
          have hl2 : ¬ x.toNat < x.toNat := by omega
          have c1 : decide (X ≤ Y) = true := decide_eq_true (by omega)
          have c2 : decide (Y ≤ X) = true := decide_eq_true (by omega)
          by_cases haq : ca = 1
          · subst haq
            obtain rfl : na = 1 := by omega
            have za : a = [] := by have := Na.out; simp at this; exact this
            have Za := Lib.hid za
            clear za
            by_cases hbq : cb = 1
            · subst hbq
              obtain rfl : nb = 1 := by omega
              have zb : b = [] := by have := Nb.out; simp at this; exact this
              have Zb := Lib.hid zb
              clear zb
              cases hT : f true true with
              | true =>
                have HM2 : out ++ ((if f true true = true then [x] else []) ++ mg f a b) = mg f A B := by rw [← HM.out, mg, if_neg hl, if_neg hl2]
                rw [hT] at HM2
                have HM3 := Lib.hid HM2
                clear HM2 HM hcmp
                go_wp2_with fail
                go_region
                go_wp2_with fail
                go_region
                go_wp2_with fail
                go_region
                go_wp2_with fail
                go_region
                go_wp2_with fail
                refine (hf _ _ _).mono ?_
                rintro e wz ⟨rfl, rfl⟩
                rw [hT]
                go_wp2_with (at_builtin; refine wpList_gapp1 (P := Tryz.prog) e16 wr.drew.drew.drew.drew rfl _ _ _ rfl w.heap.size sli16 inf16 _ out rfl ?_ _ x ?_ ?_ ?_ ?_ ?_; (exact HO.out.drew.drew.drew.drew); (rw [HY.out]; rfl); rfl; omega; exact HBL.out.size; intro v2 w2 o2 g2 _; have O2 := Lib.hid o2; have G2 := Lib.hid g2; have B2 := Lib.hid (Below.grown HBL.out.drew.drew.drew.drew g2 HBL.out.size (fun j hj => (HO.out.lt j hj).1)); clear o2 g2)
                go_roundw
                case rel => exact ⟨a, b, out ++ [x], Gs.grown (by exact (by rw [Za.out]; exact gs_void _)) G2.out HBL.out.size (fun j hj => .inr (HO.out.lt j hj).1), Gs.grown (by exact (by rw [Zb.out]; exact gs_void _)) G2.out HBL.out.size (fun j hj => .inr (HO.out.lt j hj).1), O2.out, B2.out, by rw [List.append_assoc]; exact HM3.out⟩
                case measure => simp [lenS]; try omega
              | false =>
                have HM2 : out ++ ((if f true true = true then [x] else []) ++ mg f a b) = mg f A B := by rw [← HM.out, mg, if_neg hl, if_neg hl2]
                rw [hT] at HM2
                have HM3 := Lib.hid HM2
                clear HM2 HM hcmp
                go_wp2_with fail
                go_region
                go_wp2_with fail
                go_region
                go_wp2_with fail
                go_region
                go_wp2_with fail
                go_region
                go_wp2_with fail
                refine (hf _ _ _).mono ?_
                rintro e wz ⟨rfl, rfl⟩
                rw [hT]
                go_wp2
                go_roundw
                case rel => exact ⟨a, b, out, (by rw [Za.out]; exact gs_void _), (by rw [Zb.out]; exact gs_void _), HO.out.drew.drew.drew.drew, HBL.out.drew.drew.drew.drew, HM3.out⟩
                case measure => simp [lenS]; try omega
            · skip
              cases hT : f true true with
              | true =>
                have HM2 : out ++ ((if f true true = true then [x] else []) ++ mg f a b) = mg f A B := by rw [← HM.out, mg, if_neg hl, if_neg hl2]
                rw [hT] at HM2
                have HM3 := Lib.hid HM2
                clear HM2 HM hcmp
                go_wp2_with fail
                go_region
                go_wp2_with fail
                go_region
                go_wp2_with fail
                go_region
                go_wp2_with fail
                go_region
                go_wp2_with fail
                refine (hf _ _ _).mono ?_
                rintro e wz ⟨rfl, rfl⟩
                rw [hT]
                go_wp2_with (at_builtin; refine wpList_gapp1 (P := Tryz.prog) e16 wr.drew.drew.drew.drew rfl _ _ _ rfl w.heap.size sli16 inf16 _ out rfl ?_ _ x ?_ ?_ ?_ ?_ ?_; (exact HO.out.drew.drew.drew.drew); (rw [HY.out]; rfl); rfl; omega; exact HBL.out.size; intro v2 w2 o2 g2 _; have O2 := Lib.hid o2; have G2 := Lib.hid g2; have B2 := Lib.hid (Below.grown HBL.out.drew.drew.drew.drew g2 HBL.out.size (fun j hj => (HO.out.lt j hj).1)); clear o2 g2)
                go_roundw
                case rel => exact ⟨a, b, out ++ [x], Gs.grown (by exact (by rw [Za.out]; exact gs_void _)) G2.out HBL.out.size (fun j hj => .inr (HO.out.lt j hj).1), Gs.grown (by exact (gs_next Gb.out Nb.out hbq)) G2.out HBL.out.size (fun j hj => .inr (HO.out.lt j hj).1), O2.out, B2.out, by rw [List.append_assoc]; exact HM3.out⟩
                case measure => simp [lenS]; try omega
              | false =>
                have HM2 : out ++ ((if f true true = true then [x] else []) ++ mg f a b) = mg f A B := by rw [← HM.out, mg, if_neg hl, if_neg hl2]
                rw [hT] at HM2
                have HM3 := Lib.hid HM2
                clear HM2 HM hcmp
                go_wp2_with fail
                go_region
                go_wp2_with fail
                go_region
                go_wp2_with fail
                go_region
                go_wp2_with fail
                go_region
                go_wp2_with fail
                refine (hf _ _ _).mono ?_
                rintro e wz ⟨rfl, rfl⟩
                rw [hT]
                go_wp2
                go_roundw
                case rel => exact ⟨a, b, out, (by rw [Za.out]; exact gs_void _), (gs_next Gb.out Nb.out hbq), HO.out.drew.drew.drew.drew, HBL.out.drew.drew.drew.drew, HM3.out⟩
                case measure => simp [lenS]; try omega
          · skip
            by_cases hbq : cb = 1
            · subst hbq
              obtain rfl : nb = 1 := by omega
              have zb : b = [] := by have := Nb.out; simp at this; exact this
              have Zb := Lib.hid zb
              clear zb
              cases hT : f true true with
              | true =>
                have HM2 : out ++ ((if f true true = true then [x] else []) ++ mg f a b) = mg f A B := by rw [← HM.out, mg, if_neg hl, if_neg hl2]
                rw [hT] at HM2
                have HM3 := Lib.hid HM2
                clear HM2 HM hcmp
                go_wp2_with fail
                go_region
                go_wp2_with fail
                go_region
                go_wp2_with fail
                go_region
                go_wp2_with fail
                go_region
                go_wp2_with fail
                refine (hf _ _ _).mono ?_
                rintro e wz ⟨rfl, rfl⟩
                rw [hT]
                go_wp2_with (at_builtin; refine wpList_gapp1 (P := Tryz.prog) e16 wr.drew.drew.drew.drew rfl _ _ _ rfl w.heap.size sli16 inf16 _ out rfl ?_ _ x ?_ ?_ ?_ ?_ ?_; (exact HO.out.drew.drew.drew.drew); (rw [HY.out]; rfl); rfl; omega; exact HBL.out.size; intro v2 w2 o2 g2 _; have O2 := Lib.hid o2; have G2 := Lib.hid g2; have B2 := Lib.hid (Below.grown HBL.out.drew.drew.drew.drew g2 HBL.out.size (fun j hj => (HO.out.lt j hj).1)); clear o2 g2)
                go_roundw
                case rel => exact ⟨a, b, out ++ [x], Gs.grown (by exact (gs_next Ga.out Na.out haq)) G2.out HBL.out.size (fun j hj => .inr (HO.out.lt j hj).1), Gs.grown (by exact (by rw [Zb.out]; exact gs_void _)) G2.out HBL.out.size (fun j hj => .inr (HO.out.lt j hj).1), O2.out, B2.out, by rw [List.append_assoc]; exact HM3.out⟩
                case measure => simp [lenS]; try omega
              | false =>
                have HM2 : out ++ ((if f true true = true then [x] else []) ++ mg f a b) = mg f A B := by rw [← HM.out, mg, if_neg hl, if_neg hl2]
                rw [hT] at HM2
                have HM3 := Lib.hid HM2
                clear HM2 HM hcmp
                go_wp2_with fail
                go_region
                go_wp2_with fail
                go_region
                go_wp2_with fail
                go_region
                go_wp2_with fail
                go_region
                go_wp2_with fail
                refine (hf _ _ _).mono ?_
                rintro e wz ⟨rfl, rfl⟩
                rw [hT]
                go_wp2
                go_roundw
                case rel => exact ⟨a, b, out, (gs_next Ga.out Na.out haq), (by rw [Zb.out]; exact gs_void _), HO.out.drew.drew.drew.drew, HBL.out.drew.drew.drew.drew, HM3.out⟩
                case measure => simp [lenS]; try omega
            · skip
              cases hT : f true true with
              | true =>
                have HM2 : out ++ ((if f true true = true then [x] else []) ++ mg f a b) = mg f A B := by rw [← HM.out, mg, if_neg hl, if_neg hl2]
                rw [hT] at HM2
                have HM3 := Lib.hid HM2
                clear HM2 HM hcmp
                go_wp2_with fail
                go_region
                go_wp2_with fail
                go_region
                go_wp2_with fail
                go_region
                go_wp2_with fail
                go_region
                go_wp2_with fail
                refine (hf _ _ _).mono ?_
                rintro e wz ⟨rfl, rfl⟩
                rw [hT]
                go_wp2_with (at_builtin; refine wpList_gapp1 (P := Tryz.prog) e16 wr.drew.drew.drew.drew rfl _ _ _ rfl w.heap.size sli16 inf16 _ out rfl ?_ _ x ?_ ?_ ?_ ?_ ?_; (exact HO.out.drew.drew.drew.drew); (rw [HY.out]; rfl); rfl; omega; exact HBL.out.size; intro v2 w2 o2 g2 _; have O2 := Lib.hid o2; have G2 := Lib.hid g2; have B2 := Lib.hid (Below.grown HBL.out.drew.drew.drew.drew g2 HBL.out.size (fun j hj => (HO.out.lt j hj).1)); clear o2 g2)
                go_roundw
                case rel => exact ⟨a, b, out ++ [x], Gs.grown (by exact (gs_next Ga.out Na.out haq)) G2.out HBL.out.size (fun j hj => .inr (HO.out.lt j hj).1), Gs.grown (by exact (gs_next Gb.out Nb.out hbq)) G2.out HBL.out.size (fun j hj => .inr (HO.out.lt j hj).1), O2.out, B2.out, by rw [List.append_assoc]; exact HM3.out⟩
                case measure => simp [lenS]; try omega
              | false =>
                have HM2 : out ++ ((if f true true = true then [x] else []) ++ mg f a b) = mg f A B := by rw [← HM.out, mg, if_neg hl, if_neg hl2]
                rw [hT] at HM2
                have HM3 := Lib.hid HM2
                clear HM2 HM hcmp
                go_wp2_with fail
                go_region
                go_wp2_with fail
                go_region
                go_wp2_with fail
                go_region
                go_wp2_with fail
                go_region
                go_wp2_with fail
                refine (hf _ _ _).mono ?_
                rintro e wz ⟨rfl, rfl⟩
                rw [hT]
                go_wp2
                go_roundw
                case rel => exact ⟨a, b, out, (gs_next Ga.out Na.out haq), (gs_next Gb.out Nb.out hbq), HO.out.drew.drew.drew.drew, HBL.out.drew.drew.drew.drew, HM3.out⟩
                case measure => simp [lenS]; try omega
        · have hl : ¬ x.toNat < y.toNat := by have := HX.out; have := HY.out; omega
          have hl2 : y.toNat < x.toNat := by have := HX.out; have := HY.out; omega
          have c1 : decide (X ≤ Y) = false := decide_eq_false (by omega)
          have c2 : decide (Y ≤ X) = true := decide_eq_true (by omega)
          by_cases hbq : cb = 1
          · subst hbq
            obtain rfl : nb = 1 := by omega
            have zb : b = [] := by have := Nb.out; simp at this; exact this
            have Zb := Lib.hid zb
            clear zb
            cases hT : f false true with
            | true =>
              have HM2 : out ++ ((if f false true = true then [y] else []) ++ mg f (x :: a) b) = mg f A B := by rw [← HM.out, mg, if_neg hl, if_pos hl2]
              rw [hT] at HM2
              have HM3 := Lib.hid HM2
              clear HM2 HM hcmp
              go_wp2_with fail
              go_region
              go_wp2_with fail
              go_region
              go_wp2_with fail
              go_region
              go_wp2_with fail
              refine (hf _ _ _).mono ?_
              rintro e wz ⟨rfl, rfl⟩
              rw [hT]
              go_wp2_with (at_builtin; refine wpList_gapp1 (P := Tryz.prog) e16 wr.drew.drew.drew rfl _ _ _ rfl w.heap.size sli16 inf16 _ out rfl ?_ _ y ?_ ?_ ?_ ?_ ?_; (exact HO.out.drew.drew.drew); (rw [HY.out]; rfl); rfl; omega; exact HBL.out.size; intro v2 w2 o2 g2 _; have O2 := Lib.hid o2; have G2 := Lib.hid g2; have B2 := Lib.hid (Below.grown HBL.out.drew.drew.drew g2 HBL.out.size (fun j hj => (HO.out.lt j hj).1)); clear o2 g2)
              go_roundw
              case rel => exact ⟨(x :: a), b, out ++ [y], Gs.grown (by exact Ga.out) G2.out HBL.out.size (fun j hj => .inr (HO.out.lt j hj).1), Gs.grown (by exact (by rw [Zb.out]; exact gs_void _)) G2.out HBL.out.size (fun j hj => .inr (HO.out.lt j hj).1), O2.out, B2.out, by rw [List.append_assoc]; exact HM3.out⟩
              case measure => simp [lenS]; try omega
            | false =>
              have HM2 : out ++ ((if f false true = true then [y] else []) ++ mg f (x :: a) b) = mg f A B := by rw [← HM.out, mg, if_neg hl, if_pos hl2]
              rw [hT] at HM2
              have HM3 := Lib.hid HM2
              clear HM2 HM hcmp
              go_wp2_with fail
              go_region
              go_wp2_with fail
              go_region
              go_wp2_with fail
              go_region
              go_wp2_with fail
              refine (hf _ _ _).mono ?_
              rintro e wz ⟨rfl, rfl⟩
              rw [hT]
              go_wp2
              go_roundw
              case rel => exact ⟨(x :: a), b, out, Ga.out, (by rw [Zb.out]; exact gs_void _), HO.out.drew.drew.drew, HBL.out.drew.drew.drew, HM3.out⟩
              case measure => simp [lenS]; try omega
          · skip
            cases hT : f false true with
            | true =>
              have HM2 : out ++ ((if f false true = true then [y] else []) ++ mg f (x :: a) b) = mg f A B := by rw [← HM.out, mg, if_neg hl, if_pos hl2]
              rw [hT] at HM2
              have HM3 := Lib.hid HM2
              clear HM2 HM hcmp
              go_wp2_with fail
              go_region
              go_wp2_with fail
              go_region
              go_wp2_with fail
              go_region
              go_wp2_with fail
              refine (hf _ _ _).mono ?_
              rintro e wz ⟨rfl, rfl⟩
              rw [hT]
              go_wp2_with (at_builtin; refine wpList_gapp1 (P := Tryz.prog) e16 wr.drew.drew.drew rfl _ _ _ rfl w.heap.size sli16 inf16 _ out rfl ?_ _ y ?_ ?_ ?_ ?_ ?_; (exact HO.out.drew.drew.drew); (rw [HY.out]; rfl); rfl; omega; exact HBL.out.size; intro v2 w2 o2 g2 _; have O2 := Lib.hid o2; have G2 := Lib.hid g2; have B2 := Lib.hid (Below.grown HBL.out.drew.drew.drew g2 HBL.out.size (fun j hj => (HO.out.lt j hj).1)); clear o2 g2)
              go_roundw
              case rel => exact ⟨(x :: a), b, out ++ [y], Gs.grown (by exact Ga.out) G2.out HBL.out.size (fun j hj => .inr (HO.out.lt j hj).1), Gs.grown (by exact (gs_next Gb.out Nb.out hbq)) G2.out HBL.out.size (fun j hj => .inr (HO.out.lt j hj).1), O2.out, B2.out, by rw [List.append_assoc]; exact HM3.out⟩
              case measure => simp [lenS]; try omega
            | false =>
              have HM2 : out ++ ((if f false true = true then [y] else []) ++ mg f (x :: a) b) = mg f A B := by rw [← HM.out, mg, if_neg hl, if_pos hl2]
              rw [hT] at HM2
              have HM3 := Lib.hid HM2
              clear HM2 HM hcmp
              go_wp2_with fail
              go_region
              go_wp2_with fail
              go_region
              go_wp2_with fail
              go_region
              go_wp2_with fail
              refine (hf _ _ _).mono ?_
              rintro e wz ⟨rfl, rfl⟩
              rw [hT]
              go_wp2
              go_roundw
              case rel => exact ⟨(x :: a), b, out, Ga.out, (gs_next Gb.out Nb.out hbq), HO.out.drew.drew.drew, HBL.out.drew.drew.drew, HM3.out⟩
              case measure => simp [lenS]; try omega
end Go.Proofs.YtcmifbjeabkihabGreatDoor
namespace Go.Proofs.YtcmifbjeabkihabGreatDoor
open Go.RowKit
set_option linter.unusedVariables false

theorem or_says (p q : Bool) (W : World) : Calls Tryz.prog 126 #[.bool p, .bool q] W fun e w' => e = .returned (.bool (fOr p q)) ∧ w' = W := by
  cases p <;> cases q <;>
  · go_enter Tryz.func126, Tryz.ntmps126
    go_wp2
    go_ret
    exact ⟨rfl, rfl⟩
theorem or_any (v u : Value) (A B : List UInt16) (lo : Nat) (w : World) (hv : Gs e16 w lo w.heap.size v A) (hu : Gs e16 w lo w.heap.size u B) (hA : A.length ≤ 1000000) (hB : B.length ≤ 1000000) :
    Calls Tryz.prog 82 #[v, u] w fun e w' => ∃ v', e = .returned v' ∧ Gw e16 w' w.heap.size v' (mg fOr A B) ∧ Below w.heap.size w w' := by
  have T := Lib.hid (taken_any 126 (enters_of Tryz.func126 (by kernel_rfl) rfl) fOr or_says v u A B lo w hv hu hA hB)
  clear hv hu
  go_enter Tryz.func82, Tryz.ntmps82
  go_wp2_with (go_at_call 116; refine T.out.mono ?_; rintro e w1 ⟨v1, rfl, o1, b1⟩; have O1 := Lib.hid o1; have B1 := Lib.hid b1; clear o1 b1)
  go_ret
  exact ⟨_, rfl, O1.out, B1.out⟩
theorem xor_says (p q : Bool) (W : World) : Calls Tryz.prog 153 #[.bool p, .bool q] W fun e w' => e = .returned (.bool (fXor p q)) ∧ w' = W := by
  cases p <;> cases q <;>
  · go_enter Tryz.func153, Tryz.ntmps153
    go_wp2
    go_ret
    exact ⟨rfl, rfl⟩
theorem xor_any (v u : Value) (A B : List UInt16) (lo : Nat) (w : World) (hv : Gs e16 w lo w.heap.size v A) (hu : Gs e16 w lo w.heap.size u B) (hA : A.length ≤ 1000000) (hB : B.length ≤ 1000000) :
    Calls Tryz.prog 105 #[v, u] w fun e w' => ∃ v', e = .returned v' ∧ Gw e16 w' w.heap.size v' (mg fXor A B) ∧ Below w.heap.size w w' := by
  have T := Lib.hid (taken_any 153 (enters_of Tryz.func153 (by kernel_rfl) rfl) fXor xor_says v u A B lo w hv hu hA hB)
  clear hv hu
  go_enter Tryz.func105, Tryz.ntmps105
  go_wp2_with (go_at_call 116; refine T.out.mono ?_; rintro e w1 ⟨v1, rfl, o1, b1⟩; have O1 := Lib.hid o1; have B1 := Lib.hid b1; clear o1 b1)
  go_ret
  exact ⟨_, rfl, O1.out, B1.out⟩
theorem not_says (p q : Bool) (W : World) : Calls Tryz.prog 117 #[.bool p, .bool q] W fun e w' => e = .returned (.bool (fNot p q)) ∧ w' = W := by
  cases p <;> cases q <;>
  · go_enter Tryz.func117, Tryz.ntmps117
    go_wp2
    go_ret
    exact ⟨rfl, rfl⟩
theorem not_any (v u : Value) (A B : List UInt16) (lo : Nat) (w : World) (hv : Gs e16 w lo w.heap.size v A) (hu : Gs e16 w lo w.heap.size u B) (hA : A.length ≤ 1000000) (hB : B.length ≤ 1000000) :
    Calls Tryz.prog 71 #[v, u] w fun e w' => ∃ v', e = .returned v' ∧ Gw e16 w' w.heap.size v' (mg fNot A B) ∧ Below w.heap.size w w' := by
  have T := Lib.hid (taken_any 117 (enters_of Tryz.func117 (by kernel_rfl) rfl) fNot not_says v u A B lo w hv hu hA hB)
  clear hv hu
  go_enter Tryz.func71, Tryz.ntmps71
  go_wp2_with (go_at_call 116; refine T.out.mono ?_; rintro e w1 ⟨v1, rfl, o1, b1⟩; have O1 := Lib.hid o1; have B1 := Lib.hid b1; clear o1 b1)
  go_ret
  exact ⟨_, rfl, O1.out, B1.out⟩
end Go.Proofs.YtcmifbjeabkihabGreatDoor
