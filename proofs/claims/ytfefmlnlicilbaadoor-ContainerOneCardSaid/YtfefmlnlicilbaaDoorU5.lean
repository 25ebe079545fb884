/- Walks: With (cut from stages 4 to 6) -/
import Derived.Test.YtfefmlnlicilbaaDoorU4
import Derived.Deep.RegionWith
namespace Go.Proofs.YtfefmlnlicilbaaDoor
open Go.RowKit
set_option linter.unusedVariables false

set_option maxHeartbeats 1000000 in
/-- The three parts that With joins. -/
theorem join_any (l : List UInt16) (lo : Nat) (X : Int) (x : UInt16) (hx : X = x.toNat) (w : World) (A1 A3 : Option Addr) (n1 c1 n3 c3 : Nat) (l1 l3 : List UInt16) (h1 : Gs e16 w lo w.heap.size (.slice A1 n1 c1) l1) (h3 : Gs e16 w lo w.heap.size (.slice A3 n3 c3) l3)
    (hw : wi l x = l1 ++ x :: l3) (hb : (wi l x).length ≤ 100000000) :
    Calls Tryd.prog 51 #[.slice (some ⟨w.heap.size + 1, 0, none⟩) 3 3] ((w.alloc (.cells #[.int .u16 X] 29)).alloc (.cells #[.slice A1 n1 c1, .slice (some ⟨w.heap.size, 0, none⟩) 1 1, .slice A3 n3 c3] 22)).drew
      fun e w' => ∃ v', e = .returned v' ∧ Gw e16 w' w.heap.size v' (wi l x) ∧ Below w.heap.size w w' := by
  subst hx
  have B0 := (Below.refl w.heap.size w).alloc (Nat.le_refl _) (.cells #[.int .u16 (x.toNat : Int)] 29)
  have B1 := B0.alloc B0.size (.cells #[.slice A1 n1 c1, .slice (some ⟨w.heap.size, 0, none⟩) 1 1, .slice A3 n3 c3] 22)
  have X2 := ((Gw.lit (k := e16) w w.heap.size (Nat.le_refl _) [x] #[.int .u16 (x.toNat : Int)] 1 (by rfl) rfl (by omega)).alloc (.cells #[.slice A1 n1 c1, .slice (some ⟨w.heap.size, 0, none⟩) 1 1, .slice A3 n3 c3] 22)).sl
  have G := (Gw.lit (k := eS) (w.alloc (.cells #[.int .u16 (x.toNat : Int)] 29)) (w.heap.size + 1) (by simp) [(A1, n1, c1), (some ⟨w.heap.size, 0, none⟩, 1, 1), (A3, n3, c3)] #[.slice A1 n1 c1, .slice (some ⟨w.heap.size, 0, none⟩) 1 1, .slice A3 n3 c3] 3 (by rfl) rfl (by omega)).sl
  have hfl : wi l x = [l1, [x], l3].flatten := by rw [hw]; simp
  rw [hfl] at hb ⊢
  have hs1 : (w.alloc (.cells #[.int .u16 (x.toNat : Int)] 29)).heap.size = w.heap.size + 1 := by simp
  rw [hs1] at G
  refine (concat_any _ [(A1, n1, c1), (some ⟨w.heap.size, 0, none⟩, 1, 1), (A3, n3, c3)] [l1, [x], l3] _ _ (by exact G) rfl ?_ hb).mono ?_
  · intro i t m g1 g2
    match i with
    | 0 => simp only [List.getElem?_cons_zero, Option.some.injEq] at g1 g2; subst g1 g2; exact (h1.below B1).more (Nat.zero_le _) (by simp; omega)
    | 1 => simp only [List.getElem?_cons_zero, List.getElem?_cons_succ, Option.some.injEq] at g1 g2; subst g1 g2; exact X2.more (Nat.zero_le _) (by simp)
    | 2 => simp only [List.getElem?_cons_zero, List.getElem?_cons_succ, Option.some.injEq] at g1 g2; subst g1 g2; exact (h3.below B1).more (Nat.zero_le _) (by simp; omega)
    | j + 3 => simp at g1
  rintro e w4 ⟨v4, rfl, o4, b4⟩
  exact ⟨v4, rfl, o4.more (by simp; omega), B1.drew.trans (b4.mono (by simp; omega))⟩
set_option maxHeartbeats 1000000 in
theorem with_any (v : Value) (l : List UInt16) (lo : Nat) (X : Int) (x : UInt16) (hx : X = x.toNat) (w : World) (hv : Gs e16 w lo w.heap.size v l) (hb : l.length ≤ 1000000) :
    Calls Tryd.prog 35 #[v, .int .u16 X] w fun e w' => ∃ v', e = .returned v' ∧ Gw e16 w' w.heap.size v' (wi l x) ∧ Below w.heap.size w w' := by
  have HX := Lib.hid hx
  clear hx
  have HV := Lib.hid hv
  have hcap : ∀ {A c}, v = .slice A l.length c → l.length ≤ c ∧ c ≤ 9223372036854775807 := fun e => Gs.cap_le (e ▸ hv)
  have hle := bs_le l x
  cases hF : fd l x with
  | true =>
    clear hv hcap
    go_enter Tryd.func35, Tryd.ntmps35
    go_wp2_with (first | (go_at_call 50; refine (find_any v l lo _ X x HX.out _ HV.out (by omega)).mono ?_; rintro e w1 ⟨rfl, rfl⟩) | (go_at_call 20; refine (clone16_any v l lo _ HV.out (by omega)).mono ?_; rintro e w2 ⟨v2, rfl, o2, b2⟩))
    go_ret
    exact ⟨_, rfl, by unfold wi; rw [if_pos hF]; exact o2, b2⟩
  | false =>
    obtain ⟨A, c, rfl, -⟩ := hv
    obtain ⟨hc1, hc2⟩ := hcap rfl
    obtain ⟨n, hn⟩ : ∃ n, n = bs l x := ⟨_, rfl⟩
    have HN := Lib.hid hn
    rw [← hn] at hle
    have hni : (n : Int) ≤ l.length := by omega
    have hci : (l.length : Int) ≤ c := by omega
    have hbi : (l.length : Int) ≤ 1000000 := by omega
    clear hn
    have hwi : wi l x = l.take n ++ x :: l.drop n := by unfold wi; rw [if_neg (by simp [hF]), HN.out]
    have hwl : (wi l x).length ≤ 100000000 := by rw [wi_len, hF]; simp; omega
    have h1 := HV.out.take hle
    have w1 : IntKind.i64.wrap ((l.length : Int) - n) = (l.length : Int) - n := by rw [IntKind.wrap_i64]; omega
    by_cases hcn : c = n
    · obtain rfl : n = l.length := by omega
      obtain rfl := hcn
      have h3 := HV.out.gone (Nat.le_refl _) rfl
      rw [Nat.sub_self] at h3
      have J := Lib.hid (join_any l lo X x HX.out w _ _ _ _ _ _ _ _ h1 h3 hwi hwl)
      clear hwi hwl h1 h3 hcap hni hci hle w1 hc1
      go_enter Tryd.func35, Tryd.ntmps35
      go_wp2_with (go_at_call 50; refine (find_any _ l lo _ X x HX.out _ HV.out (by omega)).mono ?_; rintro e wz ⟨rfl, hz⟩; have hz := hz.symm; subst hz; rw [← HN.out])
      go_region_with (first | (go_at_call 51; refine J.out.mono ?_; rintro e w9 ⟨v9, rfl, o9, b9⟩; clear J; obtain ⟨A5, c5, rfl, -⟩ := o9.sl; have O9 := Lib.hid o9; have B9 := Lib.hid b9; clear o9 b9))
      all_goals
        go_wp2
        go_ret
        exact ⟨_, rfl, O9.out, B9.out⟩
    · have J := Lib.hid (join_any l lo X x HX.out w _ _ _ _ _ _ _ _ h1 (HV.out.tail hle hcn) hwi hwl)
      clear hwi hwl h1 hcap
      go_enter Tryd.func35, Tryd.ntmps35
      go_wp2_with (go_at_call 50; refine (find_any _ l lo _ X x HX.out _ HV.out (by omega)).mono ?_; rintro e wz ⟨rfl, hz⟩; have hz := hz.symm; subst hz; rw [← HN.out])
      go_region_with (first | (go_at_call 51; refine J.out.mono ?_; rintro e w9 ⟨v9, rfl, o9, b9⟩; clear J; obtain ⟨A5, c5, rfl, -⟩ := o9.sl; have O9 := Lib.hid o9; have B9 := Lib.hid b9; clear o9 b9))
      all_goals
        go_wp2
        go_ret
        exact ⟨_, rfl, O9.out, B9.out⟩
end Go.Proofs.YtfefmlnlicilbaaDoor
