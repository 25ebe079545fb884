/- Calls of words on a set of marks, in the form that laws use. -/
import Derived.Test.YtgegpbchjkfdkaaDoorE7
namespace Go.Proofs.YtgegpbchjkfdkaaDoor
open Go.RowKit
set_option linter.unusedVariables false

theorem Gs.step {α : Type} {k : Elem α} {w w' : World} {v : Value} {l : List α} (h : Gs k w 0 w.heap.size v l) (b : Below w.heap.size w w') : Gs k w' 0 w'.heap.size v l := (h.below b).more (Nat.le_refl _) b.size
theorem Tb.step {w w' : World} (h : Tb w) (b : Below w.heap.size w w') : Tb w' := h.below b (Nat.le_refl _)

theorem wof_p (v : Value) (l : List UInt16) (w : World) (hv : Gs e16 w 0 w.heap.size v l) :
    Calls Tryd.prog 9 #[v] w fun e w' => ∃ A c, e = .returned (.slice A 1024 c) ∧ Gs e64 w' 0 w'.heap.size (.slice A 1024 c) (wm (mk l)) ∧ Below w.heap.size w w' := wof_k l _ rfl v w hv
theorem wrank_p (v : Value) (p : Nat → Bool) (x : Int) (n : Nat) (W : World) (hv : Gs e64 W 0 W.heap.size v (wm p)) (hn : ct p (cl x) = n) :
    Calls Tryd.prog 18 #[v, .int .i64 x] W fun e w' => e = .returned (.int .i64 n) ∧ w' = W := by
  have h := wrank_any v _ 0 _ x W hv
  rw [ct_wb p (cl_le x), hn] at h
  exact h
theorem wlen_p (v : Value) (p : Nat → Bool) (n : Nat) (W : World) (hv : Gs e64 W 0 W.heap.size v (wm p)) (hn : ct p 65536 = n) :
    Calls Tryd.prog 16 #[v] W fun e w' => e = .returned (.int .i64 n) ∧ w' = W := by
  have h := wlen_any v _ 0 _ W hv
  rw [ct_wb p (Nat.le_refl _), hn] at h
  exact h
theorem whas_p (v : Value) (p : Nat → Bool) (x : Int) (y : Nat) (W : World) (hv : Gs e64 W 0 W.heap.size v (wm p)) (hx : x = y) (hy : y < 65536) :
    Calls Tryd.prog 17 #[v, .int .u16 x] W fun e w' => e = .returned (.bool (p y)) ∧ w' = W := by
  subst hx
  have h := whas_any v _ 0 _ y W hv (by omega) (by omega)
  rw [Int.toNat_natCast, wb_wm p y hy] at h
  exact h
theorem wruns_p (v : Value) (p : Nat → Bool) (n : Nat) (W : World) (hv : Gs e64 W 0 W.heap.size v (wm p)) (hn : ct (hm p) 65536 = n) :
    Calls Tryd.prog 20 #[v] W fun e w' => e = .returned (.int .i64 n) ∧ w' = W := by
  have h := wruns_any v _ 0 _ W hv
  rw [hm_wb p (Nat.le_refl _), hn] at h
  exact h
theorem wselect_p (v : Value) (p : Nat → Bool) (K : Int) (x : Nat) (b : Bool) (W : World) (hv : Gs e64 W 0 W.heap.size v (wm p)) (hT : Tb W) (hK : K ≤ 9223372036854775807) (hx : (sx p K).toNat = x) (hb : so p K = b) :
    Calls Tryd.prog 22 #[v, .int .i64 K] W fun e w' => e = .returned (.tuple #[.int .u16 x, .bool b]) ∧ w' = W := by
  have h := wselect_any v _ 0 _ K W hv hT hK
  rw [sx_wb p, so_wb p, hx, hb] at h
  exact h
theorem wlist_p (v : Value) (p : Nat → Bool) (n : Nat) (w : World) (hv : Gs e64 w 0 w.heap.size v (wm p)) (hT : Tb w) (hn : ct p 65536 = n) :
    Calls Tryd.prog 15 #[v] w fun e w' => ∃ A c, e = .returned (.slice A n c) ∧ Gs e16 w' 0 w'.heap.size (.slice A n c) (ls p 65536) ∧ Below w.heap.size w w' := by
  refine (wlist_any v _ 0 w hv hT).mono ?_
  rintro e w' ⟨v', rfl, o, b⟩
  rw [ls_wb p (Nat.le_refl _)] at o
  have s := o.sl.more (Nat.zero_le _) (Nat.le_refl _)
  obtain ⟨A, c, rfl, -⟩ := o.sl
  rw [ls_ct, hn] at s ⊢
  exact ⟨A, c, rfl, s, b⟩
theorem wflip_p (v : Value) (p : Nat → Bool) (lo hi : Int) (w : World) (hv : Gs e64 w 0 w.heap.size v (wm p)) :
    Calls Tryd.prog 23 #[v, .int .i64 lo, .int .i64 hi] w fun e w' => ∃ A c, e = .returned (.slice A 1024 c) ∧ Gs e64 w' 0 w'.heap.size (.slice A 1024 c) (wm (flp p lo hi)) ∧ Below w.heap.size w w' := by
  refine (wflip_any v _ 0 lo hi w hv).mono ?_
  rintro e w' ⟨v', rfl, o, b⟩
  rw [flp_wb] at o
  obtain ⟨A, c, rfl⟩ := gw_wm o
  exact ⟨A, c, rfl, o.sl.more (Nat.zero_le _) (Nat.le_refl _), b⟩
theorem wand_p (v u : Value) (p q : Nat → Bool) (w : World) (hv : Gs e64 w 0 w.heap.size v (wm p)) (hu : Gs e64 w 0 w.heap.size u (wm q)) :
    Calls Tryd.prog 24 #[v, u] w fun e w' => ∃ A c, e = .returned (.slice A 1024 c) ∧ Gs e64 w' 0 w'.heap.size (.slice A 1024 c) (wm fun x => fAnd (p x) (q x)) ∧ Below w.heap.size w w' := by
  refine (wand_any v u _ _ 0 w hv hu).mono ?_
  rintro e w' ⟨v', rfl, o, b⟩
  rw [mix_wb fAnd p q] at o
  obtain ⟨A, c, rfl⟩ := gw_wm o
  exact ⟨A, c, rfl, o.sl.more (Nat.zero_le _) (Nat.le_refl _), b⟩
theorem wor_p (v u : Value) (p q : Nat → Bool) (w : World) (hv : Gs e64 w 0 w.heap.size v (wm p)) (hu : Gs e64 w 0 w.heap.size u (wm q)) :
    Calls Tryd.prog 26 #[v, u] w fun e w' => ∃ A c, e = .returned (.slice A 1024 c) ∧ Gs e64 w' 0 w'.heap.size (.slice A 1024 c) (wm fun x => fOr (p x) (q x)) ∧ Below w.heap.size w w' := by
  refine (wor_any v u _ _ 0 w hv hu).mono ?_
  rintro e w' ⟨v', rfl, o, b⟩
  rw [mix_wb fOr p q] at o
  obtain ⟨A, c, rfl⟩ := gw_wm o
  exact ⟨A, c, rfl, o.sl.more (Nat.zero_le _) (Nat.le_refl _), b⟩
theorem wnot_p (v u : Value) (p q : Nat → Bool) (w : World) (hv : Gs e64 w 0 w.heap.size v (wm p)) (hu : Gs e64 w 0 w.heap.size u (wm q)) :
    Calls Tryd.prog 27 #[v, u] w fun e w' => ∃ A c, e = .returned (.slice A 1024 c) ∧ Gs e64 w' 0 w'.heap.size (.slice A 1024 c) (wm fun x => fNot (p x) (q x)) ∧ Below w.heap.size w w' := by
  refine (wnot_any v u _ _ 0 w hv hu).mono ?_
  rintro e w' ⟨v', rfl, o, b⟩
  rw [mix_wb fNot p q] at o
  obtain ⟨A, c, rfl⟩ := gw_wm o
  exact ⟨A, c, rfl, o.sl.more (Nat.zero_le _) (Nat.le_refl _), b⟩
theorem wxor_p (v u : Value) (p q : Nat → Bool) (w : World) (hv : Gs e64 w 0 w.heap.size v (wm p)) (hu : Gs e64 w 0 w.heap.size u (wm q)) :
    Calls Tryd.prog 25 #[v, u] w fun e w' => ∃ A c, e = .returned (.slice A 1024 c) ∧ Gs e64 w' 0 w'.heap.size (.slice A 1024 c) (wm fun x => fXor (p x) (q x)) ∧ Below w.heap.size w w' := by
  refine (wxor_any v u _ _ 0 w hv hu).mono ?_
  rintro e w' ⟨v', rfl, o, b⟩
  rw [mix_wb fXor p q] at o
  obtain ⟨A, c, rfl⟩ := gw_wm o
  exact ⟨A, c, rfl, o.sl.more (Nat.zero_le _) (Nat.le_refl _), b⟩
theorem known_p (w : World) (hT : Tb w) : Calls Tryd.prog 8 #[] w fun e w' => e = .returned (.bool true) ∧ Below w.heap.size w w' := known_any w hT
theorem same64_p (v u : Value) (l m : List UInt64) (W : World) (hv : Gs e64 W 0 W.heap.size v l) (hu : Gs e64 W 0 W.heap.size u m) (h : l = m) :
    Calls Tryd.prog 12 #[v, u] W fun e w' => e = .returned (.bool true) ∧ Below W.heap.size W w' :=
  (same64_b v u l m 0 _ 0 _ W hv hu).mono fun e w' ⟨h1, h2⟩ => ⟨by rw [h1, decide_eq_true h], h2⟩
theorem same16_p (v u : Value) (l m : List UInt16) (W : World) (hv : Gs e16 W 0 W.heap.size v l) (hu : Gs e16 W 0 W.heap.size u m) (h : l = m) :
    Calls Tryd.prog 14 #[v, u] W fun e w' => e = .returned (.bool true) ∧ Below W.heap.size W w' :=
  (same_b v u l m 0 _ 0 _ W hv hu).mono fun e w' ⟨h1, h2⟩ => ⟨by rw [h1, decide_eq_true h], h2⟩

/- Mathematics of flips. -/
theorem flp_in {p : Nat → Bool} {L H : Nat} {x : Nat} (h1 : L ≤ x) (h2 : x < H) : flp p L H x = !p x := by
  unfold flp
  rw [decide_eq_true (by omega), decide_eq_true (by omega)]
  simp
theorem flp_out {p : Nat → Bool} {lo hi : Int} {x : Nat} (h : (x : Int) < lo ∨ hi ≤ x) : flp p lo hi x = p x := by
  unfold flp
  have : (decide (lo ≤ (x : Int)) && decide ((x : Int) < hi)) = false := by
    rcases h with h | h
    · rw [decide_eq_false (by omega), Bool.false_and]
    · rw [decide_eq_false (show ¬ ((x : Nat) : Int) < hi by omega), Bool.and_false]
  rw [this]
  simp
theorem flp_twice (p : Nat → Bool) (lo hi : Int) : flp (flp p lo hi) lo hi = p := by
  funext x
  unfold flp
  cases p x <;> cases (decide (lo ≤ (x : Int)) && decide ((x : Int) < hi)) <;> rfl
theorem flp_counts (p : Nat → Bool) (L H : Nat) (hLH : L ≤ H) (hH : H ≤ 65536) : ∃ a b c : Nat, b ≤ H - L ∧ a ≤ 65536 ∧ c ≤ 65536 ∧ ct p L = a ∧ ct p H = a + b ∧ ct p 65536 = a + b + c ∧
    ct (flp p L H) L = a ∧ ct (flp p L H) H = a + (H - L - b) ∧ ct (flp p L H) 65536 = a + (H - L - b) + c ∧ ct (fun x => fAnd (p x) (flp p L H x)) 65536 = a + c := by
  obtain ⟨d, rfl⟩ := Nat.le.dest hLH
  obtain ⟨e, he⟩ := Nat.le.dest hH
  have k : ∀ q : Nat → Bool, ct q (L + d) = ct q L + ct (fun j => q (L + j)) d ∧ ct q 65536 = ct q L + ct (fun j => q (L + j)) d + ct (fun j => q (L + d + j)) e := fun q => by
    refine ⟨ct_add q L d, ?_⟩
    rw [← he, ct_add q (L + d) e, ct_add q L d]
  obtain ⟨a1, a2⟩ := k p
  obtain ⟨b1, b2⟩ := k (flp p L (L + d : Nat))
  obtain ⟨c1, c2⟩ := k (fun x => fAnd (p x) (flp p L (L + d : Nat) x))
  have x1 : ct (flp p L (L + d : Nat)) L = ct p L := ct_ext fun j hj => flp_out (.inl (by omega))
  have x2 : ct (fun j => flp p L (L + d : Nat) (L + j)) d = d - ct (fun j => p (L + j)) d := by
    rw [← ct_not]
    exact ct_ext fun j hj => flp_in (by omega) (by omega)
  have x3 : ct (fun j => flp p L (L + d : Nat) (L + d + j)) e = ct (fun j => p (L + d + j)) e := ct_ext fun j hj => flp_out (.inr (by omega))
  have y1 : ct (fun x => fAnd (p x) (flp p L (L + d : Nat) x)) L = ct p L := ct_ext fun j hj => by rw [flp_out (.inl (by omega))]; unfold fAnd; simp
  have y2 : ct (fun j => fAnd (p (L + j)) (flp p L (L + d : Nat) (L + j))) d = 0 := ct_zero fun j hj => by rw [flp_in (by omega) (by omega)]; unfold fAnd; simp
  have y3 : ct (fun j => fAnd (p (L + d + j)) (flp p L (L + d : Nat) (L + d + j))) e = ct (fun j => p (L + d + j)) e := ct_ext fun j hj => by rw [flp_out (.inr (by omega))]; unfold fAnd; simp
  have z1 := ct_le p L
  have z2 := ct_le (fun j => p (L + j)) d
  have z3 := ct_le (fun j => p (L + d + j)) e
  refine ⟨ct p L, ct (fun j => p (L + j)) d, ct (fun j => p (L + d + j)) e, by omega, by omega, by omega, rfl, a1, a2, x1, ?_, ?_, ?_⟩
  · rw [b1, x1, x2]; omega
  · rw [b2, x1, x2, x3]; omega
  · rw [c2, y1, y2, y3]; omega
theorem cl_nat {n : Nat} (h : n ≤ 65536) : cl (n : Int) = n := by unfold cl; omega
end Go.Proofs.YtgegpbchjkfdkaaDoor
