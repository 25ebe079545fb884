/- Words in the form of laws (cut from stages 4 to 6) -/
import Derived.Test.YtfefmlnlicilbaaDoorUE5
namespace Go.Proofs.YtfefmlnlicilbaaDoor
open Go.RowKit
set_option linter.unusedVariables false

theorem ls_wb (p : Nat → Bool) {n : Nat} (h : n ≤ 65536) : ls (wb (wm p)) n = ls p n := ls_ext fun j hj => wb_wm p j (by omega)
theorem ct_wb (p : Nat → Bool) {n : Nat} (h : n ≤ 65536) : ct (wb (wm p)) n = ct p n := ct_ext fun j hj => wb_wm p j (by omega)
theorem hm_wb (p : Nat → Bool) {n : Nat} (h : n ≤ 65536) : ct (hm (wb (wm p))) n = ct (hm p) n := ct_ext fun j hj => hm_ext (n := 65536) (fun i hi => wb_wm p i hi) j (by omega)
theorem flp_wb (p : Nat → Bool) (lo hi : Int) : wm (flp (wb (wm p)) lo hi) = wm (flp p lo hi) := wm_ext fun x hx => by unfold flp; rw [wb_wm p x hx]
theorem mix_wb (f : Bool → Bool → Bool) (p q : Nat → Bool) : wm (fun x => f (wb (wm p) x) (wb (wm q) x)) = wm fun x => f (p x) (q x) := wm_ext fun x hx => by rw [wb_wm p x hx, wb_wm q x hx]
theorem wm_wb {w : List UInt64} (h : w.length = 1024) : w = wm (wb w) := wm_of h fun x hx => rfl
theorem gw_wm {w : World} {base : Nat} {v : Value} {p : Nat → Bool} (h : Gw e64 w base v (wm p)) : ∃ A c, v = .slice A 1024 c := by
  obtain ⟨A, c, e, -⟩ := h.sl
  exact ⟨A, c, by rw [e, wm_length]⟩
theorem wof_k (l : List UInt16) (p : Nat → Bool) (hp : p = mk l) (v : Value) (w : World) (hv : Gs e16 w 0 w.heap.size v l) :
    Calls Tryd.prog 79 #[v] w fun e w' => ∃ A c, e = .returned (.slice A 1024 c) ∧ Gs e64 w' 0 w'.heap.size (.slice A 1024 c) (wm p) ∧ Below w.heap.size w w' := by
  subst hp
  refine (wof_any v l 0 w hv).mono ?_
  rintro e w' ⟨v', rfl, o, b⟩
  obtain ⟨A, c, rfl⟩ := gw_wm o
  exact ⟨A, c, rfl, o.sl.more (Nat.zero_le _) (Nat.le_refl _), b⟩
theorem Gs.step {α : Type} {k : Elem α} {w w' : World} {v : Value} {l : List α} (h : Gs k w 0 w.heap.size v l) (b : Below w.heap.size w w') : Gs k w' 0 w'.heap.size v l := (h.below b).more (Nat.le_refl _) b.size
theorem Tb.step {w w' : World} (h : Tb w) (b : Below w.heap.size w w') : Tb w' := h.below b (Nat.le_refl _)
theorem wof_p (v : Value) (l : List UInt16) (w : World) (hv : Gs e16 w 0 w.heap.size v l) :
    Calls Tryd.prog 79 #[v] w fun e w' => ∃ A c, e = .returned (.slice A 1024 c) ∧ Gs e64 w' 0 w'.heap.size (.slice A 1024 c) (wm (mk l)) ∧ Below w.heap.size w w' := wof_k l _ rfl v w hv
theorem wlen_p (v : Value) (p : Nat → Bool) (n : Nat) (W : World) (hv : Gs e64 W 0 W.heap.size v (wm p)) (hn : ct p 65536 = n) :
    Calls Tryd.prog 48 #[v] W fun e w' => e = .returned (.int .i64 n) ∧ w' = W := by
  have h := wlen_any v _ 0 _ W hv
  rw [ct_wb p (Nat.le_refl _), hn] at h
  exact h
theorem whas_p (v : Value) (p : Nat → Bool) (x : Int) (y : Nat) (W : World) (hv : Gs e64 W 0 W.heap.size v (wm p)) (hx : x = y) (hy : y < 65536) :
    Calls Tryd.prog 76 #[v, .int .u16 x] W fun e w' => e = .returned (.bool (p y)) ∧ w' = W := by
  subst hx
  have h := whas_any v _ 0 _ y W hv (by omega) (by omega)
  rw [Int.toNat_natCast, wb_wm p y hy] at h
  exact h
theorem wruns_p (v : Value) (p : Nat → Bool) (n : Nat) (W : World) (hv : Gs e64 W 0 W.heap.size v (wm p)) (hn : ct (hm p) 65536 = n) :
    Calls Tryd.prog 56 #[v] W fun e w' => e = .returned (.int .i64 n) ∧ w' = W := by
  have h := wruns_any v _ 0 _ W hv
  rw [hm_wb p (Nat.le_refl _), hn] at h
  exact h
theorem wlist_p (v : Value) (p : Nat → Bool) (n : Nat) (w : World) (hv : Gs e64 w 0 w.heap.size v (wm p)) (hT : Tb w) (hn : ct p 65536 = n) :
    Calls Tryd.prog 44 #[v] w fun e w' => ∃ A c, e = .returned (.slice A n c) ∧ Gs e16 w' 0 w'.heap.size (.slice A n c) (ls p 65536) ∧ Below w.heap.size w w' := by
  refine (wlist_any v _ 0 w hv hT).mono ?_
  rintro e w' ⟨v', rfl, o, b⟩
  rw [ls_wb p (Nat.le_refl _)] at o
  have s := o.sl.more (Nat.zero_le _) (Nat.le_refl _)
  obtain ⟨A, c, rfl, -⟩ := o.sl
  rw [ls_ct, hn] at s ⊢
  exact ⟨A, c, rfl, s, b⟩
theorem wflip_p (v : Value) (p : Nat → Bool) (lo hi : Int) (w : World) (hv : Gs e64 w 0 w.heap.size v (wm p)) :
    Calls Tryd.prog 47 #[v, .int .i64 lo, .int .i64 hi] w fun e w' => ∃ A c, e = .returned (.slice A 1024 c) ∧ Gs e64 w' 0 w'.heap.size (.slice A 1024 c) (wm (flp p lo hi)) ∧ Below w.heap.size w w' := by
  refine (wflip_any v _ 0 lo hi w hv).mono ?_
  rintro e w' ⟨v', rfl, o, b⟩
  rw [flp_wb] at o
  obtain ⟨A, c, rfl⟩ := gw_wm o
  exact ⟨A, c, rfl, o.sl.more (Nat.zero_le _) (Nat.le_refl _), b⟩
theorem same16_p (v u : Value) (l m : List UInt16) (W : World) (hv : Gs e16 W 0 W.heap.size v l) (hu : Gs e16 W 0 W.heap.size u m) (h : l = m) :
    Calls Tryd.prog 11 #[v, u] W fun e w' => e = .returned (.bool true) ∧ Below W.heap.size W w' :=
  (same_b v u l m 0 _ 0 _ W hv hu).mono fun e w' ⟨h1, h2⟩ => ⟨by rw [h1, decide_eq_true h], h2⟩
theorem flp_in {p : Nat → Bool} {L H : Nat} {x : Nat} (h1 : L ≤ x) (h2 : x < H) : flp p L H x = !p x := by
  unfold flp
  rw [decide_eq_true (by omega), decide_eq_true (by omega)]
  simp
theorem flp_out {p : Nat → Bool} {lo hi : Int} {x : Nat} (h : (x : Int) < lo ∨ hi ≤ x) : flp p lo hi x = p x := by
  unfold flp
  have : (decide (lo ≤ (x : Int)) && decide ((x : Int) < hi)) = false := by
    rcases h with h | h
    · rw [decide_eq_false (by omega), Bool.false_and]
    · rw [decide_eq_false (show ¬ ((x : Nat) : Int) < hi by omega), Bool.and_false]
  rw [this]
  simp
theorem flp_twice (p : Nat → Bool) (lo hi : Int) : flp (flp p lo hi) lo hi = p := by
  funext x
  unfold flp
  cases p x <;> cases (decide (lo ≤ (x : Int)) && decide ((x : Int) < hi)) <;> rfl
theorem cl_nat {n : Nat} (h : n ≤ 65536) : cl (n : Int) = n := by unfold cl; omega
theorem mk_ls (p : Nat → Bool) {x : Nat} (hx : x < 65536) : mk (ls p 65536) x = p x := by
  have e : x = (UInt16.ofNat x).toNat := (u16_of x hx).symm
  rw [e, Bool.eq_iff_iff, mk_iff, ls_mem p 65536 (Nat.le_refl _), u16_of x hx]
  exact ⟨fun h => h.2, fun h => ⟨hx, h⟩⟩
theorem aruns_p (v : Value) (p : Nat → Bool) (n : Nat) (W : World) (hv : Gs e16 W 0 W.heap.size v (ls p 65536)) (hn : ct (hm p) 65536 = n) :
    Calls Tryd.prog 55 #[v] W fun e w' => e = .returned (.int .i64 n) ∧ Below W.heap.size W w' := by
  refine (runs_b v _ 0 _ W hv (Nat.le_trans (ls_len p 65536) (by omega))).mono ?_
  rintro e w' ⟨h1, h2⟩
  refine ⟨?_, h2⟩
  have e1 : ct (hm (mk (ls p 65536))) 65536 = ct (hm p) 65536 := ct_ext fun j hj => hm_ext (n := 65536) (fun i hi => mk_ls p hi) j hj
  rw [h1, rn_ls (ris_ls p 65536 (Nat.le_refl _)), ls_ct, e1, hn]
end Go.Proofs.YtfefmlnlicilbaaDoor
