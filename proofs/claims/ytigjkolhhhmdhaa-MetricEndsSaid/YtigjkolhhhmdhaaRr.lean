/- Walks: the document's reader: numbers, what is left. -/
import Derived.Test.YtigjkolhhhmdhaaBy
namespace Go.Proofs.Ytigjkolhhhmdhaa
open Go.RowKit
set_option linter.unusedVariables false

/-- Block g is a reader of the document: the bytes v, which are l and lie below hi; the place p; whether it is bad. -/
structure RR (w : World) (hi g : Nat) (v : Value) (l : List UInt8) (p : Nat) (x : Bool) : Prop where
  row : Row w g 61 #[v, .int .i64 p, .bool x]
  sl : Sl w 0 hi v l
  ge : hi ≤ g
  le : p ≤ l.length
  small : l.length ≤ 10000000
section
variable {w w' : World} {hi g : Nat} {v : Value} {l : List UInt8} {p : Nat} {x : Bool}
theorem RR.c0 (h : RR w hi g v l p x) : w.cell? ⟨g, 0, none⟩ = some v := by rw [h.row.cell]; rfl
theorem RR.c1 (h : RR w hi g v l p x) : w.cell? ⟨g, 1, none⟩ = some (.int .i64 p) := by rw [h.row.cell]; rfl
theorem RR.c2 (h : RR w hi g v l p x) : w.cell? ⟨g, 2, none⟩ = some (.bool x) := by rw [h.row.cell]; rfl
theorem RR.lt (h : RR w hi g v l p x) : g < w.heap.size := h.row.lt
theorem RR.grown {row : Option Nat} (h : RR w hi g v l p x) (hg : w.grownBy w' row) (h1 : row ≠ some g) (h2 : ∀ k, row = some k → hi ≤ k) : RR w' hi g v l p x :=
  ⟨h.row.grown hg h1, h.sl.grown hg (Nat.le_trans h.ge (Nat.le_of_lt h.row.lt)) (fun k hk => .inr (h2 k hk)), h.ge, h.le, h.small⟩
theorem RR.below (h : RR w hi g v l p x) {B : Nat} (hb : Below B w w') (hB : w.heap.size ≤ B) : RR w' hi g v l p x :=
  h.grown (row := none) ⟨hb.os, hb.tape, hb.output, hb.size, fun k hk _ => hb.block k (by omega)⟩ (by simp) (fun k hk => by cases hk)
theorem RR.drewN (h : RR w hi g v l p x) (n : Nat) : RR (w.drewN n) hi g v l p x := ⟨h.row, h.sl, h.ge, h.le, h.small⟩
theorem RR.marked {y : Bool} (h : RR w hi g v l p x) : RR (w.setCell ⟨g, 2, none⟩ (.bool y)) hi g v l p y :=
  ⟨h.row.set_ 2 (.bool y), h.sl.grown (grown_set w g 2 _) (Nat.le_trans h.ge (Nat.le_of_lt h.row.lt)) (fun k hk => .inr (by injection hk with hk; have := h.ge; omega)), h.ge, h.le, h.small⟩
theorem RR.placed {q : Nat} (h : RR w hi g v l p x) (hq : q ≤ l.length) : RR (w.setCell ⟨g, 1, none⟩ (.int .i64 q)) hi g v l q x :=
  ⟨h.row.set_ 1 (.int .i64 q), h.sl.grown (grown_set w g 1 _) (Nat.le_trans h.ge (Nat.le_of_lt h.row.lt)) (fun k hk => .inr (by injection hk with hk; have := h.ge; omega)), h.ge, hq, h.small⟩
end

set_option maxHeartbeats 400000 in
theorem refNumber_bad {hi g : Nat} {v : Value} {l : List UInt8} {p : Nat} (s : Int) (w : World) (h : RR w hi g v l p true) :
    Calls Try.prog 29 #[.pointer (some ⟨g, 0, none⟩), .int .i64 s] w fun e w' => e = .returned (.int .u64 0) ∧ RR w' hi g v l p true ∧ w.grownBy w' (some g) := by
  have h2 := h.c2
  have f2 := h.row.frozen 2
  have H := Lib.hid h
  clear h
  go_enter Try.func29, Try.ntmps29
  go_wp2
  go_quiet (fail)
  go_wp2
  go_ret
  exact ⟨rfl, (H.out.drewN _).marked, (grown_drewN (World.grownBy.refl _ _) _).trans (grown_set _ _ _ _)⟩
set_option maxHeartbeats 400000 in
theorem refNumber_short {hi g : Nat} {v : Value} {l : List UInt8} {p : Nat} (s : Nat) (w : World) (h : RR w hi g v l p false) (hs : l.length < p + s) (hs8 : s ≤ 8) :
    Calls Try.prog 29 #[.pointer (some ⟨g, 0, none⟩), .int .i64 s] w fun e w' => e = .returned (.int .u64 0) ∧ RR w' hi g v l p true ∧ w.grownBy w' (some g) := by
  obtain ⟨A, c, rfl, -⟩ := h.sl
  have h0 := h.c0
  have h1 := h.c1
  have h2 := h.c2
  have f2 := h.row.frozen 2
  have hle := h.le
  have hsm := h.small
  have hd : ((l.length : Int) - p) < s := by omega
  have H := Lib.hid h
  clear h
  go_enter Try.func29, Try.ntmps29
  go_wp2
  go_quiet (fail)
  go_wp2
  go_ret
  exact ⟨rfl, (H.out.drewN _).marked, (grown_drewN (World.grownBy.refl _ _) _).trans (grown_set _ _ _ _)⟩
/-- One round, from the last byte back. -/
theorem back_step (l : List UInt8) (p s t : Nat) (y : UInt8) (hy : l[p + t]? = some y) (ht : t < s) (hs : p + s ≤ l.length) (hs8 : s ≤ 8) :
    leVal (((l.drop p).take s).drop t) = y.toNat + 256 * leVal (((l.drop p).take s).drop (t + 1)) ∧ leVal (((l.drop p).take s).drop (t + 1)) < 72057594037927936 := by
  have hlen : ((l.drop p).take s).length = s := by simp; omega
  have hg : ((l.drop p).take s)[t]? = some y := by rw [List.getElem?_take, if_pos ht, List.getElem?_drop]; exact hy
  have hlt : t < ((l.drop p).take s).length := by omega
  have e : ((l.drop p).take s).drop t = y :: ((l.drop p).take s).drop (t + 1) := by
    rw [List.drop_eq_getElem_cons hlt]
    rw [List.getElem?_eq_getElem hlt] at hg
    injection hg with hg
    rw [hg]
  refine ⟨by rw [e, leVal], ?_⟩
  have h1 := leVal_lt (((l.drop p).take s).drop (t + 1))
  have h2 : (((l.drop p).take s).drop (t + 1)).length ≤ 7 := by rw [List.length_drop, hlen]; omega
  have : 2 ^ (8 * (((l.drop p).take s).drop (t + 1)).length) ≤ 2 ^ 56 := Nat.pow_le_pow_right (n := 2) (by omega) (by omega)
  omega

set_option maxHeartbeats 1000000 in
theorem refNumber_good {hi g : Nat} {v : Value} {l : List UInt8} {p : Nat} (s : Nat) (w : World) (h : RR w hi g v l p false) (hs : p + s ≤ l.length) (hs1 : 1 ≤ s) (hs8 : s ≤ 8) :
    Calls Try.prog 29 #[.pointer (some ⟨g, 0, none⟩), .int .i64 s] w fun e w' => e = .returned (.int .u64 (leVal ((l.drop p).take s))) ∧ RR w' hi g v l (p + s) false ∧ w.grownBy w' (some g) := by
  obtain ⟨A, c, rfl, -, hlc, hcm, hbt⟩ := h.sl
  obtain ⟨b, off, rfl, -, -, hcell⟩ := hbt (by rintro rfl; simp at hs; omega)
  have h0 := h.c0
  have h1 := h.c1
  have h2 := h.c2
  have f1 := h.row.frozen 1
  have hle := h.le
  have hsm := h.small
  have hd : decide (((l.length : Int) - p) < s) = false := by simp; omega
  have HC := Lib.hid hcell
  have H := Lib.hid h
  clear h hcell hbt
  go_enter Try.func29, Try.ntmps29
  go_wp2
  go_quiet (fail)
  go_wp2
  go_loopw [5, 6] (fun n i wr => ∃ (j m : Nat) (D : Int), j ≤ s ∧ i = .int .i64 ((j : Int) - 1) ∧ n = .int .u64 D ∧ D = (leVal (((l.drop p).take s).drop j) : Nat) ∧ wr = w.drewN m) (fun _ i _ => (intOf i + 1).toNat)
  case atStart => exact ⟨s, _, 0, by omega, rfl, rfl, by rw [List.drop_of_length_le (by simp; omega)]; rfl, rfl⟩
  case round =>
    obtain ⟨j, m, D, hj, rfl, rfl, hD, rfl⟩ := hrel
    cases j with
    | zero =>
      have HD := Lib.hid hD
      have e0 : ((0 : Nat) : Int) - 1 = -1 := rfl
      rw [e0]
      clear hD e0
      go_wp2
      go_ret
      exact ⟨by rw [HD.out]; rfl, (H.out.drewN _).placed hs, (grown_drewN (World.grownBy.refl _ _) _).trans (grown_set _ _ _ _)⟩
    | succ t =>
      have et : ((t + 1 : Nat) : Int) - 1 = (t : Int) := by omega
      rw [et]
      clear et
      obtain ⟨y, hy⟩ : ∃ y, l[p + t]? = some y := ⟨_, List.getElem?_eq_getElem (by omega)⟩
      have hc := HC.out (p + t) y hy
      simp only [show e8.val y = Value.int .u8 (y.toNat : Int) from rfl] at hc
      obtain ⟨z, hz⟩ : ∃ z : Int, z = (y.toNat : Int) := ⟨_, rfl⟩
      rw [← hz] at hc
      have z0 : 0 ≤ z := by omega
      have z1 : z ≤ 255 := by have := y.toNat_lt; omega
      have hst := back_step l p s t y hy (by omega) hs hs8
      have d0 : 0 ≤ D := by omega
      have d1 : D ≤ 72057594037927935 := by omega
      have HZ := Lib.hid hz
      have HD := Lib.hid hD
      have HST := Lib.hid hst
      clear hy hz hD hst
      go_wp2
      go_quiet (fail)
      go_wp2
      go_roundw
      case rel => exact ⟨t, _, _, by omega, rfl, rfl, by have h1 := HST.out.1; have h2 := HD.out; have h3 := HZ.out; omega, rfl⟩
      case measure => simp [intOf]

theorem refNumber_any {hi g : Nat} {v : Value} {l : List UInt8} {p : Nat} {x : Bool} (S : Int) (s : Nat) (hS : S = (s : Int)) (w : World) (h : RR w hi g v l p x) (hs1 : 1 ≤ s) (hs8 : s ≤ 8) :
    Calls Try.prog 29 #[.pointer (some ⟨g, 0, none⟩), .int .i64 S] w fun e w' => e = .returned (.int .u64 (rd l p x s).1) ∧ RR w' hi g v l (rd l p x s).2.1 (rd l p x s).2.2 ∧ w.grownBy w' (some g) := by
  subst hS
  have hle := h.le
  cases x with
  | true => exact refNumber_bad s w h
  | false =>
    by_cases hs : l.length < p + s
    · have e1 : rd l p false s = (0, p, true) := by
        unfold rd
        rw [if_neg (by simp)]
        simp only [if_neg (show s ≠ 0 by omega)]
        have : rdW (l.drop p) s = (0, 0) := by rw [rdW, if_pos (by rw [List.length_drop]; omega)]
        rw [this]
        rfl
      rw [e1]
      exact refNumber_short s w h hs hs8
    · have e1 : rd l p false s = (leVal ((l.drop p).take s), p + s, false) := by
        unfold rd
        rw [if_neg (by simp)]
        simp only [if_neg (show s ≠ 0 by omega)]
        have : rdW (l.drop p) s = (leVal ((l.drop p).take s), s) := by rw [rdW, if_neg (by rw [List.length_drop]; omega)]
        rw [this]
        have h2 : (s == 0) = false := by rw [beq_eq_false_iff_ne]; omega
        simp only [h2]
      rw [e1]
      exact refNumber_good s w h (by omega) hs1 hs8
end Go.Proofs.Ytigjkolhhhmdhaa
