/- Walks: numbers are read by one method, picked from a row of method values. -/
import Derived.Test.YtigjkolhhhmdhaaW8
import Derived.Laws.EntriesVeiled
namespace Go.Proofs.Ytigjkolhhhmdhaa
open Go.RowKit
set_option linter.unusedVariables false

/-- The whole number of size bytes at the head of s, and how many bytes it has: (0, 0), if there are too few. -/
def rdW (s : List UInt8) (size : Nat) : Nat × Nat := if s.length < size then (0, 0) else (leVal (s.take size), size)

theorem lookWhole_any {base g : Nat} {v : Value} {l : List UInt8} {p : Nat} (s : Nat) (w : World) (h : Rd w base g v l p false) (h1 : 1 ≤ s) (h8 : s ≤ 8) :
    Calls Try.prog 41 #[.pointer (some ⟨g, 0, none⟩), .int .i64 s] w fun e w' => e = .returned (.tuple #[.int .u64 (rdW (l.drop p) s).1, .int .i64 (rdW (l.drop p) s).2]) ∧ ∃ k, w' = w.drewN k := by
  have hle := h.le
  by_cases hs : l.length - p < s
  · refine (lookWhole_no s w h (by omega)).mono ?_
    rintro e w' ⟨rfl, hw⟩
    exact ⟨by rw [rdW, if_pos (by simpa using hs)]; rfl, hw⟩
  · refine (lookWhole_yes s w h (by omega) h1 h8).mono ?_
    rintro e w' ⟨rfl, hw⟩
    exact ⟨by rw [rdW, if_neg (by simpa using hs)], hw⟩

set_option maxHeartbeats 400000 in
theorem number_bad {base g : Nat} {v : Value} {l : List UInt8} {p : Nat} (s : Int) (w : World) (h : Rd w base g v l p true) :
    Calls Try.prog 35 #[.pointer (some ⟨g, 0, none⟩), .int .i64 s] w fun e w' => e = .returned (.int .u64 0) ∧ w = w' := by
  have h2 := h.c2
  clear h
  go_enter Try.func35, Try.ntmps35
  go_wp2_with (go_at_call 39; refine (bad_at g true _ h2).mono ?_; rintro e w1 ⟨rfl, rfl⟩)
  go_ret
  exact ⟨rfl, rfl⟩

set_option maxHeartbeats 400000 in
theorem number_nil (s : Int) (w : World) :
    Calls Try.prog 35 #[.pointer none, .int .i64 s] w fun e w' => e = .returned (.int .u64 0) ∧ w = w' := by
  go_enter Try.func35, Try.ntmps35
  go_wp2_with (go_at_call 39; refine (bad_nil _).mono ?_; rintro e w1 ⟨rfl, rfl⟩)
  go_ret
  exact ⟨rfl, rfl⟩


/-- A reader whose mark and place have been written. -/
theorem Rd.moved {w : World} {base g : Nat} {v : Value} {l : List UInt8} {p q : Nat} {x y : Bool} (h : Rd w base g v l p x) (hq : q ≤ l.length) :
    Rd ((w.setCell ⟨g, 2, none⟩ (.bool y)).setCell ⟨g, 1, none⟩ (.int .i64 q)) base g v l q y := by
  have h1 := (h.row.set_ 2 (.bool y)).set_ 1 (.int .i64 q)
  have hne := h.ne
  refine ⟨h1, ?_, h.ge, hq, h.small⟩
  exact (h.own.kept (grown_set w g 2 (.bool y)) (fun k hk e => by injection e with e; subst e; exact hne hk)).kept (grown_set _ g 1 _) (fun k hk e => by injection e with e; subst e; exact hne hk)

set_option maxHeartbeats 400000 in
theorem number_short {base g : Nat} {v : Value} {l : List UInt8} {p : Nat} (w : World) (h : Rd w base g v l p false) :
    Calls Try.prog 35 #[.pointer (some ⟨g, 0, none⟩), .int .i64 0] w fun e w' => e = .returned (.int .u64 (rdS (l.drop p)).1) ∧
      Rd w' base g v l (p + (rdS (l.drop p)).2) ((rdS (l.drop p)).2 == 0) ∧ w.grownBy w' (some g) := by
  have h2 := h.c2
  have hk := rdS_le (l.drop p)
  rw [List.length_drop] at hk
  have hle := h.le
  have hsm := h.small
  have hcall := fun (W : World) (hR : Rd W base g v l p false) => lookShort_any 0 W hR
  generalize rdS (l.drop p) = r at *
  obtain ⟨n, k⟩ := r
  simp only at hcall hk ⊢
  have HCALL := Lib.hid hcall
  have H := Lib.hid h
  clear h hcall
  by_cases hk0 : k = 0
  · subst hk0
    go_enter Try.func35, Try.ntmps35
    go_wp2_with (first | (go_at_call 39; refine (bad_at g false _ h2).mono ?_; rintro e w1 ⟨rfl, rfl⟩) | (go_at_call 40; refine (HCALL.out _ (H.out.alloc _)).mono ?_; rintro e W1 ⟨rfl, k1, hW1⟩; have hR : Rd W1 base g v l p false := (by rw [hW1]; exact (H.out.alloc _).drewN k1); have hG : w.grownBy W1 (some g) := (by rw [hW1]; exact grown_drewN (World.grownBy_alloc w _ _) k1); clear hW1; have c1 := hR.c1; have c2 := hR.c2; have f1 := hR.row.frozen 1; have f2 := hR.row.frozen 2; have HR := Lib.hid hR; have HG := Lib.hid hG; clear hR hG))
    go_ret
    exact ⟨rfl, HR.out.moved hle, (HG.out.trans (grown_set _ _ _ _)).trans (grown_set _ _ _ _)⟩
  · have hb : ((k : Int) == 0) = false := by rw [beq_eq_false_iff_ne]; omega
    have hb2 : (k == 0) = false := by rw [beq_eq_false_iff_ne]; omega
    have HB := Lib.hid hb2
    clear hb2
    go_enter Try.func35, Try.ntmps35
    go_wp2_with (first | (go_at_call 39; refine (bad_at g false _ h2).mono ?_; rintro e w1 ⟨rfl, rfl⟩) | (go_at_call 40; refine (HCALL.out _ (H.out.alloc _)).mono ?_; rintro e W1 ⟨rfl, k1, hW1⟩; have hR : Rd W1 base g v l p false := (by rw [hW1]; exact (H.out.alloc _).drewN k1); have hG : w.grownBy W1 (some g) := (by rw [hW1]; exact grown_drewN (World.grownBy_alloc w _ _) k1); clear hW1; have c1 := hR.c1; have c2 := hR.c2; have f1 := hR.row.frozen 1; have f2 := hR.row.frozen 2; have HR := Lib.hid hR; have HG := Lib.hid hG; clear hR hG))
    go_ret
    exact ⟨rfl, by rw [HB.out]; exact HR.out.moved (q := p + k) (by omega), (HG.out.trans (grown_set _ _ _ _)).trans (grown_set _ _ _ _)⟩

theorem rdW_le (s : List UInt8) (n : Nat) : (rdW s n).2 ≤ s.length := by unfold rdW; split <;> simp_all

set_option maxHeartbeats 400000 in
theorem number_whole_ {base g : Nat} {v : Value} {l : List UInt8} {p : Nat} (S : Int) (s : Nat) (hS : S = (s : Int)) (hS1 : S = 1 ∨ 1 < S) (w : World) (h : Rd w base g v l p false) (hs1 : 1 ≤ s) (hs8 : s ≤ 8) :
    Calls Try.prog 35 #[.pointer (some ⟨g, 0, none⟩), .int .i64 S] w fun e w' => e = .returned (.int .u64 (rdW (l.drop p) s).1) ∧
      Rd w' base g v l (p + (rdW (l.drop p) s).2) ((rdW (l.drop p) s).2 == 0) ∧ w.grownBy w' (some g) := by
  have h2 := h.c2
  have hk := rdW_le (l.drop p) s
  rw [List.length_drop] at hk
  have hle := h.le
  have hsm := h.small
  have hcall := fun (W : World) (hR : Rd W base g v l p false) => lookWhole_any s W hR hs1 hs8
  rw [← hS] at hcall
  generalize rdW (l.drop p) s = r at *
  obtain ⟨n, k⟩ := r
  simp only at hcall hk ⊢
  have HCALL := Lib.hid hcall
  have H := Lib.hid h
  clear h hcall
  clear hS
  rcases hS1 with rfl | hS1
  · by_cases hk0 : k = 0
    · subst hk0
      go_enter Try.func35, Try.ntmps35
      go_wp2_with (first | (go_at_call 39; refine (bad_at g false _ h2).mono ?_; rintro e w1 ⟨rfl, rfl⟩) | (go_at_call 41; refine (HCALL.out _ (H.out.alloc _)).mono ?_; rintro e W1 ⟨rfl, k1, hW1⟩; have hR : Rd W1 base g v l p false := (by rw [hW1]; exact (H.out.alloc _).drewN k1); have hG : w.grownBy W1 (some g) := (by rw [hW1]; exact grown_drewN (World.grownBy_alloc w _ _) k1); clear hW1; have c1 := hR.c1; have c2 := hR.c2; have f1 := hR.row.frozen 1; have f2 := hR.row.frozen 2; have HR := Lib.hid hR; have HG := Lib.hid hG; clear hR hG))
      go_ret
      exact ⟨rfl, HR.out.moved hle, (HG.out.trans (grown_set _ _ _ _)).trans (grown_set _ _ _ _)⟩
    · have hb : ((k : Int) == 0) = false := by rw [beq_eq_false_iff_ne]; omega
      have hb2 : (k == 0) = false := by rw [beq_eq_false_iff_ne]; omega
      have HB := Lib.hid hb2
      clear hb2
      go_enter Try.func35, Try.ntmps35
      go_wp2_with (first | (go_at_call 39; refine (bad_at g false _ h2).mono ?_; rintro e w1 ⟨rfl, rfl⟩) | (go_at_call 41; refine (HCALL.out _ (H.out.alloc _)).mono ?_; rintro e W1 ⟨rfl, k1, hW1⟩; have hR : Rd W1 base g v l p false := (by rw [hW1]; exact (H.out.alloc _).drewN k1); have hG : w.grownBy W1 (some g) := (by rw [hW1]; exact grown_drewN (World.grownBy_alloc w _ _) k1); clear hW1; have c1 := hR.c1; have c2 := hR.c2; have f1 := hR.row.frozen 1; have f2 := hR.row.frozen 2; have HR := Lib.hid hR; have HG := Lib.hid hG; clear hR hG))
      go_ret
      exact ⟨rfl, by rw [HB.out]; exact HR.out.moved (q := p + k) (by omega), (HG.out.trans (grown_set _ _ _ _)).trans (grown_set _ _ _ _)⟩
  · by_cases hk0 : k = 0
    · subst hk0
      go_enter Try.func35, Try.ntmps35
      go_wp2_with (first | (go_at_call 39; refine (bad_at g false _ h2).mono ?_; rintro e w1 ⟨rfl, rfl⟩) | (go_at_call 41; refine (HCALL.out _ (H.out.alloc _)).mono ?_; rintro e W1 ⟨rfl, k1, hW1⟩; have hR : Rd W1 base g v l p false := (by rw [hW1]; exact (H.out.alloc _).drewN k1); have hG : w.grownBy W1 (some g) := (by rw [hW1]; exact grown_drewN (World.grownBy_alloc w _ _) k1); clear hW1; have c1 := hR.c1; have c2 := hR.c2; have f1 := hR.row.frozen 1; have f2 := hR.row.frozen 2; have HR := Lib.hid hR; have HG := Lib.hid hG; clear hR hG))
      go_ret
      exact ⟨rfl, HR.out.moved hle, (HG.out.trans (grown_set _ _ _ _)).trans (grown_set _ _ _ _)⟩
    · have hb : ((k : Int) == 0) = false := by rw [beq_eq_false_iff_ne]; omega
      have hb2 : (k == 0) = false := by rw [beq_eq_false_iff_ne]; omega
      have HB := Lib.hid hb2
      clear hb2
      go_enter Try.func35, Try.ntmps35
      go_wp2_with (first | (go_at_call 39; refine (bad_at g false _ h2).mono ?_; rintro e w1 ⟨rfl, rfl⟩) | (go_at_call 41; refine (HCALL.out _ (H.out.alloc _)).mono ?_; rintro e W1 ⟨rfl, k1, hW1⟩; have hR : Rd W1 base g v l p false := (by rw [hW1]; exact (H.out.alloc _).drewN k1); have hG : w.grownBy W1 (some g) := (by rw [hW1]; exact grown_drewN (World.grownBy_alloc w _ _) k1); clear hW1; have c1 := hR.c1; have c2 := hR.c2; have f1 := hR.row.frozen 1; have f2 := hR.row.frozen 2; have HR := Lib.hid hR; have HG := Lib.hid hG; clear hR hG))
      go_ret
      exact ⟨rfl, by rw [HB.out]; exact HR.out.moved (q := p + k) (by omega), (HG.out.trans (grown_set _ _ _ _)).trans (grown_set _ _ _ _)⟩

theorem number_whole {base g : Nat} {v : Value} {l : List UInt8} {p : Nat} (s : Nat) (w : World) (h : Rd w base g v l p false) (hs1 : 1 ≤ s) (hs8 : s ≤ 8) :
    Calls Try.prog 35 #[.pointer (some ⟨g, 0, none⟩), .int .i64 s] w fun e w' => e = .returned (.int .u64 (rdW (l.drop p) s).1) ∧
      Rd w' base g v l (p + (rdW (l.drop p) s).2) ((rdW (l.drop p) s).2 == 0) ∧ w.grownBy w' (some g) :=
  number_whole_ _ s rfl (by omega) w h hs1 hs8

/-- What a reader at p of l answers where it is asked for a number: the number, the place and whether it is bad behind it. -/
def rd (l : List UInt8) (p : Nat) (x : Bool) (size : Nat) : Nat × Nat × Bool :=
  if x then (0, p, true) else
    let r := if size = 0 then rdS (l.drop p) else rdW (l.drop p) size
    (r.1, p + r.2, r.2 == 0)

theorem number_any {base g : Nat} {v : Value} {l : List UInt8} {p : Nat} {x : Bool} (s : Nat) (w : World) (h : Rd w base g v l p x) (hs8 : s ≤ 8) :
    Calls Try.prog 35 #[.pointer (some ⟨g, 0, none⟩), .int .i64 s] w fun e w' => e = .returned (.int .u64 (rd l p x s).1) ∧
      Rd w' base g v l (rd l p x s).2.1 (rd l p x s).2.2 ∧ w.grownBy w' (some g) := by
  cases x with
  | true =>
    refine (number_bad s w h).mono ?_
    rintro e w' ⟨rfl, rfl⟩
    exact ⟨rfl, h, World.grownBy.refl _ _⟩
  | false =>
    by_cases h0 : s = 0
    · subst h0
      exact number_short w h
    · have := number_whole s w h (by omega) hs8
      unfold rd
      rw [if_neg (by simp)]
      simp only [if_neg h0]
      exact this
end Go.Proofs.Ytigjkolhhhmdhaa
