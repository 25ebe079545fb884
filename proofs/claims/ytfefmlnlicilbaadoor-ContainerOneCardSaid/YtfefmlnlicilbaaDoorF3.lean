/- Walks: between; the edges of two rows: edge, passIf, left, pass. -/
import Derived.Test.YtfefmlnlicilbaaDoorF2
namespace Go.Proofs.YtfefmlnlicilbaaDoor
open Go.RowKit
set_option linter.unusedVariables false

theorem wrap16 (x : Int) (h : 0 ≤ x) : IntKind.u16.wrap x = ((UInt16.ofNat x.toNat).toNat : Int) := by
  rw [UInt16.toNat_ofNat']
  simp [IntKind.wrap, IntKind.bits, IntKind.signed]
  omega
set_option maxHeartbeats 400000 in
theorem between_any (lo hi : Int) (h0 : 0 ≤ lo ∧ lo ≤ 1000000) (h1 : 0 ≤ hi ∧ hi ≤ 1000000) (w : World) :
    Calls Tryd.prog 68 #[.int .i64 lo, .int .i64 hi] w fun e w' => ∃ v, e = .returned v ∧ Gw2 eR w' w.heap.size v (btw lo hi) ∧ Below w.heap.size w w' := by
  rcases Int.lt_or_le lo hi with h | h
  · have e : btw lo hi = [(UInt16.ofNat lo.toNat, UInt16.ofNat (hi - lo - 1).toNat)] := by unfold btw; rw [if_neg (by omega)]
    have w1 := wrap16 lo h0.1
    have w2 := wrap16 (hi - lo - 1) (by omega)
    have w3 : IntKind.i64.wrap (hi - lo) = hi - lo := by simp [IntKind.wrap, IntKind.bits, IntKind.signed]; omega
    have w4 : IntKind.i64.wrap (hi - lo - 1) = hi - lo - 1 := by simp [IntKind.wrap, IntKind.bits, IntKind.signed]; omega
    rw [e]
    obtain ⟨A, hA⟩ : ∃ A, A = UInt16.ofNat lo.toNat := ⟨_, rfl⟩
    obtain ⟨B, hB⟩ : ∃ B, B = UInt16.ofNat (hi - lo - 1).toNat := ⟨_, rfl⟩
    rw [← hA] at w1
    rw [← hB] at w2
    rw [← hA, ← hB]
    clear e hA hB
    go_enter Tryd.func68, Tryd.ntmps68
    go_wp2
    go_ret
    exact ⟨_, rfl, (Gw2.lit w w.heap.size (Nat.le_refl _) [(A, B)] _ 1 (by rfl) rfl (by omega)), (Below.refl _ w).alloc (Nat.le_refl _) _⟩
  · have e : btw lo hi = [] := by unfold btw; rw [if_pos h]
    rw [e]
    have h2 : lo ≥ hi := h
    go_enter Tryd.func68, Tryd.ntmps68
    go_wp2
    go_ret
    exact ⟨_, rfl, Gw2.nil_ _ _, Below.refl _ w⟩

/-- A first run's two cells. -/
theorem gs2_head {w : World} {lo hi : Nat} {A : Option Addr} {n c : Nat} {r : Rn} {l : List Rn} (h : Gs2 eR w lo hi (.slice A n c) (r :: l)) :
    ∃ b off, A = some ⟨b, off, none⟩ ∧ n = l.length + 1 ∧ b < hi ∧ w.cell? ⟨b, off, none⟩ = some (.int .u16 r.1.toNat) ∧ w.cell? ⟨b, off + 1, none⟩ = some (.int .u16 r.2.toNat) := by
  obtain ⟨b, off, c', e, -, -, -, hb, hc⟩ := h.form (by simp)
  injection e with e1 e2 e3
  have := hc 0 r rfl
  simp only [Nat.mul_zero, Nat.add_zero] at this
  exact ⟨b, off, e1, by simpa using e2, hb, this.1, this.2⟩
set_option maxHeartbeats 1000000 in
theorem edge_any (g o hi : Nat) (v : Value) (l : List Rn) (b : Bool) (w : World) (h0 : w.cell? ⟨g, o, none⟩ = some v) (h1 : w.cell? ⟨g, o + 1, none⟩ = some (.bool b)) (hv : Gs2 eR w 0 hi v l) (hh : hi ≤ w.heap.size) :
    Calls Tryd.prog 95 #[.pointer (some ⟨g, o, none⟩)] w fun e w' => e = .returned (.int .i64 (edg l b)) ∧ Below w.heap.size w w' := by
  have hlen := hv.len
  obtain ⟨A, c, rfl, -⟩ := id hv
  cases l with
  | nil =>
    rw [edg_nil]
    clear hv
    go_enter Tryd.func95, Tryd.ntmps95
    go_wp2
    go_ret
    exact ⟨rfl, Below.refl _ w⟩
  | cons r l =>
    obtain ⟨bb, off, rfl, -, hbb, c0, c1⟩ := gs2_head hv
    have hf := u16_lt r.1
    have hm := u16_lt r.2
    obtain ⟨f, hfe⟩ : ∃ f, f = r.1.toNat := ⟨_, rfl⟩
    obtain ⟨m, hme⟩ : ∃ m, m = r.2.toNat := ⟨_, rfl⟩
    have hln : ((l.length + 1 : Nat) : Int) ≠ 0 := by omega
    simp only [List.length_cons] at h0
    cases b with
    | false =>
      have e : edg (r :: l) false = (f : Int) := by rw [hfe]; rfl
      rw [e]
      rw [← hfe] at c0 hf
      clear e hfe hme hm c1 hv
      go_enter Tryd.func95, Tryd.ntmps95
      go_wp2
      go_ret
      exact ⟨rfl, Below.refl _ w⟩
    | true =>
      have e : edg (r :: l) true = (f : Int) + ((m : Int) + 1) := by rw [hfe, hme]; rfl
      rw [e]
      rw [← hfe] at c0 hf
      rw [← hme] at c1 hm
      clear e hfe hme hv
      go_enter Tryd.func95, Tryd.ntmps95
      go_wp2_with (go_at_call 66; refine (end_any f m hf hm _).mono ?_; rintro e w9 ⟨rfl, b9⟩; have B9 := Lib.hid b9; clear b9)
      go_ret
      exact ⟨rfl, B9.out⟩
end Go.Proofs.YtfefmlnlicilbaaDoor
