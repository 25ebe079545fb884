/- Walks: the law ArraysWithin. -/
import Derived.Test.YthfhkcnbpbmenaaDa
namespace Go.Proofs.Ythfhkcnbpbmenaa
open Go.RowKit
set_option linter.unusedVariables false

theorem within_long (a0 a1 : Option Addr) (len0 cap0 len1 cap1 : Nat) (w : World) (h : 3000 < len0) (h2 : len0 ≤ 9223372036854775807) :
    Calls Try.prog 7 #[.slice a0 len0 cap0, .slice a1 len1 cap1] w fun e w' => e = .returned (.bool true) ∧ Below w.heap.size w w' := by
  have hi : (3000 : Int) < len0 := by omega
  clear h
  go_enter Try.func7, Try.ntmps7
  go_wp2_with (go_at_call 8; refine (known_any _).mono ?_; rintro e w1 ⟨rfl, b1⟩)
  go_ret
  exact ⟨rfl, b1⟩
theorem within_long2 (a0 a1 : Option Addr) (len0 cap0 len1 cap1 : Nat) (w : World) (h0 : len0 ≤ 3000) (h : 3000 < len1) (h2 : len1 ≤ 9223372036854775807) :
    Calls Try.prog 7 #[.slice a0 len0 cap0, .slice a1 len1 cap1] w fun e w' => e = .returned (.bool true) ∧ Below w.heap.size w w' := by
  have hi : (3000 : Int) < len1 := by omega
  have hi0 : (len0 : Int) ≤ 3000 := by omega
  clear h h0
  go_enter Try.func7, Try.ntmps7
  go_wp2_with (go_at_call 8; refine (known_any _).mono ?_; rintro e w1 ⟨rfl, b1⟩)
  go_ret
  exact ⟨rfl, b1⟩
theorem within_odd (v u : Value) (l m : List UInt16) (w : World) (hv : Gs e16 w 0 w.heap.size v l) (hu : Gs e16 w 0 w.heap.size u m) (h : l.length ≤ 3000) (h' : m.length ≤ 3000) (hr : ris l = false) :
    Calls Try.prog 7 #[v, u] w fun e w' => e = .returned (.bool true) ∧ Below w.heap.size w w' := by
  have HV := Lib.hid hv
  have HU := Lib.hid hu
  obtain ⟨A, c, rfl, -⟩ := hv
  obtain ⟨A1, c1, rfl, -⟩ := hu
  have hi : (l.length : Int) ≤ 3000 := by omega
  have hi' : (m.length : Int) ≤ 3000 := by omega
  clear h h'
  go_enter Try.func7, Try.ntmps7
  go_wp2_with fail
  refine (refMay_b _ l 0 _ _ HV.out).mono ?_
  rintro e w1 ⟨rfl, b1⟩
  have B1 := Lib.hid b1
  clear b1
  rw [hr]
  go_wp2_with fail
  refine (known_any _).mono ?_
  rintro e w9 ⟨rfl, b9⟩
  have B9 := Lib.hid (B1.out.trans (b9.mono B1.out.size))
  clear b9
  go_wp2
  go_ret
  exact ⟨rfl, B9.out⟩
theorem within_odd2 (v u : Value) (l m : List UInt16) (w : World) (hv : Gs e16 w 0 w.heap.size v l) (hu : Gs e16 w 0 w.heap.size u m) (h : l.length ≤ 3000) (h' : m.length ≤ 3000) (hr : ris l = true) (hr2 : ris m = false) :
    Calls Try.prog 7 #[v, u] w fun e w' => e = .returned (.bool true) ∧ Below w.heap.size w w' := by
  have HV := Lib.hid hv
  have HU := Lib.hid hu
  obtain ⟨A, c, rfl, -⟩ := hv
  obtain ⟨A1, c1, rfl, -⟩ := hu
  have hi : (l.length : Int) ≤ 3000 := by omega
  have hi' : (m.length : Int) ≤ 3000 := by omega
  clear h h'
  go_enter Try.func7, Try.ntmps7
  go_wp2_with fail
  refine (refMay_b _ l 0 _ _ HV.out).mono ?_
  rintro e w1 ⟨rfl, b1⟩
  have B1 := Lib.hid b1
  clear b1
  rw [hr]
  go_wp2_with fail
  refine (refMay_b _ m 0 w.heap.size _ (HU.out.below B1.out)).mono ?_
  rintro e w2 ⟨rfl, b2⟩
  have B2 := Lib.hid (B1.out.trans (b2.mono B1.out.size))
  clear b2 B1
  have B1 := B2
  rw [hr2]
  go_wp2_with fail
  refine (known_any _).mono ?_
  rintro e w9 ⟨rfl, b9⟩
  have B9 := Lib.hid (B1.out.trans (b9.mono B1.out.size))
  clear b9
  go_wp2
  go_ret
  exact ⟨rfl, B9.out⟩

theorem not_nil {l m : List UInt16} (hl : ris l = true) (hm : ris m = true) : mg fNot l m = [] ↔ ∀ x ∈ l, x ∈ m := by
  rw [List.eq_nil_iff_forall_not_mem]
  constructor
  · intro h x hx
    have := h x
    rw [mg_mem fNot rfl hl hm] at this
    simp [fNot, hx] at this
    exact this
  · intro h x hx
    rw [mg_mem fNot rfl hl hm] at hx
    simp [fNot] at hx
    exact hx.2 (h x hx.1)
theorem and_self {l m : List UInt16} (hl : ris l = true) (hm : ris m = true) : mg fAnd l m = l ↔ ∀ x ∈ l, x ∈ m := by
  constructor
  · intro h x hx
    rw [← h, mg_mem fAnd rfl hl hm] at hx
    simp [fAnd] at hx
    exact hx.2
  · intro h
    refine ris_ext (ris_mg _ hl hm) hl fun x => ?_
    rw [mg_mem fAnd rfl hl hm]
    simp [fAnd]
    exact h x
theorem or_self' {l m : List UInt16} (hl : ris l = true) (hm : ris m = true) : mg fOr l m = m ↔ ∀ x ∈ l, x ∈ m := by
  constructor
  · intro h x hx
    rw [← h, mg_mem fOr rfl hl hm]
    simp [fOr, hx]
  · intro h
    refine ris_ext (ris_mg _ hl hm) hm fun x => ?_
    rw [mg_mem fOr rfl hl hm]
    simp [fOr]
    exact h x
theorem all_fd {l m : List UInt16} (hm : ris m = true) : l.all (fd m) = true ↔ ∀ x ∈ l, x ∈ m := by
  rw [List.all_eq_true]
  exact ⟨fun h x hx => by have := h x hx; rwa [fd_mem hm, decide_eq_true_eq] at this, fun h x hx => by rw [fd_mem hm, decide_eq_true_eq]; exact h x hx⟩
theorem all_succ {l m : List UInt16} {k : Nat} (h : k < l.length) : (l.take (k + 1)).all (fd m) = ((l.take k).all (fd m) && fd m (at16 l k)) := by
  rw [List.take_add_one, at16_get h]
  simp [List.all_append]

set_option maxHeartbeats 2000000 in
set_option maxRecDepth 100000 in
theorem within_true (v u : Value) (l m : List UInt16) (w : World) (hv : Gs e16 w 0 w.heap.size v l) (hu : Gs e16 w 0 w.heap.size u m) (h : l.length ≤ 3000) (h' : m.length ≤ 3000) (hr : ris l = true) (hr2 : ris m = true)
    (h1 : l.all (fd m) = true) (N : List UInt16) (hN : mg fNot l m = N) (hNl : ((N.length : Int) == 0) = true) (h2 : decide (mg fAnd l m = l) = true) (h3 : decide (mg fOr l m = m) = true) :
    Calls Try.prog 7 #[v, u] w fun e w' => e = .returned (.bool true) ∧ Below w.heap.size w w' := by
  have HV := Lib.hid hv
  have HU := Lib.hid hu
  obtain ⟨A, c, rfl, -⟩ := hv
  obtain ⟨A1, c1, rfl, -⟩ := hu
  have hi : (l.length : Int) ≤ 3000 := by omega
  have hi' : (m.length : Int) ≤ 3000 := by omega
  have HN := Lib.hid hN
  have H1 := Lib.hid h1
  clear h h' hN h1
  go_enter Try.func7, Try.ntmps7
  go_wp2_with fail
  refine (refMay_b _ l 0 _ _ HV.out).mono ?_
  rintro e w1 ⟨rfl, b1⟩
  have B1 := Lib.hid b1
  clear b1
  rw [hr]
  go_wp2_with fail
  refine (refMay_b _ m 0 w.heap.size _ (HU.out.below B1.out)).mono ?_
  rintro e w2 ⟨rfl, b2⟩
  have B2 := Lib.hid (B1.out.trans (b2.mono B1.out.size))
  clear b2 B1
  rw [hr2]
  go_wp2_with fail
  refine (not_any _ _ l m 0 _ ((HV.out.below B2.out).more (Nat.le_refl _) B2.out.size) ((HU.out.below B2.out).more (Nat.le_refl _) B2.out.size) (by omega) (by omega)).mono ?_
  rintro e w3 ⟨v3, rfl, o3, b3⟩
  rw [HN.out] at o3
  obtain ⟨A3, c3, rfl, -⟩ := o3.sl
  have B3 := Lib.hid (B2.out.trans (b3.mono B2.out.size))
  clear b3 B2 o3
  go_wp2
  go_loop [6, 37] (fun s6 s37 => ∃ k : Nat, k ≤ l.length ∧ s37 = .int .i64 k ∧ s6 = .bool ((l.take k).all (fd m))) (fun _ i => l.length - (intOf i).toNat)
  case atStart => exact ⟨0, Nat.zero_le _, rfl, rfl⟩
  case round =>
    obtain ⟨k, hk, rfl, rfl⟩ := hrel
    by_cases hlt : k < l.length
    · obtain ⟨b1, o1, c1, e1, -, -, -, -, hc1⟩ := (HV.out.below B3.out).form (by rintro rfl; simp at hlt)
      injection e1 with e1 _ e2
      subst e1 e2
      have k1 := hc1 k _ (at16_get hlt)
      simp only [e16, b16] at k1
      have HS := Lib.hid (all_succ (m := m) hlt)
      obtain ⟨x, hx⟩ : ∃ x, x = at16 l k := ⟨_, rfl⟩
      rw [← hx] at k1 HS
      obtain ⟨X, hX⟩ : ∃ X : Int, X = (x.toNat : Int) := ⟨_, rfl⟩
      rw [← hX] at k1
      have HX := Lib.hid hX
      clear hc1 hx hX
      have ha : ∃ q, (l.take k).all (fd m) = q := ⟨_, rfl⟩
      obtain ⟨q, hq⟩ := ha
      have ha : ∃ q, fd m x = q := ⟨_, rfl⟩
      obtain ⟨f, hf⟩ := ha
      have HQ := Lib.hid hq
      have HF := Lib.hid hf
      rw [hq]
      clear hq hf
      cases q <;> cases f <;>
      · go_wp2_with (go_at_call 12; refine (find_any _ m 0 w.heap.size X x HX.out _ (HU.out.below B3.out) (by omega)).mono ?_; rintro e wz ⟨rfl, rfl⟩; rw [HF.out])
        go_round
        case rel => exact ⟨k + 1, hlt, by go_num, by rw [HS.out, HQ.out, HF.out]; rfl⟩
        case measure => simp [intOf]; omega
    · obtain rfl : k = l.length := by omega
      rw [List.take_length, H1.out]
      go_wp2_with fail
      refine (and_any _ _ l m 0 _ ((HV.out.below B3.out).more (Nat.le_refl _) B3.out.size) ((HU.out.below B3.out).more (Nat.le_refl _) B3.out.size) (by omega) (by omega)).mono ?_
      rintro e w4 ⟨v4, rfl, o4, b4⟩
      have O4 := Lib.hid o4
      have B4 := Lib.hid (B3.out.trans (b4.mono B3.out.size))
      clear b4 o4
      go_wp2_with fail
      refine (same_b _ _ _ l _ _ 0 w.heap.size _ O4.out.sl (HV.out.below B4.out)).mono ?_
      rintro e w5 ⟨rfl, b5⟩
      have B5 := Lib.hid (B4.out.trans (b5.mono B4.out.size))
      clear b5
      rw [h2]
      go_wp2_with fail
      refine (or_any _ _ l m 0 _ ((HV.out.below B5.out).more (Nat.le_refl _) B5.out.size) ((HU.out.below B5.out).more (Nat.le_refl _) B5.out.size) (by omega) (by omega)).mono ?_
      rintro e w6 ⟨v6, rfl, o6, b6⟩
      have O6 := Lib.hid o6
      have B6 := Lib.hid (B5.out.trans (b6.mono B5.out.size))
      clear b6 o6
      go_wp2_with fail
      refine (same_b _ _ _ m _ _ 0 w.heap.size _ O6.out.sl (HU.out.below B6.out)).mono ?_
      rintro e w7 ⟨rfl, b7⟩
      have B7 := Lib.hid (B6.out.trans (b7.mono B6.out.size))
      clear b7
      rw [h3]
      go_wp2_with fail
      refine (known_any _).mono ?_
      rintro e w8 ⟨rfl, b8⟩
      have B8 := Lib.hid (B7.out.trans (b8.mono B7.out.size))
      clear b8
      go_wp2
      go_ret
      exact ⟨rfl, B8.out⟩

set_option maxHeartbeats 2000000 in
set_option maxRecDepth 100000 in
theorem within_false (v u : Value) (l m : List UInt16) (w : World) (hv : Gs e16 w 0 w.heap.size v l) (hu : Gs e16 w 0 w.heap.size u m) (h : l.length ≤ 3000) (h' : m.length ≤ 3000) (hr : ris l = true) (hr2 : ris m = true)
    (h1 : l.all (fd m) = false) (N : List UInt16) (hN : mg fNot l m = N) (hNl : ((N.length : Int) == 0) = false) (h2 : decide (mg fAnd l m = l) = false) (h3 : decide (mg fOr l m = m) = false) :
    Calls Try.prog 7 #[v, u] w fun e w' => e = .returned (.bool true) ∧ Below w.heap.size w w' := by
  have HV := Lib.hid hv
  have HU := Lib.hid hu
  obtain ⟨A, c, rfl, -⟩ := hv
  obtain ⟨A1, c1, rfl, -⟩ := hu
  have hi : (l.length : Int) ≤ 3000 := by omega
  have hi' : (m.length : Int) ≤ 3000 := by omega
  have HN := Lib.hid hN
  have H1 := Lib.hid h1
  clear h h' hN h1
  go_enter Try.func7, Try.ntmps7
  go_wp2_with fail
  refine (refMay_b _ l 0 _ _ HV.out).mono ?_
  rintro e w1 ⟨rfl, b1⟩
  have B1 := Lib.hid b1
  clear b1
  rw [hr]
  go_wp2_with fail
  refine (refMay_b _ m 0 w.heap.size _ (HU.out.below B1.out)).mono ?_
  rintro e w2 ⟨rfl, b2⟩
  have B2 := Lib.hid (B1.out.trans (b2.mono B1.out.size))
  clear b2 B1
  rw [hr2]
  go_wp2_with fail
  refine (not_any _ _ l m 0 _ ((HV.out.below B2.out).more (Nat.le_refl _) B2.out.size) ((HU.out.below B2.out).more (Nat.le_refl _) B2.out.size) (by omega) (by omega)).mono ?_
  rintro e w3 ⟨v3, rfl, o3, b3⟩
  rw [HN.out] at o3
  obtain ⟨A3, c3, rfl, -⟩ := o3.sl
  have B3 := Lib.hid (B2.out.trans (b3.mono B2.out.size))
  clear b3 B2 o3
  go_wp2
  go_loop [6, 37] (fun s6 s37 => ∃ k : Nat, k ≤ l.length ∧ s37 = .int .i64 k ∧ s6 = .bool ((l.take k).all (fd m))) (fun _ i => l.length - (intOf i).toNat)
  case atStart => exact ⟨0, Nat.zero_le _, rfl, rfl⟩
  case round =>
    obtain ⟨k, hk, rfl, rfl⟩ := hrel
    by_cases hlt : k < l.length
    · obtain ⟨b1, o1, c1, e1, -, -, -, -, hc1⟩ := (HV.out.below B3.out).form (by rintro rfl; simp at hlt)
      injection e1 with e1 _ e2
      subst e1 e2
      have k1 := hc1 k _ (at16_get hlt)
      simp only [e16, b16] at k1
      have HS := Lib.hid (all_succ (m := m) hlt)
      obtain ⟨x, hx⟩ : ∃ x, x = at16 l k := ⟨_, rfl⟩
      rw [← hx] at k1 HS
      obtain ⟨X, hX⟩ : ∃ X : Int, X = (x.toNat : Int) := ⟨_, rfl⟩
      rw [← hX] at k1
      have HX := Lib.hid hX
      clear hc1 hx hX
      have ha : ∃ q, (l.take k).all (fd m) = q := ⟨_, rfl⟩
      obtain ⟨q, hq⟩ := ha
      have ha : ∃ q, fd m x = q := ⟨_, rfl⟩
      obtain ⟨f, hf⟩ := ha
      have HQ := Lib.hid hq
      have HF := Lib.hid hf
      rw [hq]
      clear hq hf
      cases q <;> cases f <;>
      · go_wp2_with (go_at_call 12; refine (find_any _ m 0 w.heap.size X x HX.out _ (HU.out.below B3.out) (by omega)).mono ?_; rintro e wz ⟨rfl, rfl⟩; rw [HF.out])
        go_round
        case rel => exact ⟨k + 1, hlt, by go_num, by rw [HS.out, HQ.out, HF.out]; rfl⟩
        case measure => simp [intOf]; omega
    · obtain rfl : k = l.length := by omega
      rw [List.take_length, H1.out]
      go_wp2_with fail
      refine (and_any _ _ l m 0 _ ((HV.out.below B3.out).more (Nat.le_refl _) B3.out.size) ((HU.out.below B3.out).more (Nat.le_refl _) B3.out.size) (by omega) (by omega)).mono ?_
      rintro e w4 ⟨v4, rfl, o4, b4⟩
      have O4 := Lib.hid o4
      have B4 := Lib.hid (B3.out.trans (b4.mono B3.out.size))
      clear b4 o4
      go_wp2_with fail
      refine (same_b _ _ _ l _ _ 0 w.heap.size _ O4.out.sl (HV.out.below B4.out)).mono ?_
      rintro e w5 ⟨rfl, b5⟩
      have B5 := Lib.hid (B4.out.trans (b5.mono B4.out.size))
      clear b5
      rw [h2]
      go_wp2_with fail
      refine (or_any _ _ l m 0 _ ((HV.out.below B5.out).more (Nat.le_refl _) B5.out.size) ((HU.out.below B5.out).more (Nat.le_refl _) B5.out.size) (by omega) (by omega)).mono ?_
      rintro e w6 ⟨v6, rfl, o6, b6⟩
      have O6 := Lib.hid o6
      have B6 := Lib.hid (B5.out.trans (b6.mono B5.out.size))
      clear b6 o6
      go_wp2_with fail
      refine (same_b _ _ _ m _ _ 0 w.heap.size _ O6.out.sl (HU.out.below B6.out)).mono ?_
      rintro e w7 ⟨rfl, b7⟩
      have B7 := Lib.hid (B6.out.trans (b7.mono B6.out.size))
      clear b7
      rw [h3]
      go_wp2_with fail
      refine (known_any _).mono ?_
      rintro e w8 ⟨rfl, b8⟩
      have B8 := Lib.hid (B7.out.trans (b8.mono B7.out.size))
      clear b8
      go_wp2
      go_ret
      exact ⟨rfl, B8.out⟩

theorem within_good (v u : Value) (l m : List UInt16) (w : World) (hv : Gs e16 w 0 w.heap.size v l) (hu : Gs e16 w 0 w.heap.size u m) (h : l.length ≤ 3000) (h' : m.length ≤ 3000) (hr : ris l = true) (hr2 : ris m = true) :
    Calls Try.prog 7 #[v, u] w fun e w' => e = .returned (.bool true) ∧ Below w.heap.size w w' := by
  by_cases hs : ∀ x ∈ l, x ∈ m
  · have hN := (not_nil hr hr2).2 hs
    exact within_true v u l m w hv hu h h' hr hr2 ((all_fd hr2).2 hs) _ hN rfl (decide_eq_true ((and_self hr hr2).2 hs)) (decide_eq_true ((or_self' hr hr2).2 hs))
  · have hN : mg fNot l m ≠ [] := fun e => hs ((not_nil hr hr2).1 e)
    have hp := List.length_pos_iff.2 hN
    refine within_false v u l m w hv hu h h' hr hr2 ?_ _ rfl (beq_false_of_ne (by omega)) (decide_eq_false fun e => hs ((and_self hr hr2).1 e)) (decide_eq_false fun e => hs ((or_self' hr hr2).1 e))
    cases ha : l.all (fd m) with
    | true => exact absurd ((all_fd hr2).1 ha) hs
    | false => rfl
end Go.Proofs.Ythfhkcnbpbmenaa
