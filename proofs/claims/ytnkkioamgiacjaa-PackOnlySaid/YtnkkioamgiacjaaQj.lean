/- Walks: the law PackJoins. -/
import Derived.Test.YtnkkioamgiacjaaQ9
namespace Go.Proofs.Ytnkkioamgiacjaa
open Go.RowKit
set_option linter.unusedVariables false

/-- Too many numbers, or no whole bytes: 'known' alone is asked. -/
theorem joins_long (A B : Option Addr) (n c m d : Nat) (wI : Int) (w : World) (h : 200 < n ∨ 200 < m ∨ n % 8 ≠ 0) (hn : n ≤ 9223372036854775807) (hm : m ≤ 9223372036854775807) :
    Calls Try.prog 6 #[.slice A n c, .slice B m d, .int .i64 wI] w fun e w' => e = .returned (.bool true) ∧ Below w.heap.size w w' := by
  by_cases h1 : 200 < n
  · clear h
    go_enter Try.func6, Try.ntmps6
    go_wp2_with (go_at_call 7; refine (known_any _).mono ?_; rintro e w1 ⟨rfl, hb⟩)
    go_ret
    exact ⟨rfl, hb⟩
  · have d1 : decide (200 < n) = false := by simpa using h1
    have d1' : decide (200 < (n : Int)) = false := by simp; omega
    by_cases h2 : 200 < m
    · clear h
      go_enter Try.func6, Try.ntmps6
      go_wp2_with (go_at_call 7; refine (known_any _).mono ?_; rintro e w1 ⟨rfl, hb⟩)
      go_ret
      exact ⟨rfl, hb⟩
    · have d2 : decide (200 < m) = false := by simpa using h2
      have d2' : decide (200 < (m : Int)) = false := by simp; omega
      have d3 : (((n : Int) % 8) != 0) = true := by simp; omega
      clear h
      go_enter Try.func6, Try.ntmps6
      go_wp2_with (go_at_call 7; refine (known_any _).mono ?_; rintro e w1 ⟨rfl, hb⟩)
      go_ret
      exact ⟨rfl, hb⟩
theorem pack_spec (v : Value) (l : List UInt64) (lo : Nat) (wI : Int) (E : Int) (R : List UInt8) (hE : pkE l wI = E) (hR : pkR l wI = R) (W : World) (hv : Gs e64 W lo W.heap.size v l) (hl : l.length ≤ 100000) :
    Calls Try.prog 8 #[v, .int .i64 wI] W fun e w' => ∃ A n c, e = .returned (.tuple #[.slice A n c, .int .i64 E]) ∧ Gw e8 w' W.heap.size (.slice A n c) R ∧ Below W.heap.size W w' := by
  subst hE hR
  refine (pack_any v l lo wI W hv hl).mono ?_
  rintro e w' ⟨v', rfl, o, b⟩
  have ho := o
  obtain ⟨A, c, rfl, -⟩ := ho.sl
  exact ⟨A, _, c, rfl, o, b⟩
theorem pkOk_append (l m : List UInt64) (wI : Int) : pkOk (l ++ m) wI = (pkOk l wI && pkOk m wI) := by
  by_cases hr : 1 ≤ wI ∧ wI ≤ 64
  · obtain ⟨w, rfl⟩ := Int.eq_ofNat_of_zero_le (show 0 ≤ wI by omega)
    rw [Bool.eq_iff_iff, Bool.and_eq_true, pkOk_iff, pkOk_iff, pkOk_iff]
    have key : fits (l ++ m) w ↔ fits l w ∧ fits m w := by
      constructor
      · intro h
        constructor
        · intro i hi
          have := h i (by rw [List.length_append]; omega)
          rwa [List.getD_eq_getElem?_getD, List.getElem?_append_left hi, ← List.getD_eq_getElem?_getD] at this
        · intro i hi
          have := h (l.length + i) (by rw [List.length_append]; omega)
          rwa [List.getD_eq_getElem?_getD, List.getElem?_append_right (by omega), Nat.add_sub_cancel_left, ← List.getD_eq_getElem?_getD] at this
      · rintro ⟨h1, h2⟩ i hi
        rw [List.getD_eq_getElem?_getD, List.getElem?_append]
        by_cases h : i < l.length
        · rw [if_pos h, ← List.getD_eq_getElem?_getD]
          exact h1 i h
        · rw [if_neg h, ← List.getD_eq_getElem?_getD]
          rw [List.length_append] at hi
          exact h2 _ (by omega)
    rw [key]
    constructor
    · rintro ⟨a, b, c, d⟩
      exact ⟨⟨a, b, c⟩, a, b, d⟩
    · rintro ⟨⟨a, b, c⟩, _, _, d⟩
      exact ⟨a, b, c, d⟩
  · have no : ∀ l, pkOk l wI = false := fun l => by
      rw [← Bool.not_eq_true]
      exact fun h => hr (pkOk_range h)
    rw [no, no, no]
    rfl
theorem pkR_append (l m : List UInt64) (wI : Int) (h8 : l.length % 8 = 0) (h1 : pkE l wI = 0) (h2 : pkE m wI = 0) : pkR (l ++ m) wI = pkR l wI ++ pkR m wI := by
  have k1 : pkOk l wI = true := by
    unfold pkE at h1
    split at h1
    · assumption
    · omega
  have k2 : pkOk m wI = true := by
    unfold pkE at h2
    split at h2
    · assumption
    · omega
  obtain ⟨r1, r2⟩ := pkOk_range k1
  unfold pkR
  rw [pkOk_append, k1, k2]
  simp only [Bool.and_self, if_true]
  exact pk_join l m wI.toNat (by omega) h8
theorem pkR_len (l : List UInt64) (wI : Int) (hl : l.length ≤ 1000) : (pkR l wI).length ≤ 10000 := by
  unfold pkR
  split
  · rename_i h
    obtain ⟨h1, h2⟩ := pkOk_range h
    have hm := mul_bound l.length wI.toNat 1000 hl (by omega)
    rw [pk_length]
    unfold sz
    omega
  · simp

theorem str_cat (a b : List UInt8) : (⟨a.toArray⟩ ++ ⟨b.toArray⟩ : ByteArray) = ⟨(a ++ b).toArray⟩ := by
  apply ByteArray.ext
  simp
set_option maxHeartbeats 4000000 in
theorem joins_good (A B : Option Addr) (c d : Nat) (l m : List UInt64) (wI : Int) (w : World) (hv : Gs e64 w 0 w.heap.size (.slice A l.length c) l) (hu : Gs e64 w 0 w.heap.size (.slice B m.length d) m) (hl : l.length ≤ 200) (hm : m.length ≤ 200) (h8 : l.length % 8 = 0) :
    Calls Try.prog 6 #[.slice A l.length c, .slice B m.length d, .int .i64 wI] w fun e w' => e = .returned (.bool true) ∧ Below w.heap.size w w' := by
  obtain ⟨E1, hE1⟩ : ∃ E, pkE l wI = E := ⟨_, rfl⟩
  obtain ⟨E2, hE2⟩ : ∃ E, pkE m wI = E := ⟨_, rfl⟩
  obtain ⟨E3, hE3⟩ : ∃ E, pkE (l ++ m) wI = E := ⟨_, rfl⟩
  obtain ⟨R1, hR1⟩ : ∃ R, pkR l wI = R := ⟨_, rfl⟩
  obtain ⟨R2, hR2⟩ : ∃ R, pkR m wI = R := ⟨_, rfl⟩
  obtain ⟨R3, hR3⟩ : ∃ R, pkR (l ++ m) wI = R := ⟨_, rfl⟩
  have hlen1 := pkR_len l wI (by omega)
  have hlen2 := pkR_len m wI (by omega)
  rw [hR1] at hlen1
  rw [hR2] at hlen2
  have cases3 : (E1 = 0 ∧ E2 = 0 ∧ E3 = 0 ∧ R3 = R1 ++ R2) ∨ (E1 = 0 ∧ E2 = 2 ∧ E3 = 2) ∨ (E1 = 2 ∧ E3 = 2) := by
    rw [← hE1, ← hE2, ← hE3, ← hR3, ← hR1, ← hR2]
    have ha := pkOk_append l m wI
    unfold pkE
    cases k1 : pkOk l wI <;> cases k2 : pkOk m wI <;> rw [k1, k2] at ha <;> rw [ha] <;> simp
    exact pkR_append l m wI h8 (by unfold pkE; rw [k1]; rfl) (by unfold pkE; rw [k2]; rfl)
  have HE1 := Lib.hid hE1
  have HE2 := Lib.hid hE2
  have HE3 := Lib.hid hE3
  have HR1 := Lib.hid hR1
  have HR2 := Lib.hid hR2
  have HR3 := Lib.hid hR3
  have d1 : decide (200 < l.length) = false := by simp; omega
  have d2 : decide (200 < m.length) = false := by simp; omega
  have d3 : (((l.length : Int) % 8) != 0) = false := by simp; omega
  have HV := Lib.hid hv
  have HU := Lib.hid hu
  clear hv hu hE1 hE2 hE3 hR1 hR2 hR3 h8
  rcases cases3 with ⟨rfl, rfl, rfl, rfl⟩ | ⟨rfl, rfl, rfl⟩ | ⟨rfl, rfl⟩
  all_goals
    go_enter Try.func6, Try.ntmps6
    go_wp2_with fail
    refine (pack_spec _ l 0 wI _ _ HE1.out HR1.out _ HV.out (by omega)).mono ?_
    rintro e w1 ⟨A1, n1, c1, rfl, o1, b1⟩
    have O1 := Lib.hid o1
    have B1 := Lib.hid b1
    clear o1 b1
    go_wp2_with fail
    refine (pack_spec _ m 0 wI _ _ HE2.out HR2.out _ ((HU.out.below B1.out).more (Nat.le_refl _) B1.out.size) (by omega)).mono ?_
    rintro e w2 ⟨A2, n2, c2, rfl, o2, b2⟩
    have O2 := Lib.hid o2
    have B2 := Lib.hid (B1.out.trans (b2.mono B1.out.size))
    have O12 := Lib.hid (O1.out.below b2 (Nat.le_refl _))
    clear o2 b2
    go_wp2_with (first
      | (at_builtin; refine wpList_gapp e64 _ rfl _ _ _ rfl w2.heap.size sli64 inf64 _ l rfl o3 0 w.heap.size _ m rfl (HU.out.below b3) (by omega) b3' ?_; intro v4 w4 o4 g4 hh; clear hh; have b4 : Below w.heap.size w w4 := b3.grown g4 b3.size (fun i hi => Nat.le_trans B2.out.size (o3.lt i hi).1); have b4' : Below w2.heap.size w2 w4 := b3''.grown g4 b3''.size (fun i hi => (o3.lt i hi).1); have O4 := Lib.hid o4; have B4 := Lib.hid b4; have B4' := Lib.hid b4'; clear o3 b3 b3' b3'' g4 o4 b4 b4')
      | (at_builtin; refine wpList_gapp e64 _ rfl _ _ _ rfl w2.heap.size sli64 inf64 _ [] rfl (Gw.empty_ _ _ (Nat.le_refl _)) 0 w.heap.size _ l rfl ((HV.out.below B2.out).alloc B2.out.size _) (by simp; omega) (by simp) ?_; intro v3 w3 o3 g3 hh; clear hh; rw [List.nil_append] at o3; have b3'' : Below w2.heap.size w2 w3 := ((Below.refl _ _).alloc (Nat.le_refl _) _).grown g3 (by simp) (fun i hi => by injection hi with hi; subst hi; exact Nat.le_refl _); have b3 : Below w.heap.size w w3 := B2.out.trans (b3''.mono B2.out.size); have b3' := b3''.size; clear g3))
    refine (pack_spec _ (l ++ m) _ wI _ _ HE3.out HR3.out _ (O4.out.sl) (by simp; omega)).mono ?_
    rintro e w5 ⟨A5, n5, c5, rfl, o5, b5⟩
    have B5 := Lib.hid (B4.out.trans (b5.mono B4.out.size))
    have cv5 := str8 o5.sl
    have b25 : Below w2.heap.size w2 w5 := B4'.out.trans (b5.mono B4'.out.size)
    have cv2 := str8 (O2.out.below b25 (Nat.le_refl _)).sl
    have cv1 := str8 (O12.out.below b25 (Nat.le_refl _)).sl
    clear b25 o5 b5
    obtain ⟨S1, hS1⟩ : ∃ S : ByteArray, S = ⟨R1.toArray⟩ := ⟨_, rfl⟩
    obtain ⟨S2, hS2⟩ : ∃ S : ByteArray, S = ⟨R2.toArray⟩ := ⟨_, rfl⟩
    have hz1 : S1.size ≤ 10000 := by rw [hS1]; simpa [ByteArray.size] using hlen1
    have hz2 : S2.size ≤ 10000 := by rw [hS2]; simpa [ByteArray.size] using hlen2
    have HZ : ¬ 9223372036854775807 < S1.size + S2.size := by omega
    rw [← hS1] at cv1
    rw [← hS2] at cv2
    try rw [← str_cat, ← hS1, ← hS2] at cv5
    have HS1 := Lib.hid hS1
    have HS2 := Lib.hid hS2
    clear hS1 hS2
    go_wp2_with (go_at_call 7; refine (known_any _).mono ?_; rintro e w6 ⟨rfl, b6⟩)
    go_ret
    exact ⟨rfl, B5.out.trans (b6.mono B5.out.size)⟩
end Go.Proofs.Ytnkkioamgiacjaa
