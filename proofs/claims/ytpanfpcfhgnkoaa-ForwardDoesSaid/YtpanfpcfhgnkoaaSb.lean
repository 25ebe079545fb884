/- Walks: forward's small functions; IndexFunc and ContainsFunc of numbers. -/
import Derived.Test.YtpanfpcfhgnkoaaSa
import Derived.Shelf.Abstract
namespace Go.Proofs.Ytpanfpcfhgnkoaa
open Go.RowKit
set_option linter.unusedVariables false

set_option maxHeartbeats 400000 in
theorem isMany_any (many rows : Int) (w : World) : Calls Try.prog 24 #[.int .i64 many, .int .i64 rows] w fun e w' => e = .returned (.bool (mayM rows many)) ∧ w' = w := by
  by_cases h0 : many = 0
  · subst h0
    have hm : mayM rows 0 = (rows == 0) := by unfold mayM; by_cases h : rows = 0 <;> simp [h]
    rw [hm]
    clear hm
    go_enter Try.func24, Try.ntmps24
    go_wp2
    go_ret
    exact ⟨rfl, rfl⟩
  · have e0 : (many == 0) = false := beq_false_of_ne h0
    by_cases h1 : 0 < many
    · have d1 : decide (0 < many) = true := decide_eq_true h1
      have hm : mayM rows many = decide (many ≤ 16777216) := by unfold mayM; rw [decide_eq_false h0, Bool.false_and, Bool.or_false]; exact decide_eq_decide.2 ⟨fun h => h.2, fun h => ⟨by omega, h⟩⟩
      rw [hm]
      clear hm h0 h1
      go_enter Try.func24, Try.ntmps24
      go_wp2
      go_ret
      exact ⟨rfl, rfl⟩
    · have d1 : decide (0 < many) = false := decide_eq_false h1
      have hm : mayM rows many = false := by unfold mayM; rw [decide_eq_false h0, Bool.false_and, Bool.or_false]; exact decide_eq_false (by omega)
      rw [hm]
      clear hm h0 h1
      go_enter Try.func24, Try.ntmps24
      go_wp2
      go_ret
      exact ⟨rfl, rfl⟩
set_option maxHeartbeats 400000 in
theorem widthOf_any (many : Int) (w : World) (h : many ≤ 9223372036854775807) : Calls Try.prog 26 #[.int .i64 many] w fun e w' => e = .returned (.int .i64 (wdm many : Nat)) ∧ w' = w := by
  obtain ⟨T, hT⟩ : ∃ T, wdm many = T := ⟨_, rfl⟩
  rw [hT]
  unfold wdm at hT
  by_cases h1 : 1 ≤ many
  · have e : max many 1 = many := by omega
    rw [e] at hT
    have HC := Lib.hid (width_any (many - 1) w (by omega) (by omega))
    rw [hT] at HC
    have w1 : wrap64 (many - 1) = many - 1 := by unfold wrap64; omega
    have w2 : IntKind.u64.wrap (many - 1) = many - 1 := by rw [IntKind.wrap_u64]; omega
    have w3 : IntKind.i64.wrap (many - 1) = many - 1 := by rw [IntKind.wrap_i64]; omega
    clear e hT
    go_enter Try.func26, Try.ntmps26
    go_wp2_with fail
    · refine HC.out.mono ?_
      rintro e w1 ⟨rfl, rfl⟩
      go_wp2
      go_ret
      exact ⟨rfl, rfl⟩
  · have e : max many 1 = 1 := by omega
    rw [e] at hT
    have HC := Lib.hid (width_any 0 w (by omega) (by omega))
    rw [show ((0 : Int).toNat) = ((1 : Int) - 1).toNat from rfl, hT] at HC
    clear e hT
    go_enter Try.func26, Try.ntmps26
    go_wp2_with fail
    · refine HC.out.mono ?_
      rintro e w1 ⟨rfl, rfl⟩
      go_wp2
      go_ret
      exact ⟨rfl, rfl⟩
theorem mayNot_val (many X : Int) : (decide (X < 0) || decide (many ≤ X)) = !inr many X := by
  unfold inr
  by_cases h1 : X < 0
  · simp [h1, show ¬ (0 ≤ X) by omega]
  · by_cases h2 : many ≤ X
    · rw [decide_eq_true h2, decide_eq_false (show ¬ (0 ≤ X ∧ X < many) by omega)]; simp
    · have h3 : 0 ≤ X ∧ X < many := by omega
      simp [h1, h2, h3]
set_option maxHeartbeats 400000 in
theorem mayNot_any (X : Int) (g : Nat) (many : Int) (w : World) (hg : w.cell? ⟨g, 0, none⟩ = some (.int .i64 many)) : Calls Try.prog 23 #[.int .i64 X, .pointer (some ⟨g, 0, none⟩)] w fun e w' => e = .returned (.bool (!inr many X)) ∧ w' = w := by
  have HV := Lib.hid (mayNot_val many X)
  rw [← HV.out]
  by_cases h1 : X < 0
  · have d1 : decide (X < 0) = true := decide_eq_true h1
    rw [d1]
    clear h1
    go_enter Try.func23, Try.ntmps23
    go_wp2
    go_ret
    exact ⟨rfl, rfl⟩
  · have d1 : decide (X < 0) = false := decide_eq_false h1
    rw [d1]
    clear h1
    go_enter Try.func23, Try.ntmps23
    go_wp2
    go_ret
    exact ⟨rfl, rfl⟩

set_option maxHeartbeats 1000000 in
theorem indexI_any (g : Nat) (lb : Array Value) (p : Int → Bool) (A : Option Addr) (d : Nat) (l : List Int) (w : World) (hG : Gs eI w 0 w.heap.size (.slice A l.length d) l) (eg : Enters Try.prog g)
    (hp : ∀ W X, Below w.heap.size w W → Calls Try.prog g (#[eI.val X] ++ lb) W fun e w' => e = .returned (.bool (p X)) ∧ Below W.heap.size W w') :
    Calls Try.prog 42 #[.slice A l.length d, .func (.func g) #[] lb] w fun e w' => ∃ r : Int, e = .returned (.int .i64 r) ∧ (decide (0 ≤ r) = l.any p) ∧ Below w.heap.size w w' := by
  have HE := eg
  unfold Enters at HE
  have HG := Lib.hid hG
  have HP := Lib.hid hp
  have hl1 := hG.len
  clear hG eg hp
  go_enter Try.func42, Try.ntmps42
  go_wp2
  go_loopw [8] (fun i wr => ∃ j : Nat, i = .int .i64 j ∧ j ≤ l.length ∧ Hid ((l.take j).any p = false ∧ Below w.heap.size w wr)) (fun i _ => l.length - (intOf i).toNat)
  case atStart => exact ⟨0, rfl, Nat.zero_le _, Lib.hid ⟨rfl, Below.refl _ _⟩⟩
  case round =>
    obtain ⟨j, rfl, hj, hI⟩ := hrel
    have HI := Lib.hid hI.out
    have hb0 := hI.out.2
    clear hI
    by_cases hlt : j < l.length
    · have hG := HG.out
      obtain ⟨b, boff, bc', e, -, -, -, bw, hc⟩ := hG.form (fun e => by have h := congrArg List.length e; simp only [List.length_nil] at h; omega)
      injection e with e1 e2 e3
      clear e2
      subst e1 e3
      obtain ⟨Y, hY⟩ : ∃ Y, l[j]? = some Y := ⟨_, List.getElem?_eq_getElem (by omega)⟩
      have q0 := (hb0.cell (p := ⟨b, _, none⟩) bw).trans (hc j Y hY)
      have hcall := HP.out wr Y hb0
      have HSN := Lib.hid (show l.take (j + 1) = l.take j ++ [Y] by rw [List.take_add_one, hY]; rfl)
      have HY := Lib.hid (List.mem_of_getElem? hY)
      clear hc hG hY hb0
      simp only [eI] at q0 hcall
      cases hq : p Y with
      | true =>
        rw [hq] at hcall
        have HQ := Lib.hid hq
        clear hq
        go_wp2_with fail
        refine hcall.mono ?_
        clear hcall
        rintro e w2 ⟨rfl, b2⟩
        have B2 := Lib.hid (HI.out.2.trans (b2.mono HI.out.2.size))
        clear b2
        go_wp2
        go_ret
        exact ⟨(j : Int), rfl, by rw [decide_eq_true (by omega : (0 : Int) ≤ j)]; exact (List.any_eq_true.2 ⟨Y, HY.out, HQ.out⟩).symm, B2.out⟩
      | false =>
        rw [hq] at hcall
        have HQ := Lib.hid hq
        clear hq
        go_wp2_with fail
        refine hcall.mono ?_
        clear hcall
        rintro e w2 ⟨rfl, b2⟩
        have B2 := Lib.hid (HI.out.2.trans (b2.mono HI.out.2.size))
        clear b2
        go_wp2
        go_roundw
        case rel => exact ⟨j + 1, by go_num, by omega, Lib.hid ⟨by rw [HSN.out, List.any_append, HI.out.1, List.any_cons, HQ.out]; rfl, B2.out⟩⟩
        case measure => simp [intOf]; omega
    · have ej : j = l.length := by omega
      subst ej
      have HA := Lib.hid (show l.any p = false by have := HI.out.1; rwa [List.take_length] at this)
      clear hb0
      go_wp2
      go_ret
      exact ⟨-1, rfl, by rw [HA.out]; rfl, HI.out.2⟩
set_option maxHeartbeats 400000 in
theorem anyI_any (g : Nat) (lb : Array Value) (p : Int → Bool) (A : Option Addr) (d : Nat) (l : List Int) (w : World) (hG : Gs eI w 0 w.heap.size (.slice A l.length d) l) (eg : Enters Try.prog g)
    (hp : ∀ W X, Below w.heap.size w W → Calls Try.prog g (#[eI.val X] ++ lb) W fun e w' => e = .returned (.bool (p X)) ∧ Below W.heap.size W w') :
    Calls Try.prog 25 #[.slice A l.length d, .func (.func g) #[] lb] w fun e w' => e = .returned (.bool (l.any p)) ∧ Below w.heap.size w w' := by
  have HC := Lib.hid (indexI_any g lb p A d l w hG eg hp)
  clear hG hp
  go_enter Try.func25, Try.ntmps25
  go_wp2_with (go_at_call 42; refine HC.out.mono ?_; rintro e w1 ⟨r, rfl, hr, b1⟩; have HR := Lib.hid hr; have B1 := Lib.hid b1; clear hr b1)
  go_ret
  exact ⟨by rw [← HR.out]; rfl, B1.out⟩
set_option maxHeartbeats 1000000 in
theorem indexU_any (g : Nat) (lb : Array Value) (p : UInt64 → Bool) (A : Option Addr) (d : Nat) (l : List UInt64) (w : World) (hG : Gs e64 w 0 w.heap.size (.slice A l.length d) l) (eg : Enters Try.prog g)
    (hp : ∀ W X, Below w.heap.size w W → Calls Try.prog g (#[e64.val X] ++ lb) W fun e w' => e = .returned (.bool (p X)) ∧ Below W.heap.size W w') :
    Calls Try.prog 66 #[.slice A l.length d, .func (.func g) #[] lb] w fun e w' => ∃ r : Int, e = .returned (.int .i64 r) ∧ (decide (0 ≤ r) = l.any p) ∧ Below w.heap.size w w' := by
  have HE := eg
  unfold Enters at HE
  have HG := Lib.hid hG
  have HP := Lib.hid hp
  have hl1 := hG.len
  clear hG eg hp
  go_enter Try.func66, Try.ntmps66
  go_wp2
  go_loopw [8] (fun i wr => ∃ j : Nat, i = .int .i64 j ∧ j ≤ l.length ∧ Hid ((l.take j).any p = false ∧ Below w.heap.size w wr)) (fun i _ => l.length - (intOf i).toNat)
  case atStart => exact ⟨0, rfl, Nat.zero_le _, Lib.hid ⟨rfl, Below.refl _ _⟩⟩
  case round =>
    obtain ⟨j, rfl, hj, hI⟩ := hrel
    have HI := Lib.hid hI.out
    have hb0 := hI.out.2
    clear hI
    by_cases hlt : j < l.length
    · have hG := HG.out
      obtain ⟨b, boff, bc', e, -, -, -, bw, hc⟩ := hG.form (fun e => by have h := congrArg List.length e; simp only [List.length_nil] at h; omega)
      injection e with e1 e2 e3
      clear e2
      subst e1 e3
      obtain ⟨Y, hY⟩ : ∃ Y, l[j]? = some Y := ⟨_, List.getElem?_eq_getElem (by omega)⟩
      have q0 := (hb0.cell (p := ⟨b, _, none⟩) bw).trans (hc j Y hY)
      have hcall := HP.out wr Y hb0
      have HSN := Lib.hid (show l.take (j + 1) = l.take j ++ [Y] by rw [List.take_add_one, hY]; rfl)
      have HY := Lib.hid (List.mem_of_getElem? hY)
      clear hc hG hY hb0
      simp only [e64, b64] at q0 hcall
      cases hq : p Y with
      | true =>
        rw [hq] at hcall
        have HQ := Lib.hid hq
        clear hq
        go_wp2_with fail
        refine hcall.mono ?_
        clear hcall
        rintro e w2 ⟨rfl, b2⟩
        have B2 := Lib.hid (HI.out.2.trans (b2.mono HI.out.2.size))
        clear b2
        go_wp2
        go_ret
        exact ⟨(j : Int), rfl, by rw [decide_eq_true (by omega : (0 : Int) ≤ j)]; exact (List.any_eq_true.2 ⟨Y, HY.out, HQ.out⟩).symm, B2.out⟩
      | false =>
        rw [hq] at hcall
        have HQ := Lib.hid hq
        clear hq
        go_wp2_with fail
        refine hcall.mono ?_
        clear hcall
        rintro e w2 ⟨rfl, b2⟩
        have B2 := Lib.hid (HI.out.2.trans (b2.mono HI.out.2.size))
        clear b2
        go_wp2
        go_roundw
        case rel => exact ⟨j + 1, by go_num, by omega, Lib.hid ⟨by rw [HSN.out, List.any_append, HI.out.1, List.any_cons, HQ.out]; rfl, B2.out⟩⟩
        case measure => simp [intOf]; omega
    · have ej : j = l.length := by omega
      subst ej
      have HA := Lib.hid (show l.any p = false by have := HI.out.1; rwa [List.take_length] at this)
      clear hb0
      go_wp2
      go_ret
      exact ⟨-1, rfl, by rw [HA.out]; rfl, HI.out.2⟩
set_option maxHeartbeats 400000 in
theorem anyU_any (g : Nat) (lb : Array Value) (p : UInt64 → Bool) (A : Option Addr) (d : Nat) (l : List UInt64) (w : World) (hG : Gs e64 w 0 w.heap.size (.slice A l.length d) l) (eg : Enters Try.prog g)
    (hp : ∀ W X, Below w.heap.size w W → Calls Try.prog g (#[e64.val X] ++ lb) W fun e w' => e = .returned (.bool (p X)) ∧ Below W.heap.size W w') :
    Calls Try.prog 56 #[.slice A l.length d, .func (.func g) #[] lb] w fun e w' => e = .returned (.bool (l.any p)) ∧ Below w.heap.size w w' := by
  have HC := Lib.hid (indexU_any g lb p A d l w hG eg hp)
  clear hG hp
  go_enter Try.func56, Try.ntmps56
  go_wp2_with (go_at_call 66; refine HC.out.mono ?_; rintro e w1 ⟨r, rfl, hr, b1⟩; have HR := Lib.hid hr; have B1 := Lib.hid b1; clear hr b1)
  go_ret
  exact ⟨by rw [← HR.out]; rfl, B1.out⟩
end Go.Proofs.Ytpanfpcfhgnkoaa
