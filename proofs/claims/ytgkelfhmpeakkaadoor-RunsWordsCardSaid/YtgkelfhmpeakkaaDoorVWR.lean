/- Proved: for every two slices of runs the law RunsWords returns true, and its arguments read as they did; the table of lowest bits of math/bits is as the program text lays it (the card ties it); no condition of ours. -/
import Derived.Test.YtgkelfhmpeakkaaDoorFM
import Derived.Test.YtgkelfhmpeakkaaDoorVW
import Derived.Test.YtgkelfhmpeakkaaDoorVt
namespace Go.Proofs.YtgkelfhmpeakkaaDoor
open Go.ChangeShapes Go.WideShapes Go.ChangeAt Go.RowKit
open Go.ChangeMaps (open_string shut_string)
set_option linter.unusedVariables false

theorem runsWords_walk (a0 : Option Addr) (len0 cap0 : Nat) (l0 : List Rn) (a1 : Option Addr) (len1 cap1 : Nat) (l1 : List Rn) (w : World) (hT : Tb w) (e0 : l0.length = len0) (w0 : Gs2 eR w 0 w.heap.size (.slice a0 len0 cap0) l0) (e1 : l1.length = len1) (w1 : Gs2 eR w 0 w.heap.size (.slice a1 len1 cap1) l1) :
    Calls Tryd.prog 3 #[.slice a0 len0 cap0, .slice a1 len1 cap1] w fun e w' => e = .returned (.bool true) ∧ Below w.heap.size w w' := by
  subst e0 e1
  have r0 := w0.len
  have r1 := w1.len
  by_cases h : 500 < l0.length
  · exact words_long a0 a1 l0.length cap0 l1.length cap1 w h r0
  · by_cases h2 : 500 < l1.length
    · exact words_long2 a0 a1 l0.length cap0 l1.length cap1 w (by omega) h2 r1
    · cases hr : mayr 0 l0 with
      | false => exact words_odd _ _ l0 l1 w hT w0 w1 (by omega) (by omega) hr
      | true =>
        cases hr2 : mayr 0 l1 with
        | false => exact words_odd2 _ _ l0 l1 w hT w0 w1 (by omega) (by omega) hr hr2
        | true => exact words_good _ _ l0 l1 w hT w0 w1 (by omega) (by omega) hr hr2

set_option maxRecDepth 100000 in
theorem runsWords_lifted (os : Os) (started : os.Started) (H : Type) (enc : TypeId × Value → H) :
    ReturnsInHanded {} Tryd.checked os 3 .any (fun w args => (Rows.runsWordsSpec.pre enc Tryd.prog Tryd.f3 [] false w args ∧ laidMetH Tryd.prog laidAll w) ∧ sizedMet enc Tryd.prog Tryd.f3 (OpenSpec.ofChange Rows.runsWordsSpec) false w args) (Rows.runsWordsSpec.post enc Tryd.prog Tryd.f3 false true false false) := by
  refine returnsInHanded_of_change_and (C := Tryd.checked) (X := fun w _ => laidMetH Tryd.prog laidAll w) (fun _ _ _ hh h => h.of_heap hh) own_knob started (by kernel_rfl) Tryd.func3
    (ChangeSpec.witness_shaped (enc := enc) (C := Tryd.checked) (os := os) (X := fun w _ => laidMetH Tryd.prog laidAll w) false (World.doorLaid Tryd.prog 14 os) #[.slice none 0 0, .slice none 0 0] 8 rfl (World.shaped_of_RefB (by kernel_rfl) (by kernel_rfl)) (by kernel_rfl) (by kernel_rfl) (by kernel_rfl) (door_met os _)) ?_
  intro W base args ds gs before hval0 hW _ _ hL _
  have hval : ∀ (j : Nat) t v, Tryd.f3.params[j]? = some t → args[j]? = some v → Value.okWide Tryd.prog W .any base t v := hval0
  have hW' := hW
  obtain ⟨p, q, hA0, hV, rfl, hfz, hnd⟩ := hW
  have hA : DataW.TrodAll enc Tryd.prog W 0 (fun _ => true) true Tryd.f3.params.toList args.toList ds p := hA0
  rw [Tryd.params3] at hA hval
  obtain ⟨v0, vs0, d0, ds0, p0, q0, hargs, rfl, rfl, h0, r0⟩ := trodAll_cons hA
  obtain ⟨v1, vs1, d1, ds1, p1, q1, rfl, rfl, rfl, h1, r1⟩ := trodAll_cons r0
  obtain ⟨rfl, rfl, rfl⟩ := trodAll_nil r1
  obtain rfl : args = #[v0, v1] := by cases args; simp_all
  obtain ⟨rfl, rfl⟩ := trodVars_none hV
  obtain ⟨a0, len0, cap0, rfl⟩ := okWide_slice Tryd.underlying22 (hval 0 22 v0 rfl rfl)
  have k0 := h0
  have lt0 : ∀ x ∈ p0, x.block < W.heap.size := by obtain ⟨m, hm⟩ := k0; exact DataW.trod_lt m _ _ _ hm
  obtain ⟨z0, e0, w0⟩ : ∃ l : List Rn, l.length = len0 ∧ Gs2 eR W 0 W.heap.size (.slice a0 len0 cap0) l := by
    obtain ⟨fuel, hf⟩ := h0
    exact runs_row hf
  obtain ⟨a1, len1, cap1, rfl⟩ := okWide_slice Tryd.underlying22 (hval 1 22 v1 rfl rfl)
  have k1 := h1
  have lt1 : ∀ x ∈ p1, x.block < W.heap.size := by obtain ⟨m, hm⟩ := k1; exact DataW.trod_lt m _ _ _ hm
  obtain ⟨z1, e1, w1⟩ : ∃ l : List Rn, l.length = len1 ∧ Gs2 eR W 0 W.heap.size (.slice a1 len1 cap1) l := by
    obtain ⟨fuel, hf⟩ := h1
    exact runs_row hf
  clear hA0 hval0
  refine (runsWords_walk a0 len0 cap0 z0 a1 len1 cap1 z1 W (tb_of_laid hL) e0 w0 e1 w1).mono fun e W' ⟨he, bel⟩ => ?_
  subst he
  exact ⟨_, rfl, _, _, _, [], _, [], hW', trodAll_mk1 (shut_bool Tryd.underlying4 _), (trodAll_cons_mk (Below.trod laid_out (by kernel_rfl) (of_decide_eq_true (by kernel_rfl)) k0 bel lt0) (trodAll_cons_mk (Below.trod laid_out (by kernel_rfl) (of_decide_eq_true (by kernel_rfl)) k1 bel lt1) trodAll_mk0)), rfl, bel.frame _, fun h => by cases h⟩
theorem runsWords_over : Rows.runsWordsRow.holds Tryd.pinned (OpenSpec.ofChange Rows.runsWordsSpec) :=
  OpenClaim.holds_of_wide 3 Tryd.f3 rfl rfl rfl rfl rfl rfl rfl ⟨rfl, rfl, rfl, rfl, rfl⟩ rfl rfl rfl rfl rfl (by kernel_rfl) Tryd.func3 (by kernel_rfl)
    (of_decide_eq_true (by kernel_rfl)) (by unfold Func.isWrapper; first | (rw [if_pos (by decide +kernel)]; kernel_rfl) | (rw [if_neg (by decide +kernel)]; exact ⟨rfl, rfl⟩))
    (fun os started H enc _ => runsWords_lifted os started H enc)


theorem runsWords_holds : Rows.RunsWordsCardSaid :=
  Claim7.holds_tied_plain_at .later [] [.data] true _ false
    runsWords_over (fun _ h => by cases h) (by kernel_rfl) (fun _ h => by cases h) runsWords_row_tie rfl ⟨rfl, rfl⟩ (by kernel_rfl) rfl
    (fun f fn hf hfn => by
      obtain rfl : f = 3 := Option.some.inj ((show Tryd.prog.funcNamed "isinglass/isinglasslaw06.RunsWords" = some 3 by kernel_rfl).symm.trans hf) |>.symm
      obtain rfl : fn = Tryd.f3 := (Option.some.inj (Tryd.func3.symm.trans hfn)).symm
      exact ⟨by kernel_rfl, fun j t ht => by
        rw [Tryd.params3] at ht
        have hm : t ∈ [22] := by have := Array.mem_of_getElem? ht; simp at this ⊢; omega
        have hall : ([22].all fun u => !Tryd.prog.wantsStandIn u) = true := by kernel_rfl
        exact (show Tryd.prog.wantsStandIn t = false by simpa using List.all_eq_true.1 hall t hm)⟩)
    (by kernel_rfl)
#print axioms runsWords_holds
end Go.Proofs.YtgkelfhmpeakkaaDoor
