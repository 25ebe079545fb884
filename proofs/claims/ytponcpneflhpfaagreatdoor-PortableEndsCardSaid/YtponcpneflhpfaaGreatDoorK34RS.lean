/- Proved: for every two slices of spans and every number the law PortableEnds returns true, and its arguments read as they did; the table of lowest bits of math/bits is as the program's text lays it (the card ties it); no condition of ours. -/
import Derived.Test.YtponcpneflhpfaaGreatDoorK34fcS
import Derived.Test.YtponcpneflhpfaaGreatDoorSe8
import Derived.Test.YtponcpneflhpfaaGreatDoorSe3
namespace Go.Proofs.YtponcpneflhpfaaGreatDoor
open Go.ChangeShapes Go.WideShapes Go.ChangeAt Go.RowKit
open Go.ChangeMaps (open_string shut_string)
set_option linter.unusedVariables false

theorem portableEnds_walk (a0 : Option Addr) (len0 cap0 : Nat) (l0 : List Sn) (a1 : Option Addr) (len1 cap1 : Nat) (l1 : List Sn) (a2 : Int) (w : World) (hT : Tb w) (e0 : l0.length = len0) (w0 : Gs2 eSp w 0 w.heap.size (.slice a0 len0 cap0) l0) (n0 : len0 * 16 ≤ 140737488355312) (e1 : l1.length = len1) (w1 : Gs2 eSp w 0 w.heap.size (.slice a1 len1 cap1) l1) (n1 : len1 * 16 ≤ 140737488355312) (w2 : (Lit.int .i64 a2).wf = true) :
    Calls Tryz.prog 8 #[.slice a0 len0 cap0, .slice a1 len1 cap1, .int .i64 a2] w fun e w' => e = .returned (.bool true) ∧ Below w.heap.size w w' := by
  subst e0
  subst e1
  exact ends_any a0 cap0 l0 a1 cap1 l1 a2 w hT w0 w1 (by omega) (by omega)

set_option maxRecDepth 100000 in
theorem portableEnds_lifted (os : Os) (started : os.Started) (H : Type) (enc : TypeId × Value → H) :
    ReturnsInHanded {} Tryz.checked os 8 .any (fun w args => (Rows.portableEndsSpec.pre enc Tryz.prog Tryz.f8 [] false w args ∧ laidMetH Tryz.prog laidAll w) ∧ sizedMet enc Tryz.prog Tryz.f8 (OpenSpec.ofChange Rows.portableEndsSpec) false w args) (Rows.portableEndsSpec.post enc Tryz.prog Tryz.f8 false true false false) := by
  refine returnsInHanded_of_change_and (C := Tryz.checked) (X := fun w _ => laidMetH Tryz.prog laidAll w) (fun _ _ _ hh h => h.of_heap hh) own_knob started (by kernel_rfl) Tryz.func8
    (ChangeSpec.witness_shaped (enc := enc) (C := Tryz.checked) (os := os) (X := fun w _ => laidMetH Tryz.prog laidAll w) false (World.doorLaid Tryz.prog 14 os) #[.slice none 0 0, .slice none 0 0, .int .i64 0] 8 rfl (World.shaped_of_RefB (by kernel_rfl) (by kernel_rfl)) (by kernel_rfl) (by kernel_rfl) (by kernel_rfl) (door_met os _)) ?_
  intro W base args ds gs before hval0 hW _ hsz hL _
  have hval : ∀ (j : Nat) t v, Tryz.f8.params[j]? = some t → args[j]? = some v → Value.okWide Tryz.prog W .any base t v := hval0
  have hW' := hW
  obtain ⟨p, q, hA0, hV, rfl, hfz, hnd⟩ := hW
  have hA : DataW.TrodAll enc Tryz.prog W 0 (fun _ => true) true Tryz.f8.params.toList args.toList ds p := hA0
  rw [Tryz.params8] at hA hval
  obtain ⟨v0, vs0, d0, ds0, p0, q0, hargs, rfl, rfl, h0, r0⟩ := trodAll_cons hA
  obtain ⟨v1, vs1, d1, ds1, p1, q1, rfl, rfl, rfl, h1, r1⟩ := trodAll_cons r0
  obtain ⟨v2, vs2, d2, ds2, p2, q2, rfl, rfl, rfl, h2, r2⟩ := trodAll_cons r1
  obtain ⟨rfl, rfl, rfl⟩ := trodAll_nil r2
  obtain rfl : args = #[v0, v1, v2] := by cases args; simp_all
  obtain ⟨rfl, rfl⟩ := trodVars_none hV
  obtain ⟨a0, len0, cap0, rfl⟩ := okWide_slice Tryz.underlying26 (hval 0 26 v0 rfl rfl)
  have k0 := h0
  have lt0 : ∀ x ∈ p0, x.block < W.heap.size := by obtain ⟨m, hm⟩ := k0; exact DataW.trod_lt m _ _ _ hm
  obtain ⟨z0, e0, w0, n0⟩ : ∃ l : List Sn, l.length = len0 ∧ Gs2 eSp W 0 W.heap.size (.slice a0 len0 cap0) l ∧ len0 * 16 ≤ 140737488355312 := by
    obtain ⟨fuel, hf⟩ := h0
    obtain ⟨l, e, g, hw⟩ := spans_row hf
    exact ⟨l, e, g, hw fun n hn => by simpa using List.all_eq_true.1 hsz n (DataW.weights_mem_each (j := 0) (t := 26) (by rw [Tryz.params8]; rfl) rfl n hn)⟩
  obtain ⟨a1, len1, cap1, rfl⟩ := okWide_slice Tryz.underlying26 (hval 1 26 v1 rfl rfl)
  have k1 := h1
  have lt1 : ∀ x ∈ p1, x.block < W.heap.size := by obtain ⟨m, hm⟩ := k1; exact DataW.trod_lt m _ _ _ hm
  obtain ⟨z1, e1, w1, n1⟩ : ∃ l : List Sn, l.length = len1 ∧ Gs2 eSp W 0 W.heap.size (.slice a1 len1 cap1) l ∧ len1 * 16 ≤ 140737488355312 := by
    obtain ⟨fuel, hf⟩ := h1
    obtain ⟨l, e, g, hw⟩ := spans_row hf
    exact ⟨l, e, g, hw fun n hn => by simpa using List.all_eq_true.1 hsz n (DataW.weights_mem_each (j := 1) (t := 26) (by rw [Tryz.params8]; rfl) rfl n hn)⟩
  obtain ⟨a2, rfl, rfl, rfl, w2⟩ := open_int Tryz.underlying3 (hval 2 3 v2 rfl rfl) h2
  clear hA0 hval0
  refine (portableEnds_walk a0 len0 cap0 z0 a1 len1 cap1 z1 a2 W (tb_of_laid hL) e0 w0 n0 e1 w1 n1 w2).mono fun e W' ⟨he, bel⟩ => ?_
  subst he
  exact ⟨_, rfl, _, _, _, [], _, [], hW', trodAll_mk1 (shut_bool Tryz.underlying4 _), (trodAll_cons_mk (Below.trod laid_out (by kernel_rfl) (of_decide_eq_true (by kernel_rfl)) k0 bel lt0) (trodAll_cons_mk (Below.trod laid_out (by kernel_rfl) (of_decide_eq_true (by kernel_rfl)) k1 bel lt1) (trodAll_cons_mk (shut_int Tryz.underlying3 w2) trodAll_mk0))), rfl, bel.frame _, fun h => by cases h⟩
theorem portableEnds_over : Rows.portableEndsRow.holds Tryz.pinned (OpenSpec.ofChange Rows.portableEndsSpec) :=
  OpenClaim.holds_of_wide 8 Tryz.f8 rfl rfl rfl rfl rfl rfl rfl ⟨rfl, rfl, rfl, rfl, rfl⟩ rfl rfl rfl rfl rfl portableEnds_fn Tryz.func8 portableEnds_closed
    (of_decide_eq_true (by kernel_rfl)) (by unfold Func.isWrapper; first | (rw [if_pos (by decide +kernel)]; kernel_rfl) | (rw [if_neg (by decide +kernel)]; exact ⟨rfl, rfl⟩))
    (fun os started H enc _ => portableEnds_lifted os started H enc)


theorem portableEnds_holds : Rows.PortableEndsCardSaid :=
  Claim7.holds_tied_plain_at .later [] [.data] true _ false
    portableEnds_over (fun _ h => by cases h) (by kernel_rfl) (fun _ h => by cases h) portableEnds_row_tie rfl ⟨rfl, rfl⟩ (by kernel_rfl) rfl
    (fun f fn hf hfn => by
      obtain rfl : f = 8 := Option.some.inj (portableEnds_fn.symm.trans hf) |>.symm
      obtain rfl : fn = Tryz.f8 := (Option.some.inj (Tryz.func8.symm.trans hfn)).symm
      exact ⟨pg_looks, fun j t ht => by
        rw [Tryz.params8] at ht
        have hm : t ∈ [26, 3] := by have := Array.mem_of_getElem? ht; simp at this ⊢; omega
        have hall : ([26, 3].all fun u => !Tryz.prog.wantsStandIn u) = true := by kernel_rfl
        exact (show Tryz.prog.wantsStandIn t = false by simpa using List.all_eq_true.1 hall t hm)⟩)
    portableEnds_goes
#print axioms portableEnds_holds
end Go.Proofs.YtponcpneflhpfaaGreatDoor
