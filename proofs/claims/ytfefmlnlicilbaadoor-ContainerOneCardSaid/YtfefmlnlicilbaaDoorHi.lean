/- Walks: OfArray. -/
import Derived.Test.YtfefmlnlicilbaaDoorHh
namespace Go.Proofs.YtfefmlnlicilbaaDoor
open Go.RowKit
set_option linter.unusedVariables false

theorem ofArray_no (v : Value) (l : List UInt16) (w : World) (hv : Gs e16 w 0 w.heap.size v l) (h : ris l = false) :
    Calls Tryd.prog 6 #[v] w fun e w' => e = .returned (.tuple #[.agg #[.int .u8 0, .slice none 0 0, .slice none 0 0, .slice none 0 0], .bool false]) ∧ Below w.heap.size w w' := by
  have HV := Lib.hid hv
  obtain ⟨A, c, rfl, -⟩ := hv
  have H := Lib.hid h
  have r0 := Row.new w 27 #[.int .u8 0, .slice none 0 0, .slice none 0 0, .slice none 0 0]
  have b0 := bx w (.cells #[.int .u8 0, .slice none 0 0, .slice none 0 0, .slice none 0 0] 27)
  clear h
  go_enter Tryd.func6, Tryd.ntmps6
  go_wp2_with fail
  generalize w.alloc (.cells #[.int .u8 0, .slice none 0 0, .slice none 0 0, .slice none 0 0] 27) = W0 at *
  have RR := Lib.hid r0
  have BB := Lib.hid b0
  clear r0 b0
  refine (may_any _ l 0 _ _ (HV.out.stp BB.out)).mono ?_
  rw [H.out]
  rintro e u1 ⟨rfl, m, rfl⟩
  have RR := Lib.hid (show Row (W0.drewN m) _ _ _ from RR.out)
  have BB := Lib.hid (below_drewN BB.out m)
  have d0 : (W0.drewN m).cell? ⟨w.heap.size, 0, none⟩ = some (.int .u8 0) := RR.out.cell 0
  have d1 : (W0.drewN m).cell? ⟨w.heap.size, 1, none⟩ = some (.slice none 0 0) := RR.out.cell 1
  have d2 : (W0.drewN m).cell? ⟨w.heap.size, 2, none⟩ = some (.slice none 0 0) := RR.out.cell 2
  have d3 : (W0.drewN m).cell? ⟨w.heap.size, 3, none⟩ = some (.slice none 0 0) := RR.out.cell 3
  have e0 := RR.out.frozen 0
  have e1 := RR.out.frozen 1
  have e2 := RR.out.frozen 2
  have e3 := RR.out.frozen 3
  go_wp2
  have S4 := set4 (a' := .int .u8 0) (b' := .slice none 0 0) (c' := .slice none 0 0) (d' := .slice none 0 0) RR.out
  have B5 := Lib.hid (BB.out.grown S4.2 BB.out.size (fun j e => by injection e with e; subst e; omega))
  exact bodyPost_ret (ret_row2 rfl rfl rfl S4.1) rfl ⟨rfl, B5.out⟩

theorem ofArray_yes {N : Nat → Prop} (v : Value) (l : List UInt16) (p : Nat → Bool) (w : World) (hN : ∀ b, w.heap.size ≤ b → N b) (hv : Gs e16 w 0 w.heap.size v l) (h : ris l = true) (hl : l.length ≤ 65536) (hp : ls p 65536 = l) :
    Calls Tryd.prog 6 #[v] w fun e w' => ∃ v', e = .returned (.tuple #[v', .bool true]) ∧ Cn N w' v' p 1 ∧ Below w.heap.size w w' := by
  have HV := Lib.hid hv
  obtain ⟨A, c, rfl, -⟩ := hv
  have H := Lib.hid h
  have HL := Lib.hid hl
  have NN := Lib.hid hN
  have HP := Lib.hid hp
  have r0 := Row.new w 27 #[.int .u8 0, .slice none 0 0, .slice none 0 0, .slice none 0 0]
  have b0 := bx w (.cells #[.int .u8 0, .slice none 0 0, .slice none 0 0, .slice none 0 0] 27)
  clear h hl hN hp
  go_enter Tryd.func6, Tryd.ntmps6
  go_wp2_with fail
  generalize w.alloc (.cells #[.int .u8 0, .slice none 0 0, .slice none 0 0, .slice none 0 0] 27) = W0 at *
  have lg := r0.lt
  have RR := Lib.hid r0
  have BB := Lib.hid b0
  clear r0 b0
  refine (may_any _ l 0 _ _ (HV.out.stp BB.out)).mono ?_
  rw [H.out]
  rintro e u1 ⟨rfl, m, rfl⟩
  have RR := Lib.hid (show Row (W0.drewN m) _ _ _ from RR.out)
  have BB := Lib.hid (below_drewN BB.out m)
  go_wp2_with fail
  refine (clone16_any _ l 0 _ (HV.out.stp BB.out) (Nat.le_trans HL.out (by omega))).mono ?_
  rintro e u2 ⟨v2, rfl, o2, b⟩
  obtain ⟨X, x, rfl, -⟩ := o2.sl
  have G := Lib.hid o2.sl
  have RR := Lib.hid (RR.out.below b RR.out.lt)
  have BB := Lib.hid (below_both BB.out b)
  clear b o2
  go_wp2_with fail
  refine (ofArray_v _ _ _ _).mono ?_
  rintro e u3 ⟨rfl, b⟩
  have G := Lib.hid (G.out.stp b)
  have RR := Lib.hid (RR.out.below b RR.out.lt)
  have BB := Lib.hid (below_both BB.out b)
  clear b
  have d0 : u3.cell? ⟨w.heap.size, 0, none⟩ = some (.int .u8 0) := RR.out.cell 0
  have d1 : u3.cell? ⟨w.heap.size, 1, none⟩ = some (.slice none 0 0) := RR.out.cell 1
  have d2 : u3.cell? ⟨w.heap.size, 2, none⟩ = some (.slice none 0 0) := RR.out.cell 2
  have d3 : u3.cell? ⟨w.heap.size, 3, none⟩ = some (.slice none 0 0) := RR.out.cell 3
  have e0 := RR.out.frozen 0
  have e1 := RR.out.frozen 1
  have e2 := RR.out.frozen 2
  have e3 := RR.out.frozen 3
  go_wp2
  have S4 := set4 (a' := .int .u8 1) (b' := .slice X l.length x) (c' := .slice none 0 0) (d' := .slice none 0 0) RR.out
  have B5 := Lib.hid (BB.out.grown S4.2 BB.out.size (fun j e => by injection e with e; subst e; omega))
  have hsz : W0.heap.size ≤ (W0.drewN m).heap.size := Nat.le_refl _
  have G5 := G.out.grown S4.2 (Nat.le_refl _) (fun j e => by injection e with e; subst e; exact .inl (by omega))
  rw [← HP.out] at G5
  have hc : ct p 65536 = l.length := by rw [← ls_ct, HP.out]
  rw [ls_ct, hc] at G5
  exact bodyPost_ret (ret_row2 rfl rfl rfl S4.1) rfl ⟨_, rfl, Cn.arr 1 _ _ _ (.inr rfl) hc (Gp.of G5 S4.2.size (fun b hb _ => NN.out b (by omega))), B5.out⟩
end Go.Proofs.YtfefmlnlicilbaaDoor
