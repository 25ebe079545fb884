/- Walks: the law DictNone. -/
import Derived.Test.YtjojhoaienjjeaaMa9
namespace Go.Proofs.Ytjojhoaienjjeaa
open Go.RowKit Go.Shelf
set_option linter.unusedVariables false

attribute [local go_sem] Oper.semAt_some

set_option maxHeartbeats 400000 in
theorem bytesn_any (p : Value) (v : Value) (w : World) (h : DictAt w p 0 v) : Calls Try.prog 22 #[p] w fun e w' => e = .returned (.slice none 0 0) ∧ w' = w := by
  have HC := Lib.hid (kind_any p 0 v w h)
  clear h
  go_enter Try.func22, Try.ntmps22
  go_wp2_with (go_at_call 21; refine HC.out.mono ?_; rintro e w1 ⟨rfl, hz⟩; have hz := hz.symm; subst hz)
  go_ret
  exact ⟨rfl, rfl⟩
theorem leaves_mark2 {F : Fence} {n D E : Nat} {P : Program} {fn : Func} {R : Ending → World → Prop} {a : Act} {w : World} {v : Value} (hd : a.defers = [{ target := .collected D, args := #[] }, { target := .collected E, args := #[] }]) (hK : w.heap[D]? = some (.deferred (some []))) (hE : w.heap[E]? = some (.deferred (some []))) (hne : D ≠ E)
    (hr : (results fn a.tmps).run P ((w.putObj D (.deferred none)).putObj E (.deferred none)) = .ok v ((w.putObj D (.deferred none)).putObj E (.deferred none))) (hR : R (.returned v) ((w.putObj D (.deferred none)).putObj E (.deferred none))) : bodyPostM F n P fn R .ret a w := by
  show LeavesInM F n P fn a.tmps R a.defers .returning w
  rw [hd]
  exact ⟨by simp, .inl ⟨_, _, rfl, run_takeDeferred hK, by simp, .inl ⟨_, _, rfl, run_takeDeferred ((World.putObj_heap_other (k := E) (Ne.symm hne)).trans hE), v, hr, hR⟩⟩⟩
theorem has_none (X : VV) : hasV X [] = false := by unfold hasV; rfl
set_option maxHeartbeats 8000000 in
set_option maxRecDepth 100000 in
theorem none_any (id cmp : Int) (X : VV) (w : World) :
    Calls Try.prog 5 #[.int .i64 id, .int .u8 cmp, vV X.k X.n X.s] w fun e w' => e = .returned (.bool true) ∧ Below w.heap.size w w' := by
  obtain ⟨W1, hW1⟩ : ∃ W1, W1 = (w.alloc (.cells #[.int .u8 X.k, .int .i64 X.n, .string X.s] 38)).alloc (.cells #[.bool false] 4) := ⟨_, rfl⟩
  have V1 := Lib.hid (show Row W1 w.heap.size 38 #[.int .u8 X.k, .int .i64 X.n, .string X.s] by rw [hW1]; exact (Row.new _ _ _).alloc _)
  have X1 := Lib.hid (show Row W1 (w.heap.size + 1) 4 #[.bool false] by rw [hW1]; have := Row.new (w.alloc (.cells #[.int .u8 X.k, .int .i64 X.n, .string X.s] 38)) 4 #[.bool false]; simpa using this)
  have B1 := Lib.hid (show Below w.heap.size w W1 by rw [hW1]; exact ((Below.refl _ _).alloc (Nat.le_refl _) _).alloc (by simp) _)
  have HS1 := Lib.hid (show W1.heap.size = w.heap.size + 1 + 1 by rw [hW1]; simp)
  have a0 := V1.out.cell 0
  have a1 := V1.out.cell 1
  have a2 := V1.out.cell 2
  by_cases hs : X.s.size ≤ 1000
  · have d1 : decide ((1000 : Int) < (X.s.size : Int)) = false := decide_eq_false (by omega)
    clear hs
    refine (callsIn_wide (n := 3)).1 ?_
    refine callsIn_of_wp_marks Try.func5 rfl trivial ?_ rfl
    refine wpIn_wide.2 ?_
    simp only [Try.ntmps5, List.size_toArray, List.length_cons, List.length_nil, Nat.reduceAdd, Nat.reduceSub, Array.replicate_succ, Array.replicate_zero, List.push_toArray, List.append_toArray, List.nil_append, List.cons_append]
    go_wp2_with fail
    rw [← hW1]
    clear hW1
    obtain ⟨W2, hW2⟩ : ∃ W2, W2 = (W1.alloc (.cells #[.int .u8 0, .slice none 0 0] 46)).alloc (.cells #[.pointer none, .pointer (some ⟨w.heap.size + 1 + 1, 0, none⟩)] 25) := ⟨_, rfl⟩
    have Z2 := Lib.hid (show Row W2 (w.heap.size + 1 + 1) 46 #[.int .u8 0, .slice none 0 0] by rw [hW2, ← HS1.out]; exact (Row.new _ _ _).alloc _)
    have P2 := Lib.hid (show Row W2 (w.heap.size + 1 + 1 + 1) 25 #[.pointer none, .pointer (some ⟨w.heap.size + 1 + 1, 0, none⟩)] by rw [hW2, ← HS1.out]; have := Row.new (W1.alloc (.cells #[.int .u8 0, .slice none 0 0] 46)) 25 #[.pointer none, .pointer (some ⟨W1.heap.size, 0, none⟩)]; simpa using this)
    have B12 := Lib.hid (show Below W1.heap.size W1 W2 by rw [hW2]; exact ((Below.refl _ _).alloc (Nat.le_refl _) _).alloc (by simp) _)
    have B2 := Lib.hid (B1.out.trans (B12.out.mono B1.out.size))
    have V2 := Lib.hid (V1.out.below B12.out V1.out.lt)
    have X2 := Lib.hid (X1.out.below B12.out X1.out.lt)
    have DT0 := Lib.hid (fun W (_ : Below W2.heap.size W2 W) => show DictAt W (.pointer none) 0 (.slice none 0 0) from .inl ⟨rfl, rfl, rfl⟩)
    have DT1 := Lib.hid (fun W (b : Below W2.heap.size W2 W) => show DictAt W (.pointer (some ⟨w.heap.size + 1 + 1, 0, none⟩)) 0 (.slice none 0 0) from .inr ⟨_, rfl, Z2.out.below b Z2.out.lt⟩)
    have HF := Lib.hid (fun W (b : Below W2.heap.size W2 W) => (⟨(V2.out.below b V2.out.lt).cell 0, (V2.out.below b V2.out.lt).cell 1, (V2.out.below b V2.out.lt).cell 2, (P2.out.below b P2.out.lt).cell 0, (P2.out.below b P2.out.lt).cell 1⟩ : W.cell? _ = _ ∧ W.cell? _ = _ ∧ W.cell? _ = _ ∧ W.cell? _ = _ ∧ W.cell? _ = _))
    have hasn := has_none X
    have hqn := fun W f a b => run_eql_func_nil (P := Try.prog) W 33 _ _ _ f a b Try.underlying33
    have tt := neql_V ⟨0, 0, ⟨#[]⟩⟩ ⟨0, 0, ⟨#[]⟩⟩
    rw [eqW_iff.2 rfl] at tt
    go_wp2_with fail
    rw [← hW2]
    clear hW2 a0 a1 a2
    have BC := Lib.hid (Below.refl W2.heap.size W2)
    refine wp_loop_rounds 3 ?_
    obtain ⟨a0, a1, a2, s0, s1⟩ := HF.out _ BC.out
    rw [rounds_succ]
    go_wp2_with (first
      | (go_at_call 19; refine (value_none (.pointer none) 0 none 0 [] id _ (DT0.out _ BC.out) rfl).mono ?_; rintro e w0a ⟨rfl, b⟩; have bb := BC.out.trans ((b.alloc b.size (.cells #[.int .u8 0, .int .i64 0, .string ⟨#[]⟩] 38)).mono BC.out.size); have RX := Lib.hid (Row.new w0a 38 #[.int .u8 0, .int .i64 0, .string ⟨#[]⟩]); clear a0 a1 a2 s0 s1 b; have BCa := Lib.hid bb; clear bb; obtain ⟨a0, a1, a2, s0, s1⟩ := HF.out _ BCa.out)
      | (go_at_call 18; refine (find_any (.pointer none) 0 none 0 [] X _ (DT0.out _ BCa.out) (GsV.nil_ _ _ _) List.Pairwise.nil (by simp)).mono ?_; rw [hasn]; rintro e w0b ⟨rfl, b⟩; have BCb := Lib.hid (BCa.out.trans (b.mono BCa.out.size)); have RXb := Lib.hid (RX.out.below b RX.out.lt); clear a0 a1 a2 s0 s1 b; obtain ⟨a0, a1, a2, s0, s1⟩ := HF.out _ BCb.out)
      | (go_at_call 16; refine (interval_none (.pointer none) 0 none 0 [] cmp X _ (DT0.out _ BCb.out) (GsV.nil_ _ _ _) List.Pairwise.nil (by simp) rfl).mono ?_; rintro e w0c ⟨rfl, b⟩; have BCc := Lib.hid (BCb.out.trans (b.mono BCb.out.size)); have RXc := Lib.hid (RXb.out.below b RXb.out.lt); clear a0 a1 a2 s0 s1 b; obtain ⟨a0, a1, a2, s0, s1⟩ := HF.out _ BCc.out))
    go_wp2_with (go_at_call 14; refine (all_any (.pointer none) 0 none 0 0 _ (DT0.out _ BCc.out)).mono ?_; rintro e w0d ⟨rfl, hz⟩; have BCd := Lib.hid (show Below W2.heap.size W2 w0d by rw [hz]; exact BCc.out.alloc BCc.out.size _); have RXd := Lib.hid (show Row w0d _ _ _ by rw [hz]; exact RXc.out.alloc _); clear hz; go_wp2_with (go_at_call 14; refine (all_any (.pointer none) 0 none 0 0 _ (DT0.out _ BCd.out)).mono ?_; rintro e w0e ⟨rfl, hz⟩; have BCe := Lib.hid (show Below W2.heap.size W2 w0e by rw [hz]; exact BCd.out.alloc BCd.out.size _); have RXe := Lib.hid (show Row w0e _ _ _ by rw [hz]; exact RXd.out.alloc _); have SE := Lib.hid (show Row w0e w0d.heap.size 22 #[.slice none 0 0] by rw [hz]; exact Row.new _ _ _); clear hz))
    refine (wpIn_wide (n := 3)).1 ?_
    refine wpIn_rangeFunc_ownH (F := Fence.wide) (n := 3) rfl (by omega) rfl trivial (enters_of Try.func34 (by kernel_rfl) rfl) (all_stops w0d.heap.size none 0 [] w0e w0e.heap.size (by simp) (Nat.le_refl _) SE.out.lt (SE.out.cell 0) (GsV.nil_ _ _ _)) belowK_t (belowK_b (Nat.le_refl _)) (Below.refl _ _) (fun _ => rfl)
      (fun _ W => Below w0e.heap.size w0e W) (fun _ _ _ => False) (ownFrom_below (Nat.le_refl _) (Nat.le_refl _)) (fun c s X Y row hs _ _ => hs) (Below.refl _ _) (fun _ _ _ => True) (fun x a' => ownFrom_pure _ (fun _ => True)) ?assign0 ?body0 ?done0 ?stop0
    case assign0 =>
      intro l pre x W K hi hK
      gi_wp2
      exact hK _ _ (KeepsFrom.refl _ _) (Below.refl _ _) hi trivial
    case body0 => exact fun l pre x a' W _ _ _ _ h => absurd h (by simp)
    case stop0 => exact fun D c pre W _ _ h _ => h.elim
    case done0 =>
    rintro D0 xs w0f hD - hB hK
    have BC0e := Lib.hid BCe.out
    have K0 := Lib.hid hK
    have HD0 := Lib.hid hD
    have BCf := Lib.hid (BCe.out.trans (hB.mono BCe.out.size))
    have RXf := Lib.hid (RXe.out.below hB RXe.out.lt)
    clear hK hB hD a0 a1 a2 s0 s1
    obtain ⟨a0, a1, a2, s0, s1⟩ := HF.out _ BCf.out
    have x0 := RXf.out.cell 0
    have x1 := RXf.out.cell 1
    have x2 := RXf.out.cell 2
    go_wp2_with (first
      | (go_at_call 20; refine (len_any (.pointer none) 0 none 0 0 _ (DT0.out _ BCf.out)).mono ?_; rintro e w0g ⟨rfl, hz⟩; have hz := hz.symm; subst hz)
      | (go_at_call 21; refine (kind_any (.pointer none) 0 (.slice none 0 0) _ (DT0.out _ BCf.out)).mono ?_; rintro e w0g ⟨rfl, hz⟩; have hz := hz.symm; subst hz)
      | (go_at_call 22; refine (bytesn_any (.pointer none) (.slice none 0 0) _ (DT0.out _ BCf.out)).mono ?_; rintro e w0g ⟨rfl, hz⟩; have hz := hz.symm; subst hz))
    have HF1 := Lib.hid (fun W (b : Below w0f.heap.size w0f W) => HF.out W (BCf.out.trans (b.mono BCf.out.size)))
    have DT1b := Lib.hid (fun W (b : Below w0f.heap.size w0f W) => DT1.out W (BCf.out.trans (b.mono BCf.out.size)))
    have BCz := Lib.hid BCf.out
    have BC := Lib.hid (Below.refl w0f.heap.size w0f)
    clear a0 a1 a2 s0 s1 x0 x1 x2
    obtain ⟨a0, a1, a2, s0, s1⟩ := HF1.out _ BC.out
    rw [rounds_succ]
    go_wp2_with (first
      | (go_at_call 19; refine (value_none (.pointer (some ⟨w.heap.size + 1 + 1, 0, none⟩)) 0 none 0 [] id _ (DT1b.out _ BC.out) rfl).mono ?_; rintro e w1a ⟨rfl, b⟩; have bb := BC.out.trans ((b.alloc b.size (.cells #[.int .u8 0, .int .i64 0, .string ⟨#[]⟩] 38)).mono BC.out.size); have RX := Lib.hid (Row.new w1a 38 #[.int .u8 0, .int .i64 0, .string ⟨#[]⟩]); clear a0 a1 a2 s0 s1 b; have BCa := Lib.hid bb; clear bb; obtain ⟨a0, a1, a2, s0, s1⟩ := HF1.out _ BCa.out)
      | (go_at_call 18; refine (find_any (.pointer (some ⟨w.heap.size + 1 + 1, 0, none⟩)) 0 none 0 [] X _ (DT1b.out _ BCa.out) (GsV.nil_ _ _ _) List.Pairwise.nil (by simp)).mono ?_; rw [hasn]; rintro e w1b ⟨rfl, b⟩; have BCb := Lib.hid (BCa.out.trans (b.mono BCa.out.size)); have RXb := Lib.hid (RX.out.below b RX.out.lt); clear a0 a1 a2 s0 s1 b; obtain ⟨a0, a1, a2, s0, s1⟩ := HF1.out _ BCb.out)
      | (go_at_call 16; refine (interval_none (.pointer (some ⟨w.heap.size + 1 + 1, 0, none⟩)) 0 none 0 [] cmp X _ (DT1b.out _ BCb.out) (GsV.nil_ _ _ _) List.Pairwise.nil (by simp) rfl).mono ?_; rintro e w1c ⟨rfl, b⟩; have BCc := Lib.hid (BCb.out.trans (b.mono BCb.out.size)); have RXc := Lib.hid (RXb.out.below b RXb.out.lt); clear a0 a1 a2 s0 s1 b; obtain ⟨a0, a1, a2, s0, s1⟩ := HF1.out _ BCc.out))
    go_wp2_with (go_at_call 14; refine (all_any (.pointer (some ⟨w.heap.size + 1 + 1, 0, none⟩)) 0 none 0 0 _ (DT1b.out _ BCc.out)).mono ?_; rintro e w1d ⟨rfl, hz⟩; have BCd := Lib.hid (show Below w0f.heap.size w0f w1d by rw [hz]; exact BCc.out.alloc BCc.out.size _); have RXd := Lib.hid (show Row w1d _ _ _ by rw [hz]; exact RXc.out.alloc _); clear hz; go_wp2_with (go_at_call 14; refine (all_any (.pointer (some ⟨w.heap.size + 1 + 1, 0, none⟩)) 0 none 0 0 _ (DT1b.out _ BCd.out)).mono ?_; rintro e w1e ⟨rfl, hz⟩; have BCe := Lib.hid (show Below w0f.heap.size w0f w1e by rw [hz]; exact BCd.out.alloc BCd.out.size _); have RXe := Lib.hid (show Row w1e _ _ _ by rw [hz]; exact RXd.out.alloc _); have SE := Lib.hid (show Row w1e w1d.heap.size 22 #[.slice none 0 0] by rw [hz]; exact Row.new _ _ _); clear hz))
    refine (wpIn_wide (n := 3)).1 ?_
    refine wpIn_rangeFunc_ownH (F := Fence.wide) (n := 3) rfl (by omega) rfl trivial (enters_of Try.func34 (by kernel_rfl) rfl) (all_stops w1d.heap.size none 0 [] w1e w1e.heap.size (by simp) (Nat.le_refl _) SE.out.lt (SE.out.cell 0) (GsV.nil_ _ _ _)) belowK_t (belowK_b (Nat.le_refl _)) (Below.refl _ _) (fun _ => rfl)
      (fun _ W => Below w1e.heap.size w1e W) (fun _ _ _ => False) (ownFrom_below (Nat.le_refl _) (Nat.le_refl _)) (fun c s X Y row hs _ _ => hs) (Below.refl _ _) (fun _ _ _ => True) (fun x a' => ownFrom_pure _ (fun _ => True)) ?assign1 ?body1 ?done1 ?stop1
    case assign1 =>
      intro l pre x W K hi hK
      gi_wp2
      exact hK _ _ (KeepsFrom.refl _ _) (Below.refl _ _) hi trivial
    case body1 => exact fun l pre x a' W _ _ _ _ h => absurd h (by simp)
    case stop1 => exact fun D c pre W _ _ h _ => h.elim
    case done1 =>
    rintro D1 xs w1f hD - hB hK
    have BC1e := Lib.hid BCe.out
    have KP := Lib.hid (keepD K0.out BCe.out)
    have K1 := Lib.hid hK
    have HD1 := Lib.hid hD
    have BCf := Lib.hid (BCe.out.trans (hB.mono BCe.out.size))
    have RXf := Lib.hid (RXe.out.below hB RXe.out.lt)
    have K0 := Lib.hid (keepD (keepD K0.out BCe.out) hB)
    clear hK hB hD a0 a1 a2 s0 s1
    obtain ⟨a0, a1, a2, s0, s1⟩ := HF1.out _ BCf.out
    have x0 := RXf.out.cell 0
    have x1 := RXf.out.cell 1
    have x2 := RXf.out.cell 2
    go_wp2_with (first
      | (go_at_call 20; refine (len_any (.pointer (some ⟨w.heap.size + 1 + 1, 0, none⟩)) 0 none 0 0 _ (DT1b.out _ BCf.out)).mono ?_; rintro e w1g ⟨rfl, hz⟩; have hz := hz.symm; subst hz)
      | (go_at_call 21; refine (kind_any (.pointer (some ⟨w.heap.size + 1 + 1, 0, none⟩)) 0 (.slice none 0 0) _ (DT1b.out _ BCf.out)).mono ?_; rintro e w1g ⟨rfl, hz⟩; have hz := hz.symm; subst hz)
      | (go_at_call 22; refine (bytesn_any (.pointer (some ⟨w.heap.size + 1 + 1, 0, none⟩)) (.slice none 0 0) _ (DT1b.out _ BCf.out)).mono ?_; rintro e w1g ⟨rfl, hz⟩; have hz := hz.symm; subst hz))
    rw [rounds_succ]
    have BT := Lib.hid (B2.out.trans ((BCz.out.trans (BCf.out.mono BCz.out.size)).mono B2.out.size))
    have XT := Lib.hid (X2.out.below (BCz.out.trans (BCf.out.mono BCz.out.size)) X2.out.lt)
    have HNE := Lib.hid (show D0 < D1 from Nat.lt_of_lt_of_le (Array.getElem?_eq_some_iff.1 KP.out).1 HD1.out)
    have HDB := Lib.hid (show w.heap.size + 1 < D0 from Nat.lt_of_lt_of_le (Nat.lt_of_lt_of_le X2.out.lt BC0e.out.size) HD0.out)
    go_wp2_with (go_at_call 10; refine (known11_any _).mono ?_; rintro e u9 ⟨rfl, b9⟩; have X9 := Lib.hid (XT.out.below b9 XT.out.lt); have B9 := Lib.hid (BT.out.trans (b9.mono BT.out.size)); have K9 := Lib.hid (keepD K1.out b9); have E9 := Lib.hid (keepD K0.out b9); clear b9; have c0 := X9.out.cell 0; have f0 := X9.out.frozen 0)
    have h1 := HNE.out
    have h2 := HDB.out
    have hneD : D1 ≠ w.heap.size + 1 := by omega
    have hneE : D0 ≠ w.heap.size + 1 := by omega
    have hK' : (u9.setCell ⟨w.heap.size + 1, 0, none⟩ (.bool true)).heap[D1]? = some (.deferred (some [])) := (Below.heap_setCell u9 ⟨w.heap.size + 1, 0, none⟩ _ _ hneD).trans K9.out
    have hE' : (u9.setCell ⟨w.heap.size + 1, 0, none⟩ (.bool true)).heap[D0]? = some (.deferred (some [])) := (Below.heap_setCell u9 ⟨w.heap.size + 1, 0, none⟩ _ _ hneE).trans E9.out
    have hE2 : ((u9.setCell ⟨w.heap.size + 1, 0, none⟩ (.bool true)).putObj D1 (.deferred none)).heap[D0]? = some (.deferred (some [])) := (World.putObj_heap_other (k := D0) (by omega)).trans hE'
    have hc : (((u9.setCell ⟨w.heap.size + 1, 0, none⟩ (.bool true)).putObj D1 (.deferred none)).putObj D0 (.deferred none)).cell? ⟨w.heap.size + 1, 0, none⟩ = some (.bool true) :=
      (World.cell?_of_block ((World.putObj_heap_other (k := w.heap.size + 1) (Ne.symm hneE)).trans (World.putObj_heap_other (k := w.heap.size + 1) (Ne.symm hneD)))).trans (World.cell?_setCell_same' _ _ _ (by rw [c0]; rfl))
    have BF : Below w.heap.size w (((u9.setCell ⟨w.heap.size + 1, 0, none⟩ (.bool true)).putObj D1 (.deferred none)).putObj D0 (.deferred none)) := ((B9.out.setCell (p := ⟨w.heap.size + 1, 0, none⟩) (Nat.le_succ _) _).trans (belowK_b (w := w) (Nat.le_refl _) _ D1 _ _ (by omega) hK' rfl rfl)).trans (belowK_b (w := w) (Nat.le_refl _) _ D0 _ _ (by omega) hE2 rfl rfl)
    refine leaves_mark2 (D := D1) (E := D0) (v := .bool true) rfl hK' hE' (by omega) ?_ ⟨rfl, BF⟩
    have hres : Try.f5.results = #[.cell 6 4] := by kernel_rfl
    simp only [results, hres]
    go_simp
  · have d1 : decide ((1000 : Int) < (X.s.size : Int)) = true := decide_eq_true (by omega)
    clear hs
    refine (callsIn_wide (n := 3)).1 ?_
    refine callsIn_of_wp_marks Try.func5 rfl trivial ?_ rfl
    refine wpIn_wide.2 ?_
    simp only [Try.ntmps5, List.size_toArray, List.length_cons, List.length_nil, Nat.reduceAdd, Nat.reduceSub, Array.replicate_succ, Array.replicate_zero, List.push_toArray, List.append_toArray, List.nil_append, List.cons_append]
    go_wp2_with fail
    rw [← hW1]
    clear hW1
    go_wp2_with (go_at_call 10; refine (known11_any _).mono ?_; rintro e w9 ⟨rfl, b9⟩; have X9 := Lib.hid (X1.out.below b9 X1.out.lt); have B9 := Lib.hid (B1.out.trans (b9.mono B1.out.size)); clear b9; have c0 := X9.out.cell 0; have f0 := X9.out.frozen 0)
    refine leaves_ret (v := .bool true) ?_ rfl ⟨rfl, B9.out.setCell (p := ⟨w.heap.size + 1, 0, none⟩) (Nat.le_succ _) _⟩
    have hres : Try.f5.results = #[.cell 6 4] := by kernel_rfl
    have hc := World.cell?_setCell_same' w9 ⟨w.heap.size + 1, 0, none⟩ (.bool true) (by rw [c0]; rfl)
    simp only [results, hres]
    go_simp
end Go.Proofs.Ytjojhoaienjjeaa
