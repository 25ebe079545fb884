/- Walks: the law ForwardNone. -/
import Derived.Test.YtpanfpcfhgnkoaaSl
namespace Go.Proofs.Ytpanfpcfhgnkoaa
open Go.RowKit Go.Shelf
set_option linter.unusedVariables false

attribute [local go_sem] Oper.semAt_some

set_option maxRecDepth 100000 in
set_option maxHeartbeats 1000000 in
theorem all1_zero (n : Nat) (l Bs : Nat) (J : List (Nat × Int) → World → Prop) (W : World) (hBs : W.cell? ⟨Bs, 0, none⟩ = some (.int .i64 0)) (h0 : J [] W) :
    CallsIn Fence.wide n Try.prog 31 #[.func (.yield l) #[] #[], .pointer (some ⟨Bs, 0, none⟩)] W fun e W' => (∃ v, e = .returned v) ∧ J [] W' := by
  refine callsIn_of_wp Try.func31 rfl trivial ?_ rfl
  simp only [Try.ntmps31, List.size_toArray, List.length_cons, List.length_nil, Nat.reduceAdd, Nat.reduceSub, Array.replicate_succ, Array.replicate_zero, List.push_toArray, List.append_toArray, List.nil_append, List.cons_append]
  gi_wp2
  gi_loopw [6] (fun i wr => i = .int .i64 0 ∧ J [] wr) (fun _ _ => 0)
  case atStart => exact ⟨rfl, h0⟩
  case round =>
    obtain ⟨rfl, hJs⟩ := hrel
    gi_wp2
    go_end0
    exact ⟨⟨_, rfl⟩, hJs⟩
theorem all0_stops (Bs n₀ : Nat) (w : World) (hBs : Bs < w.heap.size) (hc : w.cell? ⟨Bs, 0, none⟩ = some (.int .i64 0)) :
    SeqStopsK Fence.wide (3 - 1) Try.prog 31 #[.pointer (some ⟨Bs, 0, none⟩)] encP (KB n₀ Bs) (fun ys => ys = prs [] ([] : List Int).length) (fun pre => ∃ k, k ≤ ([] : List Int).length ∧ pre = prs [] k) ([] : List Int).length w := fun y J Jx W hW hJ _ hY h0 =>
  (all1_zero _ y Bs J W ((hW.cell (p := ⟨Bs, 0, none⟩) hBs).trans hc) h0).mono fun e W' ⟨he, hj⟩ => ⟨he, .inl ⟨_, rfl, hj⟩⟩
theorem seqs0 (w : World) : Seqs w 0 0 0 none 0 0 [] := fun W Bs hB hs hr => all0_stops Bs w.heap.size W hr.lt (hr.cell 0)
theorem count0 (p : Value) (id : Int) (w : World) (h : IxAt w p 0 0 0 none 0 0) : Calls Try.prog 20 #[p, .int .i64 id] w fun e w' => e = .returned (.int .i64 0) ∧ Below w.heap.size w w' :=
  count_s p 0 0 0 none 0 0 [] id w h (seqs0 w) (by simp)
theorem leaves_mark2 {F : Fence} {n D E : Nat} {P : Program} {fn : Func} {R : Ending → World → Prop} {a : Act} {w : World} {v : Value} (hd : a.defers = [{ target := .collected D, args := #[] }, { target := .collected E, args := #[] }]) (hK : w.heap[D]? = some (.deferred (some []))) (hE : w.heap[E]? = some (.deferred (some []))) (hne : D ≠ E)
    (hr : (results fn a.tmps).run P ((w.putObj D (.deferred none)).putObj E (.deferred none)) = .ok v ((w.putObj D (.deferred none)).putObj E (.deferred none))) (hR : R (.returned v) ((w.putObj D (.deferred none)).putObj E (.deferred none))) : bodyPostM F n P fn R .ret a w := by
  show LeavesInM F n P fn a.tmps R a.defers .returning w
  rw [hd]
  exact ⟨by simp, .inl ⟨_, _, rfl, run_takeDeferred hK, by simp, .inl ⟨_, _, rfl, run_takeDeferred ((World.putObj_heap_other (k := E) (Ne.symm hne)).trans hE), v, hr, hR⟩⟩⟩
set_option maxHeartbeats 8000000 in
set_option maxRecDepth 100000 in
theorem none_any (row : Int) (w : World) :
    Calls Try.prog 5 #[.int .i64 row] w fun e w' => e = .returned (.bool true) ∧ Below w.heap.size w w' := by
  obtain ⟨W2, hW2⟩ : ∃ W2, W2 = ((w.alloc (.cells #[.bool false] 4)).alloc (.cells #[.int .i64 0, .int .i64 0, .int .i64 0, .slice none 0 0] 41)).alloc (.cells #[.pointer none, .pointer (some ⟨w.heap.size + 1, 0, none⟩)] 24) := ⟨_, rfl⟩
  have X2 := Lib.hid (show Row W2 w.heap.size 4 #[.bool false] by rw [hW2]; exact ((Row.new _ _ _).alloc _).alloc _)
  have Z2 := Lib.hid (show Row W2 (w.heap.size + 1) 41 #[.int .i64 0, .int .i64 0, .int .i64 0, .slice none 0 0] by rw [hW2]; have := (Row.new (w.alloc (.cells #[.bool false] 4)) 41 #[.int .i64 0, .int .i64 0, .int .i64 0, .slice none 0 0]).alloc (.cells #[.pointer none, .pointer (some ⟨w.heap.size + 1, 0, none⟩)] 24); simpa using this)
  have P2 := Lib.hid (show Row W2 (w.heap.size + 1 + 1) 24 #[.pointer none, .pointer (some ⟨w.heap.size + 1, 0, none⟩)] by rw [hW2]; have := Row.new ((w.alloc (.cells #[.bool false] 4)).alloc (.cells #[.int .i64 0, .int .i64 0, .int .i64 0, .slice none 0 0] 41)) 24 #[.pointer none, .pointer (some ⟨w.heap.size + 1, 0, none⟩)]; simpa using this)
  have B2 := Lib.hid (show Below w.heap.size w W2 by rw [hW2]; exact (((Below.refl _ _).alloc (Nat.le_refl _) _).alloc (by simp) _).alloc (by simp; omega) _)
  have DT0 := Lib.hid (fun W (_ : Below W2.heap.size W2 W) => show IxAt W (.pointer none) 0 0 0 none 0 0 from .inl ⟨rfl, rfl, rfl, rfl, rfl, rfl, rfl⟩)
  have DT1 := Lib.hid (fun W (b : Below W2.heap.size W2 W) => show IxAt W (.pointer (some ⟨w.heap.size + 1, 0, none⟩)) 0 0 0 none 0 0 from .inr ⟨_, rfl, Z2.out.below b Z2.out.lt⟩)
  have HF := Lib.hid (fun W (b : Below W2.heap.size W2 W) => (⟨(P2.out.below b P2.out.lt).cell 0, (P2.out.below b P2.out.lt).cell 1⟩ : W.cell? _ = _ ∧ W.cell? _ = _))
  have hqn := fun W f a b => run_eql_func_nil (P := Try.prog) W 31 _ _ _ f a b Try.underlying31
  refine (callsIn_wide (n := 3)).1 ?_
  refine callsIn_of_wp_marks Try.func5 rfl trivial ?_ rfl
  refine wpIn_wide.2 ?_
  simp only [Try.ntmps5, List.size_toArray, List.length_cons, List.length_nil, Nat.reduceAdd, Nat.reduceSub, Array.replicate_succ, Array.replicate_zero, List.push_toArray, List.append_toArray, List.nil_append, List.cons_append]
  go_wp2_with fail
  rw [← hW2]
  clear hW2
  have BC := Lib.hid (Below.refl W2.heap.size W2)
  refine wp_loop_rounds 3 ?_
  obtain ⟨s0, s1⟩ := HF.out _ BC.out
  rw [rounds_succ]
  go_wp2_with (go_at_call 16; refine (get_none (.pointer none) 0 0 none 0 0 row _ (DT0.out _ BC.out)).mono ?_; rintro e w0a ⟨rfl, b⟩; have BCa := Lib.hid (BC.out.trans (b.mono BC.out.size)); clear s0 s1 b; obtain ⟨s0, s1⟩ := HF.out _ BCa.out)
  go_wp2_with (go_at_call 12; refine (all_any (.pointer none) 0 0 0 none 0 0 _ (DT0.out _ BCa.out)).mono ?_; rintro e w0d ⟨Bs0x, rfl, -, -, b⟩; have BCd := Lib.hid (BCa.out.trans (b.mono BCa.out.size)); clear b; go_wp2_with (go_at_call 12; refine (all_any (.pointer none) 0 0 0 none 0 0 _ (DT0.out _ BCd.out)).mono ?_; rintro e w0e ⟨Bs0, rfl, -, hr, b⟩; have BCe := Lib.hid (BCd.out.trans (b.mono BCd.out.size)); have SE := Lib.hid hr; clear b hr))
  refine (wpIn_wide (n := 3)).1 ?_
  refine wpIn_rangeFunc_ownH (F := Fence.wide) (n := 3) rfl (by omega) rfl trivial (enters_of Try.func31 (by kernel_rfl) rfl) (all0_stops Bs0 w0e.heap.size w0e SE.out.lt (SE.out.cell 0)) KB.trans (KB.put (Nat.le_refl _) SE.out.lt) (Below.refl _ _) (fun _ => rfl)
    (fun _ W => Below w0e.heap.size w0e W) (fun _ _ _ => False) (ownFrom_below (Nat.le_refl _) (Nat.le_refl _)) (fun c s X Y row hs _ _ => hs) (Below.refl _ _) (fun _ _ _ => True) (fun x a' => ownFrom_pure _ (fun _ => True)) ?assign0 ?body0 ?done0 ?stop0
  case assign0 =>
    intro l pre x W K hi hK
    gi_wp2
    exact hK _ _ (KeepsFrom.refl _ _) (KB.refl _ _ _) hi trivial
  case body0 => exact fun l pre x a' W _ _ _ _ h => absurd h (by simp)
  case stop0 => exact fun D c pre W _ _ h _ => h.elim
  case done0 =>
  rintro D0 xs w0f hD - hB hK
  have BC0e := Lib.hid BCe.out
  have K0 := Lib.hid hK
  have HD0 := Lib.hid hD
  have BCf := Lib.hid (BCe.out.trans (hB.mono BCe.out.size))
  clear hK hB hD s0 s1
  obtain ⟨s0, s1⟩ := HF.out _ BCf.out
  go_wp2_with (first
    | (go_at_call 17; refine (len_any (.pointer none) 0 0 0 none 0 0 _ (DT0.out _ BCf.out)).mono ?_; rintro e w0g ⟨rfl, b⟩; have BCg := Lib.hid (BCf.out.trans (b.mono BCf.out.size)); have BFg := Lib.hid (show Below w0f.heap.size w0f w0g from (Below.refl w0f.heap.size w0f).trans (b.mono (Below.refl w0f.heap.size w0f).size)); clear b)
    | (go_at_call 18; refine (many_any (.pointer none) 0 0 0 none 0 0 _ (DT0.out _ BCg.out)).mono ?_; rintro e w0h ⟨rfl, b⟩; have BCh := Lib.hid (BCg.out.trans (b.mono BCg.out.size)); have BFh := Lib.hid (show Below w0f.heap.size w0f w0h from BFg.out.trans (b.mono BFg.out.size)); clear b)
    | (go_at_call 19; refine (wid_any (.pointer none) 0 0 0 none 0 0 _ (DT0.out _ BCh.out)).mono ?_; rintro e w0i ⟨rfl, b⟩; have BCi := Lib.hid (BCh.out.trans (b.mono BCh.out.size)); have BFi := Lib.hid (show Below w0f.heap.size w0f w0i from BFh.out.trans (b.mono BFh.out.size)); clear b)
    | (go_at_call 20; refine (count0 (.pointer none) row _ (DT0.out _ BCi.out)).mono ?_; rintro e w0j ⟨rfl, b⟩; have BCj := Lib.hid (BCi.out.trans (b.mono BCi.out.size)); have BFj := Lib.hid (show Below w0f.heap.size w0f w0j from BFi.out.trans (b.mono BFi.out.size)); clear b)
    | (go_at_call 21; refine (bytes_none (.pointer none) 0 0 none 0 0 _ (DT0.out _ BCj.out)).mono ?_; rintro e w0k ⟨rfl, b⟩; have BCk := Lib.hid (BCj.out.trans (b.mono BCj.out.size)); have BFk := Lib.hid (show Below w0f.heap.size w0f w0k from BFj.out.trans (b.mono BFj.out.size)); clear b))
  have K0k := Lib.hid (keepD K0.out BFk.out)
  have HF1 := Lib.hid (fun W (b : Below w0k.heap.size w0k W) => HF.out W (BCk.out.trans (b.mono BCk.out.size)))
  have DT1b := Lib.hid (fun W (b : Below w0k.heap.size w0k W) => DT1.out W (BCk.out.trans (b.mono BCk.out.size)))
  have BCz := Lib.hid BCk.out
  have BC := Lib.hid (Below.refl w0k.heap.size w0k)
  clear s0 s1
  obtain ⟨s0, s1⟩ := HF1.out _ BC.out
  rw [rounds_succ]
  go_wp2_with (go_at_call 16; refine (get_none (.pointer (some ⟨w.heap.size + 1, 0, none⟩)) 0 0 none 0 0 row _ (DT1b.out _ BC.out)).mono ?_; rintro e w1a ⟨rfl, b⟩; have BCa := Lib.hid (BC.out.trans (b.mono BC.out.size)); clear s0 s1 b; obtain ⟨s0, s1⟩ := HF1.out _ BCa.out)
  go_wp2_with (go_at_call 12; refine (all_any (.pointer (some ⟨w.heap.size + 1, 0, none⟩)) 0 0 0 none 0 0 _ (DT1b.out _ BCa.out)).mono ?_; rintro e w1d ⟨Bs1x, rfl, -, -, b⟩; have BCd := Lib.hid (BCa.out.trans (b.mono BCa.out.size)); clear b; go_wp2_with (go_at_call 12; refine (all_any (.pointer (some ⟨w.heap.size + 1, 0, none⟩)) 0 0 0 none 0 0 _ (DT1b.out _ BCd.out)).mono ?_; rintro e w1e ⟨Bs1, rfl, -, hr, b⟩; have BCe := Lib.hid (BCd.out.trans (b.mono BCd.out.size)); have SE := Lib.hid hr; clear b hr))
  refine (wpIn_wide (n := 3)).1 ?_
  refine wpIn_rangeFunc_ownH (F := Fence.wide) (n := 3) rfl (by omega) rfl trivial (enters_of Try.func31 (by kernel_rfl) rfl) (all0_stops Bs1 w1e.heap.size w1e SE.out.lt (SE.out.cell 0)) KB.trans (KB.put (Nat.le_refl _) SE.out.lt) (Below.refl _ _) (fun _ => rfl)
    (fun _ W => Below w1e.heap.size w1e W) (fun _ _ _ => False) (ownFrom_below (Nat.le_refl _) (Nat.le_refl _)) (fun c s X Y row hs _ _ => hs) (Below.refl _ _) (fun _ _ _ => True) (fun x a' => ownFrom_pure _ (fun _ => True)) ?assign1 ?body1 ?done1 ?stop1
  case assign1 =>
    intro l pre x W K hi hK
    gi_wp2
    exact hK _ _ (KeepsFrom.refl _ _) (KB.refl _ _ _) hi trivial
  case body1 => exact fun l pre x a' W _ _ _ _ h => absurd h (by simp)
  case stop1 => exact fun D c pre W _ _ h _ => h.elim
  case done1 =>
  rintro D1 xs w1f hD - hB hK
  have KP := Lib.hid (keepD K0k.out BCe.out)
  have K1 := Lib.hid hK
  have HD1 := Lib.hid hD
  have BCf := Lib.hid (BCe.out.trans (hB.mono BCe.out.size))
  have K0f := Lib.hid (keepD (keepD K0k.out BCe.out) hB)
  clear hK hB hD s0 s1
  obtain ⟨s0, s1⟩ := HF1.out _ BCf.out
  go_wp2_with (first
    | (go_at_call 17; refine (len_any (.pointer (some ⟨w.heap.size + 1, 0, none⟩)) 0 0 0 none 0 0 _ (DT1b.out _ BCf.out)).mono ?_; rintro e w1g ⟨rfl, b⟩; have BCg := Lib.hid (BCf.out.trans (b.mono BCf.out.size)); have BFg := Lib.hid (show Below w1f.heap.size w1f w1g from (Below.refl w1f.heap.size w1f).trans (b.mono (Below.refl w1f.heap.size w1f).size)); clear b)
    | (go_at_call 18; refine (many_any (.pointer (some ⟨w.heap.size + 1, 0, none⟩)) 0 0 0 none 0 0 _ (DT1b.out _ BCg.out)).mono ?_; rintro e w1h ⟨rfl, b⟩; have BCh := Lib.hid (BCg.out.trans (b.mono BCg.out.size)); have BFh := Lib.hid (show Below w1f.heap.size w1f w1h from BFg.out.trans (b.mono BFg.out.size)); clear b)
    | (go_at_call 19; refine (wid_any (.pointer (some ⟨w.heap.size + 1, 0, none⟩)) 0 0 0 none 0 0 _ (DT1b.out _ BCh.out)).mono ?_; rintro e w1i ⟨rfl, b⟩; have BCi := Lib.hid (BCh.out.trans (b.mono BCh.out.size)); have BFi := Lib.hid (show Below w1f.heap.size w1f w1i from BFh.out.trans (b.mono BFh.out.size)); clear b)
    | (go_at_call 20; refine (count0 (.pointer (some ⟨w.heap.size + 1, 0, none⟩)) row _ (DT1b.out _ BCi.out)).mono ?_; rintro e w1j ⟨rfl, b⟩; have BCj := Lib.hid (BCi.out.trans (b.mono BCi.out.size)); have BFj := Lib.hid (show Below w1f.heap.size w1f w1j from BFi.out.trans (b.mono BFi.out.size)); clear b)
    | (go_at_call 21; refine (bytes_none (.pointer (some ⟨w.heap.size + 1, 0, none⟩)) 0 0 none 0 0 _ (DT1b.out _ BCj.out)).mono ?_; rintro e w1k ⟨rfl, b⟩; have BCk := Lib.hid (BCj.out.trans (b.mono BCj.out.size)); have BFk := Lib.hid (show Below w1f.heap.size w1f w1k from BFj.out.trans (b.mono BFj.out.size)); clear b))
  have K1k := Lib.hid (keepD K1.out BFk.out)
  have K0l := Lib.hid (keepD K0f.out BFk.out)
  rw [rounds_succ]
  have BT := Lib.hid (B2.out.trans ((BCz.out.trans (BCk.out.mono BCz.out.size)).mono B2.out.size))
  have XT := Lib.hid (X2.out.below (BCz.out.trans (BCk.out.mono BCz.out.size)) X2.out.lt)
  have HNE := Lib.hid (show D0 < D1 from Nat.lt_of_lt_of_le (Array.getElem?_eq_some_iff.1 KP.out).1 HD1.out)
  have HDB := Lib.hid (show w.heap.size < D0 from Nat.lt_of_lt_of_le (Nat.lt_of_lt_of_le X2.out.lt BC0e.out.size) HD0.out)
  go_wp2_with (go_at_call 8; refine (known12_any _).mono ?_; rintro e u9 ⟨rfl, b9⟩; have X9 := Lib.hid (XT.out.below b9 XT.out.lt); have B9 := Lib.hid (BT.out.trans (b9.mono BT.out.size)); have K9 := Lib.hid (keepD K1k.out b9); have E9 := Lib.hid (keepD K0l.out b9); clear b9; have c0 := X9.out.cell 0; have f0 := X9.out.frozen 0)
  have h1 := HNE.out
  have h2 := HDB.out
  have hneD : D1 ≠ w.heap.size := by omega
  have hneE : D0 ≠ w.heap.size := by omega
  have hK' : (u9.setCell ⟨w.heap.size, 0, none⟩ (.bool true)).heap[D1]? = some (.deferred (some [])) := (Below.heap_setCell u9 ⟨w.heap.size, 0, none⟩ _ _ hneD).trans K9.out
  have hE' : (u9.setCell ⟨w.heap.size, 0, none⟩ (.bool true)).heap[D0]? = some (.deferred (some [])) := (Below.heap_setCell u9 ⟨w.heap.size, 0, none⟩ _ _ hneE).trans E9.out
  have hE2 : ((u9.setCell ⟨w.heap.size, 0, none⟩ (.bool true)).putObj D1 (.deferred none)).heap[D0]? = some (.deferred (some [])) := (World.putObj_heap_other (k := D0) (by omega)).trans hE'
  have hc : (((u9.setCell ⟨w.heap.size, 0, none⟩ (.bool true)).putObj D1 (.deferred none)).putObj D0 (.deferred none)).cell? ⟨w.heap.size, 0, none⟩ = some (.bool true) :=
    (World.cell?_of_block ((World.putObj_heap_other (k := w.heap.size) (Ne.symm hneE)).trans (World.putObj_heap_other (k := w.heap.size) (Ne.symm hneD)))).trans (World.cell?_setCell_same' _ _ _ (by rw [c0]; rfl))
  have BF : Below w.heap.size w (((u9.setCell ⟨w.heap.size, 0, none⟩ (.bool true)).putObj D1 (.deferred none)).putObj D0 (.deferred none)) := ((B9.out.setCell (p := ⟨w.heap.size, 0, none⟩) (Nat.le_refl _) _).trans (belowK_b (w := w) (Nat.le_refl _) _ D1 _ _ (by omega) hK' rfl rfl)).trans (belowK_b (w := w) (Nat.le_refl _) _ D0 _ _ (by omega) hE2 rfl rfl)
  refine leaves_mark2 (D := D1) (E := D0) (v := .bool true) rfl hK' hE' (by omega) ?_ ⟨rfl, BF⟩
  have hres : Try.f5.results = #[.cell 2 4] := by kernel_rfl
  simp only [results, hres]
  go_simp
end Go.Proofs.Ytpanfpcfhgnkoaa
