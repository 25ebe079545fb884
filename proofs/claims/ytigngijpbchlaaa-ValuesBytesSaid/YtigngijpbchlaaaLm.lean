/- Walks: values are read. -/
import Derived.Test.YtigngijpbchlaaaLf
import Derived.Test.YtigngijpbchlaaaBy
import Derived.Test.YtigngijpbchlaaaRu
import Derived.Test.YtigngijpbchlaaaRb
import Derived.Laws.ResultCell
namespace Go.Proofs.Ytigngijpbchlaaa
open Go.RowKit
set_option linter.unusedVariables false

/-- Three cells of a row are written. -/
theorem set3 {W : World} {b : Nat} {t : TypeId} {x y z x' y' z' : Value} (h : Row W b t #[x, y, z]) :
    Row (((W.setCell ⟨b, 0, none⟩ x').setCell ⟨b, 1, none⟩ y').setCell ⟨b, 2, none⟩ z') b t #[x', y', z'] ∧ W.grownBy (((W.setCell ⟨b, 0, none⟩ x').setCell ⟨b, 1, none⟩ y').setCell ⟨b, 2, none⟩ z') (some b) :=
  ⟨by simpa using ((h.set_ 0 x').set_ 1 y').set_ 2 z', ((grown_set _ _ _ _).trans (grown_set _ _ _ _)).trans (grown_set _ _ _ _)⟩
/-- A result that lies in a block, and one beside it. -/
theorem res_cell {fn : Func} {p u : Tmp} {ty : TypeId} (h : fn.results = #[.cell p ty, .tmp u]) (tmps : Array Value) (P : Program) (w : World) (g : Nat) (t : TypeId) (cs : Array Value) (fs : Array Field) (y : Value) (hy : tmps.getD u undef = y)
    (hp : tmps.getD p undef = .pointer (some ⟨g, 0, none⟩)) (hg : Row w g t cs)
    (hu : P.underlying ty = some (.struct fs)) (hi : (P.info? ty).map (·.size) = some cs.size) :
    (results fn tmps).run P w = .ok (.tuple #[.agg cs, y]) w := by
  subst hy
  rw [results_cell_tmp h]
  simp only [hp, asAddr, Sem.run_pure, Result.andThen_ok, run_loadVar_row w g t ty cs (0, 0) (.struct fs) hg hu rfl hi]
theorem szV3 : (Try.prog.info? 23).map (·.size) = some 3 := by kernel_rfl
theorem grown_box {w w1 w2 : World} {o : Obj} {g : Nat} (h1 : (w.alloc o).grownBy w1 (some g)) (h2 : w1.grownBy w2 (some w.heap.size)) : w.grownBy w2 (some g) :=
  ⟨h2.os.trans h1.os, h2.tape.trans h1.tape, h2.output.trans h1.output, Nat.le_trans (by have := h1.size; simp at this; omega) h2.size, fun k hk hne =>
    (h2.block k (by have := h1.size; simp at this; omega) (fun e => by injection e with e; omega)).trans ((h1.block k (by simp; omega) hne).trans (Below.heap_alloc w _ k hk))⟩
/-- While a value is read: the reader, and the block of the result. -/
structure Rx (w W : World) (base g : Nat) (v : Value) (l : List UInt8) (q : Nat) (y : Bool) (c0 c1 c2 : Value) : Prop where
  rd : Rd W base g v l q y
  own : ∀ j, v.ownBlock = some j → j < w.heap.size
  gw : g < w.heap.size
  row : Row W w.heap.size 23 #[c0, c1, c2]
  gr : ∃ o, (w.alloc o).grownBy W (some g)
section
variable {w W W' : World} {base g : Nat} {v : Value} {l : List UInt8} {p q : Nat} {x y : Bool} {c0 c1 c2 : Value}
theorem Rx.new (h : Rd w base g v l p x) : Rx w (w.alloc (.cells #[.int .u8 0, .int .i64 0, .string ⟨#[]⟩] 23)) base g v l p x (.int .u8 0) (.int .i64 0) (.string ⟨#[]⟩) :=
  ⟨h.alloc _, fun j hj => (h.own.lt j hj).2, h.lt, Row.new _ _ _, _, World.grownBy.refl _ _⟩
theorem Rx.read (h : Rx w W base g v l q y c0 c1 c2) {p' : Nat} {x' : Bool} (r : Rd W' base g v l p' x') (hg : W.grownBy W' (some g)) : Rx w W' base g v l p' x' c0 c1 c2 :=
  ⟨r, h.own, h.gw, h.row.grown hg (fun e => by injection e with e; have := h.gw; omega), let ⟨o, ho⟩ := h.gr; ⟨o, ho.trans hg⟩⟩
theorem Rx.step (h : Rx w W base g v l q y c0 c1 c2) (b : Below W.heap.size W W') : Rx w W' base g v l q y c0 c1 c2 :=
  ⟨h.rd.below b (Nat.le_refl _), h.own, h.gw, h.row.below b h.row.lt, let ⟨o, ho⟩ := h.gr; ⟨o, grown_below ho b⟩⟩
theorem Rx.d0 (h : Rx w W base g v l q y c0 c1 c2) : W.cell? ⟨w.heap.size, 0, none⟩ = some c0 := by rw [h.row.cell]; rfl
theorem Rx.d1 (h : Rx w W base g v l q y c0 c1 c2) : W.cell? ⟨w.heap.size, 1, none⟩ = some c1 := by rw [h.row.cell]; rfl
theorem Rx.d2 (h : Rx w W base g v l q y c0 c1 c2) : W.cell? ⟨w.heap.size, 2, none⟩ = some c2 := by rw [h.row.cell]; rfl
theorem Rx.put (h : Rx w W base g v l q y c0 c1 c2) (x' y' z' : Value) :
    Row (((W.setCell ⟨w.heap.size, 0, none⟩ x').setCell ⟨w.heap.size, 1, none⟩ y').setCell ⟨w.heap.size, 2, none⟩ z') w.heap.size 23 #[x', y', z'] ∧
    Rd (((W.setCell ⟨w.heap.size, 0, none⟩ x').setCell ⟨w.heap.size, 1, none⟩ y').setCell ⟨w.heap.size, 2, none⟩ z') base g v l q y ∧
    w.grownBy (((W.setCell ⟨w.heap.size, 0, none⟩ x').setCell ⟨w.heap.size, 1, none⟩ y').setCell ⟨w.heap.size, 2, none⟩ z') (some g) := by
  have s := set3 (x' := x') (y' := y') (z' := z') h.row
  obtain ⟨o, ho⟩ := h.gr
  exact ⟨s.1, h.rd.far s.2 (by have := h.gw; omega) (fun e => by have := h.own _ e; omega), grown_box ho s.2⟩
end

/-- What is read as a value of the kind k at p of l: kind, number, text, whether there is one, the place and whether the reader is bad behind it. -/
def rV (l : List UInt8) (p : Nat) (x : Bool) (k : Int) : Int × Int × List UInt8 × Bool × Nat × Bool :=
  if k = 1 then
    if (rd l p x 8).2.2 then (0, 0, [], false, (rd l p x 8).2.1, true) else (1, wrap64 ((rd l p x 8).1 : Int), [], true, (rd l p x 8).2.1, false)
  else if k = 2 then
    if (rd l p x 0).2.2 then (0, 0, [], false, (rd l p x 0).2.1, true)
    else if 65535 < (rd l p x 0).1 then (0, 0, [], false, (rd l p x 0).2.1, false)
    else if (rb l (rd l p x 0).2.1 false (rd l p x 0).1).2.2 then (0, 0, [], false, (rb l (rd l p x 0).2.1 false (rd l p x 0).1).2.1, true)
    else (2, 0, (rb l (rd l p x 0).2.1 false (rd l p x 0).1).1, true, (rb l (rd l p x 0).2.1 false (rd l p x 0).1).2.1, false)
  else (0, 0, [], false, p, x)

section
variable {base g : Nat} {v : Value} {l : List UInt8} {p : Nat} {x : Bool} {N q : Nat} {y : Bool}
set_option maxHeartbeats 400000 in
theorem ask64_c (hr : rd l p x 8 = (N, q, y)) (w : World) (h : Rd w base g v l p x) :
    Calls Try.prog 42 #[.pointer (some ⟨g, 0, none⟩), .func (.func 43) #[] #[]] w fun e w' => e = .returned (.tuple #[.int .u64 N, .bool (!y)]) ∧ Rd w' base g v l q y ∧ w.grownBy w' (some g) := by
  have h1 := U64_any w h
  rw [hr] at h1
  have H1 := Lib.hid h1
  clear h1 h hr
  go_enter Try.func42, Try.ntmps42
  go_wp2_with (first | (go_at_call 43; refine H1.out.mono ?_; rintro e w1 ⟨rfl, r1, g1⟩; have R1 := Lib.hid r1; have G1 := Lib.hid g1; clear r1 g1) | (go_at_call 20; refine (Bad_any _ R1.out).mono ?_; rintro e w2 ⟨rfl, rfl⟩))
  go_ret2
  exact ⟨rfl, R1.out, G1.out⟩
set_option maxHeartbeats 400000 in
theorem askS_c (hr : rd l p x 0 = (N, q, y)) (w : World) (h : Rd w base g v l p x) :
    Calls Try.prog 42 #[.pointer (some ⟨g, 0, none⟩), .func (.func 44) #[] #[]] w fun e w' => e = .returned (.tuple #[.int .u64 N, .bool (!y)]) ∧ Rd w' base g v l q y ∧ w.grownBy w' (some g) := by
  have h1 := Uint_any w h
  rw [hr] at h1
  have H1 := Lib.hid h1
  clear h1 h hr
  go_enter Try.func42, Try.ntmps42
  go_wp2_with (first | (go_at_call 44; refine H1.out.mono ?_; rintro e w1 ⟨rfl, r1, g1⟩; have R1 := Lib.hid r1; have G1 := Lib.hid g1; clear r1 g1) | (go_at_call 20; refine (Bad_any _ R1.out).mono ?_; rintro e w2 ⟨rfl, rfl⟩))
  go_ret2
  exact ⟨rfl, R1.out, G1.out⟩

set_option maxHeartbeats 400000 in
theorem readInt_no (hr : rd l p x 8 = (N, q, true)) (w : World) (h : Rd w base g v l p x) :
    Calls Try.prog 31 #[.pointer (some ⟨g, 0, none⟩)] w fun e w' => e = .returned (.tuple #[vV 0 0 ⟨#[]⟩, .bool false]) ∧ Rd w' base g v l q true ∧ w.grownBy w' (some g) := by
  have H := Lib.hid h
  have HR := Lib.hid hr
  clear h hr
  go_enter Try.func31, Try.ntmps31
  go_wp2_with (first | (go_at_call 42; refine (ask64_c HR.out _ (H.out.alloc _)).mono ?_; rintro e w1 ⟨rfl, r1, g1⟩; have hX := (Rx.new H.out).read r1 g1; have d0 := hX.d0; have d1 := hX.d1; have d2 := hX.d2; have f0 := hX.row.frozen 0; have f1 := hX.row.frozen 1; have f2 := hX.row.frozen 2; have HX := Lib.hid hX; clear hX r1 g1))
  have S := HX.out.put (.int .u8 0) (.int .i64 0) (.string ⟨#[]⟩)
  refine bodyPost_ret (v := .tuple #[vV 0 0 ⟨#[]⟩, .bool false]) ?_ rfl ⟨rfl, S.2.1, S.2.2⟩
  exact res_cell rfl _ _ _ _ _ _ _ _ (by rfl) (by rfl) S.1 Try.underlying23 szV3
set_option maxHeartbeats 400000 in
theorem readInt_yes (hr : rd l p x 8 = (N, q, false)) (M : Int) (hM : wrap64 (N : Int) = M) (w : World) (h : Rd w base g v l p x) :
    Calls Try.prog 31 #[.pointer (some ⟨g, 0, none⟩)] w fun e w' => e = .returned (.tuple #[vV 1 M ⟨#[]⟩, .bool true]) ∧ Rd w' base g v l q false ∧ w.grownBy w' (some g) := by
  have H := Lib.hid h
  have HR := Lib.hid hr
  clear h hr
  go_enter Try.func31, Try.ntmps31
  go_wp2_with (first | (go_at_call 42; refine (ask64_c HR.out _ (H.out.alloc _)).mono ?_; rintro e w1 ⟨rfl, r1, g1⟩; have hX := (Rx.new H.out).read r1 g1; have d0 := hX.d0; have d1 := hX.d1; have d2 := hX.d2; have f0 := hX.row.frozen 0; have f1 := hX.row.frozen 1; have f2 := hX.row.frozen 2; have HX := Lib.hid hX; clear hX r1 g1) | (go_at_call 8; refine (int_any _ _).mono ?_; rintro e w2 ⟨rfl, b2⟩; have hX := HX.out.step b2; clear HX d0 d1 d2 f0 f1 f2; have d0 := hX.d0; have d1 := hX.d1; have d2 := hX.d2; have f0 := hX.row.frozen 0; have f1 := hX.row.frozen 1; have f2 := hX.row.frozen 2; have HX := Lib.hid hX; clear hX b2))
  have S := HX.out.put (.int .u8 1) (.int .i64 M) (.string ⟨#[]⟩)
  refine bodyPost_ret (v := .tuple #[vV 1 M ⟨#[]⟩, .bool true]) ?_ rfl ⟨rfl, S.2.1, S.2.2⟩
  exact res_cell rfl _ _ _ _ _ _ _ _ (by rfl) (by rfl) S.1 Try.underlying23 szV3
set_option maxHeartbeats 400000 in
theorem readText_no (hr : rd l p x 0 = (N, q, true)) (w : World) (h : Rd w base g v l p x) :
    Calls Try.prog 32 #[.pointer (some ⟨g, 0, none⟩)] w fun e w' => e = .returned (.tuple #[vV 0 0 ⟨#[]⟩, .bool false]) ∧ Rd w' base g v l q true ∧ w.grownBy w' (some g) := by
  have H := Lib.hid h
  have HR := Lib.hid hr
  clear h hr
  go_enter Try.func32, Try.ntmps32
  go_wp2_with (first | (go_at_call 42; refine (askS_c HR.out _ (H.out.alloc _)).mono ?_; rintro e w1 ⟨rfl, r1, g1⟩; have hX := (Rx.new H.out).read r1 g1; have d0 := hX.d0; have d1 := hX.d1; have d2 := hX.d2; have f0 := hX.row.frozen 0; have f1 := hX.row.frozen 1; have f2 := hX.row.frozen 2; have HX := Lib.hid hX; clear hX r1 g1))
  have S := HX.out.put (.int .u8 0) (.int .i64 0) (.string ⟨#[]⟩)
  refine bodyPost_ret (v := .tuple #[vV 0 0 ⟨#[]⟩, .bool false]) ?_ rfl ⟨rfl, S.2.1, S.2.2⟩
  exact res_cell rfl _ _ _ _ _ _ _ _ (by rfl) (by rfl) S.1 Try.underlying23 szV3
set_option maxHeartbeats 400000 in
theorem readText_long (hr : rd l p x 0 = (N, q, false)) (hN : 65535 < N) (w : World) (h : Rd w base g v l p x) :
    Calls Try.prog 32 #[.pointer (some ⟨g, 0, none⟩)] w fun e w' => e = .returned (.tuple #[vV 0 0 ⟨#[]⟩, .bool false]) ∧ Rd w' base g v l q false ∧ w.grownBy w' (some g) := by
  have H := Lib.hid h
  have HR := Lib.hid hr
  have hd : decide ((65535 : Int) < (N : Int)) = true := decide_eq_true (by omega)
  clear hN
  clear h hr
  go_enter Try.func32, Try.ntmps32
  go_wp2_with (first | (go_at_call 42; refine (askS_c HR.out _ (H.out.alloc _)).mono ?_; rintro e w1 ⟨rfl, r1, g1⟩; have hX := (Rx.new H.out).read r1 g1; have d0 := hX.d0; have d1 := hX.d1; have d2 := hX.d2; have f0 := hX.row.frozen 0; have f1 := hX.row.frozen 1; have f2 := hX.row.frozen 2; have HX := Lib.hid hX; clear hX r1 g1))
  have S := HX.out.put (.int .u8 0) (.int .i64 0) (.string ⟨#[]⟩)
  refine bodyPost_ret (v := .tuple #[vV 0 0 ⟨#[]⟩, .bool false]) ?_ rfl ⟨rfl, S.2.1, S.2.2⟩
  exact res_cell rfl _ _ _ _ _ _ _ _ (by rfl) (by rfl) S.1 Try.underlying23 szV3
set_option maxHeartbeats 400000 in
theorem readText_cut (hr : rd l p x 0 = (N, q, false)) (hN : N ≤ 65535) {L : List UInt8} {q2 : Nat} (hb : rb l q false (N : Int) = (L, q2, true)) (w : World) (h : Rd w base g v l p x) :
    Calls Try.prog 32 #[.pointer (some ⟨g, 0, none⟩)] w fun e w' => e = .returned (.tuple #[vV 0 0 ⟨#[]⟩, .bool false]) ∧ Rd w' base g v l q2 true ∧ w.grownBy w' (some g) := by
  have H := Lib.hid h
  have HR := Lib.hid hr
  have hd : decide ((65535 : Int) < (N : Int)) = false := decide_eq_false (by omega)
  have hw : wrap64 (N : Int) = (N : Int) := by unfold wrap64; omega
  have HB := Lib.hid hb
  clear hN hb
  clear h hr
  go_enter Try.func32, Try.ntmps32
  go_wp2_with (first | (go_at_call 42; refine (askS_c HR.out _ (H.out.alloc _)).mono ?_; rintro e w1 ⟨rfl, r1, g1⟩; have hX := (Rx.new H.out).read r1 g1; have d0 := hX.d0; have d1 := hX.d1; have d2 := hX.d2; have f0 := hX.row.frozen 0; have f1 := hX.row.frozen 1; have f2 := hX.row.frozen 2; have HX := Lib.hid hX; clear hX r1 g1) | (go_at_call 45; refine (Bytes_any _ _ HX.out.rd).mono ?_; rintro e w3 ⟨v3, rfl, o3, r3, g3⟩; rw [HB.out] at o3 r3; obtain ⟨A3, e3, rfl, -⟩ := o3.sl; have hX := HX.out.read r3 g3; clear HX d0 d1 d2 f0 f1 f2; have d0 := hX.d0; have d1 := hX.d1; have d2 := hX.d2; have f0 := hX.row.frozen 0; have f1 := hX.row.frozen 1; have f2 := hX.row.frozen 2; have HX := Lib.hid hX; have cv := str8 o3.sl; clear hX r3 g3) | (go_at_call 20; refine (Bad_any _ HX.out.rd).mono ?_; rintro e w4 ⟨rfl, rfl⟩))
  have S := HX.out.put (.int .u8 0) (.int .i64 0) (.string ⟨#[]⟩)
  refine bodyPost_ret (v := .tuple #[vV 0 0 ⟨#[]⟩, .bool false]) ?_ rfl ⟨rfl, S.2.1, S.2.2⟩
  exact res_cell rfl _ _ _ _ _ _ _ _ (by rfl) (by rfl) S.1 Try.underlying23 szV3
set_option maxHeartbeats 400000 in
theorem readText_yes (hr : rd l p x 0 = (N, q, false)) (hN : N ≤ 65535) {L : List UInt8} {q2 : Nat} (hb : rb l q false (N : Int) = (L, q2, false)) (w : World) (h : Rd w base g v l p x) :
    Calls Try.prog 32 #[.pointer (some ⟨g, 0, none⟩)] w fun e w' => e = .returned (.tuple #[vV 2 0 ⟨L.toArray⟩, .bool true]) ∧ Rd w' base g v l q2 false ∧ w.grownBy w' (some g) := by
  have H := Lib.hid h
  have HR := Lib.hid hr
  have hd : decide ((65535 : Int) < (N : Int)) = false := decide_eq_false (by omega)
  have hw : wrap64 (N : Int) = (N : Int) := by unfold wrap64; omega
  have HB := Lib.hid hb
  clear hN hb
  clear h hr
  go_enter Try.func32, Try.ntmps32
  go_wp2_with (first | (go_at_call 42; refine (askS_c HR.out _ (H.out.alloc _)).mono ?_; rintro e w1 ⟨rfl, r1, g1⟩; have hX := (Rx.new H.out).read r1 g1; have d0 := hX.d0; have d1 := hX.d1; have d2 := hX.d2; have f0 := hX.row.frozen 0; have f1 := hX.row.frozen 1; have f2 := hX.row.frozen 2; have HX := Lib.hid hX; clear hX r1 g1) | (go_at_call 45; refine (Bytes_any _ _ HX.out.rd).mono ?_; rintro e w3 ⟨v3, rfl, o3, r3, g3⟩; rw [HB.out] at o3 r3; obtain ⟨A3, e3, rfl, -⟩ := o3.sl; have hX := HX.out.read r3 g3; clear HX d0 d1 d2 f0 f1 f2; have d0 := hX.d0; have d1 := hX.d1; have d2 := hX.d2; have f0 := hX.row.frozen 0; have f1 := hX.row.frozen 1; have f2 := hX.row.frozen 2; have HX := Lib.hid hX; have cv := str8 o3.sl; clear hX r3 g3) | (go_at_call 20; refine (Bad_any _ HX.out.rd).mono ?_; rintro e w4 ⟨rfl, rfl⟩) | (go_at_call 9; refine (text_any _ _).mono ?_; rintro e w2 ⟨rfl, b2⟩; have hX := HX.out.step b2; clear HX d0 d1 d2 f0 f1 f2; have d0 := hX.d0; have d1 := hX.d1; have d2 := hX.d2; have f0 := hX.row.frozen 0; have f1 := hX.row.frozen 1; have f2 := hX.row.frozen 2; have HX := Lib.hid hX; clear hX b2))
  have S := HX.out.put (.int .u8 2) (.int .i64 0) (.string ⟨L.toArray⟩)
  refine bodyPost_ret (v := .tuple #[vV 2 0 ⟨L.toArray⟩, .bool true]) ?_ rfl ⟨rfl, S.2.1, S.2.2⟩
  exact res_cell rfl _ _ _ _ _ _ _ _ (by rfl) (by rfl) S.1 Try.underlying23 szV3
end
end Go.Proofs.Ytigngijpbchlaaa
