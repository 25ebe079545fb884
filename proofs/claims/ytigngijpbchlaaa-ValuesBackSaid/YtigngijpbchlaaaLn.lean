/- Walks: values.Read; the document's Read. -/
import Derived.Test.YtigngijpbchlaaaLm
namespace Go.Proofs.Ytigngijpbchlaaa
open Go.RowKit
set_option linter.unusedVariables false

theorem rd_bad {l : List UInt8} {p : Nat} {x : Bool} {N q : Nat} (h : rd l p x 0 = (N, q, true)) : N = 0 := by
  unfold rd at h
  cases x with
  | true => simp at h; omega
  | false =>
    have hf := (rdS_form (l.drop p)).2
    simp only [Bool.false_eq_true, if_false, if_true, Prod.mk.injEq, beq_iff_eq] at h
    have := hf h.2.2
    omega
theorem rd_lt64 (l : List UInt8) (p : Nat) (x : Bool) : (rd l p x 0).1 < 18446744073709551616 := by
  unfold rd
  split
  · simp
  · exact rdS_lt _
section
variable {base g : Nat} {v : Value} {l : List UInt8} {p : Nat} {x : Bool} {k' n' : Int} {L : List UInt8} {ok : Bool} {q : Nat} {y : Bool}
theorem readInt_c (hr : rV l p x 1 = (k', n', L, ok, q, y)) (w : World) (h : Rd w base g v l p x) :
    Calls Try.prog 31 #[.pointer (some ⟨g, 0, none⟩)] w fun e w' => e = .returned (.tuple #[vV k' n' ⟨L.toArray⟩, .bool ok]) ∧ Rd w' base g v l q y ∧ w.grownBy w' (some g) := by
  obtain ⟨N, q1, y1, hd⟩ : ∃ N q1 y1, rd l p x 8 = (N, q1, y1) := ⟨_, _, _, rfl⟩
  unfold rV at hr
  rw [if_pos rfl, hd] at hr
  cases y1 with
  | true =>
    simp only [if_true, Prod.mk.injEq] at hr
    obtain ⟨rfl, rfl, rfl, rfl, rfl, rfl⟩ := hr
    exact readInt_no hd w h
  | false =>
    simp only [Bool.false_eq_true, if_false, Prod.mk.injEq] at hr
    obtain ⟨rfl, rfl, rfl, rfl, rfl, rfl⟩ := hr
    exact readInt_yes hd _ rfl w h
/-- The ways in which a text may be read. -/
theorem rV_two (hr : rV l p x 2 = (k', n', L, ok, q, y)) : ∃ N q1 y1, rd l p x 0 = (N, q1, y1) ∧
    ((y1 = true ∧ N = 0 ∧ k' = 0 ∧ n' = 0 ∧ L = [] ∧ ok = false ∧ q = q1 ∧ y = true) ∨
     (y1 = false ∧ 65535 < N ∧ N < 18446744073709551616 ∧ k' = 0 ∧ n' = 0 ∧ L = [] ∧ ok = false ∧ q = q1 ∧ y = false) ∨
     (y1 = false ∧ N ≤ 65535 ∧ ∃ L2 q2, rb l q1 false (N : Int) = (L2, q2, true) ∧ k' = 0 ∧ n' = 0 ∧ L = [] ∧ ok = false ∧ q = q2 ∧ y = true) ∨
     (y1 = false ∧ N ≤ 65535 ∧ rb l q1 false (N : Int) = (L, q, false) ∧ k' = 2 ∧ n' = 0 ∧ ok = true ∧ y = false)) := by
  obtain ⟨N, q1, y1, hd⟩ : ∃ N q1 y1, rd l p x 0 = (N, q1, y1) := ⟨_, _, _, rfl⟩
  refine ⟨N, q1, y1, hd, ?_⟩
  have hN := rd_lt64 l p x
  unfold rV at hr
  rw [if_neg (by decide), if_pos rfl, hd] at hr
  rw [hd] at hN
  cases y1 with
  | true =>
    simp only [if_true, Prod.mk.injEq] at hr
    obtain ⟨rfl, rfl, rfl, rfl, rfl, rfl⟩ := hr
    exact .inl ⟨rfl, rd_bad hd, rfl, rfl, rfl, rfl, rfl, rfl⟩
  | false =>
    simp only [Bool.false_eq_true, if_false] at hr
    by_cases h1 : 65535 < N
    · rw [if_pos h1] at hr
      simp only [Prod.mk.injEq] at hr
      obtain ⟨rfl, rfl, rfl, rfl, rfl, rfl⟩ := hr
      exact .inr (.inl ⟨rfl, h1, hN, rfl, rfl, rfl, rfl, rfl, rfl⟩)
    · rw [if_neg h1] at hr
      obtain ⟨L2, q2, y2, hb⟩ : ∃ L2 q2 y2, rb l q1 false (N : Int) = (L2, q2, y2) := ⟨_, _, _, rfl⟩
      rw [hb] at hr
      cases y2 with
      | true =>
        simp only [if_true, Prod.mk.injEq] at hr
        obtain ⟨rfl, rfl, rfl, rfl, rfl, rfl⟩ := hr
        exact .inr (.inr (.inl ⟨rfl, by omega, L2, q2, hb, rfl, rfl, rfl, rfl, rfl, rfl⟩))
      | false =>
        simp only [Bool.false_eq_true, if_false, Prod.mk.injEq] at hr
        obtain ⟨rfl, rfl, rfl, rfl, rfl, rfl⟩ := hr
        exact .inr (.inr (.inr ⟨rfl, by omega, hb, rfl, rfl, rfl, rfl⟩))
theorem readText_c (hr : rV l p x 2 = (k', n', L, ok, q, y)) (w : World) (h : Rd w base g v l p x) :
    Calls Try.prog 32 #[.pointer (some ⟨g, 0, none⟩)] w fun e w' => e = .returned (.tuple #[vV k' n' ⟨L.toArray⟩, .bool ok]) ∧ Rd w' base g v l q y ∧ w.grownBy w' (some g) := by
  obtain ⟨N, q1, y1, hd, ⟨rfl, -, rfl, rfl, rfl, rfl, rfl, rfl⟩ | ⟨rfl, hN, -, rfl, rfl, rfl, rfl, rfl, rfl⟩ | ⟨rfl, hN, L2, q2, hb, rfl, rfl, rfl, rfl, rfl, rfl⟩ | ⟨rfl, hN, hb, rfl, rfl, rfl, rfl⟩⟩ := rV_two hr
  · exact readText_no hd w h
  · exact readText_long hd hN w h
  · exact readText_cut hd hN hb w h
  · exact readText_yes hd hN hb w h

set_option maxHeartbeats 400000 in
theorem Read_c {k : Int} (hr : rV l p x k = (k', n', L, ok, q, y)) (w : World) (h : Rd w base g v l p x) :
    Calls Try.prog 17 #[.pointer (some ⟨g, 0, none⟩), .int .u8 k] w fun e w' => e = .returned (.tuple #[vV k' n' ⟨L.toArray⟩, .bool ok]) ∧ Rd w' base g v l q y ∧ w.grownBy w' (some g) := by
  have H := Lib.hid h
  by_cases h1 : k = 1
  · subst h1
    have HR := Lib.hid hr
    clear h hr
    go_enter Try.func17, Try.ntmps17
    go_wp2_with (go_at_call 31; refine (readInt_c HR.out _ (H.out.alloc _)).mono ?_; rintro e w1 ⟨rfl, r1, g1⟩; have hX := (Rx.new H.out).read r1 g1; have d0 := hX.d0; have d1 := hX.d1; have d2 := hX.d2; have f0 := hX.row.frozen 0; have f1 := hX.row.frozen 1; have f2 := hX.row.frozen 2; have HX := Lib.hid hX; clear hX r1 g1)
    have S := HX.out.put (.int .u8 k') (.int .i64 n') (.string ⟨L.toArray⟩)
    refine bodyPost_ret (v := .tuple #[vV k' n' ⟨L.toArray⟩, .bool ok]) ?_ rfl ⟨rfl, S.2.1, S.2.2⟩
    exact res_cell rfl _ _ _ _ _ _ _ _ (by rfl) (by rfl) S.1 Try.underlying23 szV3
  · by_cases h2 : k = 2
    · subst h2
      have HR := Lib.hid hr
      clear h hr
      go_enter Try.func17, Try.ntmps17
      go_wp2_with (go_at_call 32; refine (readText_c HR.out _ (H.out.alloc _)).mono ?_; rintro e w1 ⟨rfl, r1, g1⟩; have hX := (Rx.new H.out).read r1 g1; have d0 := hX.d0; have d1 := hX.d1; have d2 := hX.d2; have f0 := hX.row.frozen 0; have f1 := hX.row.frozen 1; have f2 := hX.row.frozen 2; have HX := Lib.hid hX; clear hX r1 g1)
      have S := HX.out.put (.int .u8 k') (.int .i64 n') (.string ⟨L.toArray⟩)
      refine bodyPost_ret (v := .tuple #[vV k' n' ⟨L.toArray⟩, .bool ok]) ?_ rfl ⟨rfl, S.2.1, S.2.2⟩
      exact res_cell rfl _ _ _ _ _ _ _ _ (by rfl) (by rfl) S.1 Try.underlying23 szV3
    · have e1 : (k == 1) = false := by simp [h1]
      have e2 : (k == 2) = false := by simp [h2]
      unfold rV at hr
      rw [if_neg h1, if_neg h2] at hr
      simp only [Prod.mk.injEq] at hr
      obtain ⟨rfl, rfl, rfl, rfl, rfl, rfl⟩ := hr
      clear h
      go_enter Try.func17, Try.ntmps17
      have hX := Rx.new H.out
      go_wp2
      have S := hX
      refine bodyPost_ret (v := .tuple #[vV 0 0 ⟨#[]⟩, .bool false]) ?_ rfl ⟨rfl, S.rd, ?_⟩
      · exact res_cell rfl _ _ _ _ _ _ _ _ (by rfl) (by rfl) S.row Try.underlying23 szV3
      · exact (World.grownBy_alloc w _ _)
end

theorem grown_far {a b c : World} {g B : Nat} (h : a.grownBy b (some g)) (k : b.grownBy c (some B)) (hB : a.heap.size ≤ B) : a.grownBy c (some g) :=
  ⟨k.os.trans h.os, k.tape.trans h.tape, k.output.trans h.output, Nat.le_trans h.size k.size, fun j hj hne => (k.block j (Nat.lt_of_lt_of_le hj h.size) (fun e => by injection e with e; omega)).trans (h.block j hj hne)⟩
/-- While the document reads a value: its reader, the block of the result, that of the value. -/
structure Ry (w W : World) (hi g : Nat) (v : Value) (l : List UInt8) (q : Nat) (y : Bool) (c0 c1 c2 : Value) : Prop where
  rd : RR W hi g v l q y
  gw : g < w.heap.size
  hw : hi ≤ w.heap.size
  row : Row W w.heap.size 23 #[.int .u8 0, .int .i64 0, .string ⟨#[]⟩]
  val : Row W (w.heap.size + 1) 23 #[c0, c1, c2]
  gr : w.grownBy W (some g)
section
variable {w W W' : World} {hi g : Nat} {v : Value} {l : List UInt8} {p q : Nat} {x y : Bool} {c0 c1 c2 : Value}
theorem RR.alloc (h : RR w hi g v l p x) (o : Obj) : RR (w.alloc o) hi g v l p x := h.below ((Below.refl _ _).alloc (Nat.le_refl _) o) (Nat.le_refl _)
theorem Ry.new (h : RR w hi g v l p x) (c0 c1 c2 : Value) (a0 a1 a2 : Value) : Ry w ((w.alloc (.cells #[.int .u8 0, .int .i64 0, .string ⟨#[]⟩] 23)).alloc (.cells #[c0, c1, c2] 23)) hi g v l p x c0 c1 c2 :=
  ⟨(h.alloc _).alloc _, h.lt, Nat.le_trans h.ge (Nat.le_of_lt h.lt), (Row.new _ _ _).alloc _, by have := Row.new (w.alloc (.cells #[.int .u8 0, .int .i64 0, .string ⟨#[]⟩] 23)) 23 #[c0, c1, c2]; simpa using this, ⟨rfl, rfl, rfl, by simp; omega, fun k hk _ => by rw [Below.heap_alloc _ _ _ (by simp; omega), Below.heap_alloc _ _ _ hk]⟩⟩
theorem Ry.read (h : Ry w W hi g v l q y c0 c1 c2) {p' : Nat} {x' : Bool} (r : RR W' hi g v l p' x') (hg : W.grownBy W' (some g)) : Ry w W' hi g v l p' x' c0 c1 c2 :=
  ⟨r, h.gw, h.hw, h.row.grown hg (fun e => by injection e with e; have := h.gw; omega), h.val.grown hg (fun e => by injection e with e; have := h.gw; omega), h.gr.trans hg⟩
theorem Ry.set_ (h : Ry w W hi g v l q y c0 c1 c2) (i : Nat) (u : Value) {c0' c1' c2' : Value} (e : (#[c0, c1, c2] : Array Value).setIfInBounds i u = #[c0', c1', c2']) : Ry w (W.setCell ⟨w.heap.size + 1, i, none⟩ u) hi g v l q y c0' c1' c2' := by
  have s := grown_set W (w.heap.size + 1) i u
  refine ⟨h.rd.grown s (by have := h.gw; intro e; injection e with e; omega) (fun k hk => by injection hk with hk; have := h.hw; omega), h.gw, h.hw, h.row.grown s (by intro e; injection e with e; omega), ?_, grown_far h.gr s (by omega)⟩
  rw [← e]
  exact h.val.set_ i u
theorem Ry.d0 (h : Ry w W hi g v l q y c0 c1 c2) : W.cell? ⟨w.heap.size + 1, 0, none⟩ = some c0 := by rw [h.val.cell]; rfl
theorem Ry.d1 (h : Ry w W hi g v l q y c0 c1 c2) : W.cell? ⟨w.heap.size + 1, 1, none⟩ = some c1 := by rw [h.val.cell]; rfl
theorem Ry.d2 (h : Ry w W hi g v l q y c0 c1 c2) : W.cell? ⟨w.heap.size + 1, 2, none⟩ = some c2 := by rw [h.val.cell]; rfl
theorem Ry.e0 (h : Ry w W hi g v l q y c0 c1 c2) : W.cell? ⟨w.heap.size, 0, none⟩ = some (.int .u8 0) := by rw [h.row.cell]; rfl
theorem Ry.e1 (h : Ry w W hi g v l q y c0 c1 c2) : W.cell? ⟨w.heap.size, 1, none⟩ = some (.int .i64 0) := by rw [h.row.cell]; rfl
theorem Ry.e2 (h : Ry w W hi g v l q y c0 c1 c2) : W.cell? ⟨w.heap.size, 2, none⟩ = some (.string ⟨#[]⟩) := by rw [h.row.cell]; rfl
theorem Ry.put (h : Ry w W hi g v l q y c0 c1 c2) (x' y' z' : Value) :
    Row (((W.setCell ⟨w.heap.size, 0, none⟩ x').setCell ⟨w.heap.size, 1, none⟩ y').setCell ⟨w.heap.size, 2, none⟩ z') w.heap.size 23 #[x', y', z'] ∧
    RR (((W.setCell ⟨w.heap.size, 0, none⟩ x').setCell ⟨w.heap.size, 1, none⟩ y').setCell ⟨w.heap.size, 2, none⟩ z') hi g v l q y ∧
    w.grownBy (((W.setCell ⟨w.heap.size, 0, none⟩ x').setCell ⟨w.heap.size, 1, none⟩ y').setCell ⟨w.heap.size, 2, none⟩ z') (some g) := by
  have s := set3 (x' := x') (y' := y') (z' := z') h.row
  exact ⟨s.1, h.rd.grown s.2 (by have := h.gw; intro e; injection e with e; omega) (fun k hk => by injection hk with hk; have := h.hw; omega), grown_far h.gr s.2 (by omega)⟩
end
theorem refNumber_spec {hi g : Nat} {v : Value} {l : List UInt8} {p : Nat} {x : Bool} {n q : Nat} {y : Bool} (S : Int) (s : Nat) (h : rd l p x s = (n, q, y)) (hS : S = (s : Int)) (w : World) (hr : RR w hi g v l p x) (hs1 : 1 ≤ s) (hs8 : s ≤ 8) :
    Calls Try.prog 33 #[.pointer (some ⟨g, 0, none⟩), .int .i64 S] w fun e w' => e = .returned (.int .u64 n) ∧ RR w' hi g v l q y ∧ w.grownBy w' (some g) := by
  have h1 := refNumber_any S s hS w hr hs1 hs8
  rw [h] at h1
  exact h1
theorem refUint_spec {hi g : Nat} {v : Value} {l : List UInt8} {p : Nat} {x : Bool} {n q : Nat} {y : Bool} (h : rd l p x 0 = (n, q, y)) (w : World) (hr : RR w hi g v l p x) :
    Calls Try.prog 34 #[.pointer (some ⟨g, 0, none⟩)] w fun e w' => e = .returned (.int .u64 n) ∧ RR w' hi g v l q y ∧ w.grownBy w' (some g) := by
  have h1 := refUint_any w hr
  rw [h] at h1
  exact h1
theorem refBytes_to {hi g : Nat} {v : Value} {l : List UInt8} {p : Nat} {x : Bool} {n : Int} {s : List UInt8} {q : Nat} {y : Bool} (h : rb l p x n = (s, q, y)) (w : World) (hr : RR w hi g v l p x) :
    Calls Try.prog 35 #[.pointer (some ⟨g, 0, none⟩), .int .i64 n] w fun e w' => ∃ A c, e = .returned (.slice A s.length c) ∧ Ow w' w.heap.size (.slice A s.length c) s ∧ RR w' hi g v l q y ∧ w.grownBy w' (some g) := by
  have h1 := refBytes_any n w hr
  rw [h] at h1
  refine h1.mono ?_
  rintro e w' ⟨v', rfl, o, h2, h3⟩
  obtain ⟨A, c, rfl, -⟩ := o.sl
  exact ⟨A, c, rfl, o, h2, h3⟩
section
variable {hi g : Nat} {v : Value} {l : List UInt8} {p : Nat} {x : Bool} {N q : Nat}
set_option maxHeartbeats 400000 in
theorem refRead_i0 (hr : rd l p x 8 = (N, q, true)) (M : Int) (hM : wrap64 (N : Int) = M) (w : World) (h : RR w hi g v l p x) :
    Calls Try.prog 18 #[.pointer (some ⟨g, 0, none⟩), .int .u8 1] w fun e w' => e = .returned (.tuple #[vV 0 0 ⟨#[]⟩, .bool false]) ∧ RR w' hi g v l q true ∧ w.grownBy w' (some g) := by
  have H := Lib.hid h
  have HR := Lib.hid hr
  clear hr
  clear h
  go_enter Try.func18, Try.ntmps18
  go_wp2_with (first | (go_at_call 33; refine (refNumber_spec 8 8 HR.out rfl _ (H.out.alloc _ |>.alloc _) (by omega) (by omega)).mono ?_; rintro e w1 ⟨rfl, r1, g1⟩; have hX := (Ry.new H.out (.int .u8 1) (.int .i64 0) (.string ⟨#[]⟩) (.int .u8 0) (.int .i64 0) (.string ⟨#[]⟩)).read r1 g1; have b2 := hX.rd.c2; have d0 := hX.d0; have d1 := hX.d1; have d2 := hX.d2; have f0 := hX.val.frozen 0; have f1 := hX.val.frozen 1; have f2 := hX.val.frozen 2; have e0 := hX.e0; have e1 := hX.e1; have e2 := hX.e2; have h0 := hX.row.frozen 0; have h1 := hX.row.frozen 1; have h2 := hX.row.frozen 2; have HX := Lib.hid hX; clear hX; clear r1 g1))
  have hY := HX.out.set_ 1 (.int .i64 M) (c0' := .int .u8 1) (c1' := .int .i64 M) (c2' := .string ⟨#[]⟩) rfl
  have S := hY.put (.int .u8 0) (.int .i64 0) (.string ⟨#[]⟩)
  refine bodyPost_ret (v := .tuple #[vV 0 0 ⟨#[]⟩, .bool false]) ?_ rfl ⟨rfl, S.2.1, S.2.2⟩
  exact res_cell rfl _ _ _ _ _ _ _ _ (by rfl) (by rfl) S.1 Try.underlying23 szV3
set_option maxHeartbeats 400000 in
theorem refRead_i1 (hr : rd l p x 8 = (N, q, false)) (M : Int) (hM : wrap64 (N : Int) = M) (w : World) (h : RR w hi g v l p x) :
    Calls Try.prog 18 #[.pointer (some ⟨g, 0, none⟩), .int .u8 1] w fun e w' => e = .returned (.tuple #[vV 1 M ⟨#[]⟩, .bool true]) ∧ RR w' hi g v l q false ∧ w.grownBy w' (some g) := by
  have H := Lib.hid h
  have HR := Lib.hid hr
  clear hr
  clear h
  go_enter Try.func18, Try.ntmps18
  go_wp2_with (first | (go_at_call 33; refine (refNumber_spec 8 8 HR.out rfl _ (H.out.alloc _ |>.alloc _) (by omega) (by omega)).mono ?_; rintro e w1 ⟨rfl, r1, g1⟩; have hX := (Ry.new H.out (.int .u8 1) (.int .i64 0) (.string ⟨#[]⟩) (.int .u8 0) (.int .i64 0) (.string ⟨#[]⟩)).read r1 g1; have b2 := hX.rd.c2; have d0 := hX.d0; have d1 := hX.d1; have d2 := hX.d2; have f0 := hX.val.frozen 0; have f1 := hX.val.frozen 1; have f2 := hX.val.frozen 2; have e0 := hX.e0; have e1 := hX.e1; have e2 := hX.e2; have h0 := hX.row.frozen 0; have h1 := hX.row.frozen 1; have h2 := hX.row.frozen 2; have HX := Lib.hid hX; clear hX; clear r1 g1))
  have hY := HX.out.set_ 1 (.int .i64 M) (c0' := .int .u8 1) (c1' := .int .i64 M) (c2' := .string ⟨#[]⟩) rfl
  have S := hY.put (.int .u8 1) (.int .i64 M) (.string ⟨#[]⟩)
  refine bodyPost_ret (v := .tuple #[vV 1 M ⟨#[]⟩, .bool true]) ?_ rfl ⟨rfl, S.2.1, S.2.2⟩
  exact res_cell rfl _ _ _ _ _ _ _ _ (by rfl) (by rfl) S.1 Try.underlying23 szV3
set_option maxHeartbeats 400000 in
theorem refRead_t0 (hr : rd l p x 0 = (N, q, false)) (hN : 65535 < N) (hN2 : N < 18446744073709551616) (w : World) (h : RR w hi g v l p x) :
    Calls Try.prog 18 #[.pointer (some ⟨g, 0, none⟩), .int .u8 2] w fun e w' => e = .returned (.tuple #[vV 0 0 ⟨#[]⟩, .bool false]) ∧ RR w' hi g v l q false ∧ w.grownBy w' (some g) := by
  have H := Lib.hid h
  have HR := Lib.hid hr
  clear hr
  have hd : decide ((65535 : Int) < (N : Int)) = true := decide_eq_true (by omega)
  have HN2 := Lib.hid hN2
  clear hN hN2
  clear h
  go_enter Try.func18, Try.ntmps18
  go_wp2_with (first | (go_at_call 34; refine (refUint_spec HR.out _ (H.out.alloc _ |>.alloc _)).mono ?_; rintro e w1 ⟨rfl, r1, g1⟩; have hX := (Ry.new H.out (.int .u8 2) (.int .i64 0) (.string ⟨#[]⟩) (.int .u8 0) (.int .i64 0) (.string ⟨#[]⟩)).read r1 g1; have b2 := hX.rd.c2; have d0 := hX.d0; have d1 := hX.d1; have d2 := hX.d2; have f0 := hX.val.frozen 0; have f1 := hX.val.frozen 1; have f2 := hX.val.frozen 2; have e0 := hX.e0; have e1 := hX.e1; have e2 := hX.e2; have h0 := hX.row.frozen 0; have h1 := hX.row.frozen 1; have h2 := hX.row.frozen 2; have HX := Lib.hid hX; clear hX; clear r1 g1))
  have hY := HX.out
  have S := hY.put (.int .u8 0) (.int .i64 0) (.string ⟨#[]⟩)
  refine bodyPost_ret (v := .tuple #[vV 0 0 ⟨#[]⟩, .bool false]) ?_ rfl ⟨rfl, S.2.1, S.2.2⟩
  exact res_cell rfl _ _ _ _ _ _ _ _ (by rfl) (by rfl) S.1 Try.underlying23 szV3
set_option maxHeartbeats 400000 in
theorem refRead_t1 {y1 : Bool} (hr : rd l p x 0 = (N, q, y1)) (hN : N ≤ 65535) {L : List UInt8} {q2 : Nat} (hb : rb l q y1 (N : Int) = (L, q2, true)) (w : World) (h : RR w hi g v l p x) :
    Calls Try.prog 18 #[.pointer (some ⟨g, 0, none⟩), .int .u8 2] w fun e w' => e = .returned (.tuple #[vV 0 0 ⟨#[]⟩, .bool false]) ∧ RR w' hi g v l q2 true ∧ w.grownBy w' (some g) := by
  have H := Lib.hid h
  have HR := Lib.hid hr
  clear hr
  have hg1 : ¬ (w.heap.size + 1 = g) := by have := h.lt; omega
  have hg2 : ¬ (g = w.heap.size + 1) := by have := h.lt; omega
  have hd : decide ((65535 : Int) < (N : Int)) = false := decide_eq_false (by omega)
  have hw : wrap64 (N : Int) = (N : Int) := by unfold wrap64; omega
  have HB := Lib.hid hb
  clear hN hb
  clear h
  go_enter Try.func18, Try.ntmps18
  go_wp2_with (first | (go_at_call 34; refine (refUint_spec HR.out _ (H.out.alloc _ |>.alloc _)).mono ?_; rintro e w1 ⟨rfl, r1, g1⟩; have hX := (Ry.new H.out (.int .u8 2) (.int .i64 0) (.string ⟨#[]⟩) (.int .u8 0) (.int .i64 0) (.string ⟨#[]⟩)).read r1 g1; have b2 := hX.rd.c2; have d0 := hX.d0; have d1 := hX.d1; have d2 := hX.d2; have f0 := hX.val.frozen 0; have f1 := hX.val.frozen 1; have f2 := hX.val.frozen 2; have e0 := hX.e0; have e1 := hX.e1; have e2 := hX.e2; have h0 := hX.row.frozen 0; have h1 := hX.row.frozen 1; have h2 := hX.row.frozen 2; have HX := Lib.hid hX; clear hX; clear r1 g1) | (go_at_call 35; refine (refBytes_to HB.out _ HX.out.rd).mono ?_; rintro e w3 ⟨A3, n3, rfl, o3, r3, g3⟩; have hX := HX.out.read r3 g3; clear HX b2 d0 d1 d2 f0 f1 f2 e0 e1 e2 h0 h1 h2; have b2 := hX.rd.c2; have d0 := hX.d0; have d1 := hX.d1; have d2 := hX.d2; have f0 := hX.val.frozen 0; have f1 := hX.val.frozen 1; have f2 := hX.val.frozen 2; have e0 := hX.e0; have e1 := hX.e1; have e2 := hX.e2; have h0 := hX.row.frozen 0; have h1 := hX.row.frozen 1; have h2 := hX.row.frozen 2; have HX := Lib.hid hX; clear hX; have cv := str8 o3.sl; clear r3 g3))
  have hY := HX.out.set_ 2 (.string ⟨L.toArray⟩) (c0' := .int .u8 2) (c1' := .int .i64 0) (c2' := .string ⟨L.toArray⟩) rfl
  have S := hY.put (.int .u8 0) (.int .i64 0) (.string ⟨#[]⟩)
  refine bodyPost_ret (v := .tuple #[vV 0 0 ⟨#[]⟩, .bool false]) ?_ rfl ⟨rfl, S.2.1, S.2.2⟩
  exact res_cell rfl _ _ _ _ _ _ _ _ (by rfl) (by rfl) S.1 Try.underlying23 szV3
set_option maxHeartbeats 400000 in
theorem refRead_t2 {y1 : Bool} (hr : rd l p x 0 = (N, q, y1)) (hN : N ≤ 65535) {L : List UInt8} {q2 : Nat} (hb : rb l q y1 (N : Int) = (L, q2, false)) (w : World) (h : RR w hi g v l p x) :
    Calls Try.prog 18 #[.pointer (some ⟨g, 0, none⟩), .int .u8 2] w fun e w' => e = .returned (.tuple #[vV 2 0 ⟨L.toArray⟩, .bool true]) ∧ RR w' hi g v l q2 false ∧ w.grownBy w' (some g) := by
  have H := Lib.hid h
  have HR := Lib.hid hr
  clear hr
  have hg1 : ¬ (w.heap.size + 1 = g) := by have := h.lt; omega
  have hg2 : ¬ (g = w.heap.size + 1) := by have := h.lt; omega
  have hd : decide ((65535 : Int) < (N : Int)) = false := decide_eq_false (by omega)
  have hw : wrap64 (N : Int) = (N : Int) := by unfold wrap64; omega
  have HB := Lib.hid hb
  clear hN hb
  clear h
  go_enter Try.func18, Try.ntmps18
  go_wp2_with (first | (go_at_call 34; refine (refUint_spec HR.out _ (H.out.alloc _ |>.alloc _)).mono ?_; rintro e w1 ⟨rfl, r1, g1⟩; have hX := (Ry.new H.out (.int .u8 2) (.int .i64 0) (.string ⟨#[]⟩) (.int .u8 0) (.int .i64 0) (.string ⟨#[]⟩)).read r1 g1; have b2 := hX.rd.c2; have d0 := hX.d0; have d1 := hX.d1; have d2 := hX.d2; have f0 := hX.val.frozen 0; have f1 := hX.val.frozen 1; have f2 := hX.val.frozen 2; have e0 := hX.e0; have e1 := hX.e1; have e2 := hX.e2; have h0 := hX.row.frozen 0; have h1 := hX.row.frozen 1; have h2 := hX.row.frozen 2; have HX := Lib.hid hX; clear hX; clear r1 g1) | (go_at_call 35; refine (refBytes_to HB.out _ HX.out.rd).mono ?_; rintro e w3 ⟨A3, n3, rfl, o3, r3, g3⟩; have hX := HX.out.read r3 g3; clear HX b2 d0 d1 d2 f0 f1 f2 e0 e1 e2 h0 h1 h2; have b2 := hX.rd.c2; have d0 := hX.d0; have d1 := hX.d1; have d2 := hX.d2; have f0 := hX.val.frozen 0; have f1 := hX.val.frozen 1; have f2 := hX.val.frozen 2; have e0 := hX.e0; have e1 := hX.e1; have e2 := hX.e2; have h0 := hX.row.frozen 0; have h1 := hX.row.frozen 1; have h2 := hX.row.frozen 2; have HX := Lib.hid hX; clear hX; have cv := str8 o3.sl; clear r3 g3))
  have hY := HX.out.set_ 2 (.string ⟨L.toArray⟩) (c0' := .int .u8 2) (c1' := .int .i64 0) (c2' := .string ⟨L.toArray⟩) rfl
  have S := hY.put (.int .u8 2) (.int .i64 0) (.string ⟨L.toArray⟩)
  refine bodyPost_ret (v := .tuple #[vV 2 0 ⟨L.toArray⟩, .bool true]) ?_ rfl ⟨rfl, S.2.1, S.2.2⟩
  exact res_cell rfl _ _ _ _ _ _ _ _ (by rfl) (by rfl) S.1 Try.underlying23 szV3
set_option maxHeartbeats 400000 in
theorem refRead_none {k : Int} (h1 : k ≠ 1) (h2 : k ≠ 2) (w : World) (h : RR w hi g v l p x) :
    Calls Try.prog 18 #[.pointer (some ⟨g, 0, none⟩), .int .u8 k] w fun e w' => e = .returned (.tuple #[vV 0 0 ⟨#[]⟩, .bool false]) ∧ RR w' hi g v l p x ∧ w.grownBy w' (some g) := by
  have e1 : (k == 1) = false := by simp [h1]
  have e2 : (k == 2) = false := by simp [h2]
  have hY := Ry.new h (.int .u8 k) (.int .i64 0) (.string ⟨#[]⟩) (.int .u8 0) (.int .i64 0) (.string ⟨#[]⟩)
  have HY := Lib.hid hY
  clear h hY
  go_enter Try.func18, Try.ntmps18
  go_wp2
  have S := HY.out
  refine bodyPost_ret (v := .tuple #[vV 0 0 ⟨#[]⟩, .bool false]) ?_ rfl ⟨rfl, S.rd, S.gr⟩
  exact res_cell rfl _ _ _ _ _ _ _ _ (by rfl) (by rfl) S.row Try.underlying23 szV3
theorem refRead_c {k k' n' : Int} {L : List UInt8} {ok : Bool} {y : Bool} (hr : rV l p x k = (k', n', L, ok, q, y)) (w : World) (h : RR w hi g v l p x) :
    Calls Try.prog 18 #[.pointer (some ⟨g, 0, none⟩), .int .u8 k] w fun e w' => e = .returned (.tuple #[vV k' n' ⟨L.toArray⟩, .bool ok]) ∧ RR w' hi g v l q y ∧ w.grownBy w' (some g) := by
  by_cases h1 : k = 1
  · subst h1
    obtain ⟨N, q1, y1, hd⟩ : ∃ N q1 y1, rd l p x 8 = (N, q1, y1) := ⟨_, _, _, rfl⟩
    unfold rV at hr
    rw [if_pos rfl, hd] at hr
    cases y1 with
    | true =>
      simp only [if_true, Prod.mk.injEq] at hr
      obtain ⟨rfl, rfl, rfl, rfl, rfl, rfl⟩ := hr
      exact (refRead_i0 hd _ rfl w h)
    | false =>
      simp only [Bool.false_eq_true, if_false, Prod.mk.injEq] at hr
      obtain ⟨rfl, rfl, rfl, rfl, rfl, rfl⟩ := hr
      exact (refRead_i1 hd _ rfl w h)
  · by_cases h2 : k = 2
    · subst h2
      obtain ⟨N, q1, y1, hd, ⟨rfl, rfl, rfl, rfl, rfl, rfl, rfl, rfl⟩ | ⟨rfl, hN, hN2, rfl, rfl, rfl, rfl, rfl, rfl⟩ | ⟨rfl, hN, L2, q2, hb, rfl, rfl, rfl, rfl, rfl, rfl⟩ | ⟨rfl, hN, hb, rfl, rfl, rfl, rfl⟩⟩ := rV_two hr
      · exact (refRead_t1 (L := []) (q2 := q) hd (by omega) (by simp [rb]) w h)
      · exact (refRead_t0 hd hN hN2 w h)
      · exact (refRead_t1 hd hN hb w h)
      · exact (refRead_t2 hd hN hb w h)
    · unfold rV at hr
      rw [if_neg h1, if_neg h2] at hr
      simp only [Prod.mk.injEq] at hr
      obtain ⟨rfl, rfl, rfl, rfl, rfl, rfl⟩ := hr
      exact (refRead_none h1 h2 w h)
end
end Go.Proofs.Ytigngijpbchlaaa
