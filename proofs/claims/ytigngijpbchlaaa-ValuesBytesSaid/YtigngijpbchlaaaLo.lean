/- Walks: the law ValuesBytes. -/
import Derived.Test.YtigngijpbchlaaaLn
import Derived.Test.YtigngijpbchlaaaLg
namespace Go.Proofs.Ytigngijpbchlaaa
open Go.RowKit
set_option linter.unusedVariables false

theorem held_skip {P : Program} {ops : Array Oper} {Q : Exit → Act → World → Prop} {md : Region.Mode} {S : World → Prop} (i : Nat) {oi : Oper} {rest : List Oper} {fuel : Nat} {listed : Array Bool} {a : Act} {w : World} (hl : ops.toList.drop i = oi :: rest)
    (hs : Region.noSelect ops = true) (hf : Region.free md ops listed i = true) (hr : (Region.ready md ops listed).contains i = true)
    (hQ : ∀ c a w, Q (.panic c) (a.put oi.dst undef) w → Q (.panic c) a w) (hw : Region.wanted oi (yielded ops a.tmps) = false) (hS : S w)
    (h : wpAnyH P md ops Q S fuel (listed.setIfInBounds i true) (a.put oi.dst undef) w) : wpAnyH P md ops Q S (fuel + 1) listed a w :=
  wpAnyH_take (op_at hl) hs hf hr hQ (Or.inr ⟨hw, rfl⟩) hS h
/-- What stands while ValuesBytes goes on: the value's block; the bytes that were handed in, written and told. -/
structure Vb (w W : World) (m : Nat) (k n : Int) (s : ByteArray) (vi vc vb : Value) (z l2 : List UInt8) : Prop where
  bx : Bx1 w W k n s
  i : Gw e8 W w.heap.size vi z
  im : ∀ j, vi.ownBlock = some j → j < m
  c : Gw e8 W m vc l2
  hm : w.heap.size < m
  mW : m ≤ W.heap.size
  b : Gs e8 W 0 w.heap.size vb z
section
variable {w W W' : World} {m : Nat} {k n : Int} {s : ByteArray} {vi vc vb : Value} {z l2 : List UInt8}
theorem Vb.step (h : Vb w W m k n s vi vc vb z l2) (b : Below W.heap.size W W') : Vb w W' m k n s vi vc vb z l2 :=
  ⟨h.bx.step b, h.i.below b (Nat.le_refl _), h.im, h.c.below b (Nat.le_refl _), h.hm, Nat.le_trans h.mW b.size, h.b.below (b.mono h.bx.below.size)⟩
theorem Vb.drew (h : Vb w W m k n s vi vc vb z l2) : Vb w W.drew m k n s vi vc vb z l2 := ⟨h.bx.drew, h.i.drew, h.im, h.c.drew, h.hm, h.mW, h.b⟩
theorem Vb.world (h : Vb w W m k n s vi vc vb z l2) : ∃ X, X = W := ⟨W, rfl⟩
theorem Vb.put {g c nn : Nat} (h : Vb w W m k n s vi (.slice (some ⟨g, 0, none⟩) nn c) vb z l2) (j : Nat) (y : UInt8) : Vb w (W.setCell ⟨g, j, none⟩ (e8.val y)) m k n s vi (.slice (some ⟨g, 0, none⟩) nn c) vb z (l2.set j y) := by
  have s := grown_set W g j (e8.val y)
  have hg : m ≤ g := (h.c.lt g rfl).1
  have := h.hm
  exact ⟨h.bx.grown s (fun x hx => by injection hx with hx; omega), h.i.kept s (fun q hq e => by injection e with e; have := h.im q hq; omega), h.im, h.c.stored j y, h.hm, Nat.le_trans h.mW s.size, h.b.grown s (by have := h.mW; omega) (fun q hq => by injection hq with hq; omega)⟩
end

/-- What stands while both readers read. -/
structure Vc (w W : World) (m base g g2 : Nat) (vi vb vr : Value) (z : List UInt8) (p : Nat) (x : Bool) (p2 : Nat) (x2 : Bool) : Prop where
  i : Gw e8 W w.heap.size vi z
  im : ∀ j, vi.ownBlock = some j → j < m
  b : Gs e8 W 0 w.heap.size vb z
  rd : Rd W base g vr z p x
  rr : RR W w.heap.size g2 vb z p2 x2
  mb : m ≤ base
  wm : w.heap.size ≤ m
  gg : g < g2
  vg : ∀ j, vr.ownBlock = some j → j < g2
  below : Below w.heap.size w W
section
variable {w W W' : World} {m base g g2 : Nat} {vi vb vr : Value} {z : List UInt8} {p p2 : Nat} {x x2 : Bool}
theorem Vc.world (h : Vc w W m base g g2 vi vb vr z p x p2 x2) : ∃ X, X = W := ⟨W, rfl⟩
theorem Vc.step (h : Vc w W m base g g2 vi vb vr z p x p2 x2) (b : Below W.heap.size W W') : Vc w W' m base g g2 vi vb vr z p x p2 x2 :=
  ⟨h.i.below b (Nat.le_refl _), h.im, h.b.below (b.mono h.below.size), h.rd.below b (Nat.le_refl _), h.rr.below b (Nat.le_refl _), h.mb, h.wm, h.gg, h.vg, h.below.trans (b.mono h.below.size)⟩
theorem Vc.drew (h : Vc w W m base g g2 vi vb vr z p x p2 x2) : Vc w W.drew m base g g2 vi vb vr z p x p2 x2 := h.step (Below.refl _ _).drew
theorem Vc.read (h : Vc w W m base g g2 vi vb vr z p x p2 x2) {q : Nat} {y : Bool} (r : Rd W' base g vr z q y) (hg : W.grownBy W' (some g)) : Vc w W' m base g g2 vi vb vr z q y p2 x2 := by
  have h1 := h.mb; have h2 := h.wm; have h3 := h.rd.ge
  exact ⟨h.i.kept hg (fun j hj e => by injection e with e; have := h.im j hj; omega), h.im, h.b.grown hg h.below.size (fun j hj => by injection hj with hj; omega), r, h.rr.grown hg (fun e => by injection e with e; have := h.gg; omega) (fun j hj => by injection hj with hj; omega), h.mb, h.wm, h.gg, h.vg,
    h.below.grown hg h.below.size (fun j hj => by injection hj with hj; omega)⟩
theorem Vc.read2 (h : Vc w W m base g g2 vi vb vr z p x p2 x2) {q : Nat} {y : Bool} (r : RR W' w.heap.size g2 vb z q y) (hg : W.grownBy W' (some g2)) : Vc w W' m base g g2 vi vb vr z p x q y := by
  have h1 := h.mb; have h2 := h.wm; have h3 := h.rd.ge; have h4 := h.gg
  exact ⟨h.i.kept hg (fun j hj e => by injection e with e; have := h.im j hj; omega), h.im, h.b.grown hg h.below.size (fun j hj => by injection hj with hj; omega), h.rd.far hg (by omega) (fun e => by have := h.vg _ e; omega), r, h.mb, h.wm, h.gg, h.vg,
    h.below.grown hg h.below.size (fun j hj => by injection hj with hj; omega)⟩
end
/-- The two that were read lie in blocks of their own. -/
structure Vd (w W : World) (m base g g2 ga gb : Nat) (vi vb vr : Value) (z : List UInt8) (p : Nat) (x : Bool) (p2 : Nat) (x2 : Bool) (k' n' : Int) (L : List UInt8) : Prop where
  c : Vc w W m base g g2 vi vb vr z p x p2 x2
  ra : Row W ga 23 #[.int .u8 k', .int .i64 n', .string ⟨L.toArray⟩]
  rb : Row W gb 23 #[.int .u8 k', .int .i64 n', .string ⟨L.toArray⟩]
section
variable {w W W' : World} {m base g g2 ga gb : Nat} {vi vb vr : Value} {z : List UInt8} {p p2 : Nat} {x x2 : Bool} {k' n' : Int} {L : List UInt8}
theorem Vd.step (h : Vd w W m base g g2 ga gb vi vb vr z p x p2 x2 k' n' L) (b : Below W.heap.size W W') : Vd w W' m base g g2 ga gb vi vb vr z p x p2 x2 k' n' L := ⟨h.c.step b, h.ra.below b h.ra.lt, h.rb.below b h.rb.lt⟩
theorem Vd.drew (h : Vd w W m base g g2 ga gb vi vb vr z p x p2 x2 k' n' L) : Vd w W.drew m base g g2 ga gb vi vb vr z p x p2 x2 k' n' L := ⟨h.c.drew, h.ra, h.rb⟩
theorem Vd.a0 (h : Vd w W m base g g2 ga gb vi vb vr z p x p2 x2 k' n' L) : W.cell? ⟨ga, 0, none⟩ = some (.int .u8 k') := by rw [h.ra.cell]; rfl
theorem Vd.a1 (h : Vd w W m base g g2 ga gb vi vb vr z p x p2 x2 k' n' L) : W.cell? ⟨ga, 1, none⟩ = some (.int .i64 n') := by rw [h.ra.cell]; rfl
theorem Vd.a2 (h : Vd w W m base g g2 ga gb vi vb vr z p x p2 x2 k' n' L) : W.cell? ⟨ga, 2, none⟩ = some (.string ⟨L.toArray⟩) := by rw [h.ra.cell]; rfl
theorem Vd.b0 (h : Vd w W m base g g2 ga gb vi vb vr z p x p2 x2 k' n' L) : W.cell? ⟨gb, 0, none⟩ = some (.int .u8 k') := by rw [h.rb.cell]; rfl
theorem Vd.b1 (h : Vd w W m base g g2 ga gb vi vb vr z p x p2 x2 k' n' L) : W.cell? ⟨gb, 1, none⟩ = some (.int .i64 n') := by rw [h.rb.cell]; rfl
theorem Vd.b2 (h : Vd w W m base g g2 ga gb vi vb vr z p x p2 x2 k' n' L) : W.cell? ⟨gb, 2, none⟩ = some (.string ⟨L.toArray⟩) := by rw [h.rb.cell]; rfl
end
theorem cat_bytes (a b : List UInt8) : (ByteArray.mk a.toArray ++ ByteArray.mk b.toArray) = ByteArray.mk (a ++ b).toArray := by
  apply ByteArray.ext
  simp
set_option maxHeartbeats 2000000 in
theorem vbytes_go (k n : Int) (s : ByteArray) (A : Option Addr) (d : Nat) (z : List UInt8) (x2 : Int) (w : World) (l2 bb : List UInt8) (hl2 : l2 = z ++ bb) (hb : Gs e8 w 0 w.heap.size (.slice A z.length d) z)
    (hd0 : decide ((70000 : Int) < s.size) = false) (hd1 : decide ((70000 : Int) < z.length) = false)
    (hA : ∀ (v : Value) (lo : Nat) (W : World), Sl W lo W.heap.size v z → Calls Try.prog 14 #[v, vV k n s] W fun e w' => ∃ A2 d2, e = .returned (.slice A2 l2.length d2) ∧ Ow w' W.heap.size (.slice A2 l2.length d2) l2 ∧ Below W.heap.size W w')
    (hR : ∀ (W : World), Calls Try.prog 15 #[vV k n s] W fun e w' => ∃ A2 d2, e = .returned (.slice A2 bb.length d2) ∧ Ow w' W.heap.size (.slice A2 bb.length d2) bb ∧ Below W.heap.size W w')
    (hl : l2.length ≤ 1000000) (hz : z.length ≤ 70000) :
    Calls Try.prog 4 #[vV k n s, .slice A z.length d, .int .u8 x2] w fun e w' => e = .returned (.bool true) ∧ Below w.heap.size w w' := by
  have HA := Lib.hid hA
  have HR := Lib.hid hR
  have HL2 := Lib.hid hl2
  have HB := Lib.hid hb
  clear hA hR hl2 hb
  have hcat : ¬ (9223372036854775807 < z.length + bb.length) := by have := congrArg List.length HL2.out; rw [List.length_append] at this; omega
  have hsum : (ByteArray.mk z.toArray ++ ByteArray.mk bb.toArray) = ByteArray.mk l2.toArray := by rw [HL2.out]; exact cat_bytes z bb
  have hw1 : wrap64 ((z.length : Int) + 9) = (z.length : Int) + 9 := by unfold wrap64; omega
  go_enter Try.func4, Try.ntmps4
  go_wp2_with (first
    | (at_make; refine wpList_mk _ rfl _ _ _ rfl sli8 inf8 _ _ _ (z.length + 9) rfl rfl (by omega) (by omega) ?_; intro w1 o1 g1; have hB1 := (HB.out.alloc (Nat.le_refl _) _ |>.grown g1 (by simp) (fun k h => by cases h)); have hX1 := (Bx1.new w k n s).grown g1 (fun k h => by cases h); simp only [World.size_alloc] at o1; have O1 := Lib.hid o1; have B1 := Lib.hid hB1; have X1 := Lib.hid hX1; clear o1 g1 hB1 hX1)
    | (at_builtin; refine wpList_app _ rfl _ _ _ rfl (w.heap.size + 1) sli8 inf8 _ [] rfl O1.out 0 w.heap.size _ z rfl B1.out (by simp; omega) (by have := X1.out.lt; omega) ?_; intro v1 w2 o2 g2 _; rw [List.nil_append] at o2; have hX2 := X1.out.grown g2 (fun k h => by have h2 : w.heap.size + 1 = k := Option.some.inj h; omega); have hB2 := B1.out.grown g2 (by have := X1.out.lt; omega) (fun k h => by have h2 : w.heap.size + 1 = k := Option.some.inj h; omega); obtain ⟨A1, d1, rfl, -⟩ := o2.sl; have O2 := Lib.hid o2; have X2 := Lib.hid hX2; have B2 := Lib.hid hB2; have a0 := hX2.a0; have a1 := hX2.a1; have a2 := hX2.a2; clear o2 g2 hX2 hB2 O1 X1 B1)
    | (go_at_call 14; refine (HA.out _ _ _ O2.out.sl).mono ?_; rintro e w3 ⟨A2, d2, rfl, o3, b3⟩; have hV : Vb w w3 w2.heap.size k n s (.slice A1 z.length d1) (.slice A2 l2.length d2) (.slice A z.length d) z l2 := ⟨X2.out.step b3, (O2.out.below b3 (Nat.le_refl _)).more (Nat.le_succ _), fun j hj => (O2.out.lt j hj).2, o3, X2.out.lt, b3.size, B2.out.below (b3.mono X2.out.below.size)⟩; have HV := Lib.hid hV; clear hV o3 b3 O2 X2 B2 a0 a1 a2))
  have hSc := HV.out.drew
  refine wp_region_all (S := fun W => Vb w W w2.heap.size k n s (.slice A1 z.length d1) (.slice A2 l2.length d2) (.slice A z.length d) z l2) (by kernel_rfl) hSc (fun W0 hSc => ?_)
  refine held_take 0 ?_ rfl (by kernel_rfl) (by kernel_rfl) (by kernel_rfl) (fun _ _ _ h => h) (by rfl) ?_ hSc ?_
  rotate_left
  · (intro W hSW; have a0 := hSW.bx.a0; have a1 := hSW.bx.a1; have a2 := hSW.bx.a2; have cc := str8 hSW.c.sl; have ci := str8 hSW.i.sl; have cb := str8 hSW.b; go_simp; try rfl)
  try simp only [Act.put, List.setIfInBounds_toArray, List.set_cons_zero, List.set_cons_succ]
  refine held_take 1 ?_ rfl (by kernel_rfl) (by kernel_rfl) (by kernel_rfl) (fun _ _ _ h => h) (by rfl) ?_ hSc ?_
  rotate_left
  · (intro W hSW; have a0 := hSW.bx.a0; have a1 := hSW.bx.a1; have a2 := hSW.bx.a2; have cc := str8 hSW.c.sl; have ci := str8 hSW.i.sl; have cb := str8 hSW.b; go_simp; try rfl)
  try simp only [Act.put, List.setIfInBounds_toArray, List.set_cons_zero, List.set_cons_succ]
  refine held_take 2 ?_ rfl (by kernel_rfl) (by kernel_rfl) (by kernel_rfl) (fun _ _ _ h => h) (by rfl) ?_ hSc ?_
  rotate_left
  · (intro W hSW; have a0 := hSW.bx.a0; have a1 := hSW.bx.a1; have a2 := hSW.bx.a2; have cc := str8 hSW.c.sl; have ci := str8 hSW.i.sl; have cb := str8 hSW.b; go_simp; try rfl)
  try simp only [Act.put, List.setIfInBounds_toArray, List.set_cons_zero, List.set_cons_succ]
  refine held_take 3 ?_ rfl (by kernel_rfl) (by kernel_rfl) (by kernel_rfl) (fun _ _ _ h => h) (by rfl) ?_ hSc ?_
  rotate_left
  · (intro W hSW; have a0 := hSW.bx.a0; have a1 := hSW.bx.a1; have a2 := hSW.bx.a2; have cc := str8 hSW.c.sl; have ci := str8 hSW.i.sl; have cb := str8 hSW.b; go_simp; try rfl)
  try simp only [Act.put, List.setIfInBounds_toArray, List.set_cons_zero, List.set_cons_succ]
  refine held_take 4 ?_ rfl (by kernel_rfl) (by kernel_rfl) (by kernel_rfl) (fun _ _ _ h => h) (by rfl) ?_ hSc ?_
  rotate_left
  · (intro W hSW; have a0 := hSW.bx.a0; have a1 := hSW.bx.a1; have a2 := hSW.bx.a2; have cc := str8 hSW.c.sl; have ci := str8 hSW.i.sl; have cb := str8 hSW.b; go_simp; try rfl)
  try simp only [Act.put, List.setIfInBounds_toArray, List.set_cons_zero, List.set_cons_succ]
  refine held_next 5 rfl (by kernel_rfl) (by rfl) ?_
  go_simp
  refine (HR.out _).mono ?_
  rintro e wq1 ⟨A3, d3, rfl, o3, b3⟩
  have cr := str8 o3.sl
  have hSd : (fun W => Vb w W w2.heap.size k n s (.slice A1 z.length d1) (.slice A2 l2.length d2) (.slice A z.length d) z l2) wq1 := hSc.step b3
  refine ⟨fun W => Vb w W w2.heap.size k n s (.slice A1 z.length d1) (.slice A2 l2.length d2) (.slice A z.length d) z l2, fun W hW => hW, hSd, ?_⟩
  clear hSc 
  have hSc := hSd
  clear hSd
  try simp only [Act.put, List.setIfInBounds_toArray, List.set_cons_zero, List.set_cons_succ]
  refine held_next 6 rfl (by kernel_rfl) (by rfl) ?_
  go_simp
  refine ⟨fun W => Vb w W w2.heap.size k n s (.slice A1 z.length d1) (.slice A2 l2.length d2) (.slice A z.length d) z l2, fun W hW => hW, hSc, ?_⟩
  try simp only [Act.put, List.setIfInBounds_toArray, List.set_cons_zero, List.set_cons_succ]
  refine held_next 7 rfl (by kernel_rfl) (by rfl) ?_
  go_simp
  refine ⟨fun W => Vb w W w2.heap.size k n s (.slice A1 z.length d1) (.slice A2 l2.length d2) (.slice A z.length d) z l2, fun W hW => hW, hSc, ?_⟩
  try simp only [Act.put, List.setIfInBounds_toArray, List.set_cons_zero, List.set_cons_succ]
  refine held_next 8 rfl (by kernel_rfl) (by rfl) ?_
  go_simp
  refine ⟨fun W => Vb w W w2.heap.size k n s (.slice A1 z.length d1) (.slice A2 l2.length d2) (.slice A z.length d) z l2, fun W hW => hW, hSc, ?_⟩
  try simp only [Act.put, List.setIfInBounds_toArray, List.set_cons_zero, List.set_cons_succ]
  refine held_next 9 rfl (by kernel_rfl) (by rfl) ?_
  go_simp
  refine ⟨fun W => Vb w W w2.heap.size k n s (.slice A1 z.length d1) (.slice A2 l2.length d2) (.slice A z.length d) z l2, fun W hW => hW, hSc, ?_⟩
  try simp only [Act.put, List.setIfInBounds_toArray, List.set_cons_zero, List.set_cons_succ]
  refine held_take 10 ?_ rfl (by kernel_rfl) (by kernel_rfl) (by kernel_rfl) (fun _ _ _ h => h) (by rfl) ?_ hSc ?_
  rotate_left
  · (intro W hSW; have a0 := hSW.bx.a0; have a1 := hSW.bx.a1; have a2 := hSW.bx.a2; have cc := str8 hSW.c.sl; have ci := str8 hSW.i.sl; have cb := str8 hSW.b; go_simp; try rfl)
  try simp only [Act.put, List.setIfInBounds_toArray, List.set_cons_zero, List.set_cons_succ]
  refine held_take 12 ?_ rfl (by kernel_rfl) (by kernel_rfl) (by kernel_rfl) (fun _ _ _ h => h) (by rfl) ?_ hSc ?_
  rotate_left
  · (intro W hSW; have a0 := hSW.bx.a0; have a1 := hSW.bx.a1; have a2 := hSW.bx.a2; have cc := str8 hSW.c.sl; have ci := str8 hSW.i.sl; have cb := str8 hSW.b; go_simp; try rfl)
  try simp only [Act.put, List.setIfInBounds_toArray, List.set_cons_zero, List.set_cons_succ]
  refine held_take 11 ?_ rfl (by kernel_rfl) (by kernel_rfl) (by kernel_rfl) (fun _ _ _ h => h) (by rfl) ?_ hSc ?_
  rotate_left
  · (intro W hSW; have a0 := hSW.bx.a0; have a1 := hSW.bx.a1; have a2 := hSW.bx.a2; have cc := str8 hSW.c.sl; have ci := str8 hSW.i.sl; have cb := str8 hSW.b; go_simp; try rfl)
  try simp only [Act.put, List.setIfInBounds_toArray, List.set_cons_zero, List.set_cons_succ]
  refine held_take 13 ?_ rfl (by kernel_rfl) (by kernel_rfl) (by kernel_rfl) (fun _ _ _ h => h) (by rfl) ?_ hSc ?_
  rotate_left
  · (intro W hSW; have a0 := hSW.bx.a0; have a1 := hSW.bx.a1; have a2 := hSW.bx.a2; have cc := str8 hSW.c.sl; have ci := str8 hSW.i.sl; have cb := str8 hSW.b; go_simp; try rfl)
  try simp only [Act.put, List.setIfInBounds_toArray, List.set_cons_zero, List.set_cons_succ]
  refine held_take 14 ?_ rfl (by kernel_rfl) (by kernel_rfl) (by kernel_rfl) (fun _ _ _ h => h) (by rfl) ?_ hSc ?_
  rotate_left
  · (intro W hSW; have a0 := hSW.bx.a0; have a1 := hSW.bx.a1; have a2 := hSW.bx.a2; have cc := str8 hSW.c.sl; have ci := str8 hSW.i.sl; have cb := str8 hSW.b; go_simp; try rfl)
  try simp only [Act.put, List.setIfInBounds_toArray, List.set_cons_zero, List.set_cons_succ]
  refine held_next 15 rfl (by kernel_rfl) (by rfl) ?_
  go_simp
  refine ⟨fun W => Vb w W w2.heap.size k n s (.slice A1 z.length d1) (.slice A2 l2.length d2) (.slice A z.length d) z l2, fun W hW => hW, hSc, ?_⟩
  refine wpAnyH_done (by kernel_rfl) ?_ _
  go_wp2_with fail
  go_loopw [53] (fun i wr => ∃ (j : Nat) (mm : List UInt8), i = .int .i64 j ∧ j ≤ l2.length ∧ mm.length = l2.length ∧ Vb w wr w2.heap.size k n s (.slice A1 z.length d1) (.slice A2 l2.length d2) (.slice A z.length d) z mm) (fun i _ => l2.length - (intOf i).toNat)
  case atStart => exact ⟨0, l2, rfl, Nat.zero_le _, rfl, hSc⟩
  case round =>
    obtain ⟨j, mm, rfl, hj, hmm, hV⟩ := hrel
    clear HV
    by_cases hlt : j < l2.length
    · obtain ⟨b, c', e, -, -, -, -, hc, hf⟩ := hV.c.form (by rintro rfl; simp at hmm; omega)
      injection e with e1 e2 e3
      clear e2
      subst e1 e3
      obtain ⟨y, hy⟩ : ∃ y, mm[j]? = some y := ⟨_, List.getElem?_eq_getElem (by omega)⟩
      have hcj : wr.cell? ⟨b, j, none⟩ = some (.int .u8 (y.toNat : Int)) := hc j y hy
      have hfj := hf j
      obtain ⟨zz, hzz⟩ : ∃ zz : Int, zz = (y.toNat : Int) := ⟨_, rfl⟩
      rw [← hzz] at hcj
      obtain ⟨t, ht⟩ : ∃ t : UInt8, IntKind.u8.wrap (zz + 1) = (t.toNat : Int) := ⟨UInt8.ofNat ((zz + 1) % 256).toNat, by rw [UInt8.toNat_ofNat', IntKind.wrap_u8]; omega⟩
      have HV := Lib.hid hV
      have HMM := Lib.hid hmm
      clear hc hf hy hzz hV hmm
      go_wp2
      go_roundw
      case rel => exact ⟨j + 1, mm.set j t, by go_num, by omega, by rw [List.length_set]; exact HMM.out, HV.out.put j t⟩
      case measure => simp [intOf]; omega
    · have HV := Lib.hid hV
      clear hV hmm
      obtain ⟨k', n', L, ok, q, y, hrv⟩ : ∃ k' n' L ok q y, rV z 0 false x2 = (k', n', L, ok, q, y) := ⟨_, _, _, _, _, _, rfl⟩
      have HRV := Lib.hid hrv
      clear hrv
      go_wp2_with (first
        | (go_at_call 16; refine (new_any _ z 0 _ (HV.out.b.more (Nat.le_refl _) HV.out.bx.below.size) (by omega)).mono ?_; rintro e w4 ⟨g, vr, rfl, rd4, b4⟩; have hC : Vc w (w4.alloc (.cells #[.slice A z.length d, .int .i64 0, .bool false] 37)) w2.heap.size wr.heap.size g w4.heap.size (.slice A1 z.length d1) (.slice A z.length d) vr z 0 false 0 false := ⟨(HV.out.i.below b4 (Nat.le_refl _)).alloc _, HV.out.im, (HV.out.b.below (b4.mono HV.out.bx.below.size)).alloc (Nat.le_trans HV.out.bx.below.size b4.size) _, rd4.alloc _, ⟨Row.new _ _ _, (HV.out.b.below (b4.mono HV.out.bx.below.size)).alloc (Nat.le_trans HV.out.bx.below.size b4.size) _, Nat.le_trans HV.out.bx.below.size b4.size, Nat.zero_le _, by omega⟩, HV.out.mW, Nat.le_of_lt HV.out.hm, rd4.lt, fun j hj => (rd4.own.lt j hj).2, (HV.out.bx.below.trans (b4.mono HV.out.bx.below.size)).alloc (Nat.le_trans HV.out.bx.below.size b4.size) _⟩; have HC := Lib.hid hC; clear hC rd4 b4)
        | (go_at_call 17; refine (Read_c HRV.out _ HC.out.rd).mono ?_; rintro e w5 ⟨rfl, r5, g5⟩; have hC5 := (HC.out.read r5 g5).step ((Below.refl w5.heap.size w5).alloc (Nat.le_refl _) (.cells #[.int .u8 k', .int .i64 n', .string ⟨L.toArray⟩] 23)); have HC5 := Lib.hid hC5; have hw5 : w4.heap.size < w5.heap.size := HC.out.rr.lt |> fun h => Nat.lt_of_lt_of_le h g5.size; have HC4 := Lib.hid hw5; clear hC5 r5 g5 hw5)
        | (go_at_call 18; refine (refRead_c HRV.out _ HC5.out.rr).mono ?_; rintro e w6 ⟨rfl, r6, g6⟩; have hC6 := HC5.out.read2 r6 g6; have hra := (Row.new w5 23 #[.int .u8 k', .int .i64 n', .string ⟨L.toArray⟩]).grown g6 (by have := HC4.out; intro e; injection e with e; omega); have hb6 : Below w6.heap.size w6 (w6.alloc (.cells #[.int .u8 k', .int .i64 n', .string ⟨L.toArray⟩] 23)) := (Below.refl _ _).alloc (Nat.le_refl _) _; have hD : Vd w (w6.alloc (.cells #[.int .u8 k', .int .i64 n', .string ⟨L.toArray⟩] 23)) w2.heap.size wr.heap.size g w4.heap.size w5.heap.size w6.heap.size (.slice A1 z.length d1) (.slice A z.length d) vr z q y q y k' n' L := ⟨hC6.step hb6, hra.below hb6 hra.lt, Row.new _ _ _⟩; have HD := Lib.hid hD; clear hD hra hb6 hC6 r6 g6))
      cases ok with
      | true =>
        clear HV HC HC5 HC4
        have hSc := HD.out.drew
        refine wp_region_all (S := fun W => Vd w W w2.heap.size wr.heap.size g w4.heap.size w5.heap.size w6.heap.size (.slice A1 z.length d1) (.slice A z.length d) vr z q y q y k' n' L) (by kernel_rfl) hSc (fun W0 hSc => ?_)
        refine held_take 0 ?_ rfl (by kernel_rfl) (by kernel_rfl) (by kernel_rfl) (fun _ _ _ h => h) (by rfl) ?_ hSc ?_
        rotate_left
        · (intro W hSW; have a0 := hSW.a0; have a1 := hSW.a1; have a2 := hSW.a2; have b0 := hSW.b0; have b1 := hSW.b1; have b2 := hSW.b2; go_simp; try rfl)
        try simp only [Act.put, List.setIfInBounds_toArray, List.set_cons_zero, List.set_cons_succ]
        refine held_take 1 ?_ rfl (by kernel_rfl) (by kernel_rfl) (by kernel_rfl) (fun _ _ _ h => h) (by rfl) ?_ hSc ?_
        rotate_left
        · (intro W hSW; have a0 := hSW.a0; have a1 := hSW.a1; have a2 := hSW.a2; have b0 := hSW.b0; have b1 := hSW.b1; have b2 := hSW.b2; go_simp; try rfl)
        try simp only [Act.put, List.setIfInBounds_toArray, List.set_cons_zero, List.set_cons_succ]
        refine held_take 2 ?_ rfl (by kernel_rfl) (by kernel_rfl) (by kernel_rfl) (fun _ _ _ h => h) (by rfl) ?_ hSc ?_
        rotate_left
        · (intro W hSW; go_simp; try rfl)
        try simp only [Act.put, List.setIfInBounds_toArray, List.set_cons_zero, List.set_cons_succ]
        refine held_take 3 ?_ rfl (by kernel_rfl) (by kernel_rfl) (by kernel_rfl) (fun _ _ _ h => h) (by rfl) ?_ hSc ?_
        rotate_left
        · (intro W hSW; go_simp; try rfl)
        try simp only [Act.put, List.setIfInBounds_toArray, List.set_cons_zero, List.set_cons_succ]
        refine held_take 4 ?_ rfl (by kernel_rfl) (by kernel_rfl) (by kernel_rfl) (fun _ _ _ h => h) (by rfl) ?_ hSc ?_
        rotate_left
        · (intro W hSW; go_simp; try rfl)
        try simp only [Act.put, List.setIfInBounds_toArray, List.set_cons_zero, List.set_cons_succ]
        refine held_take 5 ?_ rfl (by kernel_rfl) (by kernel_rfl) (by kernel_rfl) (fun _ _ _ h => h) (by rfl) ?_ hSc ?_
        rotate_left
        · (intro W hSW; go_simp; try rfl)
        try simp only [Act.put, List.setIfInBounds_toArray, List.set_cons_zero, List.set_cons_succ]
        refine held_take 6 ?_ rfl (by kernel_rfl) (by kernel_rfl) (by kernel_rfl) (fun _ _ _ h => h) (by rfl) ?_ hSc ?_
        rotate_left
        · (intro W hSW; go_simp; try rfl)
        try simp only [Act.put, List.setIfInBounds_toArray, List.set_cons_zero, List.set_cons_succ]
        refine held_take 7 ?_ rfl (by kernel_rfl) (by kernel_rfl) (by kernel_rfl) (fun _ _ _ h => h) (by rfl) ?_ hSc ?_
        rotate_left
        · (intro W hSW; go_simp; try rfl)
        try simp only [Act.put, List.setIfInBounds_toArray, List.set_cons_zero, List.set_cons_succ]
        refine held_take 8 ?_ rfl (by kernel_rfl) (by kernel_rfl) (by kernel_rfl) (fun _ _ _ h => h) (by rfl) ?_ hSc ?_
        rotate_left
        · (intro W hSW; go_simp; try rfl)
        try simp only [Act.put, List.setIfInBounds_toArray, List.set_cons_zero, List.set_cons_succ]
        refine held_take 9 ?_ rfl (by kernel_rfl) (by kernel_rfl) (by kernel_rfl) (fun _ _ _ h => h) (by rfl) ?_ hSc ?_
        rotate_left
        · (intro W hSW; go_simp; try rfl)
        try simp only [Act.put, List.setIfInBounds_toArray, List.set_cons_zero, List.set_cons_succ]
        refine held_take 10 ?_ rfl (by kernel_rfl) (by kernel_rfl) (by kernel_rfl) (fun _ _ _ h => h) (by rfl) ?_ hSc ?_
        rotate_left
        · (intro W hSW; go_simp; try rfl)
        try simp only [Act.put, List.setIfInBounds_toArray, List.set_cons_zero, List.set_cons_succ]
        refine held_take 11 ?_ rfl (by kernel_rfl) (by kernel_rfl) (by kernel_rfl) (fun _ _ _ h => h) (by rfl) ?_ hSc ?_
        rotate_left
        · (intro W hSW; go_simp; try rfl)
        try simp only [Act.put, List.setIfInBounds_toArray, List.set_cons_zero, List.set_cons_succ]
        refine held_take 12 ?_ rfl (by kernel_rfl) (by kernel_rfl) (by kernel_rfl) (fun _ _ _ h => h) (by rfl) ?_ hSc ?_
        rotate_left
        · (intro W hSW; go_simp; try rfl)
        try simp only [Act.put, List.setIfInBounds_toArray, List.set_cons_zero, List.set_cons_succ]
        refine held_take 14 ?_ rfl (by kernel_rfl) (by kernel_rfl) (by kernel_rfl) (fun _ _ _ h => h) (by rfl) ?_ hSc ?_
        rotate_left
        · (intro W hSW; go_simp; try rfl)
        try simp only [Act.put, List.setIfInBounds_toArray, List.set_cons_zero, List.set_cons_succ]
        refine held_take 15 ?_ rfl (by kernel_rfl) (by kernel_rfl) (by kernel_rfl) (fun _ _ _ h => h) (by rfl) ?_ hSc ?_
        rotate_left
        · (intro W hSW; go_simp; try rfl)
        try simp only [Act.put, List.setIfInBounds_toArray, List.set_cons_zero, List.set_cons_succ]
        refine held_take 16 ?_ rfl (by kernel_rfl) (by kernel_rfl) (by kernel_rfl) (fun _ _ _ h => h) (by rfl) ?_ hSc ?_
        rotate_left
        · (intro W hSW; go_simp; try rfl)
        try simp only [Act.put, List.setIfInBounds_toArray, List.set_cons_zero, List.set_cons_succ]
        refine held_take 17 ?_ rfl (by kernel_rfl) (by kernel_rfl) (by kernel_rfl) (fun _ _ _ h => h) (by rfl) ?_ hSc ?_
        rotate_left
        · (intro W hSW; have c1 := hSW.c.rr.c1; go_simp; try rfl)
        try simp only [Act.put, List.setIfInBounds_toArray, List.set_cons_zero, List.set_cons_succ]
        refine held_next 13 rfl (by kernel_rfl) (by rfl) ?_
        go_simp
        refine (At_any _ hSc.c.rd).mono ?_
        rintro e _ ⟨rfl, rfl⟩
        refine ⟨fun W => Vd w W w2.heap.size wr.heap.size g w4.heap.size w5.heap.size w6.heap.size (.slice A1 z.length d1) (.slice A z.length d) vr z q y q y k' n' L, fun W hW => hW, hSc, ?_⟩
        try simp only [Act.put, List.setIfInBounds_toArray, List.set_cons_zero, List.set_cons_succ]
        refine held_take 18 ?_ rfl (by kernel_rfl) (by kernel_rfl) (by kernel_rfl) (fun _ _ _ h => h) (by rfl) ?_ hSc ?_
        rotate_left
        · (intro W hSW; go_simp; try rfl)
        try simp only [Act.put, List.setIfInBounds_toArray, List.set_cons_zero, List.set_cons_succ]
        refine held_take 19 ?_ rfl (by kernel_rfl) (by kernel_rfl) (by kernel_rfl) (fun _ _ _ h => h) (by rfl) ?_ hSc ?_
        rotate_left
        · (intro W hSW; go_simp; try rfl)
        try simp only [Act.put, List.setIfInBounds_toArray, List.set_cons_zero, List.set_cons_succ]
        refine held_take 20 ?_ rfl (by kernel_rfl) (by kernel_rfl) (by kernel_rfl) (fun _ _ _ h => h) (by rfl) ?_ hSc ?_
        rotate_left
        · (intro W hSW; go_simp; try rfl)
        try simp only [Act.put, List.setIfInBounds_toArray, List.set_cons_zero, List.set_cons_succ]
        refine held_take 21 ?_ rfl (by kernel_rfl) (by kernel_rfl) (by kernel_rfl) (fun _ _ _ h => h) (by rfl) ?_ hSc ?_
        rotate_left
        · (intro W hSW; go_simp; try rfl)
        try simp only [Act.put, List.setIfInBounds_toArray, List.set_cons_zero, List.set_cons_succ]
        refine held_take 22 ?_ rfl (by kernel_rfl) (by kernel_rfl) (by kernel_rfl) (fun _ _ _ h => h) (by rfl) ?_ hSc ?_
        rotate_left
        · (intro W hSW; go_simp; try rfl)
        try simp only [Act.put, List.setIfInBounds_toArray, List.set_cons_zero, List.set_cons_succ]
        refine held_take 24 ?_ rfl (by kernel_rfl) (by kernel_rfl) (by kernel_rfl) (fun _ _ _ h => h) (by rfl) ?_ hSc ?_
        rotate_left
        · (intro W hSW; go_simp; try rfl)
        try simp only [Act.put, List.setIfInBounds_toArray, List.set_cons_zero, List.set_cons_succ]
        refine held_take 23 ?_ rfl (by kernel_rfl) (by kernel_rfl) (by kernel_rfl) (fun _ _ _ h => h) (by rfl) ?_ hSc ?_
        rotate_left
        · (intro W hSW; have ci := str8 hSW.c.i.sl; go_simp; try rfl)
        try simp only [Act.put, List.setIfInBounds_toArray, List.set_cons_zero, List.set_cons_succ]
        refine held_take 25 ?_ rfl (by kernel_rfl) (by kernel_rfl) (by kernel_rfl) (fun _ _ _ h => h) (by rfl) ?_ hSc ?_
        rotate_left
        · (intro W hSW; have cb := str8 hSW.c.b; go_simp; try rfl)
        try simp only [Act.put, List.setIfInBounds_toArray, List.set_cons_zero, List.set_cons_succ]
        refine held_take 26 ?_ rfl (by kernel_rfl) (by kernel_rfl) (by kernel_rfl) (fun _ _ _ h => h) (by rfl) ?_ hSc ?_
        rotate_left
        · (intro W hSW; go_simp; try rfl)
        try simp only [Act.put, List.setIfInBounds_toArray, List.set_cons_zero, List.set_cons_succ]
        refine held_take 27 ?_ rfl (by kernel_rfl) (by kernel_rfl) (by kernel_rfl) (fun _ _ _ h => h) (by rfl) ?_ hSc ?_
        rotate_left
        · (intro W hSW; go_simp; try rfl)
        try simp only [Act.put, List.setIfInBounds_toArray, List.set_cons_zero, List.set_cons_succ]
        refine held_take 28 ?_ rfl (by kernel_rfl) (by kernel_rfl) (by kernel_rfl) (fun _ _ _ h => h) (by rfl) ?_ hSc ?_
        rotate_left
        · (intro W hSW; go_simp; try rfl)
        try simp only [Act.put, List.setIfInBounds_toArray, List.set_cons_zero, List.set_cons_succ]
        refine held_next 29 rfl (by kernel_rfl) (by rfl) ?_
        go_simp
        refine (known_any _).mono ?_
        rintro e wq1 ⟨rfl, b⟩
        have hSd : (fun W => Vd w W w2.heap.size wr.heap.size g w4.heap.size w5.heap.size w6.heap.size (.slice A1 z.length d1) (.slice A z.length d) vr z q y q y k' n' L) wq1 := hSc.step b
        refine ⟨fun W => Vd w W w2.heap.size wr.heap.size g w4.heap.size w5.heap.size w6.heap.size (.slice A1 z.length d1) (.slice A z.length d) vr z q y q y k' n' L, fun W hW => hW, hSd, ?_⟩
        clear hSc b
        have hSc := hSd
        clear hSd
        try simp only [Act.put, List.setIfInBounds_toArray, List.set_cons_zero, List.set_cons_succ]
        refine held_take 30 ?_ rfl (by kernel_rfl) (by kernel_rfl) (by kernel_rfl) (fun _ _ _ h => h) (by rfl) ?_ hSc ?_
        rotate_left
        · (intro W hSW; go_simp; try rfl)
        try simp only [Act.put, List.setIfInBounds_toArray, List.set_cons_zero, List.set_cons_succ]
        refine held_next 31 rfl (by kernel_rfl) (by rfl) ?_
        go_simp
        refine ⟨fun W => Vd w W w2.heap.size wr.heap.size g w4.heap.size w5.heap.size w6.heap.size (.slice A1 z.length d1) (.slice A z.length d) vr z q y q y k' n' L, fun W hW => hW, hSc, ?_⟩
        refine wpAnyH_done (by kernel_rfl) ?_ _
        go_wp2
        go_ret
        exact ⟨rfl, hSc.c.below⟩
      | false =>
        clear HV HC HC5 HC4
        have hSc := HD.out.drew
        refine wp_region_all (S := fun W => Vd w W w2.heap.size wr.heap.size g w4.heap.size w5.heap.size w6.heap.size (.slice A1 z.length d1) (.slice A z.length d) vr z q y q y k' n' L) (by kernel_rfl) hSc (fun W0 hSc => ?_)
        refine held_take 0 ?_ rfl (by kernel_rfl) (by kernel_rfl) (by kernel_rfl) (fun _ _ _ h => h) (by rfl) ?_ hSc ?_
        rotate_left
        · (intro W hSW; have a0 := hSW.a0; have a1 := hSW.a1; have a2 := hSW.a2; have b0 := hSW.b0; have b1 := hSW.b1; have b2 := hSW.b2; go_simp; try rfl)
        try simp only [Act.put, List.setIfInBounds_toArray, List.set_cons_zero, List.set_cons_succ]
        refine held_take 1 ?_ rfl (by kernel_rfl) (by kernel_rfl) (by kernel_rfl) (fun _ _ _ h => h) (by rfl) ?_ hSc ?_
        rotate_left
        · (intro W hSW; have a0 := hSW.a0; have a1 := hSW.a1; have a2 := hSW.a2; have b0 := hSW.b0; have b1 := hSW.b1; have b2 := hSW.b2; go_simp; try rfl)
        try simp only [Act.put, List.setIfInBounds_toArray, List.set_cons_zero, List.set_cons_succ]
        refine held_take 2 ?_ rfl (by kernel_rfl) (by kernel_rfl) (by kernel_rfl) (fun _ _ _ h => h) (by rfl) ?_ hSc ?_
        rotate_left
        · (intro W hSW; go_simp; try rfl)
        try simp only [Act.put, List.setIfInBounds_toArray, List.set_cons_zero, List.set_cons_succ]
        refine held_take 3 ?_ rfl (by kernel_rfl) (by kernel_rfl) (by kernel_rfl) (fun _ _ _ h => h) (by rfl) ?_ hSc ?_
        rotate_left
        · (intro W hSW; go_simp; try rfl)
        try simp only [Act.put, List.setIfInBounds_toArray, List.set_cons_zero, List.set_cons_succ]
        refine held_take 4 ?_ rfl (by kernel_rfl) (by kernel_rfl) (by kernel_rfl) (fun _ _ _ h => h) (by rfl) ?_ hSc ?_
        rotate_left
        · (intro W hSW; go_simp; try rfl)
        try simp only [Act.put, List.setIfInBounds_toArray, List.set_cons_zero, List.set_cons_succ]
        refine held_take 5 ?_ rfl (by kernel_rfl) (by kernel_rfl) (by kernel_rfl) (fun _ _ _ h => h) (by rfl) ?_ hSc ?_
        rotate_left
        · (intro W hSW; go_simp; try rfl)
        try simp only [Act.put, List.setIfInBounds_toArray, List.set_cons_zero, List.set_cons_succ]
        refine held_take 6 ?_ rfl (by kernel_rfl) (by kernel_rfl) (by kernel_rfl) (fun _ _ _ h => h) (by rfl) ?_ hSc ?_
        rotate_left
        · (intro W hSW; go_simp; try rfl)
        try simp only [Act.put, List.setIfInBounds_toArray, List.set_cons_zero, List.set_cons_succ]
        refine held_take 7 ?_ rfl (by kernel_rfl) (by kernel_rfl) (by kernel_rfl) (fun _ _ _ h => h) (by rfl) ?_ hSc ?_
        rotate_left
        · (intro W hSW; go_simp; try rfl)
        try simp only [Act.put, List.setIfInBounds_toArray, List.set_cons_zero, List.set_cons_succ]
        refine held_take 8 ?_ rfl (by kernel_rfl) (by kernel_rfl) (by kernel_rfl) (fun _ _ _ h => h) (by rfl) ?_ hSc ?_
        rotate_left
        · (intro W hSW; go_simp; try rfl)
        try simp only [Act.put, List.setIfInBounds_toArray, List.set_cons_zero, List.set_cons_succ]
        refine held_take 9 ?_ rfl (by kernel_rfl) (by kernel_rfl) (by kernel_rfl) (fun _ _ _ h => h) (by rfl) ?_ hSc ?_
        rotate_left
        · (intro W hSW; go_simp; try rfl)
        try simp only [Act.put, List.setIfInBounds_toArray, List.set_cons_zero, List.set_cons_succ]
        refine held_take 10 ?_ rfl (by kernel_rfl) (by kernel_rfl) (by kernel_rfl) (fun _ _ _ h => h) (by rfl) ?_ hSc ?_
        rotate_left
        · (intro W hSW; go_simp; try rfl)
        try simp only [Act.put, List.setIfInBounds_toArray, List.set_cons_zero, List.set_cons_succ]
        refine held_take 11 ?_ rfl (by kernel_rfl) (by kernel_rfl) (by kernel_rfl) (fun _ _ _ h => h) (by rfl) ?_ hSc ?_
        rotate_left
        · (intro W hSW; go_simp; try rfl)
        try simp only [Act.put, List.setIfInBounds_toArray, List.set_cons_zero, List.set_cons_succ]
        refine held_skip 12 rfl (by kernel_rfl) (by kernel_rfl) (by kernel_rfl) (fun _ _ _ h => h) (by rfl) hSc ?_
        try simp only [Act.put, List.setIfInBounds_toArray, List.set_cons_zero, List.set_cons_succ]
        refine held_skip 13 rfl (by kernel_rfl) (by kernel_rfl) (by kernel_rfl) (fun _ _ _ h => h) (by rfl) hSc ?_
        try simp only [Act.put, List.setIfInBounds_toArray, List.set_cons_zero, List.set_cons_succ]
        refine held_skip 14 rfl (by kernel_rfl) (by kernel_rfl) (by kernel_rfl) (fun _ _ _ h => h) (by rfl) hSc ?_
        try simp only [Act.put, List.setIfInBounds_toArray, List.set_cons_zero, List.set_cons_succ]
        refine held_skip 15 rfl (by kernel_rfl) (by kernel_rfl) (by kernel_rfl) (fun _ _ _ h => h) (by rfl) hSc ?_
        try simp only [Act.put, List.setIfInBounds_toArray, List.set_cons_zero, List.set_cons_succ]
        refine held_skip 16 rfl (by kernel_rfl) (by kernel_rfl) (by kernel_rfl) (fun _ _ _ h => h) (by rfl) hSc ?_
        try simp only [Act.put, List.setIfInBounds_toArray, List.set_cons_zero, List.set_cons_succ]
        refine held_skip 17 rfl (by kernel_rfl) (by kernel_rfl) (by kernel_rfl) (fun _ _ _ h => h) (by rfl) hSc ?_
        try simp only [Act.put, List.setIfInBounds_toArray, List.set_cons_zero, List.set_cons_succ]
        refine held_skip 18 rfl (by kernel_rfl) (by kernel_rfl) (by kernel_rfl) (fun _ _ _ h => h) (by rfl) hSc ?_
        try simp only [Act.put, List.setIfInBounds_toArray, List.set_cons_zero, List.set_cons_succ]
        refine held_take 19 ?_ rfl (by kernel_rfl) (by kernel_rfl) (by kernel_rfl) (fun _ _ _ h => h) (by rfl) ?_ hSc ?_
        rotate_left
        · (intro W hSW; go_simp; try rfl)
        try simp only [Act.put, List.setIfInBounds_toArray, List.set_cons_zero, List.set_cons_succ]
        refine held_take 20 ?_ rfl (by kernel_rfl) (by kernel_rfl) (by kernel_rfl) (fun _ _ _ h => h) (by rfl) ?_ hSc ?_
        rotate_left
        · (intro W hSW; go_simp; try rfl)
        try simp only [Act.put, List.setIfInBounds_toArray, List.set_cons_zero, List.set_cons_succ]
        refine held_take 21 ?_ rfl (by kernel_rfl) (by kernel_rfl) (by kernel_rfl) (fun _ _ _ h => h) (by rfl) ?_ hSc ?_
        rotate_left
        · (intro W hSW; go_simp; try rfl)
        try simp only [Act.put, List.setIfInBounds_toArray, List.set_cons_zero, List.set_cons_succ]
        refine held_take 22 ?_ rfl (by kernel_rfl) (by kernel_rfl) (by kernel_rfl) (fun _ _ _ h => h) (by rfl) ?_ hSc ?_
        rotate_left
        · (intro W hSW; go_simp; try rfl)
        try simp only [Act.put, List.setIfInBounds_toArray, List.set_cons_zero, List.set_cons_succ]
        refine held_take 24 ?_ rfl (by kernel_rfl) (by kernel_rfl) (by kernel_rfl) (fun _ _ _ h => h) (by rfl) ?_ hSc ?_
        rotate_left
        · (intro W hSW; go_simp; try rfl)
        try simp only [Act.put, List.setIfInBounds_toArray, List.set_cons_zero, List.set_cons_succ]
        refine held_take 23 ?_ rfl (by kernel_rfl) (by kernel_rfl) (by kernel_rfl) (fun _ _ _ h => h) (by rfl) ?_ hSc ?_
        rotate_left
        · (intro W hSW; have ci := str8 hSW.c.i.sl; go_simp; try rfl)
        try simp only [Act.put, List.setIfInBounds_toArray, List.set_cons_zero, List.set_cons_succ]
        refine held_take 25 ?_ rfl (by kernel_rfl) (by kernel_rfl) (by kernel_rfl) (fun _ _ _ h => h) (by rfl) ?_ hSc ?_
        rotate_left
        · (intro W hSW; have cb := str8 hSW.c.b; go_simp; try rfl)
        try simp only [Act.put, List.setIfInBounds_toArray, List.set_cons_zero, List.set_cons_succ]
        refine held_take 26 ?_ rfl (by kernel_rfl) (by kernel_rfl) (by kernel_rfl) (fun _ _ _ h => h) (by rfl) ?_ hSc ?_
        rotate_left
        · (intro W hSW; go_simp; try rfl)
        try simp only [Act.put, List.setIfInBounds_toArray, List.set_cons_zero, List.set_cons_succ]
        refine held_take 27 ?_ rfl (by kernel_rfl) (by kernel_rfl) (by kernel_rfl) (fun _ _ _ h => h) (by rfl) ?_ hSc ?_
        rotate_left
        · (intro W hSW; go_simp; try rfl)
        try simp only [Act.put, List.setIfInBounds_toArray, List.set_cons_zero, List.set_cons_succ]
        refine held_take 28 ?_ rfl (by kernel_rfl) (by kernel_rfl) (by kernel_rfl) (fun _ _ _ h => h) (by rfl) ?_ hSc ?_
        rotate_left
        · (intro W hSW; go_simp; try rfl)
        try simp only [Act.put, List.setIfInBounds_toArray, List.set_cons_zero, List.set_cons_succ]
        refine held_next 29 rfl (by kernel_rfl) (by rfl) ?_
        go_simp
        refine (known_any _).mono ?_
        rintro e wq1 ⟨rfl, b⟩
        have hSd : (fun W => Vd w W w2.heap.size wr.heap.size g w4.heap.size w5.heap.size w6.heap.size (.slice A1 z.length d1) (.slice A z.length d) vr z q y q y k' n' L) wq1 := hSc.step b
        refine ⟨fun W => Vd w W w2.heap.size wr.heap.size g w4.heap.size w5.heap.size w6.heap.size (.slice A1 z.length d1) (.slice A z.length d) vr z q y q y k' n' L, fun W hW => hW, hSd, ?_⟩
        clear hSc b
        have hSc := hSd
        clear hSd
        try simp only [Act.put, List.setIfInBounds_toArray, List.set_cons_zero, List.set_cons_succ]
        refine held_take 30 ?_ rfl (by kernel_rfl) (by kernel_rfl) (by kernel_rfl) (fun _ _ _ h => h) (by rfl) ?_ hSc ?_
        rotate_left
        · (intro W hSW; go_simp; try rfl)
        try simp only [Act.put, List.setIfInBounds_toArray, List.set_cons_zero, List.set_cons_succ]
        refine held_next 31 rfl (by kernel_rfl) (by rfl) ?_
        go_simp
        refine ⟨fun W => Vd w W w2.heap.size wr.heap.size g w4.heap.size w5.heap.size w6.heap.size (.slice A1 z.length d1) (.slice A z.length d) vr z q y q y k' n' L, fun W hW => hW, hSc, ?_⟩
        refine wpAnyH_done (by kernel_rfl) ?_ _
        go_wp2
        go_ret
        exact ⟨rfl, hSc.c.below⟩

set_option maxHeartbeats 400000 in
theorem vbytes_long0 (k n : Int) (s : ByteArray) (v : Value) (x2 : Int) (w : World) (hd0 : decide ((70000 : Int) < s.size) = true) :
    Calls Try.prog 4 #[vV k n s, v, .int .u8 x2] w fun e w' => e = .returned (.bool true) ∧ Below w.heap.size w w' := by
  go_enter Try.func4, Try.ntmps4
  go_wp2_with (go_at_call 7; refine (known_any _).mono ?_; rintro e w5 ⟨rfl, b5⟩)
  go_ret
  exact ⟨rfl, ((Bx1.new w k n s).step b5).below⟩
set_option maxHeartbeats 400000 in
theorem vbytes_long1 (k n : Int) (s : ByteArray) (A : Option Addr) (m d : Nat) (x2 : Int) (w : World) (hd0 : decide ((70000 : Int) < s.size) = false) (hd1 : decide ((70000 : Int) < m) = true) :
    Calls Try.prog 4 #[vV k n s, .slice A m d, .int .u8 x2] w fun e w' => e = .returned (.bool true) ∧ Below w.heap.size w w' := by
  go_enter Try.func4, Try.ntmps4
  go_wp2_with (go_at_call 7; refine (known_any _).mono ?_; rintro e w5 ⟨rfl, b5⟩)
  go_ret
  exact ⟨rfl, ((Bx1.new w k n s).step b5).below⟩
theorem byV_len (k : Int) (n : Nat) (s : List UInt8) (hs : s.length ≤ 1000000) : (byV k n s).length ≤ 1000010 ∧ (s.length ≤ 70000 → (byV k n s).length ≤ 70010) := by
  unfold byV
  split
  · rw [le_length]; omega
  · split
    · rw [List.length_append]; have := short_length_le s.length (by omega); omega
    · simp
theorem vbytes_any (k n : Int) (s : ByteArray) (A : Option Addr) (d : Nat) (z : List UInt8) (x2 : Int) (w : World) (hb : Gs e8 w 0 w.heap.size (.slice A z.length d) z) :
    Calls Try.prog 4 #[vV k n s, .slice A z.length d, .int .u8 x2] w fun e w' => e = .returned (.bool true) ∧ Below w.heap.size w w' := by
  cases hd0 : decide ((70000 : Int) < s.size) with
  | true => exact vbytes_long0 k n s _ x2 w hd0
  | false =>
    cases hd1 : decide ((70000 : Int) < z.length) with
    | true => exact vbytes_long1 k n s A z.length d x2 w hd0 hd1
    | false =>
      have h0 : s.size ≤ 70000 := by have := of_decide_eq_false hd0; omega
      have h1 : z.length ≤ 70000 := by have := of_decide_eq_false hd1; omega
      have hbl := byV_len k (u64 n) (bls s) (by rw [bls_len]; omega)
      rw [bls_len] at hbl
      refine vbytes_go k n s A d z x2 w (z ++ byV k (u64 n) (bls s)) (byV k (u64 n) (bls s)) rfl hb hd0 hd1 (fun v lo W hv => ?_) (fun W => ?_) (by rw [List.length_append]; omega) h1
      · refine (append_any v z lo k n s W hv (by omega) (by omega)).mono ?_
        rintro e w' ⟨v', rfl, o, b⟩
        obtain ⟨A2, d2, rfl, -⟩ := o.sl
        exact ⟨A2, d2, rfl, o, b⟩
      · refine (refbytes_any k n s W (by omega)).mono ?_
        rintro e w' ⟨v', rfl, o, b⟩
        obtain ⟨A2, d2, rfl, -⟩ := o.sl
        exact ⟨A2, d2, rfl, o, b⟩
end Go.Proofs.Ytigngijpbchlaaa
