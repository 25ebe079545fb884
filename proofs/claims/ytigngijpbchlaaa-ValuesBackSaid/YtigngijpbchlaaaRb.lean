/- Walks: the document's reader reads bytes. -/
import Derived.Test.YtigngijpbchlaaaRr
import Derived.Test.YtigngijpbchlaaaRg
namespace Go.Proofs.Ytigngijpbchlaaa
open Go.RowKit
set_option linter.unusedVariables false

/-- append onto a slice of bytes of the call's own, at one operation. -/
theorem wp_app {P : Program} (w : World) {o : Oper} {a : Act} {K : Act → World → Prop} {Q : Exit → Act → World → Prop} (s x : Operand) (t : TypeId)
    (ho : o.op = .call { callee := .builtin .append, args := #[s, x], argTypes := #[t, t] }) (base : Nat) (ht : P.underlying t = some (.slice 5))
    (hinf : (P.info? 5).map (fun i => (i.zero, i.size, i.bytes)) = some (some (.int .u8 0), 1, 1))
    (v : Value) (l : List UInt8) (hs : a.eval s = v) (hown : Ow w base v l) (lo hi : Nat) (u : Value) (m : List UInt8) (hx : a.eval x = u) (hu : Sl w lo hi u m)
    (hb : l.length + m.length ≤ 1000000000) (hbase : base ≤ w.heap.size)
    (h : ∀ v' w', Ow w' base v' (l ++ m) → w.grownBy w' v.ownBlock → K (a.put o.dst v') w') : o.wp P a w K Q :=
  wp_gapp e8 w s x t ho base ht hinf v l hs hown lo hi u m hx hu hb hbase h

set_option maxHeartbeats 400000 in
theorem refBytes_bad {hi g : Nat} {v : Value} {l : List UInt8} {p : Nat} (n : Int) (w : World) (h : RR w hi g v l p true) :
    Calls Try.prog 35 #[.pointer (some ⟨g, 0, none⟩), .int .i64 n] w fun e w' => e = .returned (.slice none 0 0) ∧ RR w' hi g v l p true ∧ w.grownBy w' (some g) := by
  have h2 := h.c2
  have f2 := h.row.frozen 2
  have H := Lib.hid h
  clear h
  go_enter Try.func35, Try.ntmps35
  go_wp2
  go_quiet (fail)
  go_wp2
  go_ret
  exact ⟨rfl, (H.out.drewN _).marked, (grown_drewN (World.grownBy.refl _ _) _).trans (grown_set _ _ _ _)⟩
set_option maxHeartbeats 400000 in
theorem refBytes_neg {hi g : Nat} {v : Value} {l : List UInt8} {p : Nat} (n : Int) (w : World) (h : RR w hi g v l p false) (hn : n < 0) :
    Calls Try.prog 35 #[.pointer (some ⟨g, 0, none⟩), .int .i64 n] w fun e w' => e = .returned (.slice none 0 0) ∧ RR w' hi g v l p true ∧ w.grownBy w' (some g) := by
  have h2 := h.c2
  have f2 := h.row.frozen 2
  have H := Lib.hid h
  have hd : decide (n < 0) = true := by simp; omega
  clear h
  go_enter Try.func35, Try.ntmps35
  go_wp2
  go_quiet (fail)
  go_wp2
  go_ret
  exact ⟨rfl, (H.out.drewN _).marked, (grown_drewN (World.grownBy.refl _ _) _).trans (grown_set _ _ _ _)⟩
set_option maxHeartbeats 400000 in
theorem refBytes_more {hi g : Nat} {v : Value} {l : List UInt8} {p : Nat} (n : Int) (w : World) (h : RR w hi g v l p false) (hn : 0 ≤ n) (hm : (l.length : Int) - p < n) :
    Calls Try.prog 35 #[.pointer (some ⟨g, 0, none⟩), .int .i64 n] w fun e w' => e = .returned (.slice none 0 0) ∧ RR w' hi g v l p true ∧ w.grownBy w' (some g) := by
  obtain ⟨A, c, rfl, -⟩ := h.sl
  have h0 := h.c0
  have h1 := h.c1
  have h2 := h.c2
  have f2 := h.row.frozen 2
  have hle := h.le
  have hsm := h.small
  have H := Lib.hid h
  have hd : decide (n < 0) = false := by simp; omega
  have hd2 : decide ((l.length : Int) - p < n) = true := by simp; omega
  clear h
  go_enter Try.func35, Try.ntmps35
  go_wp2
  go_quiet (fail)
  go_wp2
  go_ret
  exact ⟨rfl, (H.out.drewN _).marked, (grown_drewN (World.grownBy.refl _ _) _).trans (grown_set _ _ _ _)⟩

theorem grown_alloc_ (w : World) (o : Obj) : w.grownBy (w.alloc o) none := ⟨rfl, rfl, rfl, by simp, fun k hk _ => Below.heap_alloc w o k hk⟩
theorem grown_new {w : World} {o : Obj} {w2 : World} {p : Nat} {u : Option Addr} (hg : (w.alloc o).grownBy w2 (some w.heap.size)) : w.grownBy w2 none :=
  ⟨hg.os, hg.tape, hg.output, Nat.le_trans (by simp) hg.size, fun k hk _ => (hg.block k (by simp; omega) (by simp; omega)).trans (Below.heap_alloc w o k hk)⟩
theorem grown_none {a b c : World} {row : Option Nat} (h : a.grownBy b row) (hb : b.grownBy c none) : a.grownBy c row :=
  ⟨hb.os.trans h.os, hb.tape.trans h.tape, hb.output.trans h.output, Nat.le_trans h.size hb.size, fun i hi hn => (hb.block i (Nat.lt_of_lt_of_le hi h.size) (by simp)).trans (h.block i hi hn)⟩

set_option maxHeartbeats 1000000 in
set_option maxRecDepth 100000 in
theorem refBytes_good {hi g : Nat} {v : Value} {l : List UInt8} {p : Nat} (m : Nat) (w : World) (h : RR w hi g v l p false) (hm : p + m ≤ l.length) :
    Calls Try.prog 35 #[.pointer (some ⟨g, 0, none⟩), .int .i64 m] w fun e w' => ∃ v', e = .returned v' ∧ Ow w' w.heap.size v' ((l.drop p).take m) ∧ RR w' hi g v l (p + m) false ∧ w.grownBy w' (some g) := by
  obtain ⟨A, c, rfl, -, hlc, hcm, -⟩ := h.sl
  unfold maxLen at hcm
  have h0 := h.c0
  have h1 := h.c1
  have h2 := h.c2
  have f1 := h.row.frozen 1
  have hle := h.le
  have hsm := h.small
  have hlt := h.lt
  have hd : decide ((m : Int) < 0) = false := by simp
  have hd2 : decide ((l.length : Int) - p < m) = false := by simp; omega
  have H := Lib.hid h
  have hpm : (p : Int) + m ≤ c := by omega
  have hw2 : IntKind.i64.wrap (p : Int) = (p : Int) := by rw [IntKind.wrap_i64]; omega
  have hz3 : ((p : Int) + m).toNat - p = m := by omega
  have hz0 : (0 : Int) ≤ (p : Int) + m := by omega
  have hz1 : (0 : Int) ≤ (p : Int) := by omega
  have hz2 : (p : Int) ≤ (p : Int) + m := by omega
  have HM := Lib.hid hm
  clear h
  go_enter Try.func35, Try.ntmps35
  go_wp2
  go_quiet (fail)
  go_wp2
  generalize hW1 : World.setCell _ _ _ = W1
  have hR : RR W1 hi g (.slice A l.length c) l (p + m) false := by rw [← hW1]; exact (H.out.drewN _).placed (q := p + m) HM.out
  have hG : w.grownBy W1 (some g) := by rw [← hW1]; exact (grown_drewN (World.grownBy.refl _ _) _).trans (grown_set _ _ _ _)
  have hlt1 : g < W1.drew.heap.size := hR.lt
  have hhi : hi ≤ W1.drew.heap.size := Nat.le_trans hR.ge (Nat.le_of_lt hlt1)
  have hsz : w.heap.size ≤ W1.drew.heap.size := hG.size
  have hcut : Sl W1.drew 0 hi (.slice (if c = p then A else A.map (·.add p)) m (c - p)) ((l.drop p).take m) := sl_cut hR.sl HM.out
  have hSc : W1.drew.cell? ⟨g, 0, none⟩ = some (Value.slice A l.length c) ∧ W1.drew.cell? ⟨g, 1, none⟩ = some (Value.int .i64 ((p : Int) + m)) := ⟨hR.c0, hR.c1⟩
  have HR := Lib.hid (show RR W1.drew hi g (.slice A l.length c) l (p + m) false from hR.drewN 1)
  have HG := Lib.hid (show w.grownBy W1.drew (some g) from grown_drewN hG 1)
  clear hR hG hW1 h0 h1 h2 f1 hlt
  have hlt := hlt1
  clear hlt1
  by_cases hcp : c = p
  · obtain rfl : p = c := hcp.symm
    obtain rfl : m = 0 := by omega
    simp only at hcut
    have e9 : p - p = 0 := by omega
    rw [e9] at hcut
    clear e9
    have HCUT := Lib.hid hcut
    clear hcut
    refine wp_region_held_drew (S := fun W => W.cell? ⟨g, 0, none⟩ = some (Value.slice A l.length p) ∧ W.cell? ⟨g, 1, none⟩ = some (Value.int .i64 ((p : Int) + (0 : Nat)))) (by kernel_rfl) hSc (fun _ => ?_)
    generalize hwq : W1.drew = wq at *
    refine held_take 1 ?_ rfl (by kernel_rfl) (by kernel_rfl) (by kernel_rfl) (fun _ _ _ h => h) (by rfl) ?_ hSc ?_
    rotate_left
    · (intro W hSW; obtain ⟨s0, s1⟩ := hSW; go_simp; try rfl)
    try simp only [Act.put, List.setIfInBounds_toArray, List.set_cons_zero, List.set_cons_succ]
    refine held_take 2 ?_ rfl (by kernel_rfl) (by kernel_rfl) (by kernel_rfl) (fun _ _ _ h => h) (by rfl) ?_ hSc ?_
    rotate_left
    · (intro W hSW; obtain ⟨s0, s1⟩ := hSW; go_simp; try rfl)
    try simp only [Act.put, List.setIfInBounds_toArray, List.set_cons_zero, List.set_cons_succ]
    refine held_take 3 ?_ rfl (by kernel_rfl) (by kernel_rfl) (by kernel_rfl) (fun _ _ _ h => h) (by rfl) ?_ hSc ?_
    rotate_left
    · (intro W hSW; obtain ⟨s0, s1⟩ := hSW; go_simp; try rfl)
    try simp only [Act.put, List.setIfInBounds_toArray, List.set_cons_zero, List.set_cons_succ]
    refine held_take 4 ?_ rfl (by kernel_rfl) (by kernel_rfl) (by kernel_rfl) (fun _ _ _ h => h) (by rfl) ?_ hSc ?_
    rotate_left
    · (intro W hSW; obtain ⟨s0, s1⟩ := hSW; go_simp; try rfl)
    try simp only [Act.put, List.setIfInBounds_toArray, List.set_cons_zero, List.set_cons_succ]
    refine held_take 5 ?_ rfl (by kernel_rfl) (by kernel_rfl) (by kernel_rfl) (fun _ _ _ h => h) (by rfl) ?_ hSc ?_
    rotate_left
    · (intro W hSW; obtain ⟨s0, s1⟩ := hSW; go_simp; try rfl)
    try simp only [Act.put, List.setIfInBounds_toArray, List.set_cons_zero, List.set_cons_succ]
    refine held_take 6 ?_ rfl (by kernel_rfl) (by kernel_rfl) (by kernel_rfl) (fun _ _ _ h => h) (by rfl) ?_ hSc ?_
    rotate_left
    · (intro W hSW; obtain ⟨s0, s1⟩ := hSW; go_simp; try rfl)
    try simp only [Act.put, List.setIfInBounds_toArray, List.set_cons_zero, List.set_cons_succ]
    refine held_take 7 ?_ rfl (by kernel_rfl) (by kernel_rfl) (by kernel_rfl) (fun _ _ _ h => h) (by rfl) ?_ hSc ?_
    rotate_left
    · (intro W hSW; obtain ⟨s0, s1⟩ := hSW; go_simp; try rfl)
    try simp only [Act.put, List.setIfInBounds_toArray, List.set_cons_zero, List.set_cons_succ]
    refine held_take 8 ?_ rfl (by kernel_rfl) (by kernel_rfl) (by kernel_rfl) (fun _ _ _ h => h) (by rfl) ?_ hSc ?_
    rotate_left
    · (intro W hSW; obtain ⟨s0, s1⟩ := hSW; go_simp; try rfl)
    try simp only [Act.put, List.setIfInBounds_toArray, List.set_cons_zero, List.set_cons_succ]
    refine held_take 9 ?_ rfl (by kernel_rfl) (by kernel_rfl) (by kernel_rfl) (fun _ _ _ h => h) (by rfl) ?_ hSc ?_
    rotate_left
    · (intro W hSW; obtain ⟨s0, s1⟩ := hSW; go_simp; try rfl)
    try simp only [Act.put, List.setIfInBounds_toArray, List.set_cons_zero, List.set_cons_succ]
    refine held_take 10 ?_ rfl (by kernel_rfl) (by kernel_rfl) (by kernel_rfl) (fun _ _ _ h => h) (by rfl) ?_ hSc ?_
    rotate_left
    · (intro W hSW; obtain ⟨s0, s1⟩ := hSW; go_simp; try rfl)
    try simp only [Act.put, List.setIfInBounds_toArray, List.set_cons_zero, List.set_cons_succ]
    refine held_take 11 ?_ rfl (by kernel_rfl) (by kernel_rfl) (by kernel_rfl) (fun _ _ _ h => h) (by rfl) ?_ hSc ?_
    rotate_left
    · (intro W hSW; obtain ⟨s0, s1⟩ := hSW; go_simp; try rfl)
    try simp only [Act.put, List.setIfInBounds_toArray, List.set_cons_zero, List.set_cons_succ]
    refine held_take 12 ?_ rfl (by kernel_rfl) (by kernel_rfl) (by kernel_rfl) (fun _ _ _ h => h) (by rfl) ?_ hSc ?_
    rotate_left
    · (intro W hSW; obtain ⟨s0, s1⟩ := hSW; go_simp; try rfl)
    try simp only [Act.put, List.setIfInBounds_toArray, List.set_cons_zero, List.set_cons_succ]
    refine held_take 13 ?_ rfl (by kernel_rfl) (by kernel_rfl) (by kernel_rfl) (fun _ _ _ h => h) (by rfl) ?_ hSc ?_
    rotate_left
    · (intro W hSW; obtain ⟨s0, s1⟩ := hSW; go_simp; try rfl)
    try simp only [Act.put, List.setIfInBounds_toArray, List.set_cons_zero, List.set_cons_succ]
    refine held_take 14 ?_ rfl (by kernel_rfl) (by kernel_rfl) (by kernel_rfl) (fun _ _ _ h => h) (by rfl) ?_ hSc ?_
    rotate_left
    · (intro W hSW; obtain ⟨s0, s1⟩ := hSW; go_simp; try rfl)
    try simp only [Act.put, List.setIfInBounds_toArray, List.set_cons_zero, List.set_cons_succ]
    refine held_take 15 ?_ rfl (by kernel_rfl) (by kernel_rfl) (by kernel_rfl) (fun _ _ _ h => h) (by rfl) ?_ hSc ?_
    rotate_left
    · (intro W hSW; obtain ⟨s0, s1⟩ := hSW; go_simp; try rfl)
    try simp only [Act.put, List.setIfInBounds_toArray, List.set_cons_zero, List.set_cons_succ]
    try rw [hz3]
    refine held_next 0 rfl (by kernel_rfl) (by rfl) ?_
    go_simp
    refine ⟨_, fun W hW => hW, ⟨(World.cell?_alloc_lt wq _ _ hlt).trans hSc.1, (World.cell?_alloc_lt wq _ _ hlt).trans hSc.2⟩, ?_⟩
    try simp only [Act.put, List.setIfInBounds_toArray, List.set_cons_zero, List.set_cons_succ]
    refine held_next 16 rfl (by kernel_rfl) (by rfl) ?_
    refine wp_app _ _ _ _ rfl wq.heap.size Try.underlying30 info8 _ [] rfl (Ow.empty_ _ _ (Nat.le_refl _)) 0 hi _ ((l.drop p).take 0) rfl (HCUT.out.alloc hhi _) (by simp <;> omega) (by simp) ?_
    intro v3 w3 o3 g3
    have g3' : wq.grownBy w3 none := grown_new (p := 0) (u := none) g3
    have s3 := hSc
    have k0 : w3.cell? ⟨g, 0, none⟩ = some (Value.slice A l.length p) := g3'.cell hSc.1 (by simp)
    have k1 : w3.cell? ⟨g, 1, none⟩ = some (Value.int .i64 ((p : Int) + (0 : Nat))) := g3'.cell hSc.2 (by simp)
    refine ⟨_, fun W hW => hW, ⟨k0, k1⟩, ?_⟩
    clear hSc s3
    have hSc : w3.cell? ⟨g, 0, none⟩ = some (Value.slice A l.length p) ∧ w3.cell? ⟨g, 1, none⟩ = some (Value.int .i64 ((p : Int) + (0 : Nat))) := ⟨k0, k1⟩
    clear k0 k1
    try simp only [Act.put, List.setIfInBounds_toArray, List.set_cons_zero, List.set_cons_succ]
    refine held_take 17 ?_ rfl (by kernel_rfl) (by kernel_rfl) (by kernel_rfl) (fun _ _ _ h => h) (by rfl) ?_ hSc ?_
    rotate_left
    · (intro W hSW; obtain ⟨s0, s1⟩ := hSW; go_simp; try rfl)
    try simp only [Act.put, List.setIfInBounds_toArray, List.set_cons_zero, List.set_cons_succ]
    refine wpAnyH_done (by kernel_rfl) ?_ _
    go_wp2
    go_ret
    exact ⟨_, rfl, (show Ow w3 w.heap.size _ _ from o3.more hsz), HR.out.grown g3' (by simp) (fun k e => by cases e), grown_none HG.out g3'⟩
  · simp only [if_neg hcp] at hcut
    have HCUT := Lib.hid hcut
    clear hcut
    refine wp_region_held_drew (S := fun W => W.cell? ⟨g, 0, none⟩ = some (Value.slice A l.length c) ∧ W.cell? ⟨g, 1, none⟩ = some (Value.int .i64 ((p : Int) + m))) (by kernel_rfl) hSc (fun _ => ?_)
    generalize hwq : W1.drew = wq at *
    refine held_take 1 ?_ rfl (by kernel_rfl) (by kernel_rfl) (by kernel_rfl) (fun _ _ _ h => h) (by rfl) ?_ hSc ?_
    rotate_left
    · (intro W hSW; obtain ⟨s0, s1⟩ := hSW; go_simp; try rfl)
    try simp only [Act.put, List.setIfInBounds_toArray, List.set_cons_zero, List.set_cons_succ]
    refine held_take 2 ?_ rfl (by kernel_rfl) (by kernel_rfl) (by kernel_rfl) (fun _ _ _ h => h) (by rfl) ?_ hSc ?_
    rotate_left
    · (intro W hSW; obtain ⟨s0, s1⟩ := hSW; go_simp; try rfl)
    try simp only [Act.put, List.setIfInBounds_toArray, List.set_cons_zero, List.set_cons_succ]
    refine held_take 3 ?_ rfl (by kernel_rfl) (by kernel_rfl) (by kernel_rfl) (fun _ _ _ h => h) (by rfl) ?_ hSc ?_
    rotate_left
    · (intro W hSW; obtain ⟨s0, s1⟩ := hSW; go_simp; try rfl)
    try simp only [Act.put, List.setIfInBounds_toArray, List.set_cons_zero, List.set_cons_succ]
    refine held_take 4 ?_ rfl (by kernel_rfl) (by kernel_rfl) (by kernel_rfl) (fun _ _ _ h => h) (by rfl) ?_ hSc ?_
    rotate_left
    · (intro W hSW; obtain ⟨s0, s1⟩ := hSW; go_simp; try rfl)
    try simp only [Act.put, List.setIfInBounds_toArray, List.set_cons_zero, List.set_cons_succ]
    refine held_take 5 ?_ rfl (by kernel_rfl) (by kernel_rfl) (by kernel_rfl) (fun _ _ _ h => h) (by rfl) ?_ hSc ?_
    rotate_left
    · (intro W hSW; obtain ⟨s0, s1⟩ := hSW; go_simp; try rfl)
    try simp only [Act.put, List.setIfInBounds_toArray, List.set_cons_zero, List.set_cons_succ]
    refine held_take 6 ?_ rfl (by kernel_rfl) (by kernel_rfl) (by kernel_rfl) (fun _ _ _ h => h) (by rfl) ?_ hSc ?_
    rotate_left
    · (intro W hSW; obtain ⟨s0, s1⟩ := hSW; go_simp; try rfl)
    try simp only [Act.put, List.setIfInBounds_toArray, List.set_cons_zero, List.set_cons_succ]
    refine held_take 7 ?_ rfl (by kernel_rfl) (by kernel_rfl) (by kernel_rfl) (fun _ _ _ h => h) (by rfl) ?_ hSc ?_
    rotate_left
    · (intro W hSW; obtain ⟨s0, s1⟩ := hSW; go_simp; try rfl)
    try simp only [Act.put, List.setIfInBounds_toArray, List.set_cons_zero, List.set_cons_succ]
    refine held_take 8 ?_ rfl (by kernel_rfl) (by kernel_rfl) (by kernel_rfl) (fun _ _ _ h => h) (by rfl) ?_ hSc ?_
    rotate_left
    · (intro W hSW; obtain ⟨s0, s1⟩ := hSW; go_simp; try rfl)
    try simp only [Act.put, List.setIfInBounds_toArray, List.set_cons_zero, List.set_cons_succ]
    refine held_take 9 ?_ rfl (by kernel_rfl) (by kernel_rfl) (by kernel_rfl) (fun _ _ _ h => h) (by rfl) ?_ hSc ?_
    rotate_left
    · (intro W hSW; obtain ⟨s0, s1⟩ := hSW; go_simp; try rfl)
    try simp only [Act.put, List.setIfInBounds_toArray, List.set_cons_zero, List.set_cons_succ]
    refine held_take 10 ?_ rfl (by kernel_rfl) (by kernel_rfl) (by kernel_rfl) (fun _ _ _ h => h) (by rfl) ?_ hSc ?_
    rotate_left
    · (intro W hSW; obtain ⟨s0, s1⟩ := hSW; go_simp; try rfl)
    try simp only [Act.put, List.setIfInBounds_toArray, List.set_cons_zero, List.set_cons_succ]
    refine held_take 11 ?_ rfl (by kernel_rfl) (by kernel_rfl) (by kernel_rfl) (fun _ _ _ h => h) (by rfl) ?_ hSc ?_
    rotate_left
    · (intro W hSW; obtain ⟨s0, s1⟩ := hSW; go_simp; try rfl)
    try simp only [Act.put, List.setIfInBounds_toArray, List.set_cons_zero, List.set_cons_succ]
    refine held_take 12 ?_ rfl (by kernel_rfl) (by kernel_rfl) (by kernel_rfl) (fun _ _ _ h => h) (by rfl) ?_ hSc ?_
    rotate_left
    · (intro W hSW; obtain ⟨s0, s1⟩ := hSW; go_simp; try rfl)
    try simp only [Act.put, List.setIfInBounds_toArray, List.set_cons_zero, List.set_cons_succ]
    refine held_take 13 ?_ rfl (by kernel_rfl) (by kernel_rfl) (by kernel_rfl) (fun _ _ _ h => h) (by rfl) ?_ hSc ?_
    rotate_left
    · (intro W hSW; obtain ⟨s0, s1⟩ := hSW; go_simp; try rfl)
    try simp only [Act.put, List.setIfInBounds_toArray, List.set_cons_zero, List.set_cons_succ]
    refine held_take 14 ?_ rfl (by kernel_rfl) (by kernel_rfl) (by kernel_rfl) (fun _ _ _ h => h) (by rfl) ?_ hSc ?_
    rotate_left
    · (intro W hSW; obtain ⟨s0, s1⟩ := hSW; go_simp; try rfl)
    try simp only [Act.put, List.setIfInBounds_toArray, List.set_cons_zero, List.set_cons_succ]
    refine held_take 15 ?_ rfl (by kernel_rfl) (by kernel_rfl) (by kernel_rfl) (fun _ _ _ h => h) (by rfl) ?_ hSc ?_
    rotate_left
    · (intro W hSW; obtain ⟨s0, s1⟩ := hSW; go_simp; try rfl)
    try simp only [Act.put, List.setIfInBounds_toArray, List.set_cons_zero, List.set_cons_succ]
    try rw [hz3]
    refine held_next 0 rfl (by kernel_rfl) (by rfl) ?_
    go_simp
    refine ⟨_, fun W hW => hW, ⟨(World.cell?_alloc_lt wq _ _ hlt).trans hSc.1, (World.cell?_alloc_lt wq _ _ hlt).trans hSc.2⟩, ?_⟩
    try simp only [Act.put, List.setIfInBounds_toArray, List.set_cons_zero, List.set_cons_succ]
    refine held_next 16 rfl (by kernel_rfl) (by rfl) ?_
    refine wp_app _ _ _ _ rfl wq.heap.size Try.underlying30 info8 _ [] rfl (Ow.empty_ _ _ (Nat.le_refl _)) 0 hi _ ((l.drop p).take m) rfl (HCUT.out.alloc hhi _) (by simp <;> omega) (by simp) ?_
    intro v3 w3 o3 g3
    have g3' : wq.grownBy w3 none := grown_new (p := 0) (u := none) g3
    have s3 := hSc
    have k0 : w3.cell? ⟨g, 0, none⟩ = some (Value.slice A l.length c) := g3'.cell hSc.1 (by simp)
    have k1 : w3.cell? ⟨g, 1, none⟩ = some (Value.int .i64 ((p : Int) + m)) := g3'.cell hSc.2 (by simp)
    refine ⟨_, fun W hW => hW, ⟨k0, k1⟩, ?_⟩
    clear hSc s3
    have hSc : w3.cell? ⟨g, 0, none⟩ = some (Value.slice A l.length c) ∧ w3.cell? ⟨g, 1, none⟩ = some (Value.int .i64 ((p : Int) + m)) := ⟨k0, k1⟩
    clear k0 k1
    try simp only [Act.put, List.setIfInBounds_toArray, List.set_cons_zero, List.set_cons_succ]
    refine held_take 17 ?_ rfl (by kernel_rfl) (by kernel_rfl) (by kernel_rfl) (fun _ _ _ h => h) (by rfl) ?_ hSc ?_
    rotate_left
    · (intro W hSW; obtain ⟨s0, s1⟩ := hSW; go_simp; try rfl)
    try simp only [Act.put, List.setIfInBounds_toArray, List.set_cons_zero, List.set_cons_succ]
    refine wpAnyH_done (by kernel_rfl) ?_ _
    go_wp2
    go_ret
    exact ⟨_, rfl, (show Ow w3 w.heap.size _ _ from o3.more hsz), HR.out.grown g3' (by simp) (fun k e => by cases e), grown_none HG.out g3'⟩

theorem refBytes_any {hi g : Nat} {v : Value} {l : List UInt8} {p : Nat} {x : Bool} (n : Int) (w : World) (h : RR w hi g v l p x) :
    Calls Try.prog 35 #[.pointer (some ⟨g, 0, none⟩), .int .i64 n] w fun e w' => ∃ v', e = .returned v' ∧ Ow w' w.heap.size v' (rb l p x n).1 ∧ RR w' hi g v l (rb l p x n).2.1 (rb l p x n).2.2 ∧ w.grownBy w' (some g) := by
  have hle := h.le
  cases x with
  | true =>
    refine (refBytes_bad n w h).mono ?_
    rintro e w' ⟨rfl, hr, hg⟩
    exact ⟨_, rfl, Ow.nil_ _ _, hr, hg⟩
  | false =>
    by_cases h0 : n < 0
    · refine (refBytes_neg n w h h0).mono ?_
      rintro e w' ⟨rfl, hr, hg⟩
      have e1 : rb l p false n = ([], p, true) := by simp [rb, h0]
      rw [e1]
      exact ⟨_, rfl, Ow.nil_ _ _, hr, hg⟩
    · by_cases h1 : (l.length : Int) - p < n
      · refine (refBytes_more n w h (by omega) h1).mono ?_
        rintro e w' ⟨rfl, hr, hg⟩
        have e1 : rb l p false n = ([], p, true) := by simp [rb, h1]
        rw [e1]
        exact ⟨_, rfl, Ow.nil_ _ _, hr, hg⟩
      · obtain ⟨m, rfl⟩ := Int.eq_ofNat_of_zero_le (show 0 ≤ n by omega)
        have e1 : rb l p false (m : Int) = ((l.drop p).take m, p + m, false) := by
          unfold rb
          rw [if_neg (by simp), if_neg (by omega)]
          rfl
        rw [e1]
        exact refBytes_good m w h (by omega)
end Go.Proofs.Ytigngijpbchlaaa
