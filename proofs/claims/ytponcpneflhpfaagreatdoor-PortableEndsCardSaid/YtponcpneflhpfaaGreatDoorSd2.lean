/- Walks: an image that is read: a reader of its next bytes; numbers read one by one. -/
import Derived.Test.YtponcpneflhpfaaGreatDoorSd0
import Derived.Test.YtponcpneflhpfaaGreatDoorKcS
import Derived.Test.YtponcpneflhpfaaGreatDoorSa6
import Derived.Test.YtponcpneflhpfaaGreatDoorSb6
import Derived.Test.YtponcpneflhpfaaGreatDoorSc1
import Derived.BigQuiet
import Derived.Deep.QuietTactic
import Derived.Laws.EntriesVeiled
namespace Go.Proofs.YtponcpneflhpfaaGreatDoor
open Go.RowKit
set_option linter.unusedVariables false

/-- Block g is a writer: how many containers there are, whether some are told as runs, the bytes v, which are l, in a block of its own. -/
structure Wr (w : World) (base g n : Nat) (r : Bool) (v : Value) (l : List UInt8) : Prop where
  row : Row w g 156 #[.int .i64 n, .bool r, v]
  own : Gw e8 w base v l
  ge : base ≤ g
/-- Nothing has changed but the writer's block and its bytes; these lie where they did, or in a new block. -/
structure Ws (g : Nat) (w : World) (v : Value) (w' : World) (v' : Value) : Prop where
  off : Off (fun x => x = g ∨ v.ownBlock = some x) w w'
  own : v'.ownBlock = v.ownBlock ∨ ∃ q, v'.ownBlock = some q ∧ w.heap.size ≤ q
section
variable {w w' w'' : World} {base g n lo hi : Nat} {r : Bool} {v v' v'' : Value} {l m : List UInt8}
theorem Ws.refl (g : Nat) (w : World) (v : Value) : Ws g w v w v := ⟨⟨rfl, rfl, rfl, Nat.le_refl _, fun _ _ _ => rfl⟩, .inl rfl⟩
theorem Ws.trans (h : Ws g w v w' v') (k : Ws g w' v' w'' v'') : Ws g w v w'' v'' :=
  ⟨h.off.trans k.off (fun _ _ h => h) (fun x hx hm => by
    rcases hm with hm | hm
    · exact .inl hm
    · rcases h.own with e | ⟨q, e, hq⟩
      · exact .inr (by rw [← e]; exact hm)
      · rw [hm] at e
        injection e with e
        omega), by
    rcases k.own with e | ⟨q, e, hq⟩
    · rcases h.own with f | ⟨q, f, hq⟩
      · exact .inl (e.trans f)
      · exact .inr ⟨q, e.trans f, hq⟩
    · exact .inr ⟨q, e, Nat.le_trans h.off.size hq⟩⟩
theorem Ws.step (b : Below w.heap.size w w') (k : Ws g w' v w'' v'') (hg : g < w.heap.size) : Ws g w v w'' v'' :=
  ⟨(Off.of b).trans (M := fun x => x = g ∨ v.ownBlock = some x) k.off (fun _ _ h => h) (fun _ _ h => h), by
    rcases k.own with e | ⟨q, e, hq⟩
    · exact .inl e
    · exact .inr ⟨q, e, Nat.le_trans b.size hq⟩⟩
theorem Ws.then (h : Ws g w v w' v') (b : Below w'.heap.size w' w'') : Ws g w v w'' v' :=
  ⟨h.off.trans (M' := fun x => x = g ∨ v.ownBlock = some x) ((Off.of b).mono fun _ _ h => h) (fun _ _ h => h) (fun _ _ h => h), h.own⟩
theorem Wr.drew (h : Wr w base g n r v l) : Wr w.drew base g n r v l := ⟨h.row, h.own, h.ge⟩
theorem Ws.drew (h : Ws g w.drew v w' v') : Ws g w v w' v' := ⟨⟨h.off.os, h.off.tape, h.off.output, h.off.size, h.off.block⟩, h.own⟩
theorem Ws.size (h : Ws g w v w' v') : w.heap.size ≤ w'.heap.size := h.off.size
theorem Wr.lt (h : Wr w base g n r v l) : g < w.heap.size := h.row.lt
theorem Wr.ne (h : Wr w base g n r v l) : v.ownBlock ≠ some g := h.own.not_row h.row (by decide)
theorem Wr.step (h : Wr w base g n r v l) (b : Below w.heap.size w w') : Wr w' base g n r v l := ⟨h.row.below b h.row.lt, h.own.below b (Nat.le_refl _), h.ge⟩
theorem Wr.olt (h : Wr w base g n r v l) {x : Nat} (hx : v.ownBlock = some x) : base ≤ x ∧ x < w.heap.size := h.own.lt x hx
/-- What is older than the writer and its bytes is as it was. -/
theorem Ws.below (k : Ws g w v w' v') (h : Wr w base g n r v l) (hb : base ≤ w.heap.size) : Below base w w' :=
  k.off.below (fun x _ hm => by
    rcases hm with rfl | hm
    · exact h.ge
    · exact (h.olt hm).1) hb
/-- A slice that lies elsewhere is as it was. -/
theorem Ws.gs {α : Type} {e : Elem α} {L : List α} {u : Value} (k : Ws g w v w' v') (h : Gs e w lo hi u L) (hh : hi ≤ w.heap.size) (hg : g < lo) (ho : ∀ x, v.ownBlock = some x → x < lo) : Gs e w' lo hi u L :=
  h.keep fun p h1 h2 => World.cell?_of_block (k.off.block _ (Nat.lt_of_lt_of_le h2 hh) (by
    rintro (e | e)
    · omega
    · have := ho _ e; omega))
theorem Ws.gs2 {α : Type} {e : Elem2 α} {L : List α} {u : Value} (k : Ws g w v w' v') (h : Gs2 e w lo hi u L) (hh : hi ≤ w.heap.size) (hg : g < lo) (ho : ∀ x, v.ownBlock = some x → x < lo) : Gs2 e w' lo hi u L :=
  h.keep fun p h1 h2 => World.cell?_of_block (k.off.block _ (Nat.lt_of_lt_of_le h2 hh) (by
    rintro (e | e)
    · omega
    · have := ho _ e; omega))
end
theorem gw_slice {α : Type} {k : Elem α} {w : World} {base : Nat} {v : Value} {l : List α} (h : Gw k w base v l) : ∃ A n c, v = .slice A n c := by
  rcases h.2 with ⟨rfl, _⟩ | ⟨g, cap, cur, rfl, _⟩
  · exact ⟨_, _, _, rfl⟩
  · exact ⟨_, _, _, rfl⟩
/-- append at one operation, and which block the outcome lies in. -/
theorem wp_gapp3 {α : Type} (k : Elem α) {P : Program} (w : World) {o : Oper} {a : Act} {K : Act → World → Prop} {Q : Exit → Act → World → Prop} (s x : Operand) (t : TypeId)
    (ho : o.op = .call { callee := .builtin .append, args := #[s, x], argTypes := #[t, t] }) (base : Nat) (ht : P.underlying t = some (.slice k.E))
    (hinf : (P.info? k.E).map (fun i => (i.zero, i.size, i.bytes)) = some (some (k.val k.zero), 1, k.bytes))
    (v : Value) (l : List α) (hs : a.eval s = v) (hown : Gw k w base v l) (lo hi : Nat) (u : Value) (m : List α) (hx : a.eval x = u) (hu : Gs k w lo hi u m)
    (hb : l.length + m.length ≤ 1000000000) (hbase : base ≤ w.heap.size)
    (h : ∀ v' w', Gw k w' base v' (l ++ m) → w.grownBy w' v.ownBlock → (v'.ownBlock = v.ownBlock ∨ v'.ownBlock = some w.heap.size) → K (a.put o.dst v') w') : o.wp P a w K Q := by
  obtain ⟨v', w', hrun, h2, h3, h5⟩ := run_gapp k (P := P) w t o.type base ht hinf v l hown lo hi u m hu hb hbase
  unfold Oper.wp execOp
  simp only [ho, resolve, invoke, builtin, Sem.run_bind, Sem.run_pure, Result.andThen_ok, List.map_toArray, List.map_cons, List.map_nil, hs, hx, hrun]
  exact h v' w' h2 h3 h5
/-- What putting bytes behind a writer's has come to. -/
def Wo (w : World) (base g n : Nat) (r : Bool) (v : Value) (l : List UInt8) (e : Ending) (w' : World) : Prop :=
  e = .returned (.tuple #[]) ∧ ∃ v', Wr w' base g n r v' l ∧ Ws g w v w' v'
theorem wr_put {w w1 w2 : World} {base g n : Nat} {r : Bool} {v v2 : Value} {l m : List UInt8} (h : Wr w base g n r v l) (b1 : Below w.heap.size w w1) (o2 : Gw e8 w2 base v2 m) (g2 : w1.grownBy w2 v.ownBlock) (e2 : v2.ownBlock = v.ownBlock ∨ v2.ownBlock = some w1.heap.size) :
    Wr (w2.setCell ⟨g, 2, none⟩ v2) base g n r v2 m ∧ Ws g w v (w2.setCell ⟨g, 2, none⟩ v2) v2 := by
  have r1 := h.row.below b1 h.row.lt
  have r2 := r1.grown g2 h.ne
  have r3 := r2.set_ 2 v2
  have n2 : v2.ownBlock ≠ some g := by
    rcases e2 with e | e
    · rw [e]; exact h.ne
    · rw [e]; intro e; injection e with e; have := r1.lt; omega
  have o3 : Gw e8 (w2.setCell ⟨g, 2, none⟩ v2) base v2 m := o2.kept (grown_set w2 g 2 v2) fun k hk e => by injection e with e; subst e; exact n2 hk
  refine ⟨⟨r3, o3, h.ge⟩, ⟨?_, ?_⟩⟩
  · have f1 : Off (fun x => x = g ∨ v.ownBlock = some x) w1 w2 := ⟨g2.os, g2.tape, g2.output, g2.size, fun x hx hm => g2.block x hx fun e => hm (.inr e.symm)⟩
    have f2 : Off (fun x => x = g ∨ v.ownBlock = some x) w2 (w2.setCell ⟨g, 2, none⟩ v2) := Off.grown (grown_set w2 g 2 v2) fun _ => .inl rfl
    exact ((Off.of b1).trans (M := fun x => x = g ∨ v.ownBlock = some x) f1 (fun _ _ h => h) (fun _ _ h => h)).trans f2 (fun _ _ h => h) (fun _ _ h => h)
  · rcases e2 with e | e
    · exact .inl e
    · exact .inr ⟨_, e, b1.size⟩
set_option maxHeartbeats 4000000 in
theorem wu16_c {base g n : Nat} {r : Bool} {v : Value} {l : List UInt8} (N : Nat) (w : World) (h : Wr w base g n r v l) (hN : N < 65536) (hb : l.length ≤ 50000000) :
    Calls Tryz.prog 187 #[.pointer (some ⟨g, 0, none⟩), .int .u16 N] w (Wo w base g n r v (l ++ le 2 N)) := by
  have c2 : w.cell? ⟨g, 2, none⟩ = some v := by rw [h.row.cell]; rfl
  have f2 : w.frozen? ⟨g, 2, none⟩ = false := h.row.frozen 2
  have H := Lib.hid h.drew
  have HN := Lib.hid hN
  obtain ⟨A, c, rfl, -⟩ := h.own.sl
  clear h hN
  go_enter Tryz.func187, Tryz.ntmps187
  go_wp2_with fail
  have hSc := (show w.heap.size ≤ w.drew.heap.size from Nat.le_refl _)
  refine wp_region_held_drew (S := fun W => w.heap.size ≤ W.heap.size) (by kernel_rfl) hSc (fun _ => ?_)
  refine held_take 0 ?_ rfl (by kernel_rfl) (by kernel_rfl) (by kernel_rfl) (fun _ _ _ h => h) (by rfl) ?_ hSc ?_
  rotate_left
  · (intro W hSW; go_simp; try rfl)
  try simp only [Act.put, List.setIfInBounds_toArray, List.set_cons_zero, List.set_cons_succ]
  refine held_take 1 ?_ rfl (by kernel_rfl) (by kernel_rfl) (by kernel_rfl) (fun _ _ _ h => h) (by rfl) ?_ hSc ?_
  rotate_left
  · (intro W hSW; go_simp; try rfl)
  try simp only [Act.put, List.setIfInBounds_toArray, List.set_cons_zero, List.set_cons_succ]
  refine held_take 2 ?_ rfl (by kernel_rfl) (by kernel_rfl) (by kernel_rfl) (fun _ _ _ h => h) (by rfl) ?_ hSc ?_
  rotate_left
  · (intro W hSW; go_simp; try rfl)
  try simp only [Act.put, List.setIfInBounds_toArray, List.set_cons_zero, List.set_cons_succ]
  refine held_take 3 ?_ rfl (by kernel_rfl) (by kernel_rfl) (by kernel_rfl) (fun _ _ _ h => h) (by rfl) ?_ hSc ?_
  rotate_left
  · (intro W hSW; go_simp; try rfl)
  try simp only [Act.put, List.setIfInBounds_toArray, List.set_cons_zero, List.set_cons_succ]
  refine held_take 5 ?_ rfl (by kernel_rfl) (by kernel_rfl) (by kernel_rfl) (fun _ _ _ h => h) (by rfl) ?_ hSc ?_
  rotate_left
  · (intro W hSW; go_simp; try rfl)
  try simp only [Act.put, List.setIfInBounds_toArray, List.set_cons_zero, List.set_cons_succ]
  refine held_two 4 6 rfl rfl (by kernel_rfl) (by rfl) (by rfl) ?_ ?_
  · go_simp
    refine ⟨fun W => w.heap.size ≤ W.heap.size, fun W hW => hW, hSc, ?_⟩
    try simp only [Act.put, List.setIfInBounds_toArray, List.set_cons_zero, List.set_cons_succ]
    refine held_next 6 rfl (by kernel_rfl) (by rfl) ?_
    go_simp
    refine (appendU16_any (.slice none 0 0) [] 0 N _ (Gs.nil_ _ _ _) HN.out (by simp)).mono ?_
    rintro e w1 ⟨v1, rfl, o1, b1⟩
    have R1 := H.out.row.below b1 H.out.row.lt
    have c2 : w1.cell? ⟨g, 2, none⟩ = some (.slice A l.length c) := (by rw [R1.cell]; rfl)
    have f2 : w1.frozen? ⟨g, 2, none⟩ = false := R1.frozen 2
    have O1 := Lib.hid o1
    have B1 := Lib.hid b1
    clear o1 b1 R1
    have hSd := (show w.heap.size ≤ w1.heap.size from B1.out.size)
    refine ⟨fun W => w.heap.size ≤ W.heap.size, fun W hW => hW, hSd, ?_⟩
    clear hSc 
    have hSc := hSd
    clear hSd
    try simp only [Act.put, List.setIfInBounds_toArray, List.set_cons_zero, List.set_cons_succ]
    refine held_next 7 rfl (by kernel_rfl) (by rfl) ?_
    refine wp_gapp3 e8 _ _ _ _ rfl base sli8 inf8 _ l rfl (H.out.own.below B1.out (Nat.le_refl _)) _ _ _ (le 2 N) rfl O1.out.sl ?_ ?_ ?_
    · (rw [le_length]; omega)
    · (have := H.out.lt; have := H.out.ge; have := B1.out.size; exact Nat.le_trans (Nat.le_of_lt (Nat.lt_of_le_of_lt (H.out.ge) H.out.lt)) B1.out.size)
    intro v2 w2 o2 g2 e2
    obtain ⟨A2, n2, d2, rfl⟩ := gw_slice o2
    have HP := Lib.hid (wr_put H.out B1.out o2 g2 e2)
    have hs2 := Nat.le_trans B1.out.size g2.size
    have R2 := (H.out.row.below B1.out H.out.row.lt).grown g2 H.out.ne
    have f2 : w2.frozen? ⟨g, 2, none⟩ = false := R2.frozen 2
    have c2 : w2.cell? ⟨g, 2, none⟩ = some (.slice A l.length c) := (by rw [R2.cell]; rfl)
    clear o2 g2 e2 R2
    have hSd := (show w.heap.size ≤ w2.heap.size from hs2)
    refine ⟨fun W => w.heap.size ≤ W.heap.size, fun W hW => hW, hSd, ?_⟩
    clear hSc hs2
    have hSc := hSd
    clear hSd
    try simp only [Act.put, List.setIfInBounds_toArray, List.set_cons_zero, List.set_cons_succ]
    refine held_take 8 ?_ rfl (by kernel_rfl) (by kernel_rfl) (by kernel_rfl) (fun _ _ _ h => h) (by rfl) ?_ hSc ?_
    rotate_left
    · (intro W hSW; go_simp; try rfl)
    try simp only [Act.put, List.setIfInBounds_toArray, List.set_cons_zero, List.set_cons_succ]
    refine held_take 9 ?_ rfl (by kernel_rfl) (by kernel_rfl) (by kernel_rfl) (fun _ _ _ h => h) (by rfl) ?_ hSc ?_
    rotate_left
    · (intro W hSW; go_simp; try rfl)
    try simp only [Act.put, List.setIfInBounds_toArray, List.set_cons_zero, List.set_cons_succ]
    refine held_next 10 rfl (by kernel_rfl) (by rfl) ?_
    go_simp
    refine ⟨fun W => w.heap.size ≤ W.heap.size, fun W hW => hW, (by simpa [World.setCell] using hSc), ?_⟩
    refine wpAnyH_done (by kernel_rfl) ?_ _
    go_wp2
    go_end0
    exact ⟨rfl, _, HP.out.1, HP.out.2.drew⟩
  · go_simp
    refine (appendU16_any (.slice none 0 0) [] 0 N _ (Gs.nil_ _ _ _) HN.out (by simp)).mono ?_
    rintro e w1 ⟨v1, rfl, o1, b1⟩
    have R1 := H.out.row.below b1 H.out.row.lt
    have c2 : w1.cell? ⟨g, 2, none⟩ = some (.slice A l.length c) := (by rw [R1.cell]; rfl)
    have f2 : w1.frozen? ⟨g, 2, none⟩ = false := R1.frozen 2
    have O1 := Lib.hid o1
    have B1 := Lib.hid b1
    clear o1 b1 R1
    have hSd := (show w.heap.size ≤ w1.heap.size from B1.out.size)
    refine ⟨fun W => w.heap.size ≤ W.heap.size, fun W hW => hW, hSd, ?_⟩
    clear hSc 
    have hSc := hSd
    clear hSd
    try simp only [Act.put, List.setIfInBounds_toArray, List.set_cons_zero, List.set_cons_succ]
    refine held_next 4 rfl (by kernel_rfl) (by rfl) ?_
    go_simp
    refine ⟨fun W => w.heap.size ≤ W.heap.size, fun W hW => hW, hSc, ?_⟩
    try simp only [Act.put, List.setIfInBounds_toArray, List.set_cons_zero, List.set_cons_succ]
    refine held_next 7 rfl (by kernel_rfl) (by rfl) ?_
    refine wp_gapp3 e8 _ _ _ _ rfl base sli8 inf8 _ l rfl (H.out.own.below B1.out (Nat.le_refl _)) _ _ _ (le 2 N) rfl O1.out.sl ?_ ?_ ?_
    · (rw [le_length]; omega)
    · (have := H.out.lt; have := H.out.ge; have := B1.out.size; exact Nat.le_trans (Nat.le_of_lt (Nat.lt_of_le_of_lt (H.out.ge) H.out.lt)) B1.out.size)
    intro v2 w2 o2 g2 e2
    obtain ⟨A2, n2, d2, rfl⟩ := gw_slice o2
    have HP := Lib.hid (wr_put H.out B1.out o2 g2 e2)
    have hs2 := Nat.le_trans B1.out.size g2.size
    have R2 := (H.out.row.below B1.out H.out.row.lt).grown g2 H.out.ne
    have f2 : w2.frozen? ⟨g, 2, none⟩ = false := R2.frozen 2
    have c2 : w2.cell? ⟨g, 2, none⟩ = some (.slice A l.length c) := (by rw [R2.cell]; rfl)
    clear o2 g2 e2 R2
    have hSd := (show w.heap.size ≤ w2.heap.size from hs2)
    refine ⟨fun W => w.heap.size ≤ W.heap.size, fun W hW => hW, hSd, ?_⟩
    clear hSc hs2
    have hSc := hSd
    clear hSd
    try simp only [Act.put, List.setIfInBounds_toArray, List.set_cons_zero, List.set_cons_succ]
    refine held_take 8 ?_ rfl (by kernel_rfl) (by kernel_rfl) (by kernel_rfl) (fun _ _ _ h => h) (by rfl) ?_ hSc ?_
    rotate_left
    · (intro W hSW; go_simp; try rfl)
    try simp only [Act.put, List.setIfInBounds_toArray, List.set_cons_zero, List.set_cons_succ]
    refine held_take 9 ?_ rfl (by kernel_rfl) (by kernel_rfl) (by kernel_rfl) (fun _ _ _ h => h) (by rfl) ?_ hSc ?_
    rotate_left
    · (intro W hSW; go_simp; try rfl)
    try simp only [Act.put, List.setIfInBounds_toArray, List.set_cons_zero, List.set_cons_succ]
    refine held_next 10 rfl (by kernel_rfl) (by rfl) ?_
    go_simp
    refine ⟨fun W => w.heap.size ≤ W.heap.size, fun W hW => hW, (by simpa [World.setCell] using hSc), ?_⟩
    refine wpAnyH_done (by kernel_rfl) ?_ _
    go_wp2
    go_end0
    exact ⟨rfl, _, HP.out.1, HP.out.2.drew⟩
set_option maxHeartbeats 4000000 in
theorem wu32_c {base g n : Nat} {r : Bool} {v : Value} {l : List UInt8} (N : Nat) (w : World) (h : Wr w base g n r v l) (hN : N < 4294967296) (hb : l.length ≤ 50000000) :
    Calls Tryz.prog 186 #[.pointer (some ⟨g, 0, none⟩), .int .u32 N] w (Wo w base g n r v (l ++ le 4 N)) := by
  have c2 : w.cell? ⟨g, 2, none⟩ = some v := by rw [h.row.cell]; rfl
  have f2 : w.frozen? ⟨g, 2, none⟩ = false := h.row.frozen 2
  have H := Lib.hid h.drew
  have HN := Lib.hid hN
  obtain ⟨A, c, rfl, -⟩ := h.own.sl
  clear h hN
  go_enter Tryz.func186, Tryz.ntmps186
  go_wp2_with fail
  have hSc := (show w.heap.size ≤ w.drew.heap.size from Nat.le_refl _)
  refine wp_region_held_drew (S := fun W => w.heap.size ≤ W.heap.size) (by kernel_rfl) hSc (fun _ => ?_)
  refine held_take 0 ?_ rfl (by kernel_rfl) (by kernel_rfl) (by kernel_rfl) (fun _ _ _ h => h) (by rfl) ?_ hSc ?_
  rotate_left
  · (intro W hSW; go_simp; try rfl)
  try simp only [Act.put, List.setIfInBounds_toArray, List.set_cons_zero, List.set_cons_succ]
  refine held_take 1 ?_ rfl (by kernel_rfl) (by kernel_rfl) (by kernel_rfl) (fun _ _ _ h => h) (by rfl) ?_ hSc ?_
  rotate_left
  · (intro W hSW; go_simp; try rfl)
  try simp only [Act.put, List.setIfInBounds_toArray, List.set_cons_zero, List.set_cons_succ]
  refine held_take 2 ?_ rfl (by kernel_rfl) (by kernel_rfl) (by kernel_rfl) (fun _ _ _ h => h) (by rfl) ?_ hSc ?_
  rotate_left
  · (intro W hSW; go_simp; try rfl)
  try simp only [Act.put, List.setIfInBounds_toArray, List.set_cons_zero, List.set_cons_succ]
  refine held_take 3 ?_ rfl (by kernel_rfl) (by kernel_rfl) (by kernel_rfl) (fun _ _ _ h => h) (by rfl) ?_ hSc ?_
  rotate_left
  · (intro W hSW; go_simp; try rfl)
  try simp only [Act.put, List.setIfInBounds_toArray, List.set_cons_zero, List.set_cons_succ]
  refine held_take 5 ?_ rfl (by kernel_rfl) (by kernel_rfl) (by kernel_rfl) (fun _ _ _ h => h) (by rfl) ?_ hSc ?_
  rotate_left
  · (intro W hSW; go_simp; try rfl)
  try simp only [Act.put, List.setIfInBounds_toArray, List.set_cons_zero, List.set_cons_succ]
  refine held_two 4 6 rfl rfl (by kernel_rfl) (by rfl) (by rfl) ?_ ?_
  · go_simp
    refine ⟨fun W => w.heap.size ≤ W.heap.size, fun W hW => hW, hSc, ?_⟩
    try simp only [Act.put, List.setIfInBounds_toArray, List.set_cons_zero, List.set_cons_succ]
    refine held_next 6 rfl (by kernel_rfl) (by rfl) ?_
    go_simp
    refine (appendU32_any (.slice none 0 0) [] 0 N _ (Gs.nil_ _ _ _) HN.out (by simp)).mono ?_
    rintro e w1 ⟨v1, rfl, o1, b1⟩
    have R1 := H.out.row.below b1 H.out.row.lt
    have c2 : w1.cell? ⟨g, 2, none⟩ = some (.slice A l.length c) := (by rw [R1.cell]; rfl)
    have f2 : w1.frozen? ⟨g, 2, none⟩ = false := R1.frozen 2
    have O1 := Lib.hid o1
    have B1 := Lib.hid b1
    clear o1 b1 R1
    have hSd := (show w.heap.size ≤ w1.heap.size from B1.out.size)
    refine ⟨fun W => w.heap.size ≤ W.heap.size, fun W hW => hW, hSd, ?_⟩
    clear hSc 
    have hSc := hSd
    clear hSd
    try simp only [Act.put, List.setIfInBounds_toArray, List.set_cons_zero, List.set_cons_succ]
    refine held_next 7 rfl (by kernel_rfl) (by rfl) ?_
    refine wp_gapp3 e8 _ _ _ _ rfl base sli8 inf8 _ l rfl (H.out.own.below B1.out (Nat.le_refl _)) _ _ _ (le 4 N) rfl O1.out.sl ?_ ?_ ?_
    · (rw [le_length]; omega)
    · (have := H.out.lt; have := H.out.ge; have := B1.out.size; exact Nat.le_trans (Nat.le_of_lt (Nat.lt_of_le_of_lt (H.out.ge) H.out.lt)) B1.out.size)
    intro v2 w2 o2 g2 e2
    obtain ⟨A2, n2, d2, rfl⟩ := gw_slice o2
    have HP := Lib.hid (wr_put H.out B1.out o2 g2 e2)
    have hs2 := Nat.le_trans B1.out.size g2.size
    have R2 := (H.out.row.below B1.out H.out.row.lt).grown g2 H.out.ne
    have f2 : w2.frozen? ⟨g, 2, none⟩ = false := R2.frozen 2
    have c2 : w2.cell? ⟨g, 2, none⟩ = some (.slice A l.length c) := (by rw [R2.cell]; rfl)
    clear o2 g2 e2 R2
    have hSd := (show w.heap.size ≤ w2.heap.size from hs2)
    refine ⟨fun W => w.heap.size ≤ W.heap.size, fun W hW => hW, hSd, ?_⟩
    clear hSc hs2
    have hSc := hSd
    clear hSd
    try simp only [Act.put, List.setIfInBounds_toArray, List.set_cons_zero, List.set_cons_succ]
    refine held_take 8 ?_ rfl (by kernel_rfl) (by kernel_rfl) (by kernel_rfl) (fun _ _ _ h => h) (by rfl) ?_ hSc ?_
    rotate_left
    · (intro W hSW; go_simp; try rfl)
    try simp only [Act.put, List.setIfInBounds_toArray, List.set_cons_zero, List.set_cons_succ]
    refine held_take 9 ?_ rfl (by kernel_rfl) (by kernel_rfl) (by kernel_rfl) (fun _ _ _ h => h) (by rfl) ?_ hSc ?_
    rotate_left
    · (intro W hSW; go_simp; try rfl)
    try simp only [Act.put, List.setIfInBounds_toArray, List.set_cons_zero, List.set_cons_succ]
    refine held_next 10 rfl (by kernel_rfl) (by rfl) ?_
    go_simp
    refine ⟨fun W => w.heap.size ≤ W.heap.size, fun W hW => hW, (by simpa [World.setCell] using hSc), ?_⟩
    refine wpAnyH_done (by kernel_rfl) ?_ _
    go_wp2
    go_end0
    exact ⟨rfl, _, HP.out.1, HP.out.2.drew⟩
  · go_simp
    refine (appendU32_any (.slice none 0 0) [] 0 N _ (Gs.nil_ _ _ _) HN.out (by simp)).mono ?_
    rintro e w1 ⟨v1, rfl, o1, b1⟩
    have R1 := H.out.row.below b1 H.out.row.lt
    have c2 : w1.cell? ⟨g, 2, none⟩ = some (.slice A l.length c) := (by rw [R1.cell]; rfl)
    have f2 : w1.frozen? ⟨g, 2, none⟩ = false := R1.frozen 2
    have O1 := Lib.hid o1
    have B1 := Lib.hid b1
    clear o1 b1 R1
    have hSd := (show w.heap.size ≤ w1.heap.size from B1.out.size)
    refine ⟨fun W => w.heap.size ≤ W.heap.size, fun W hW => hW, hSd, ?_⟩
    clear hSc 
    have hSc := hSd
    clear hSd
    try simp only [Act.put, List.setIfInBounds_toArray, List.set_cons_zero, List.set_cons_succ]
    refine held_next 4 rfl (by kernel_rfl) (by rfl) ?_
    go_simp
    refine ⟨fun W => w.heap.size ≤ W.heap.size, fun W hW => hW, hSc, ?_⟩
    try simp only [Act.put, List.setIfInBounds_toArray, List.set_cons_zero, List.set_cons_succ]
    refine held_next 7 rfl (by kernel_rfl) (by rfl) ?_
    refine wp_gapp3 e8 _ _ _ _ rfl base sli8 inf8 _ l rfl (H.out.own.below B1.out (Nat.le_refl _)) _ _ _ (le 4 N) rfl O1.out.sl ?_ ?_ ?_
    · (rw [le_length]; omega)
    · (have := H.out.lt; have := H.out.ge; have := B1.out.size; exact Nat.le_trans (Nat.le_of_lt (Nat.lt_of_le_of_lt (H.out.ge) H.out.lt)) B1.out.size)
    intro v2 w2 o2 g2 e2
    obtain ⟨A2, n2, d2, rfl⟩ := gw_slice o2
    have HP := Lib.hid (wr_put H.out B1.out o2 g2 e2)
    have hs2 := Nat.le_trans B1.out.size g2.size
    have R2 := (H.out.row.below B1.out H.out.row.lt).grown g2 H.out.ne
    have f2 : w2.frozen? ⟨g, 2, none⟩ = false := R2.frozen 2
    have c2 : w2.cell? ⟨g, 2, none⟩ = some (.slice A l.length c) := (by rw [R2.cell]; rfl)
    clear o2 g2 e2 R2
    have hSd := (show w.heap.size ≤ w2.heap.size from hs2)
    refine ⟨fun W => w.heap.size ≤ W.heap.size, fun W hW => hW, hSd, ?_⟩
    clear hSc hs2
    have hSc := hSd
    clear hSd
    try simp only [Act.put, List.setIfInBounds_toArray, List.set_cons_zero, List.set_cons_succ]
    refine held_take 8 ?_ rfl (by kernel_rfl) (by kernel_rfl) (by kernel_rfl) (fun _ _ _ h => h) (by rfl) ?_ hSc ?_
    rotate_left
    · (intro W hSW; go_simp; try rfl)
    try simp only [Act.put, List.setIfInBounds_toArray, List.set_cons_zero, List.set_cons_succ]
    refine held_take 9 ?_ rfl (by kernel_rfl) (by kernel_rfl) (by kernel_rfl) (fun _ _ _ h => h) (by rfl) ?_ hSc ?_
    rotate_left
    · (intro W hSW; go_simp; try rfl)
    try simp only [Act.put, List.setIfInBounds_toArray, List.set_cons_zero, List.set_cons_succ]
    refine held_next 10 rfl (by kernel_rfl) (by rfl) ?_
    go_simp
    refine ⟨fun W => w.heap.size ≤ W.heap.size, fun W hW => hW, (by simpa [World.setCell] using hSc), ?_⟩
    refine wpAnyH_done (by kernel_rfl) ?_ _
    go_wp2
    go_end0
    exact ⟨rfl, _, HP.out.1, HP.out.2.drew⟩
set_option maxHeartbeats 4000000 in
theorem wu64_c {base g n : Nat} {r : Bool} {v : Value} {l : List UInt8} (N : Nat) (w : World) (h : Wr w base g n r v l) (hN : N < 18446744073709551616) (hb : l.length ≤ 50000000) :
    Calls Tryz.prog 249 #[.pointer (some ⟨g, 0, none⟩), .int .u64 N] w (Wo w base g n r v (l ++ le 8 N)) := by
  have c2 : w.cell? ⟨g, 2, none⟩ = some v := by rw [h.row.cell]; rfl
  have f2 : w.frozen? ⟨g, 2, none⟩ = false := h.row.frozen 2
  have H := Lib.hid h.drew
  have HN := Lib.hid hN
  obtain ⟨A, c, rfl, -⟩ := h.own.sl
  clear h hN
  go_enter Tryz.func249, Tryz.ntmps249
  go_wp2_with fail
  have hSc := (show w.heap.size ≤ w.drew.heap.size from Nat.le_refl _)
  refine wp_region_held_drew (S := fun W => w.heap.size ≤ W.heap.size) (by kernel_rfl) hSc (fun _ => ?_)
  refine held_take 0 ?_ rfl (by kernel_rfl) (by kernel_rfl) (by kernel_rfl) (fun _ _ _ h => h) (by rfl) ?_ hSc ?_
  rotate_left
  · (intro W hSW; go_simp; try rfl)
  try simp only [Act.put, List.setIfInBounds_toArray, List.set_cons_zero, List.set_cons_succ]
  refine held_take 1 ?_ rfl (by kernel_rfl) (by kernel_rfl) (by kernel_rfl) (fun _ _ _ h => h) (by rfl) ?_ hSc ?_
  rotate_left
  · (intro W hSW; go_simp; try rfl)
  try simp only [Act.put, List.setIfInBounds_toArray, List.set_cons_zero, List.set_cons_succ]
  refine held_take 2 ?_ rfl (by kernel_rfl) (by kernel_rfl) (by kernel_rfl) (fun _ _ _ h => h) (by rfl) ?_ hSc ?_
  rotate_left
  · (intro W hSW; go_simp; try rfl)
  try simp only [Act.put, List.setIfInBounds_toArray, List.set_cons_zero, List.set_cons_succ]
  refine held_take 3 ?_ rfl (by kernel_rfl) (by kernel_rfl) (by kernel_rfl) (fun _ _ _ h => h) (by rfl) ?_ hSc ?_
  rotate_left
  · (intro W hSW; go_simp; try rfl)
  try simp only [Act.put, List.setIfInBounds_toArray, List.set_cons_zero, List.set_cons_succ]
  refine held_take 5 ?_ rfl (by kernel_rfl) (by kernel_rfl) (by kernel_rfl) (fun _ _ _ h => h) (by rfl) ?_ hSc ?_
  rotate_left
  · (intro W hSW; go_simp; try rfl)
  try simp only [Act.put, List.setIfInBounds_toArray, List.set_cons_zero, List.set_cons_succ]
  refine held_two 4 6 rfl rfl (by kernel_rfl) (by rfl) (by rfl) ?_ ?_
  · go_simp
    refine ⟨fun W => w.heap.size ≤ W.heap.size, fun W hW => hW, hSc, ?_⟩
    try simp only [Act.put, List.setIfInBounds_toArray, List.set_cons_zero, List.set_cons_succ]
    refine held_next 6 rfl (by kernel_rfl) (by rfl) ?_
    go_simp
    refine (appendU64_any (.slice none 0 0) [] 0 N _ (Gs.nil_ _ _ _) HN.out (by simp)).mono ?_
    rintro e w1 ⟨v1, rfl, o1, b1⟩
    have R1 := H.out.row.below b1 H.out.row.lt
    have c2 : w1.cell? ⟨g, 2, none⟩ = some (.slice A l.length c) := (by rw [R1.cell]; rfl)
    have f2 : w1.frozen? ⟨g, 2, none⟩ = false := R1.frozen 2
    have O1 := Lib.hid o1
    have B1 := Lib.hid b1
    clear o1 b1 R1
    have hSd := (show w.heap.size ≤ w1.heap.size from B1.out.size)
    refine ⟨fun W => w.heap.size ≤ W.heap.size, fun W hW => hW, hSd, ?_⟩
    clear hSc 
    have hSc := hSd
    clear hSd
    try simp only [Act.put, List.setIfInBounds_toArray, List.set_cons_zero, List.set_cons_succ]
    refine held_next 7 rfl (by kernel_rfl) (by rfl) ?_
    refine wp_gapp3 e8 _ _ _ _ rfl base sli8 inf8 _ l rfl (H.out.own.below B1.out (Nat.le_refl _)) _ _ _ (le 8 N) rfl O1.out.sl ?_ ?_ ?_
    · (rw [le_length]; omega)
    · (have := H.out.lt; have := H.out.ge; have := B1.out.size; exact Nat.le_trans (Nat.le_of_lt (Nat.lt_of_le_of_lt (H.out.ge) H.out.lt)) B1.out.size)
    intro v2 w2 o2 g2 e2
    obtain ⟨A2, n2, d2, rfl⟩ := gw_slice o2
    have HP := Lib.hid (wr_put H.out B1.out o2 g2 e2)
    have hs2 := Nat.le_trans B1.out.size g2.size
    have R2 := (H.out.row.below B1.out H.out.row.lt).grown g2 H.out.ne
    have f2 : w2.frozen? ⟨g, 2, none⟩ = false := R2.frozen 2
    have c2 : w2.cell? ⟨g, 2, none⟩ = some (.slice A l.length c) := (by rw [R2.cell]; rfl)
    clear o2 g2 e2 R2
    have hSd := (show w.heap.size ≤ w2.heap.size from hs2)
    refine ⟨fun W => w.heap.size ≤ W.heap.size, fun W hW => hW, hSd, ?_⟩
    clear hSc hs2
    have hSc := hSd
    clear hSd
    try simp only [Act.put, List.setIfInBounds_toArray, List.set_cons_zero, List.set_cons_succ]
    refine held_take 8 ?_ rfl (by kernel_rfl) (by kernel_rfl) (by kernel_rfl) (fun _ _ _ h => h) (by rfl) ?_ hSc ?_
    rotate_left
    · (intro W hSW; go_simp; try rfl)
    try simp only [Act.put, List.setIfInBounds_toArray, List.set_cons_zero, List.set_cons_succ]
    refine held_take 9 ?_ rfl (by kernel_rfl) (by kernel_rfl) (by kernel_rfl) (fun _ _ _ h => h) (by rfl) ?_ hSc ?_
    rotate_left
    · (intro W hSW; go_simp; try rfl)
    try simp only [Act.put, List.setIfInBounds_toArray, List.set_cons_zero, List.set_cons_succ]
    refine held_next 10 rfl (by kernel_rfl) (by rfl) ?_
    go_simp
    refine ⟨fun W => w.heap.size ≤ W.heap.size, fun W hW => hW, (by simpa [World.setCell] using hSc), ?_⟩
    refine wpAnyH_done (by kernel_rfl) ?_ _
    go_wp2
    go_end0
    exact ⟨rfl, _, HP.out.1, HP.out.2.drew⟩
  · go_simp
    refine (appendU64_any (.slice none 0 0) [] 0 N _ (Gs.nil_ _ _ _) HN.out (by simp)).mono ?_
    rintro e w1 ⟨v1, rfl, o1, b1⟩
    have R1 := H.out.row.below b1 H.out.row.lt
    have c2 : w1.cell? ⟨g, 2, none⟩ = some (.slice A l.length c) := (by rw [R1.cell]; rfl)
    have f2 : w1.frozen? ⟨g, 2, none⟩ = false := R1.frozen 2
    have O1 := Lib.hid o1
    have B1 := Lib.hid b1
    clear o1 b1 R1
    have hSd := (show w.heap.size ≤ w1.heap.size from B1.out.size)
    refine ⟨fun W => w.heap.size ≤ W.heap.size, fun W hW => hW, hSd, ?_⟩
    clear hSc 
    have hSc := hSd
    clear hSd
    try simp only [Act.put, List.setIfInBounds_toArray, List.set_cons_zero, List.set_cons_succ]
    refine held_next 4 rfl (by kernel_rfl) (by rfl) ?_
    go_simp
    refine ⟨fun W => w.heap.size ≤ W.heap.size, fun W hW => hW, hSc, ?_⟩
    try simp only [Act.put, List.setIfInBounds_toArray, List.set_cons_zero, List.set_cons_succ]
    refine held_next 7 rfl (by kernel_rfl) (by rfl) ?_
    refine wp_gapp3 e8 _ _ _ _ rfl base sli8 inf8 _ l rfl (H.out.own.below B1.out (Nat.le_refl _)) _ _ _ (le 8 N) rfl O1.out.sl ?_ ?_ ?_
    · (rw [le_length]; omega)
    · (have := H.out.lt; have := H.out.ge; have := B1.out.size; exact Nat.le_trans (Nat.le_of_lt (Nat.lt_of_le_of_lt (H.out.ge) H.out.lt)) B1.out.size)
    intro v2 w2 o2 g2 e2
    obtain ⟨A2, n2, d2, rfl⟩ := gw_slice o2
    have HP := Lib.hid (wr_put H.out B1.out o2 g2 e2)
    have hs2 := Nat.le_trans B1.out.size g2.size
    have R2 := (H.out.row.below B1.out H.out.row.lt).grown g2 H.out.ne
    have f2 : w2.frozen? ⟨g, 2, none⟩ = false := R2.frozen 2
    have c2 : w2.cell? ⟨g, 2, none⟩ = some (.slice A l.length c) := (by rw [R2.cell]; rfl)
    clear o2 g2 e2 R2
    have hSd := (show w.heap.size ≤ w2.heap.size from hs2)
    refine ⟨fun W => w.heap.size ≤ W.heap.size, fun W hW => hW, hSd, ?_⟩
    clear hSc hs2
    have hSc := hSd
    clear hSd
    try simp only [Act.put, List.setIfInBounds_toArray, List.set_cons_zero, List.set_cons_succ]
    refine held_take 8 ?_ rfl (by kernel_rfl) (by kernel_rfl) (by kernel_rfl) (fun _ _ _ h => h) (by rfl) ?_ hSc ?_
    rotate_left
    · (intro W hSW; go_simp; try rfl)
    try simp only [Act.put, List.setIfInBounds_toArray, List.set_cons_zero, List.set_cons_succ]
    refine held_take 9 ?_ rfl (by kernel_rfl) (by kernel_rfl) (by kernel_rfl) (fun _ _ _ h => h) (by rfl) ?_ hSc ?_
    rotate_left
    · (intro W hSW; go_simp; try rfl)
    try simp only [Act.put, List.setIfInBounds_toArray, List.set_cons_zero, List.set_cons_succ]
    refine held_next 10 rfl (by kernel_rfl) (by rfl) ?_
    go_simp
    refine ⟨fun W => w.heap.size ≤ W.heap.size, fun W hW => hW, (by simpa [World.setCell] using hSc), ?_⟩
    refine wpAnyH_done (by kernel_rfl) ?_ _
    go_wp2
    go_end0
    exact ⟨rfl, _, HP.out.1, HP.out.2.drew⟩
end Go.Proofs.YtponcpneflhpfaaGreatDoor
namespace Go.Proofs.YtponcpneflhpfaaGreatDoor
open Go.RowKit
set_option linter.unusedVariables false

set_option maxHeartbeats 2000000 in
theorem next_no {g q n : Nat} {r : Bool} {A : Option Addr} {c : Nat} {vf vk vc vo : Value} {l : List UInt8} (s : Nat) (w : World) (h : Row w g 169 #[.slice A l.length c, .int .i64 q, .int .i64 n, .bool r, vf, vk, vc, vo]) (hq : q ≤ l.length) (hs : l.length < q + s) (hl : l.length ≤ 10000000) :
    Calls Tryz.prog 250 #[.pointer (some ⟨g, 0, none⟩), .int .i64 s] w fun e w' => e = .returned (.tuple #[.pointer none, .bool false]) ∧ Below w.heap.size w w' := by
  have c0 := h.cell 0
  have c1 := h.cell 1
  have hs' : (l.length : Int) - q < s := by omega
  have g1 : decide ((s : Int) > (l.length : Int) - q) = true := decide_eq_true (by omega)
  clear h
  go_enter Tryz.func250, Tryz.ntmps250
  go_wp2
  go_quiet (fail)
  go_wp2
  go_ret2
  exact ⟨rfl, below_drewN (Below.refl _ _) _⟩
theorem gs_caps {α : Type} {k : Elem α} {w : World} {lo hi : Nat} {A : Option Addr} {n c : Nat} {l : List α} (h : Gs k w lo hi (.slice A n c) l) : n = l.length ∧ l.length ≤ c ∧ c ≤ 9223372036854775807 := by
  obtain ⟨A', c', e, h0, h1, h2, hb⟩ := h
  injection e with e1 e2 e3
  subst e1 e2 e3
  unfold maxLen at h2
  exact ⟨rfl, h1, by omega⟩
theorem slice_cut {A : Option Addr} {c : Nat} {w : World} {lo hi : Nat} {l : List UInt8} (h : Gs e8 w lo hi (.slice A l.length c) l) {q s : Nat} (hs : q + s ≤ l.length) : Gs e8 w lo hi (.slice (if c = q then A else A.map (·.add q)) s (c - q)) ((l.drop q).take s) := by
  by_cases hc : c = q
  · rw [if_pos hc]
    obtain ⟨A', c', e, h0, h1, h2, hb⟩ := h
    injection e with e1 e2 e3
    subst e1 e3
    have hs0 : s = 0 := by omega
    subst hs0
    rw [List.take_zero, hc, Nat.sub_self]
    exact ⟨A, 0, rfl, fun _ => rfl, Nat.le_refl _, Nat.zero_le _, fun h => absurd rfl h⟩
  · rw [if_neg hc]; exact h.mid hs hc
def NextAns (w : World) (g : Nat) (vb : Value) (q s n : Nat) (r : Bool) (vf vk vc vo : Value) (l : List UInt8) (e : Ending) (w' : World) : Prop :=
  ∃ gr v', e = .returned (.tuple #[.pointer (some ⟨gr, 0, none⟩), .bool true]) ∧ Row w' g 169 #[vb, .int .i64 (q + s : Nat), .int .i64 n, .bool r, vf, vk, vc, vo] ∧ Rd w' w.heap.size gr v' ((l.drop q).take s) 0 false ∧ w.grownBy w' (some g)
set_option maxHeartbeats 4000000 in
theorem next_yes {g q n : Nat} {r : Bool} {A : Option Addr} {c : Nat} {vf vk vc vo : Value} {l : List UInt8} (s : Nat) (w : World) (h : Row w g 169 #[.slice A l.length c, .int .i64 q, .int .i64 n, .bool r, vf, vk, vc, vo]) (hb : Gs e8 w 0 g (.slice A l.length c) l) (hs : q + s ≤ l.length) (hl : l.length ≤ 10000000) :
    Calls Tryz.prog 250 #[.pointer (some ⟨g, 0, none⟩), .int .i64 s] w (NextAns w g (.slice A l.length c) q s n r vf vk vc vo l) := by
  have c0 := h.cell 0
  have c1 := h.cell 1
  have f1 := h.frozen 1
  have hli : (l.length : Int) ≤ 10000000 := by omega
  have hs' : (q : Int) + s ≤ l.length := by omega
  have g1 : decide ((s : Int) > (l.length : Int) - q) = false := decide_eq_false (by omega)
  obtain ⟨-, hlc, hcm⟩ := gs_caps hb
  have hci : (q : Int) + s ≤ c := by omega
  have hci2 : (c : Int) ≤ 9223372036854775807 := by omega
  have hqc : (q : Int) ≤ c := by omega
  have HB := Lib.hid hb
  have HH := Lib.hid h
  clear h hb hlc hcm
  go_enter Tryz.func250, Tryz.ntmps250
  go_wp2
  go_quiet (fail)
  go_wp2_with fail
  have R1 : Row ((w.drewN nq).setCell ⟨g, 1, none⟩ (.int .i64 ((q : Int) + s))) g 169 #[.slice A l.length c, .int .i64 ((q : Int) + s), .int .i64 n, .bool r, vf, vk, vc, vo] := by
    have := (show Row (w.drewN nq) g 169 #[.slice A l.length c, .int .i64 q, .int .i64 n, .bool r, vf, vk, vc, vo] from HH.out).set_ 1 (.int .i64 ((q : Int) + s))
    simpa using this
  have G1 := Lib.hid (show w.grownBy ((w.drewN nq).setCell ⟨g, 1, none⟩ (.int .i64 ((q : Int) + s))) (some g) from (grown_drewN (World.grownBy.refl w (some g)) nq).trans (grown_set _ g 1 _))
  have D1 := Lib.hid (HB.out.grown G1.out (Nat.le_of_lt HH.out.lt) (fun j e => by injection e with e; exact .inr (Nat.le_of_eq e)))
  generalize (w.drewN nq).setCell ⟨g, 1, none⟩ (.int .i64 ((q : Int) + s)) = W1 at *
  have d9 := slice_cut D1.out hs
  obtain ⟨A9, hA9⟩ : ∃ A9, A9 = (if c = q then A else A.map (·.add q)) := ⟨_, rfl⟩
  rw [← hA9] at d9
  have D9 := Lib.hid d9
  clear d9
  have hSc := (show (fun W => Row W g 169 #[.slice A l.length c, .int .i64 ((q : Int) + s), .int .i64 n, .bool r, vf, vk, vc, vo]) (W1).drew from R1)
  refine wp_region_held_drew (S := fun W => Row W g 169 #[.slice A l.length c, .int .i64 ((q : Int) + s), .int .i64 n, .bool r, vf, vk, vc, vo]) (by kernel_rfl) hSc (fun _ => ?_)
  refine held_take 0 ?_ rfl (by kernel_rfl) (by kernel_rfl) (by kernel_rfl) (fun _ _ _ h => h) (by rfl) ?_ hSc ?_
  rotate_left
  · (intro W hSW; have k0 := hSW.cell 0; have k1 := hSW.cell 1; go_simp; try rfl)
  try simp only [Act.put, List.setIfInBounds_toArray, List.set_cons_zero, List.set_cons_succ]
  refine held_take 1 ?_ rfl (by kernel_rfl) (by kernel_rfl) (by kernel_rfl) (fun _ _ _ h => h) (by rfl) ?_ hSc ?_
  rotate_left
  · (intro W hSW; have k0 := hSW.cell 0; have k1 := hSW.cell 1; go_simp; try rfl)
  try simp only [Act.put, List.setIfInBounds_toArray, List.set_cons_zero, List.set_cons_succ]
  refine held_take 2 ?_ rfl (by kernel_rfl) (by kernel_rfl) (by kernel_rfl) (fun _ _ _ h => h) (by rfl) ?_ hSc ?_
  rotate_left
  · (intro W hSW; have k0 := hSW.cell 0; have k1 := hSW.cell 1; go_simp; try rfl)
  try simp only [Act.put, List.setIfInBounds_toArray, List.set_cons_zero, List.set_cons_succ]
  refine held_take 3 ?_ rfl (by kernel_rfl) (by kernel_rfl) (by kernel_rfl) (fun _ _ _ h => h) (by rfl) ?_ hSc ?_
  rotate_left
  · (intro W hSW; have k0 := hSW.cell 0; have k1 := hSW.cell 1; go_simp; try rfl)
  try simp only [Act.put, List.setIfInBounds_toArray, List.set_cons_zero, List.set_cons_succ]
  refine held_take 4 ?_ rfl (by kernel_rfl) (by kernel_rfl) (by kernel_rfl) (fun _ _ _ h => h) (by rfl) ?_ hSc ?_
  rotate_left
  · (intro W hSW; have k0 := hSW.cell 0; have k1 := hSW.cell 1; go_simp; try rfl)
  try simp only [Act.put, List.setIfInBounds_toArray, List.set_cons_zero, List.set_cons_succ]
  refine held_take 5 ?_ rfl (by kernel_rfl) (by kernel_rfl) (by kernel_rfl) (fun _ _ _ h => h) (by rfl) ?_ hSc ?_
  rotate_left
  · (intro W hSW; have k0 := hSW.cell 0; have k1 := hSW.cell 1; go_simp; try rfl)
  try simp only [Act.put, List.setIfInBounds_toArray, List.set_cons_zero, List.set_cons_succ]
  refine held_take 6 ?_ rfl (by kernel_rfl) (by kernel_rfl) (by kernel_rfl) (fun _ _ _ h => h) (by rfl) ?_ hSc ?_
  rotate_left
  · (intro W hSW; have k0 := hSW.cell 0; have k1 := hSW.cell 1; go_simp; try rfl)
  try simp only [Act.put, List.setIfInBounds_toArray, List.set_cons_zero, List.set_cons_succ]
  refine held_take 7 ?_ rfl (by kernel_rfl) (by kernel_rfl) (by kernel_rfl) (fun _ _ _ h => h) (by rfl) ?_ hSc ?_
  rotate_left
  · (intro W hSW; have k0 := hSW.cell 0; have k1 := hSW.cell 1; go_simp; try rfl)
  try simp only [Act.put, List.setIfInBounds_toArray, List.set_cons_zero, List.set_cons_succ]
  refine held_take 8 ?_ rfl (by kernel_rfl) (by kernel_rfl) (by kernel_rfl) (fun _ _ _ h => h) (by rfl) ?_ hSc ?_
  rotate_left
  · (intro W hSW; have k0 := hSW.cell 0; have k1 := hSW.cell 1; go_simp; try rfl)
  try simp only [Act.put, List.setIfInBounds_toArray, List.set_cons_zero, List.set_cons_succ]
  refine held_take 9 ?_ rfl (by kernel_rfl) (by kernel_rfl) (by kernel_rfl) (fun _ _ _ h => h) (by rfl) ?_ hSc ?_
  rotate_left
  · (intro W hSW; have hz0 : (0 : Int) ≤ (q : Int) + s := (by omega); have hz1 : q ≤ ((q : Int) + s).toNat := (by omega); go_simp; try rfl)
  try simp only [Act.put, List.setIfInBounds_toArray, List.set_cons_zero, List.set_cons_succ]
  rw [show ((q : Int) + s).toNat - q = s by omega, ← hA9]
  clear hA9
  refine held_next 10 rfl (by kernel_rfl) (by rfl) ?_
  go_simp
  refine (new_any _ ((l.drop q).take s) 0 _ ((D9.out.drewN 1).more (Nat.le_refl _) (Nat.le_of_lt R1.lt)) (by rw [List.length_take, List.length_drop]; omega)).mono ?_
  rintro e wq1 ⟨gr, v9, rfl, rd9, bq⟩
  have RD9 := Lib.hid rd9
  have BQ := Lib.hid bq
  have hSd : (fun W => Row W g 169 #[.slice A l.length c, .int .i64 ((q : Int) + s), .int .i64 n, .bool r, vf, vk, vc, vo]) wq1 := Row.below hSc bq hSc.lt
  refine ⟨fun W => Row W g 169 #[.slice A l.length c, .int .i64 ((q : Int) + s), .int .i64 n, .bool r, vf, vk, vc, vo], fun W hW => hW, hSd, ?_⟩
  clear hSc rd9 bq
  have hSc := hSd
  clear hSd
  try simp only [Act.put, List.setIfInBounds_toArray, List.set_cons_zero, List.set_cons_succ]
  refine held_take 11 ?_ rfl (by kernel_rfl) (by kernel_rfl) (by kernel_rfl) (fun _ _ _ h => h) (by rfl) ?_ hSc ?_
  rotate_left
  · (intro W hSW; go_simp; try rfl)
  try simp only [Act.put, List.setIfInBounds_toArray, List.set_cons_zero, List.set_cons_succ]
  refine held_next 12 rfl (by kernel_rfl) (by rfl) ?_
  go_simp
  refine ⟨fun W => Row W g 169 #[.slice A l.length c, .int .i64 ((q : Int) + s), .int .i64 n, .bool r, vf, vk, vc, vo], fun W hW => hW, hSc, ?_⟩
  refine wpAnyH_done (by kernel_rfl) ?_ _
  have BQ2 := Lib.hid (grown_below (grown_drewN G1.out 1) BQ.out)
  have hsz := Lib.hid G1.out.size
  have hSr := Lib.hid (show Row _ g 169 #[.slice A l.length c, .int .i64 ((q : Int) + s), .int .i64 n, .bool r, vf, vk, vc, vo] from hSc)
  clear hSc
  go_wp2
  go_ret2
  exact ⟨gr, v9, rfl, by simpa using hSr.out, RD9.out.more hsz.out, BQ2.out⟩
end Go.Proofs.YtponcpneflhpfaaGreatDoor
