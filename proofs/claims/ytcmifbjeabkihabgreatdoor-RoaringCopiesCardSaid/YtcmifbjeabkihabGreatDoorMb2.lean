/- The laying of slices.SortFunc at spans: which of the program's functions and types stand for those of the library's contract; each fact by the kernel. Printed by program. -/
import Derived.Test.YtcmifbjeabkihabGreatDoorMb0
import Derived.Test.YtcmifbjeabkihabGreatDoorMb1
import Derived.Test.YtcmifbjeabkihabGreatDoorMa3
import Derived.Shelf.SlGeneric
import Derived.Shelf.SlSortCmp.WholeK
import Derived.Shelf.SlSortCmp.NoneTotal
import Derived.Ground.SlsfProg
import Derived.Test.YtcmifbjeabkihabGreatDoorProg
/- Walks: New, entries, put, putIf of a set; append of one entry at one operation. -/
namespace Go.Proofs.YtcmifbjeabkihabGreatDoor
open Go.RowKit
set_option linter.unusedVariables false

theorem wp_gappv {α : Type} (k : ElemV α) {P : Program} (w : World) {o : Oper} {a : Act} {K : Act → World → Prop} {Q : Exit → Act → World → Prop} (s x : Operand) (t : TypeId)
    (ho : o.op = .call { callee := .builtin .append, args := #[s, x], argTypes := #[t, t] }) (base : Nat) (ht : P.underlying t = some (.slice k.E))
    (hinf : (P.info? k.E).map (fun i => (i.zero, i.size, i.bytes)) = some (some (k.val k.zero), k.n, k.bytes))
    (v : Value) (l : List α) (hs : a.eval s = v) (hown : GwV k w base v l) (lo hi : Nat) (u : Value) (m : List α) (hx : a.eval x = u) (hu : GsV k w lo hi u m)
    (hb : l.length + m.length ≤ 1000000000) (hbase : base ≤ w.heap.size)
    (h : ∀ v' w', GwV k w' base v' (l ++ m) → w.grownBy w' v.ownBlock → (v'.ownBlock = v.ownBlock ∨ v'.ownBlock = some w.heap.size) → K (a.put o.dst v') w') : o.wp P a w K Q := by
  obtain ⟨v', w', hrun, h2, h3, h5⟩ := run_gappv k (P := P) w t o.type base ht hinf v l hown lo hi u m hu hb hbase
  unfold Oper.wp execOp
  simp only [ho, resolve, invoke, builtin, Sem.run_bind, Sem.run_pure, Result.andThen_ok, List.map_toArray, List.map_cons, List.map_nil, hs, hx, hrun]
  exact h v' w' h2 h3 h5
theorem GwV.slice {α : Type} {k : ElemV α} {w : World} {base : Nat} {v : Value} {l : List α} (h : GwV k w base v l) : ∃ A n c, v = .slice A n c := by
  rcases h.2 with ⟨rfl, _⟩ | ⟨g, cap, cur, rfl, _⟩
  · exact ⟨_, _, _, rfl⟩
  · exact ⟨_, _, _, rfl⟩
theorem Row.one_set {w : World} {g : Nat} {t : TypeId} {x : Value} (h : Row w g t #[x]) (u : Value) : Row (w.setCell ⟨g, 0, none⟩ u) g t #[u] := by
  have := h.set_ 0 u
  simpa using this

theorem entries_c {N : Nat → Prop} (v : Value) (P : Nat → Bool) (w : World) (h : St N w v P) :
    Calls Tryz.prog 30 #[v] w fun e w' => ∃ A n c es, e = .returned (.slice A n c) ∧ w' = w ∧ GsV eN w 0 w.heap.size (.slice A n c) es ∧ Dir N w P 0 65536 es := by
  cases h with
  | none h =>
    have D : Dir N w P 0 65536 [] := (Dir.nil_ (N := N) (w := w) (P := P) (lo := 0)).skip (by omega) fun k _ hk => nz_not.2 fun x hx => h _ (by omega)
    clear h
    go_enter Tryz.func30, Tryz.ntmps30
    go_wp2
    go_ret
    exact ⟨_, _, _, [], rfl, rfl, GsV.nil_ _ _ _, D⟩
  | some b s es hb hs hn hd =>
    have HS := Lib.hid hs
    have HD := Lib.hid hd
    obtain ⟨A, c, rfl, -⟩ := hs
    have c0 := hb.cell 0
    have c0' : w.cell? ⟨b, 0, none⟩ = some (.slice A es.length c) := c0
    clear hb hn hd c0
    go_enter Tryz.func30, Tryz.ntmps30
    go_wp2
    go_ret
    exact ⟨_, _, _, es, rfl, rfl, HS.out, HD.out⟩

theorem new_c {N : Nat → Prop} (P : Nat → Bool) (w : World) (hN : ∀ x, w.heap.size ≤ x → N x) :
    Calls Tryz.prog 15 #[] w fun e w' => ∃ b, e = .returned (.pointer (some ⟨b, 0, none⟩)) ∧ b = w.heap.size ∧ Sx (fun x => N x ∧ x ≠ b) w' (.pointer (some ⟨b, 0, none⟩)) P b 0 (.slice none 0 0) [] ∧ Nx N w (fun x => N x ∧ x ≠ b) w' ∧ Below w.heap.size w w' := by
  have R := Row.new w 64 #[.slice none 0 0]
  have B := bx w (.cells #[.slice none 0 0] 64)
  go_enter Tryz.func15, Tryz.ntmps15
  go_wp2
  go_ret
  exact ⟨_, rfl, rfl, ⟨rfl, R, GwV.nil_ _ _, fun _ => rfl, Dir.nil_, fun h => h.2 rfl, fun g hg => by simp [Value.ownBlock] at hg, by simp [Value.ownBlock]⟩, Nx.but _ (Nat.le_refl _) (by simp), B⟩

/-- What a set is when an entry has been put behind its last one. -/
theorem Sx.put {N : Nat → Prop} {v s s1 : Value} {P : Nat → Bool} {b K k : Nat} {es : List En} {e : En} {w w2 w3 : World} (S : Sx N w v P b K s es)
    (hk : K ≤ k) (gap : ∀ j, K ≤ j → j < k → nz P j = false) (he : e.key.toNat = k) (hn : nz P k = true) (hc : Cn N w e.b.val (blk P k) (ck (blk P k)))
    (g1 : GwV eN w2 0 s1 (es ++ [e])) (g2 : w.grownBy w2 s.ownBlock) (g3 : s1.ownBlock = s.ownBlock ∨ ∃ g, s1.ownBlock = some g ∧ w.heap.size ≤ g ∧ g < w2.heap.size)
    (r3 : Row w3 b 64 #[s1]) (g4 : w2.grownBy w3 (some b)) :
    (∃ N', Sx N' w3 v P b (k + 1) s1 (es ++ [e]) ∧ Nx N w N' w3 ∧ (s1.ownBlock = s.ownBlock ∨ ∃ g, s1.ownBlock = some g ∧ w.heap.size ≤ g)) ∧ Off (fun x => x = b ∨ s.ownBlock = some x) w w3 := by
  subst he
  have hb := S.box.lt
  have hne : s1.ownBlock ≠ some b := by
    rcases g3 with e | ⟨g, e, h1, _⟩
    · rw [e]; exact S.nbs
    · rw [e]; intro h; injection h with h; omega
  have off : Off (fun x => x = b ∨ s.ownBlock = some x) w w3 :=
    ⟨g4.os.trans g2.os, g4.tape.trans g2.tape, g4.output.trans g2.output, Nat.le_trans g2.size g4.size, fun x hx hm =>
      (g4.block x (Nat.lt_of_lt_of_le hx g2.size) (fun e => by injection e with e; exact hm (.inl e))).trans (g2.block x hx (fun e => hm (.inr e.symm)))⟩
  have hrow : ∀ q : Addr, N q.block → q.block < w.heap.size → w3.cell? q = w.cell? q := fun q hq hb =>
    World.cell?_of_block (off.block _ hb fun h => by
      rcases h with h | h
      · exact S.nb (h ▸ hq)
      · exact S.ns _ h hq)
  have g1' : GwV eN w3 0 s1 (es ++ [e]) := g1.kept g4 (fun k hk e => by injection e with e; subst e; exact hne hk)
  have D3 : Dir N w3 P 0 (e.key.toNat + 1) (es ++ [e]) := ((S.dir.keep off.size hrow).skip hk gap).snoc (Nat.zero_le _) rfl hn (hc.keep off.size hrow)
  refine ⟨?_, off⟩
  rcases g3 with e3 | ⟨g, e3, h1, h2⟩
  · exact ⟨N, ⟨S.form, r3, g1', fun h => absurd h (by simp), D3, S.nb, fun g hg => S.ns g (e3 ▸ hg), hne⟩, Nx.refl _ _ _, .inl e3⟩
  · refine ⟨fun x => N x ∧ x ≠ g, ⟨S.form, r3, g1', fun h => absurd h (by simp), ?_, fun h => S.nb h.1, fun g' hg h => ?_, hne⟩, Nx.but g h1 (Nat.lt_of_lt_of_le h2 g4.size), .inr ⟨g, e3, h1⟩⟩
    · refine ⟨D3.ris, fun x hx => ?_, D3.all⟩
      rw [List.mem_append] at hx
      rcases hx with hx | hx
      · obtain ⟨a, b', c, d⟩ := S.dir.mem x hx
        have d2 : Cn (fun x => N x ∧ x ≠ g) w x.b.val (blk P x.key.toNat) (ck (blk P x.key.toNat)) := d.mono fun y hy hn => ⟨hn, by omega⟩
        exact ⟨a, by omega, c, d2.keep off.size fun q hq hb => hrow q hq.1 hb⟩
      · simp at hx; subst hx
        have d2 : Cn (fun y => N y ∧ y ≠ g) w x.b.val (blk P x.key.toNat) (ck (blk P x.key.toNat)) := hc.mono fun y hy hn => ⟨hn, by omega⟩
        exact ⟨Nat.zero_le _, by omega, hn, d2.keep off.size fun q hq hb => hrow q hq.1 hb⟩
    · rw [e3] at hg; injection hg with hg; exact h.2 hg.symm

theorem grown_start {w w1 w2 : World} {row : Option Nat} (h : Below w.heap.size w w1) (g : w1.grownBy w2 row) : w.grownBy w2 row :=
  ⟨g.os.trans h.os, g.tape.trans h.tape, g.output.trans h.output, Nat.le_trans h.size g.size, fun k hk hne => (g.block k (Nat.lt_of_lt_of_le hk h.size) hne).trans (h.block k hk)⟩
theorem own_lt {N : Nat → Prop} {w : World} {v s : Value} {P : Nat → Bool} {b K : Nat} {es : List En} (S : Sx N w v P b K s es) : ∀ g, s.ownBlock = some g → g < w.heap.size := fun g hg => (S.arr.lt g hg).2

set_option maxHeartbeats 4000000 in
theorem put_yes {N : Nat → Prop} (v s : Value) (P : Nat → Bool) (b K y : Nat) (es : List En) (x : Bd) (m : Nat) (w : World) (S : Sx N w v P b K s es) (hk : K ≤ y) (hy : y < 65536) (gap : ∀ j, K ≤ j → j < y → nz P j = false)
    (hn : nz P y = true) (hm : ct (blk P y) 65536 = m) (hc : Cn N w x.val (blk P y) (ck (blk P y))) :
    Calls Tryz.prog 27 #[v, .int .u16 y, x.val] w fun e w' => e = .returned (.tuple #[]) ∧ (∃ N' s' es', Sx N' w' v P b (y + 1) s' es' ∧ Nx N w N' w' ∧ (s'.ownBlock = s.ownBlock ∨ ∃ g, s'.ownBlock = some g ∧ w.heap.size ≤ g)) ∧ Off (fun x => x = b ∨ s.ownBlock = some x) w w' := by
  have hm0 : (0 : Int) < m := by have := nz_iff.1 hn; have := ct_pos.2 this; rw [show ct (fun x => P (65536 * y + x)) 65536 = m from hm] at this; omega
  have GAP := Lib.hid gap
  have HK := Lib.hid hk
  have HNZ := Lib.hid hn
  have EK : Hid ((UInt16.ofNat y).toNat = y) := Lib.hid (u16_of y hy)
  have AR := Lib.hid S.arr
  have SS := Lib.hid S
  have OWN := Lib.hid (own_lt S)
  have hL := S.dir.len
  have HL : Hid (es.length + [(⟨UInt16.ofNat y, x⟩ : En)].length ≤ 1000000000) := Lib.hid (by show es.length + 1 ≤ _; omega)
  have hfo := S.form
  subst hfo
  obtain ⟨A, n, c, rfl⟩ := S.arr.slice
  have rz := Row.new w 55 #[.int .u8 x.κ, .slice x.A x.n x.c, .slice x.A2 x.n2 x.c2, .slice x.A3 x.n3 x.c3]
  have bz := bx w (.cells #[.int .u8 x.κ, .slice x.A x.n x.c, .slice x.A2 x.n2 x.c2, .slice x.A3 x.n3 x.c3] 55)
  have hbl := S.box.lt
  have R0 := Lib.hid (S.box.below bz hbl)
  have AR := Lib.hid (AR.out.below bz (Nat.le_refl _))
  have HC := Lib.hid hc
  clear S hc hn gap hk hL
  go_enter Tryz.func27, Tryz.ntmps27
  go_wp2_with fail
  generalize w.alloc (.cells #[.int .u8 x.κ, .slice x.A x.n x.c, .slice x.A2 x.n2 x.c2, .slice x.A3 x.n3 x.c3] 55) = w1 at *
  have B1 := Lib.hid bz
  have RZ := Lib.hid rz
  clear rz bz
  refine (len_c _ _ _ m _ hm (HC.out.step B1.out)).mono ?_
  rintro e w4 ⟨rfl, b4⟩
  have B4 := Lib.hid (below_both B1.out b4)
  have AR := Lib.hid (AR.out.below b4 (Nat.le_refl _))
  have R1 := Lib.hid (R0.out.below b4 R0.out.lt)
  have RZ := Lib.hid (RZ.out.below b4 RZ.out.lt)
  clear b4
  have k0 := RZ.out.cell 0
  have k1 := RZ.out.cell 1
  have k2 := RZ.out.cell 2
  have k3 := RZ.out.cell 3
  go_wp2_with fail
  have hSc : Row w4.drew w.heap.size 55 #[.int .u8 x.κ, .slice x.A x.n x.c, .slice x.A2 x.n2 x.c2, .slice x.A3 x.n3 x.c3] := RZ.out
  have C1 : Hid ((w4.alloc (.cells #[.int .u16 y, .int .u8 x.κ, .slice x.A x.n x.c, .slice x.A2 x.n2 x.c2, .slice x.A3 x.n3 x.c3] 61)).cell? ⟨b, 0, none⟩ = some (.slice A n c)) := Lib.hid ((show (Row (w4.alloc (.cells #[.int .u16 y, .int .u8 x.κ, .slice x.A x.n x.c, .slice x.A2 x.n2 x.c2, .slice x.A3 x.n3 x.c3] 61)) b 64 #[.slice A n c]) from (Row.alloc (w := w4) R1.out _)).cell 0)
  have c1 : w4.drew.cell? ⟨b, 0, none⟩ = some (.slice A n c) := R1.out.cell 0
  have R1 : Hid (Row (w4.drew.alloc (.cells #[.int .u16 y, .int .u8 x.κ, .slice x.A x.n x.c, .slice x.A2 x.n2 x.c2, .slice x.A3 x.n3 x.c3] 61)) b 64 #[.slice A n c]) := Lib.hid (Row.alloc (w := w4.drew) R1.out _)
  have AR : Hid (GwV eN (w4.drew.alloc (.cells #[.int .u16 y, .int .u8 x.κ, .slice x.A x.n x.c, .slice x.A2 x.n2 x.c2, .slice x.A3 x.n3 x.c3] 61)) 0 (.slice A n c) es) := Lib.hid (GwV.alloc (w := w4.drew) AR.out _)
  have GS : Hid (Below w.heap.size w (w4.drew.alloc (.cells #[.int .u16 y, .int .u8 x.κ, .slice x.A x.n x.c, .slice x.A2 x.n2 x.c2, .slice x.A3 x.n3 x.c3] 61))) := Lib.hid ((below_drewN B4.out 1).trans ((bx w4.drew _).mono B4.out.size))
  have S := SS
  have ONE : Hid (#[.int .u16 y, .int .u8 x.κ, .slice x.A x.n x.c, .slice x.A2 x.n2 x.c2, .slice x.A3 x.n3 x.c3] = (eN.cs ⟨UInt16.ofNat y, x⟩).toArray) := Lib.hid (by show _ = #[_, _, _, _, _]; rw [show (Value.int .u16 ((UInt16.ofNat y).toNat : Int)) = .int .u16 y by rw [EK.out]])
  have NE : Hid ((Value.slice A n c).ownBlock ≠ some w.heap.size) := Lib.hid (fun h => absurd (OWN.out _ h) (by omega))
  have NB : Hid ((Value.slice A n c).ownBlock ≠ some b) := Lib.hid SS.out.nbs
  have NBB : Hid (some b ≠ some w.heap.size) := Lib.hid (by intro h; injection h with h; omega)
  clear k0 k1 k2 k3
  refine wp_region_held_drew (S := fun W => Row W w.heap.size 55 #[.int .u8 x.κ, .slice x.A x.n x.c, .slice x.A2 x.n2 x.c2, .slice x.A3 x.n3 x.c3]) (by kernel_rfl) hSc (fun _ => ?_)
  refine held_take 0 ?_ rfl (by kernel_rfl) (by kernel_rfl) (by kernel_rfl) (fun _ _ _ h => h) (by rfl) ?_ hSc ?_
  rotate_left
  · (intro W hSW; go_simp; try rfl)
  try simp only [Act.put, List.setIfInBounds_toArray, List.set_cons_zero, List.set_cons_succ]
  refine held_take 1 ?_ rfl (by kernel_rfl) (by kernel_rfl) (by kernel_rfl) (fun _ _ _ h => h) (by rfl) ?_ hSc ?_
  rotate_left
  · (intro W hSW; go_simp; try rfl)
  try simp only [Act.put, List.setIfInBounds_toArray, List.set_cons_zero, List.set_cons_succ]
  refine held_take 2 ?_ rfl (by kernel_rfl) (by kernel_rfl) (by kernel_rfl) (fun _ _ _ h => h) (by rfl) ?_ hSc ?_
  rotate_left
  · (intro W hSW; go_simp; try rfl)
  try simp only [Act.put, List.setIfInBounds_toArray, List.set_cons_zero, List.set_cons_succ]
  refine held_take 3 ?_ rfl (by kernel_rfl) (by kernel_rfl) (by kernel_rfl) (fun _ _ _ h => h) (by rfl) ?_ hSc ?_
  rotate_left
  · (intro W hSW; go_simp; try rfl)
  try simp only [Act.put, List.setIfInBounds_toArray, List.set_cons_zero, List.set_cons_succ]
  refine held_take 5 ?_ rfl (by kernel_rfl) (by kernel_rfl) (by kernel_rfl) (fun _ _ _ h => h) (by rfl) ?_ hSc ?_
  rotate_left
  · (intro W hSW; go_simp; try rfl)
  try simp only [Act.put, List.setIfInBounds_toArray, List.set_cons_zero, List.set_cons_succ]
  refine held_take 6 ?_ rfl (by kernel_rfl) (by kernel_rfl) (by kernel_rfl) (fun _ _ _ h => h) (by rfl) ?_ hSc ?_
  rotate_left
  · (intro W hSW; have k0 := hSW.cell 0; have k1 := hSW.cell 1; have k2 := hSW.cell 2; have k3 := hSW.cell 3; go_simp; try rfl)
  try simp only [Act.put, List.setIfInBounds_toArray, List.set_cons_zero, List.set_cons_succ]
  refine held_take 7 ?_ rfl (by kernel_rfl) (by kernel_rfl) (by kernel_rfl) (fun _ _ _ h => h) (by rfl) ?_ hSc ?_
  rotate_left
  · (intro W hSW; go_simp; try rfl)
  try simp only [Act.put, List.setIfInBounds_toArray, List.set_cons_zero, List.set_cons_succ]
  refine held_two 4 8 rfl rfl (by kernel_rfl) (by rfl) (by rfl) ?_ ?_
  · skip
    go_simp
    refine ⟨fun W => Row W w.heap.size 55 #[.int .u8 x.κ, .slice x.A x.n x.c, .slice x.A2 x.n2 x.c2, .slice x.A3 x.n3 x.c3], fun W hW => hW, hSc, ?_⟩
    try simp only [Act.put, List.setIfInBounds_toArray, List.set_cons_zero, List.set_cons_succ]
    refine held_next 8 rfl (by kernel_rfl) (by rfl) ?_
    go_simp
    refine ⟨fun W => Row W w.heap.size 55 #[.int .u8 x.κ, .slice x.A x.n x.c, .slice x.A2 x.n2 x.c2, .slice x.A3 x.n3 x.c3], fun W hW => hW, hSc.alloc _, ?_⟩
    try simp only [Act.put, List.setIfInBounds_toArray, List.set_cons_zero, List.set_cons_succ]
    refine held_next 9 rfl (by kernel_rfl) (by rfl) ?_
    refine wp_gappv eN (w4.drew.alloc (.cells #[.int .u16 y, .int .u8 x.κ, .slice x.A x.n x.c, .slice x.A2 x.n2 x.c2, .slice x.A3 x.n3 x.c3] 61)) _ _ _ rfl 0 sliN infN (.slice A n c) es rfl AR.out _ _ _ [⟨UInt16.ofNat y, x⟩] rfl (GsV.one eN _ ⟨UInt16.ofNat y, x⟩ _ ONE.out) HL.out (Nat.zero_le _) (fun s1 w2 g1 g2 g3 => ?_)
    have hS2 : Row w2 w.heap.size 55 #[.int .u8 x.κ, .slice x.A x.n x.c, .slice x.A2 x.n2 x.c2, .slice x.A3 x.n3 x.c3] := (hSc.alloc _).grown g2 NE.out
    refine ⟨fun W => Row W w.heap.size 55 #[.int .u8 x.κ, .slice x.A x.n x.c, .slice x.A2 x.n2 x.c2, .slice x.A3 x.n3 x.c3], fun W hW => hW, hS2, ?_⟩
    try simp only [Act.put, List.setIfInBounds_toArray, List.set_cons_zero, List.set_cons_succ]
    have R2 : Row w2 b 64 #[.slice A n c] := R1.out.grown g2 NB.out
    obtain ⟨A1, n1, c1, rfl⟩ := g1.slice
    have d0 : w2.cell? ⟨b, 0, none⟩ = some (.slice A n c) := R2.cell 0
    have f0 := R2.frozen 0
    refine held_take 10 ?_ rfl (by kernel_rfl) (by kernel_rfl) (by kernel_rfl) (fun _ _ _ h => h) (by rfl) ?_ hS2 ?_
    rotate_left
    · (intro W hSW; go_simp; try rfl)
    try simp only [Act.put, List.setIfInBounds_toArray, List.set_cons_zero, List.set_cons_succ]
    refine held_take 11 ?_ rfl (by kernel_rfl) (by kernel_rfl) (by kernel_rfl) (fun _ _ _ h => h) (by rfl) ?_ hS2 ?_
    rotate_left
    · (intro W hSW; go_simp; try rfl)
    try simp only [Act.put, List.setIfInBounds_toArray, List.set_cons_zero, List.set_cons_succ]
    have R3 := R2.one_set (.slice A1 n1 c1)
    have G4 := grown_set w2 b 0 (.slice A1 n1 c1)
    refine held_next 12 rfl (by kernel_rfl) (by rfl) ?_
    go_simp
    have FIN := Sx.put S.out HK.out GAP.out (e := ⟨UInt16.ofNat y, x⟩) EK.out HNZ.out HC.out g1 (grown_start GS.out g2) (g3.elim .inl (fun h => .inr ⟨_, h, GS.out.size, (g1.lt _ h).2⟩)) R3 G4
    have hS3 : Row (w2.setCell ⟨b, 0, none⟩ (.slice A1 n1 c1)) w.heap.size 55 #[.int .u8 x.κ, .slice x.A x.n x.c, .slice x.A2 x.n2 x.c2, .slice x.A3 x.n3 x.c3] := hS2.grown G4 NBB.out
    generalize w2.setCell ⟨b, 0, none⟩ (.slice A1 n1 c1) = w3 at *
    refine ⟨fun W => Row W w.heap.size 55 #[.int .u8 x.κ, .slice x.A x.n x.c, .slice x.A2 x.n2 x.c2, .slice x.A3 x.n3 x.c3], fun W hW => hW, hS3, ?_⟩
    refine wpAnyH_done (by kernel_rfl) ?_ _
    have FI := Lib.hid FIN
    clear FIN R3 G4 d0 f0 hS2 hS3 R2 g1 g2 g3 hSc
    go_wp2
    go_end0
    obtain ⟨⟨N', S', NX, OB⟩, OF⟩ := FI.out
    exact ⟨rfl, ⟨N', _, _, S', NX, OB⟩, OF⟩
  · skip
    go_simp
    refine ⟨fun W => Row W w.heap.size 55 #[.int .u8 x.κ, .slice x.A x.n x.c, .slice x.A2 x.n2 x.c2, .slice x.A3 x.n3 x.c3], fun W hW => hW, hSc.alloc _, ?_⟩
    try simp only [Act.put, List.setIfInBounds_toArray, List.set_cons_zero, List.set_cons_succ]
    have c0 : (w4.alloc (.cells #[.int .u16 y, .int .u8 x.κ, .slice x.A x.n x.c, .slice x.A2 x.n2 x.c2, .slice x.A3 x.n3 x.c3] 61)).cell? ⟨b, 0, none⟩ = some (.slice A n c) := C1.out
    refine held_next 4 rfl (by kernel_rfl) (by rfl) ?_
    go_simp
    refine ⟨fun W => Row W w.heap.size 55 #[.int .u8 x.κ, .slice x.A x.n x.c, .slice x.A2 x.n2 x.c2, .slice x.A3 x.n3 x.c3], fun W hW => hW, hSc.alloc _, ?_⟩
    try simp only [Act.put, List.setIfInBounds_toArray, List.set_cons_zero, List.set_cons_succ]
    clear c0
    refine held_next 9 rfl (by kernel_rfl) (by rfl) ?_
    refine wp_gappv eN (w4.drew.alloc (.cells #[.int .u16 y, .int .u8 x.κ, .slice x.A x.n x.c, .slice x.A2 x.n2 x.c2, .slice x.A3 x.n3 x.c3] 61)) _ _ _ rfl 0 sliN infN (.slice A n c) es rfl AR.out _ _ _ [⟨UInt16.ofNat y, x⟩] rfl (GsV.one eN _ ⟨UInt16.ofNat y, x⟩ _ ONE.out) HL.out (Nat.zero_le _) (fun s1 w2 g1 g2 g3 => ?_)
    have hS2 : Row w2 w.heap.size 55 #[.int .u8 x.κ, .slice x.A x.n x.c, .slice x.A2 x.n2 x.c2, .slice x.A3 x.n3 x.c3] := (hSc.alloc _).grown g2 NE.out
    refine ⟨fun W => Row W w.heap.size 55 #[.int .u8 x.κ, .slice x.A x.n x.c, .slice x.A2 x.n2 x.c2, .slice x.A3 x.n3 x.c3], fun W hW => hW, hS2, ?_⟩
    try simp only [Act.put, List.setIfInBounds_toArray, List.set_cons_zero, List.set_cons_succ]
    have R2 : Row w2 b 64 #[.slice A n c] := R1.out.grown g2 NB.out
    obtain ⟨A1, n1, c1, rfl⟩ := g1.slice
    have d0 : w2.cell? ⟨b, 0, none⟩ = some (.slice A n c) := R2.cell 0
    have f0 := R2.frozen 0
    refine held_take 10 ?_ rfl (by kernel_rfl) (by kernel_rfl) (by kernel_rfl) (fun _ _ _ h => h) (by rfl) ?_ hS2 ?_
    rotate_left
    · (intro W hSW; go_simp; try rfl)
    try simp only [Act.put, List.setIfInBounds_toArray, List.set_cons_zero, List.set_cons_succ]
    refine held_take 11 ?_ rfl (by kernel_rfl) (by kernel_rfl) (by kernel_rfl) (fun _ _ _ h => h) (by rfl) ?_ hS2 ?_
    rotate_left
    · (intro W hSW; go_simp; try rfl)
    try simp only [Act.put, List.setIfInBounds_toArray, List.set_cons_zero, List.set_cons_succ]
    have R3 := R2.one_set (.slice A1 n1 c1)
    have G4 := grown_set w2 b 0 (.slice A1 n1 c1)
    refine held_next 12 rfl (by kernel_rfl) (by rfl) ?_
    go_simp
    have FIN := Sx.put S.out HK.out GAP.out (e := ⟨UInt16.ofNat y, x⟩) EK.out HNZ.out HC.out g1 (grown_start GS.out g2) (g3.elim .inl (fun h => .inr ⟨_, h, GS.out.size, (g1.lt _ h).2⟩)) R3 G4
    have hS3 : Row (w2.setCell ⟨b, 0, none⟩ (.slice A1 n1 c1)) w.heap.size 55 #[.int .u8 x.κ, .slice x.A x.n x.c, .slice x.A2 x.n2 x.c2, .slice x.A3 x.n3 x.c3] := hS2.grown G4 NBB.out
    generalize w2.setCell ⟨b, 0, none⟩ (.slice A1 n1 c1) = w3 at *
    refine ⟨fun W => Row W w.heap.size 55 #[.int .u8 x.κ, .slice x.A x.n x.c, .slice x.A2 x.n2 x.c2, .slice x.A3 x.n3 x.c3], fun W hW => hW, hS3, ?_⟩
    refine wpAnyH_done (by kernel_rfl) ?_ _
    have FI := Lib.hid FIN
    clear FIN R3 G4 d0 f0 hS2 hS3 R2 g1 g2 g3 hSc
    go_wp2
    go_end0
    obtain ⟨⟨N', S', NX, OB⟩, OF⟩ := FI.out
    exact ⟨rfl, ⟨N', _, _, S', NX, OB⟩, OF⟩

set_option maxHeartbeats 1000000 in
theorem put_no {N : Nat → Prop} (v s : Value) (P : Nat → Bool) (b K y : Nat) (es : List En) (x : Bd) (w : World) (S : Sx N w v P b K s es)
    (hn : nz P y = false) (hc : Cn N w x.val (blk P y) (ck (blk P y))) :
    Calls Tryz.prog 27 #[v, .int .u16 y, x.val] w fun e w' => e = .returned (.tuple #[]) ∧ Below w.heap.size w w' := by
  have hm : ct (blk P y) 65536 = 0 := nz_ct hn
  have hfo := S.form
  subst hfo
  have bz := bx w (.cells #[.int .u8 x.κ, .slice x.A x.n x.c, .slice x.A2 x.n2 x.c2, .slice x.A3 x.n3 x.c3] 55)
  have HC := Lib.hid hc
  clear S hc hn
  go_enter Tryz.func27, Tryz.ntmps27
  go_wp2_with fail
  generalize w.alloc (.cells #[.int .u8 x.κ, .slice x.A x.n x.c, .slice x.A2 x.n2 x.c2, .slice x.A3 x.n3 x.c3] 55) = w1 at *
  have B1 := Lib.hid bz
  clear bz
  refine (len_c _ _ _ 0 _ hm (HC.out.step B1.out)).mono ?_
  rintro e w4 ⟨rfl, b4⟩
  have B4 := Lib.hid (below_both B1.out b4)
  clear b4
  go_wp2
  go_end0
  exact ⟨rfl, B4.out⟩
/-- A container is put in, unless it is empty. -/
theorem put_c {N : Nat → Prop} (v s : Value) (P : Nat → Bool) (b K y : Nat) (es : List En) (x : Bd) (w : World) (S : Sx N w v P b K s es) (hk : K ≤ y) (hy : y < 65536) (gap : ∀ j, K ≤ j → j < y → nz P j = false)
    (hc : Cn N w x.val (blk P y) (ck (blk P y))) :
    Calls Tryz.prog 27 #[v, .int .u16 y, x.val] w fun e w' => e = .returned (.tuple #[]) ∧ (∃ N' s' es', Sx N' w' v P b (y + 1) s' es' ∧ Nx N w N' w' ∧ (s'.ownBlock = s.ownBlock ∨ ∃ g, s'.ownBlock = some g ∧ w.heap.size ≤ g)) ∧ Off (fun x => x = b ∨ s.ownBlock = some x) w w' := by
  cases hn : nz P y with
  | true => exact put_yes v s P b K y es x _ w S hk hy gap hn rfl hc
  | false =>
    refine (put_no v s P b K y es x w S hn hc).mono ?_
    rintro e w' ⟨rfl, hb⟩
    refine ⟨rfl, ⟨N, s, es, (S.step hb).skip (by omega) fun j h1 h2 => ?_, Nx.refl _ _ _, .inl rfl⟩, Off.of hb⟩
    by_cases h : j < y
    · exact gap j h1 h
    · obtain rfl : j = y := by omega
      exact hn

set_option maxHeartbeats 4000000 in
theorem putIf_yes {N : Nat → Prop} (v s : Value) (P : Nat → Bool) (b K y : Nat) (es : List En) (x : Bd) (w : World) (S : Sx N w v P b K s es) (hk : K ≤ y) (hy : y < 65536) (gap : ∀ j, K ≤ j → j < y → nz P j = false)
    (hn : nz P y = true) (hc : Cn N w x.val (blk P y) (ck (blk P y))) :
    Calls Tryz.prog 75 #[v, .bool true, .agg #[.int .u16 y, .int .u8 x.κ, .slice x.A x.n x.c, .slice x.A2 x.n2 x.c2, .slice x.A3 x.n3 x.c3]] w fun e w' => e = .returned (.tuple #[]) ∧ (∃ N' s' es', Sx N' w' v P b (y + 1) s' es' ∧ Nx N w N' w' ∧ (s'.ownBlock = s.ownBlock ∨ ∃ g, s'.ownBlock = some g ∧ w.heap.size ≤ g)) ∧ Off (fun x => x = b ∨ s.ownBlock = some x) w w' := by
  have GAP := Lib.hid gap
  have HK := Lib.hid hk
  have HNZ := Lib.hid hn
  have EK : Hid ((UInt16.ofNat y).toNat = y) := Lib.hid (u16_of y hy)
  have AR := Lib.hid S.arr
  have SS := Lib.hid S
  have OWN := Lib.hid (own_lt S)
  have hL := S.dir.len
  have HL : Hid (es.length + [(⟨UInt16.ofNat y, x⟩ : En)].length ≤ 1000000000) := Lib.hid (by show es.length + 1 ≤ _; omega)
  have hfo := S.form
  subst hfo
  obtain ⟨A, n, c, rfl⟩ := S.arr.slice
  have rz := Row.new w 61 #[.int .u16 y, .int .u8 x.κ, .slice x.A x.n x.c, .slice x.A2 x.n2 x.c2, .slice x.A3 x.n3 x.c3]
  have bz := bx w (.cells #[.int .u16 y, .int .u8 x.κ, .slice x.A x.n x.c, .slice x.A2 x.n2 x.c2, .slice x.A3 x.n3 x.c3] 61)
  have hbl := S.box.lt
  have R1 := Lib.hid (S.box.below bz hbl)
  have AR := Lib.hid (AR.out.below bz (Nat.le_refl _))
  have HC := Lib.hid hc
  clear S hc hn gap hk hL
  go_enter Tryz.func75, Tryz.ntmps75
  go_wp2_with fail
  generalize w.alloc (.cells #[.int .u16 y, .int .u8 x.κ, .slice x.A x.n x.c, .slice x.A2 x.n2 x.c2, .slice x.A3 x.n3 x.c3] 61) = w4 at *
  have B4 := Lib.hid bz
  have RZ := Lib.hid rz
  clear rz bz
  have hSc : Row w4.drew w.heap.size 61 #[.int .u16 y, .int .u8 x.κ, .slice x.A x.n x.c, .slice x.A2 x.n2 x.c2, .slice x.A3 x.n3 x.c3] := RZ.out
  have C1 : Hid ((w4.alloc (.cells #[.int .u16 y, .int .u8 x.κ, .slice x.A x.n x.c, .slice x.A2 x.n2 x.c2, .slice x.A3 x.n3 x.c3] 61)).cell? ⟨b, 0, none⟩ = some (.slice A n c)) := Lib.hid ((show (Row (w4.alloc (.cells #[.int .u16 y, .int .u8 x.κ, .slice x.A x.n x.c, .slice x.A2 x.n2 x.c2, .slice x.A3 x.n3 x.c3] 61)) b 64 #[.slice A n c]) from (Row.alloc (w := w4) R1.out _)).cell 0)
  have c1 : w4.drew.cell? ⟨b, 0, none⟩ = some (.slice A n c) := R1.out.cell 0
  have R1 : Hid (Row (w4.drew.alloc (.cells #[.int .u16 y, .int .u8 x.κ, .slice x.A x.n x.c, .slice x.A2 x.n2 x.c2, .slice x.A3 x.n3 x.c3] 61)) b 64 #[.slice A n c]) := Lib.hid (Row.alloc (w := w4.drew) R1.out _)
  have AR : Hid (GwV eN (w4.drew.alloc (.cells #[.int .u16 y, .int .u8 x.κ, .slice x.A x.n x.c, .slice x.A2 x.n2 x.c2, .slice x.A3 x.n3 x.c3] 61)) 0 (.slice A n c) es) := Lib.hid (GwV.alloc (w := w4.drew) AR.out _)
  have GS : Hid (Below w.heap.size w (w4.drew.alloc (.cells #[.int .u16 y, .int .u8 x.κ, .slice x.A x.n x.c, .slice x.A2 x.n2 x.c2, .slice x.A3 x.n3 x.c3] 61))) := Lib.hid ((below_drewN B4.out 1).trans ((bx w4.drew _).mono B4.out.size))
  have S := SS
  have ONE : Hid (#[.int .u16 y, .int .u8 x.κ, .slice x.A x.n x.c, .slice x.A2 x.n2 x.c2, .slice x.A3 x.n3 x.c3] = (eN.cs ⟨UInt16.ofNat y, x⟩).toArray) := Lib.hid (by show _ = #[_, _, _, _, _]; rw [show (Value.int .u16 ((UInt16.ofNat y).toNat : Int)) = .int .u16 y by rw [EK.out]])
  have NE : Hid ((Value.slice A n c).ownBlock ≠ some w.heap.size) := Lib.hid (fun h => absurd (OWN.out _ h) (by omega))
  have NB : Hid ((Value.slice A n c).ownBlock ≠ some b) := Lib.hid SS.out.nbs
  have NBB : Hid (some b ≠ some w.heap.size) := Lib.hid (by intro h; injection h with h; omega)
  refine wp_region_held_drew (S := fun W => Row W w.heap.size 61 #[.int .u16 y, .int .u8 x.κ, .slice x.A x.n x.c, .slice x.A2 x.n2 x.c2, .slice x.A3 x.n3 x.c3]) (by kernel_rfl) hSc (fun _ => ?_)
  refine held_take 0 ?_ rfl (by kernel_rfl) (by kernel_rfl) (by kernel_rfl) (fun _ _ _ h => h) (by rfl) ?_ hSc ?_
  rotate_left
  · (intro W hSW; go_simp; try rfl)
  try simp only [Act.put, List.setIfInBounds_toArray, List.set_cons_zero, List.set_cons_succ]
  refine held_take 1 ?_ rfl (by kernel_rfl) (by kernel_rfl) (by kernel_rfl) (fun _ _ _ h => h) (by rfl) ?_ hSc ?_
  rotate_left
  · (intro W hSW; go_simp; try rfl)
  try simp only [Act.put, List.setIfInBounds_toArray, List.set_cons_zero, List.set_cons_succ]
  refine held_take 2 ?_ rfl (by kernel_rfl) (by kernel_rfl) (by kernel_rfl) (fun _ _ _ h => h) (by rfl) ?_ hSc ?_
  rotate_left
  · (intro W hSW; go_simp; try rfl)
  try simp only [Act.put, List.setIfInBounds_toArray, List.set_cons_zero, List.set_cons_succ]
  refine held_take 3 ?_ rfl (by kernel_rfl) (by kernel_rfl) (by kernel_rfl) (fun _ _ _ h => h) (by rfl) ?_ hSc ?_
  rotate_left
  · (intro W hSW; go_simp; try rfl)
  try simp only [Act.put, List.setIfInBounds_toArray, List.set_cons_zero, List.set_cons_succ]
  refine held_take 5 ?_ rfl (by kernel_rfl) (by kernel_rfl) (by kernel_rfl) (fun _ _ _ h => h) (by rfl) ?_ hSc ?_
  rotate_left
  · (intro W hSW; have k0 := hSW.cell 0; have k1 := hSW.cell 1; have k2 := hSW.cell 2; have k3 := hSW.cell 3; have k4 := hSW.cell 4; go_simp; try rfl)
  try simp only [Act.put, List.setIfInBounds_toArray, List.set_cons_zero, List.set_cons_succ]
  refine held_two 4 6 rfl rfl (by kernel_rfl) (by rfl) (by rfl) ?_ ?_
  · skip
    go_simp
    refine ⟨fun W => Row W w.heap.size 61 #[.int .u16 y, .int .u8 x.κ, .slice x.A x.n x.c, .slice x.A2 x.n2 x.c2, .slice x.A3 x.n3 x.c3], fun W hW => hW, hSc, ?_⟩
    try simp only [Act.put, List.setIfInBounds_toArray, List.set_cons_zero, List.set_cons_succ]
    refine held_next 6 rfl (by kernel_rfl) (by rfl) ?_
    go_simp
    refine ⟨fun W => Row W w.heap.size 61 #[.int .u16 y, .int .u8 x.κ, .slice x.A x.n x.c, .slice x.A2 x.n2 x.c2, .slice x.A3 x.n3 x.c3], fun W hW => hW, hSc.alloc _, ?_⟩
    try simp only [Act.put, List.setIfInBounds_toArray, List.set_cons_zero, List.set_cons_succ]
    refine held_next 7 rfl (by kernel_rfl) (by rfl) ?_
    refine wp_gappv eN (w4.drew.alloc (.cells #[.int .u16 y, .int .u8 x.κ, .slice x.A x.n x.c, .slice x.A2 x.n2 x.c2, .slice x.A3 x.n3 x.c3] 61)) _ _ _ rfl 0 sliN infN (.slice A n c) es rfl AR.out _ _ _ [⟨UInt16.ofNat y, x⟩] rfl (GsV.one eN _ ⟨UInt16.ofNat y, x⟩ _ ONE.out) HL.out (Nat.zero_le _) (fun s1 w2 g1 g2 g3 => ?_)
    have hS2 : Row w2 w.heap.size 61 #[.int .u16 y, .int .u8 x.κ, .slice x.A x.n x.c, .slice x.A2 x.n2 x.c2, .slice x.A3 x.n3 x.c3] := (hSc.alloc _).grown g2 NE.out
    refine ⟨fun W => Row W w.heap.size 61 #[.int .u16 y, .int .u8 x.κ, .slice x.A x.n x.c, .slice x.A2 x.n2 x.c2, .slice x.A3 x.n3 x.c3], fun W hW => hW, hS2, ?_⟩
    try simp only [Act.put, List.setIfInBounds_toArray, List.set_cons_zero, List.set_cons_succ]
    have R2 : Row w2 b 64 #[.slice A n c] := R1.out.grown g2 NB.out
    obtain ⟨A1, n1, c1, rfl⟩ := g1.slice
    have d0 : w2.cell? ⟨b, 0, none⟩ = some (.slice A n c) := R2.cell 0
    have f0 := R2.frozen 0
    refine held_take 8 ?_ rfl (by kernel_rfl) (by kernel_rfl) (by kernel_rfl) (fun _ _ _ h => h) (by rfl) ?_ hS2 ?_
    rotate_left
    · (intro W hSW; go_simp; try rfl)
    try simp only [Act.put, List.setIfInBounds_toArray, List.set_cons_zero, List.set_cons_succ]
    refine held_take 9 ?_ rfl (by kernel_rfl) (by kernel_rfl) (by kernel_rfl) (fun _ _ _ h => h) (by rfl) ?_ hS2 ?_
    rotate_left
    · (intro W hSW; go_simp; try rfl)
    try simp only [Act.put, List.setIfInBounds_toArray, List.set_cons_zero, List.set_cons_succ]
    have R3 := R2.one_set (.slice A1 n1 c1)
    have G4 := grown_set w2 b 0 (.slice A1 n1 c1)
    refine held_next 10 rfl (by kernel_rfl) (by rfl) ?_
    go_simp
    have FIN := Sx.put S.out HK.out GAP.out (e := ⟨UInt16.ofNat y, x⟩) EK.out HNZ.out HC.out g1 (grown_start GS.out g2) (g3.elim .inl (fun h => .inr ⟨_, h, GS.out.size, (g1.lt _ h).2⟩)) R3 G4
    have hS3 : Row (w2.setCell ⟨b, 0, none⟩ (.slice A1 n1 c1)) w.heap.size 61 #[.int .u16 y, .int .u8 x.κ, .slice x.A x.n x.c, .slice x.A2 x.n2 x.c2, .slice x.A3 x.n3 x.c3] := hS2.grown G4 NBB.out
    generalize w2.setCell ⟨b, 0, none⟩ (.slice A1 n1 c1) = w3 at *
    refine ⟨fun W => Row W w.heap.size 61 #[.int .u16 y, .int .u8 x.κ, .slice x.A x.n x.c, .slice x.A2 x.n2 x.c2, .slice x.A3 x.n3 x.c3], fun W hW => hW, hS3, ?_⟩
    refine wpAnyH_done (by kernel_rfl) ?_ _
    have FI := Lib.hid FIN
    clear FIN R3 G4 d0 f0 hS2 hS3 R2 g1 g2 g3 hSc
    go_wp2
    go_end0
    obtain ⟨⟨N', S', NX, OB⟩, OF⟩ := FI.out
    exact ⟨rfl, ⟨N', _, _, S', NX, OB⟩, OF⟩
  · skip
    go_simp
    refine ⟨fun W => Row W w.heap.size 61 #[.int .u16 y, .int .u8 x.κ, .slice x.A x.n x.c, .slice x.A2 x.n2 x.c2, .slice x.A3 x.n3 x.c3], fun W hW => hW, hSc.alloc _, ?_⟩
    try simp only [Act.put, List.setIfInBounds_toArray, List.set_cons_zero, List.set_cons_succ]
    have c0 : (w4.alloc (.cells #[.int .u16 y, .int .u8 x.κ, .slice x.A x.n x.c, .slice x.A2 x.n2 x.c2, .slice x.A3 x.n3 x.c3] 61)).cell? ⟨b, 0, none⟩ = some (.slice A n c) := C1.out
    refine held_next 4 rfl (by kernel_rfl) (by rfl) ?_
    go_simp
    refine ⟨fun W => Row W w.heap.size 61 #[.int .u16 y, .int .u8 x.κ, .slice x.A x.n x.c, .slice x.A2 x.n2 x.c2, .slice x.A3 x.n3 x.c3], fun W hW => hW, hSc.alloc _, ?_⟩
    try simp only [Act.put, List.setIfInBounds_toArray, List.set_cons_zero, List.set_cons_succ]
    clear c0
    refine held_next 7 rfl (by kernel_rfl) (by rfl) ?_
    refine wp_gappv eN (w4.drew.alloc (.cells #[.int .u16 y, .int .u8 x.κ, .slice x.A x.n x.c, .slice x.A2 x.n2 x.c2, .slice x.A3 x.n3 x.c3] 61)) _ _ _ rfl 0 sliN infN (.slice A n c) es rfl AR.out _ _ _ [⟨UInt16.ofNat y, x⟩] rfl (GsV.one eN _ ⟨UInt16.ofNat y, x⟩ _ ONE.out) HL.out (Nat.zero_le _) (fun s1 w2 g1 g2 g3 => ?_)
    have hS2 : Row w2 w.heap.size 61 #[.int .u16 y, .int .u8 x.κ, .slice x.A x.n x.c, .slice x.A2 x.n2 x.c2, .slice x.A3 x.n3 x.c3] := (hSc.alloc _).grown g2 NE.out
    refine ⟨fun W => Row W w.heap.size 61 #[.int .u16 y, .int .u8 x.κ, .slice x.A x.n x.c, .slice x.A2 x.n2 x.c2, .slice x.A3 x.n3 x.c3], fun W hW => hW, hS2, ?_⟩
    try simp only [Act.put, List.setIfInBounds_toArray, List.set_cons_zero, List.set_cons_succ]
    have R2 : Row w2 b 64 #[.slice A n c] := R1.out.grown g2 NB.out
    obtain ⟨A1, n1, c1, rfl⟩ := g1.slice
    have d0 : w2.cell? ⟨b, 0, none⟩ = some (.slice A n c) := R2.cell 0
    have f0 := R2.frozen 0
    refine held_take 8 ?_ rfl (by kernel_rfl) (by kernel_rfl) (by kernel_rfl) (fun _ _ _ h => h) (by rfl) ?_ hS2 ?_
    rotate_left
    · (intro W hSW; go_simp; try rfl)
    try simp only [Act.put, List.setIfInBounds_toArray, List.set_cons_zero, List.set_cons_succ]
    refine held_take 9 ?_ rfl (by kernel_rfl) (by kernel_rfl) (by kernel_rfl) (fun _ _ _ h => h) (by rfl) ?_ hS2 ?_
    rotate_left
    · (intro W hSW; go_simp; try rfl)
    try simp only [Act.put, List.setIfInBounds_toArray, List.set_cons_zero, List.set_cons_succ]
    have R3 := R2.one_set (.slice A1 n1 c1)
    have G4 := grown_set w2 b 0 (.slice A1 n1 c1)
    refine held_next 10 rfl (by kernel_rfl) (by rfl) ?_
    go_simp
    have FIN := Sx.put S.out HK.out GAP.out (e := ⟨UInt16.ofNat y, x⟩) EK.out HNZ.out HC.out g1 (grown_start GS.out g2) (g3.elim .inl (fun h => .inr ⟨_, h, GS.out.size, (g1.lt _ h).2⟩)) R3 G4
    have hS3 : Row (w2.setCell ⟨b, 0, none⟩ (.slice A1 n1 c1)) w.heap.size 61 #[.int .u16 y, .int .u8 x.κ, .slice x.A x.n x.c, .slice x.A2 x.n2 x.c2, .slice x.A3 x.n3 x.c3] := hS2.grown G4 NBB.out
    generalize w2.setCell ⟨b, 0, none⟩ (.slice A1 n1 c1) = w3 at *
    refine ⟨fun W => Row W w.heap.size 61 #[.int .u16 y, .int .u8 x.κ, .slice x.A x.n x.c, .slice x.A2 x.n2 x.c2, .slice x.A3 x.n3 x.c3], fun W hW => hW, hS3, ?_⟩
    refine wpAnyH_done (by kernel_rfl) ?_ _
    have FI := Lib.hid FIN
    clear FIN R3 G4 d0 f0 hS2 hS3 R2 g1 g2 g3 hSc
    go_wp2
    go_end0
    obtain ⟨⟨N', S', NX, OB⟩, OF⟩ := FI.out
    exact ⟨rfl, ⟨N', _, _, S', NX, OB⟩, OF⟩

theorem putIf_no (v : Value) (y : Nat) (x : Bd) (w : World) :
    Calls Tryz.prog 75 #[v, .bool false, .agg #[.int .u16 y, .int .u8 x.κ, .slice x.A x.n x.c, .slice x.A2 x.n2 x.c2, .slice x.A3 x.n3 x.c3]] w fun e w' => e = .returned (.tuple #[]) ∧ Below w.heap.size w w' := by
  go_enter Tryz.func75, Tryz.ntmps75
  go_wp2
  go_end0
  exact ⟨rfl, bx w _⟩
end Go.Proofs.YtcmifbjeabkihabGreatDoor
namespace Go.Proofs.YtcmifbjeabkihabGreatDoor
open Go.Shelf
def sortSp_ren : Go.Shelf.Ren := ⟨fun | 6 => 53 | 15 => 92 | 14 => 91 | 28 => 141 | 29 => 142 | 20 => 133 | 21 => 134 | 22 => 135 | 23 => 136 | 24 => 137 | 25 => 138 | 26 => 139 | 27 => 140 | 46 => 185 | 47 => 186 | 48 => 187 | 49 => 188 | 50 => 189 | 57 => 210 | n => n, fun | 22 => 22 | 24 => 39 | 25 => 93 | 3 => 3 | 39 => 122 | 0 => 0 | 53 => 23 | 55 => 37 | 4 => 4 | 46 => 152 | 45 => 151 | 50 => 68 | 5 => 5 | 9 => 9 | 66 => 185 | 70 => 189 | 76 => 205 | 77 => 206 | n => n, fun | n => n⟩
theorem sortSp : Go.Proofs.SlLaysF0.n6 Tryz.prog sortSp_ren := {
  mixed := by kernel_rfl
  f6 := ⟨Tryz.f53.name, by decide, Tryz.func53.trans (congrArg some (by kernel_rfl))⟩
  f14 := ⟨Tryz.f91.name, by decide, Tryz.func91.trans (congrArg some (by kernel_rfl))⟩
  f15 := Tryz.func92.trans (congrArg some (by kernel_rfl))
  f20 := ⟨Tryz.f133.name, by decide, Tryz.func133.trans (congrArg some (by kernel_rfl))⟩
  f21 := ⟨Tryz.f134.name, by decide, Tryz.func134.trans (congrArg some (by kernel_rfl))⟩
  f22 := ⟨Tryz.f135.name, by decide, Tryz.func135.trans (congrArg some (by kernel_rfl))⟩
  f23 := ⟨Tryz.f136.name, by decide, Tryz.func136.trans (congrArg some (by kernel_rfl))⟩
  f24 := ⟨Tryz.f137.name, by decide, Tryz.func137.trans (congrArg some (by kernel_rfl))⟩
  f25 := ⟨Tryz.f138.name, by decide, Tryz.func138.trans (congrArg some (by kernel_rfl))⟩
  f26 := ⟨Tryz.f139.name, by decide, Tryz.func139.trans (congrArg some (by kernel_rfl))⟩
  f27 := ⟨Tryz.f140.name, by decide, Tryz.func140.trans (congrArg some (by kernel_rfl))⟩
  f28 := Tryz.func141.trans (congrArg some (by kernel_rfl))
  f29 := Tryz.func142.trans (congrArg some (by kernel_rfl))
  f46 := ⟨Tryz.f185.name, by decide, Tryz.func185.trans (congrArg some (by kernel_rfl))⟩
  f47 := Tryz.func186.trans (congrArg some (by kernel_rfl))
  f48 := Tryz.func187.trans (congrArg some (by kernel_rfl))
  f49 := ⟨Tryz.f188.name, by decide, Tryz.func188.trans (congrArg some (by kernel_rfl))⟩
  f50 := ⟨Tryz.f189.name, by decide, Tryz.func189.trans (congrArg some (by kernel_rfl))⟩
  f57 := ⟨Tryz.f210.name, by decide, Tryz.func210.trans (congrArg some (by kernel_rfl))⟩
  t0 := Tryz.underlying0
  a0 := Tryz.isAgg0
  z0 := Tryz.sizeOf0
  v0 := Tryz.zeroValue0
  t3 := Tryz.underlying3
  a3 := Tryz.isAgg3
  z3 := Tryz.sizeOf3
  v3 := Tryz.zeroValue3
  t4 := Tryz.underlying4
  a4 := Tryz.isAgg4
  z4 := Tryz.sizeOf4
  v4 := Tryz.zeroValue4
  t5 := Tryz.underlying5
  a5 := Tryz.isAgg5
  z5 := Tryz.sizeOf5
  v5 := Tryz.zeroValue5
  t9 := Tryz.underlying9
  a9 := Tryz.isAgg9
  z9 := Tryz.sizeOf9
  v9 := Tryz.zeroValue9
  t22 := Tryz.underlying22
  a22 := Tryz.isAgg22
  z22 := Tryz.sizeOf22
  v22 := Tryz.zeroValue22
  t25 := Tryz.underlying93
  a25 := Tryz.isAgg93
  z25 := Tryz.sizeOf93
  v25 := Tryz.zeroValue93
  t39 := Tryz.underlying122
  a39 := Tryz.isAgg122
  z39 := Tryz.sizeOf122
  v39 := Tryz.zeroValue122
  t45 := Tryz.underlying151
  a45 := Tryz.isAgg151
  z45 := Tryz.sizeOf151
  v45 := Tryz.zeroValue151
  t46 := Tryz.underlying152
  a46 := Tryz.isAgg152
  z46 := Tryz.sizeOf152
  v46 := Tryz.zeroValue152
  t50 := Tryz.underlying68
  a50 := Tryz.isAgg68
  z50 := Tryz.sizeOf68
  v50 := Tryz.zeroValue68
  t53 := Tryz.underlying23
  a53 := Tryz.isAgg23
  z53 := Tryz.sizeOf23
  v53 := Tryz.zeroValue23
  t55 := Tryz.underlying37
  a55 := Tryz.isAgg37
  z55 := Tryz.sizeOf37
  v55 := Tryz.zeroValue37
  t66 := Tryz.underlying185
  a66 := Tryz.isAgg185
  z66 := Tryz.sizeOf185
  v66 := Tryz.zeroValue185
  t70 := Tryz.underlying189
  a70 := Tryz.isAgg189
  z70 := Tryz.sizeOf189
  v70 := Tryz.zeroValue189
  t76 := Tryz.underlying205
  a76 := Tryz.isAgg205
  z76 := Tryz.sizeOf205
  v76 := Tryz.zeroValue205
  t77 := Tryz.underlying206
  a77 := Tryz.isAgg206
  z77 := Tryz.sizeOf206
  v77 := Tryz.zeroValue206 }
end Go.Proofs.YtcmifbjeabkihabGreatDoor
