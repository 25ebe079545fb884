/- Walks: Clone and SortFunc of spans: what is told are the same spans, their begins rising. -/
import Derived.Test.YtponcpneflhpfaaGreatDoorSb1
import Derived.Test.YtponcpneflhpfaaGreatDoorSb3
import Derived.Test.YtponcpneflhpfaaGreatDoorSa6
import Derived.Shelf.SlGeneric
import Derived.Shelf.SlSortCmp.WholeK
import Derived.Shelf.SlSortCmp.NoneTotal
import Derived.Ground.SlsfProg
import Derived.Test.YtponcpneflhpfaaGreatDoorProg
import Derived.Test.YtponcpneflhpfaaGreatDoorSa9
namespace Go.Proofs.YtponcpneflhpfaaGreatDoor
open Go.RowKit
set_option linter.unusedVariables false

theorem wp_gappv {α : Type} (k : ElemV α) {P : Program} (w : World) {o : Oper} {a : Act} {K : Act → World → Prop} {Q : Exit → Act → World → Prop} (s x : Operand) (t : TypeId)
    (ho : o.op = .call { callee := .builtin .append, args := #[s, x], argTypes := #[t, t] }) (base : Nat) (ht : P.underlying t = some (.slice k.E))
    (hinf : (P.info? k.E).map (fun i => (i.zero, i.size, i.bytes)) = some (some (k.val k.zero), k.n, k.bytes))
    (v : Value) (l : List α) (hs : a.eval s = v) (hown : GwV k w base v l) (lo hi : Nat) (u : Value) (m : List α) (hx : a.eval x = u) (hu : GsV k w lo hi u m)
    (hb : l.length + m.length ≤ 1000000000) (hbase : base ≤ w.heap.size)
    (h : ∀ v' w', GwV k w' base v' (l ++ m) → w.grownBy w' v.ownBlock → (v'.ownBlock = v.ownBlock ∨ v'.ownBlock = some w.heap.size) → K (a.put o.dst v') w') : o.wp P a w K Q := by
  obtain ⟨v', w', hrun, h2, h3, h5⟩ := run_gappv k (P := P) w t o.type base ht hinf v l hown lo hi u m hu hb hbase
  unfold Oper.wp execOp
  simp only [ho, resolve, invoke, builtin, Sem.run_bind, Sem.run_pure, Result.andThen_ok, List.map_toArray, List.map_cons, List.map_nil, hs, hx, hrun]
  exact h v' w' h2 h3 h5
theorem GwV.slice {α : Type} {k : ElemV α} {w : World} {base : Nat} {v : Value} {l : List α} (h : GwV k w base v l) : ∃ A n c, v = .slice A n c := by
  rcases h.2 with ⟨rfl, _⟩ | ⟨g, cap, cur, rfl, _⟩
  · exact ⟨_, _, _, rfl⟩
  · exact ⟨_, _, _, rfl⟩
theorem Row.one_set {w : World} {g : Nat} {t : TypeId} {x : Value} (h : Row w g t #[x]) (u : Value) : Row (w.setCell ⟨g, 0, none⟩ u) g t #[u] := by
  have := h.set_ 0 u
  simpa using this

theorem entries_c {N : Nat → Prop} (v : Value) (P : Nat → Bool) (w : World) (h : St N w v P) :
    Calls Tryz.prog 64 #[v] w fun e w' => ∃ A n c es, e = .returned (.slice A n c) ∧ w' = w ∧ GsV eN w 0 w.heap.size (.slice A n c) es ∧ Dir N w P 0 65536 es := by
  cases h with
  | none h =>
    have D : Dir N w P 0 65536 [] := (Dir.nil_ (N := N) (w := w) (P := P) (lo := 0)).skip (by omega) fun k _ hk => nz_not.2 fun x hx => h _ (by omega)
    clear h
    go_enter Tryz.func64, Tryz.ntmps64
    go_wp2
    go_ret
    exact ⟨_, _, _, [], rfl, rfl, GsV.nil_ _ _ _, D⟩
  | some b s es hb hs hn hd =>
    have HS := Lib.hid hs
    have HD := Lib.hid hd
    obtain ⟨A, c, rfl, -⟩ := hs
    have c0 := hb.cell 0
    have c0' : w.cell? ⟨b, 0, none⟩ = some (.slice A es.length c) := c0
    clear hb hn hd c0
    go_enter Tryz.func64, Tryz.ntmps64
    go_wp2
    go_ret
    exact ⟨_, _, _, es, rfl, rfl, HS.out, HD.out⟩

theorem new_c {N : Nat → Prop} (P : Nat → Bool) (w : World) (hN : ∀ x, w.heap.size ≤ x → N x) :
    Calls Tryz.prog 11 #[] w fun e w' => ∃ b, e = .returned (.pointer (some ⟨b, 0, none⟩)) ∧ b = w.heap.size ∧ Sx (fun x => N x ∧ x ≠ b) w' (.pointer (some ⟨b, 0, none⟩)) P b 0 (.slice none 0 0) [] ∧ Nx N w (fun x => N x ∧ x ≠ b) w' ∧ Below w.heap.size w w' := by
  have R := Row.new w 97 #[.slice none 0 0]
  have B := bx w (.cells #[.slice none 0 0] 97)
  go_enter Tryz.func11, Tryz.ntmps11
  go_wp2
  go_ret
  exact ⟨_, rfl, rfl, ⟨rfl, R, GwV.nil_ _ _, fun _ => rfl, Dir.nil_, fun h => h.2 rfl, fun g hg => by simp [Value.ownBlock] at hg, by simp [Value.ownBlock]⟩, Nx.but _ (Nat.le_refl _) (by simp), B⟩

/-- What a set is when an entry has been put behind its last one. -/
theorem Sx.put {N : Nat → Prop} {v s s1 : Value} {P : Nat → Bool} {b K k : Nat} {es : List En} {e : En} {w w2 w3 : World} (S : Sx N w v P b K s es)
    (hk : K ≤ k) (gap : ∀ j, K ≤ j → j < k → nz P j = false) (he : e.key.toNat = k) (hn : nz P k = true) (hc : Cn N w e.b.val (blk P k) (ck (blk P k)))
    (g1 : GwV eN w2 0 s1 (es ++ [e])) (g2 : w.grownBy w2 s.ownBlock) (g3 : s1.ownBlock = s.ownBlock ∨ ∃ g, s1.ownBlock = some g ∧ w.heap.size ≤ g ∧ g < w2.heap.size)
    (r3 : Row w3 b 97 #[s1]) (g4 : w2.grownBy w3 (some b)) :
    (∃ N', Sx N' w3 v P b (k + 1) s1 (es ++ [e]) ∧ Nx N w N' w3 ∧ (s1.ownBlock = s.ownBlock ∨ ∃ g, s1.ownBlock = some g ∧ w.heap.size ≤ g)) ∧ Off (fun x => x = b ∨ s.ownBlock = some x) w w3 := by
  subst he
  have hb := S.box.lt
  have hne : s1.ownBlock ≠ some b := by
    rcases g3 with e | ⟨g, e, h1, _⟩
    · rw [e]; exact S.nbs
    · rw [e]; intro h; injection h with h; omega
  have off : Off (fun x => x = b ∨ s.ownBlock = some x) w w3 :=
    ⟨g4.os.trans g2.os, g4.tape.trans g2.tape, g4.output.trans g2.output, Nat.le_trans g2.size g4.size, fun x hx hm =>
      (g4.block x (Nat.lt_of_lt_of_le hx g2.size) (fun e => by injection e with e; exact hm (.inl e))).trans (g2.block x hx (fun e => hm (.inr e.symm)))⟩
  have hrow : ∀ q : Addr, N q.block → q.block < w.heap.size → w3.cell? q = w.cell? q := fun q hq hb =>
    World.cell?_of_block (off.block _ hb fun h => by
      rcases h with h | h
      · exact S.nb (h ▸ hq)
      · exact S.ns _ h hq)
  have g1' : GwV eN w3 0 s1 (es ++ [e]) := g1.kept g4 (fun k hk e => by injection e with e; subst e; exact hne hk)
  have D3 : Dir N w3 P 0 (e.key.toNat + 1) (es ++ [e]) := ((S.dir.keep off.size hrow).skip hk gap).snoc (Nat.zero_le _) rfl hn (hc.keep off.size hrow)
  refine ⟨?_, off⟩
  rcases g3 with e3 | ⟨g, e3, h1, h2⟩
  · exact ⟨N, ⟨S.form, r3, g1', fun h => absurd h (by simp), D3, S.nb, fun g hg => S.ns g (e3 ▸ hg), hne⟩, Nx.refl _ _ _, .inl e3⟩
  · refine ⟨fun x => N x ∧ x ≠ g, ⟨S.form, r3, g1', fun h => absurd h (by simp), ?_, fun h => S.nb h.1, fun g' hg h => ?_, hne⟩, Nx.but g h1 (Nat.lt_of_lt_of_le h2 g4.size), .inr ⟨g, e3, h1⟩⟩
    · refine ⟨D3.ris, fun x hx => ?_, D3.all⟩
      rw [List.mem_append] at hx
      rcases hx with hx | hx
      · obtain ⟨a, b', c, d⟩ := S.dir.mem x hx
        have d2 : Cn (fun x => N x ∧ x ≠ g) w x.b.val (blk P x.key.toNat) (ck (blk P x.key.toNat)) := d.mono fun y hy hn => ⟨hn, by omega⟩
        exact ⟨a, by omega, c, d2.keep off.size fun q hq hb => hrow q hq.1 hb⟩
      · simp at hx; subst hx
        have d2 : Cn (fun y => N y ∧ y ≠ g) w x.b.val (blk P x.key.toNat) (ck (blk P x.key.toNat)) := hc.mono fun y hy hn => ⟨hn, by omega⟩
        exact ⟨Nat.zero_le _, by omega, hn, d2.keep off.size fun q hq hb => hrow q hq.1 hb⟩
    · rw [e3] at hg; injection hg with hg; exact h.2 hg.symm

theorem grown_start {w w1 w2 : World} {row : Option Nat} (h : Below w.heap.size w w1) (g : w1.grownBy w2 row) : w.grownBy w2 row :=
  ⟨g.os.trans h.os, g.tape.trans h.tape, g.output.trans h.output, Nat.le_trans h.size g.size, fun k hk hne => (g.block k (Nat.lt_of_lt_of_le hk h.size) hne).trans (h.block k hk)⟩
theorem own_lt {N : Nat → Prop} {w : World} {v s : Value} {P : Nat → Bool} {b K : Nat} {es : List En} (S : Sx N w v P b K s es) : ∀ g, s.ownBlock = some g → g < w.heap.size := fun g hg => (S.arr.lt g hg).2

set_option maxHeartbeats 4000000 in
theorem put_yes {N : Nat → Prop} (v s : Value) (P : Nat → Bool) (b K y : Nat) (es : List En) (x : Bd) (m : Nat) (w : World) (S : Sx N w v P b K s es) (hk : K ≤ y) (hy : y < 65536) (gap : ∀ j, K ≤ j → j < y → nz P j = false)
    (hn : nz P y = true) (hm : ct (blk P y) 65536 = m) (hc : Cn N w x.val (blk P y) (ck (blk P y))) :
    Calls Tryz.prog 61 #[v, .int .u16 y, x.val] w fun e w' => e = .returned (.tuple #[]) ∧ (∃ N' s' es', Sx N' w' v P b (y + 1) s' es' ∧ Nx N w N' w' ∧ (s'.ownBlock = s.ownBlock ∨ ∃ g, s'.ownBlock = some g ∧ w.heap.size ≤ g)) ∧ Off (fun x => x = b ∨ s.ownBlock = some x) w w' := by
  have hm0 : (0 : Int) < m := by have := nz_iff.1 hn; have := ct_pos.2 this; rw [show ct (fun x => P (65536 * y + x)) 65536 = m from hm] at this; omega
  have GAP := Lib.hid gap
  have HK := Lib.hid hk
  have HNZ := Lib.hid hn
  have EK : Hid ((UInt16.ofNat y).toNat = y) := Lib.hid (u16_of y hy)
  have AR := Lib.hid S.arr
  have SS := Lib.hid S
  have OWN := Lib.hid (own_lt S)
  have hL := S.dir.len
  have HL : Hid (es.length + [(⟨UInt16.ofNat y, x⟩ : En)].length ≤ 1000000000) := Lib.hid (by show es.length + 1 ≤ _; omega)
  have hfo := S.form
  subst hfo
  obtain ⟨A, n, c, rfl⟩ := S.arr.slice
  have rz := Row.new w 65 #[.int .u8 x.κ, .slice x.A x.n x.c, .slice x.A2 x.n2 x.c2, .slice x.A3 x.n3 x.c3]
  have bz := bx w (.cells #[.int .u8 x.κ, .slice x.A x.n x.c, .slice x.A2 x.n2 x.c2, .slice x.A3 x.n3 x.c3] 65)
  have hbl := S.box.lt
  have R0 := Lib.hid (S.box.below bz hbl)
  have AR := Lib.hid (AR.out.below bz (Nat.le_refl _))
  have HC := Lib.hid hc
  clear S hc hn gap hk hL
  go_enter Tryz.func61, Tryz.ntmps61
  go_wp2_with fail
  generalize w.alloc (.cells #[.int .u8 x.κ, .slice x.A x.n x.c, .slice x.A2 x.n2 x.c2, .slice x.A3 x.n3 x.c3] 65) = w1 at *
  have B1 := Lib.hid bz
  have RZ := Lib.hid rz
  clear rz bz
  refine (len_c _ _ _ m _ hm (HC.out.step B1.out)).mono ?_
  rintro e w4 ⟨rfl, b4⟩
  have B4 := Lib.hid (below_both B1.out b4)
  have AR := Lib.hid (AR.out.below b4 (Nat.le_refl _))
  have R1 := Lib.hid (R0.out.below b4 R0.out.lt)
  have RZ := Lib.hid (RZ.out.below b4 RZ.out.lt)
  clear b4
  have k0 := RZ.out.cell 0
  have k1 := RZ.out.cell 1
  have k2 := RZ.out.cell 2
  have k3 := RZ.out.cell 3
  go_wp2_with fail
  have hSc : Row w4.drew w.heap.size 65 #[.int .u8 x.κ, .slice x.A x.n x.c, .slice x.A2 x.n2 x.c2, .slice x.A3 x.n3 x.c3] := RZ.out
  have C1 : Hid ((w4.alloc (.cells #[.int .u16 y, .int .u8 x.κ, .slice x.A x.n x.c, .slice x.A2 x.n2 x.c2, .slice x.A3 x.n3 x.c3] 106)).cell? ⟨b, 0, none⟩ = some (.slice A n c)) := Lib.hid ((show (Row (w4.alloc (.cells #[.int .u16 y, .int .u8 x.κ, .slice x.A x.n x.c, .slice x.A2 x.n2 x.c2, .slice x.A3 x.n3 x.c3] 106)) b 97 #[.slice A n c]) from (Row.alloc (w := w4) R1.out _)).cell 0)
  have c1 : w4.drew.cell? ⟨b, 0, none⟩ = some (.slice A n c) := R1.out.cell 0
  have R1 : Hid (Row (w4.drew.alloc (.cells #[.int .u16 y, .int .u8 x.κ, .slice x.A x.n x.c, .slice x.A2 x.n2 x.c2, .slice x.A3 x.n3 x.c3] 106)) b 97 #[.slice A n c]) := Lib.hid (Row.alloc (w := w4.drew) R1.out _)
  have AR : Hid (GwV eN (w4.drew.alloc (.cells #[.int .u16 y, .int .u8 x.κ, .slice x.A x.n x.c, .slice x.A2 x.n2 x.c2, .slice x.A3 x.n3 x.c3] 106)) 0 (.slice A n c) es) := Lib.hid (GwV.alloc (w := w4.drew) AR.out _)
  have GS : Hid (Below w.heap.size w (w4.drew.alloc (.cells #[.int .u16 y, .int .u8 x.κ, .slice x.A x.n x.c, .slice x.A2 x.n2 x.c2, .slice x.A3 x.n3 x.c3] 106))) := Lib.hid ((below_drewN B4.out 1).trans ((bx w4.drew _).mono B4.out.size))
  have S := SS
  have ONE : Hid (#[.int .u16 y, .int .u8 x.κ, .slice x.A x.n x.c, .slice x.A2 x.n2 x.c2, .slice x.A3 x.n3 x.c3] = (eN.cs ⟨UInt16.ofNat y, x⟩).toArray) := Lib.hid (by show _ = #[_, _, _, _, _]; rw [show (Value.int .u16 ((UInt16.ofNat y).toNat : Int)) = .int .u16 y by rw [EK.out]])
  have NE : Hid ((Value.slice A n c).ownBlock ≠ some w.heap.size) := Lib.hid (fun h => absurd (OWN.out _ h) (by omega))
  have NB : Hid ((Value.slice A n c).ownBlock ≠ some b) := Lib.hid SS.out.nbs
  have NBB : Hid (some b ≠ some w.heap.size) := Lib.hid (by intro h; injection h with h; omega)
  clear k0 k1 k2 k3
  refine wp_region_held_drew (S := fun W => Row W w.heap.size 65 #[.int .u8 x.κ, .slice x.A x.n x.c, .slice x.A2 x.n2 x.c2, .slice x.A3 x.n3 x.c3]) (by kernel_rfl) hSc (fun _ => ?_)
  refine held_take 0 ?_ rfl (by kernel_rfl) (by kernel_rfl) (by kernel_rfl) (fun _ _ _ h => h) (by rfl) ?_ hSc ?_
  rotate_left
  · (intro W hSW; go_simp; try rfl)
  try simp only [Act.put, List.setIfInBounds_toArray, List.set_cons_zero, List.set_cons_succ]
  refine held_take 1 ?_ rfl (by kernel_rfl) (by kernel_rfl) (by kernel_rfl) (fun _ _ _ h => h) (by rfl) ?_ hSc ?_
  rotate_left
  · (intro W hSW; go_simp; try rfl)
  try simp only [Act.put, List.setIfInBounds_toArray, List.set_cons_zero, List.set_cons_succ]
  refine held_take 2 ?_ rfl (by kernel_rfl) (by kernel_rfl) (by kernel_rfl) (fun _ _ _ h => h) (by rfl) ?_ hSc ?_
  rotate_left
  · (intro W hSW; go_simp; try rfl)
  try simp only [Act.put, List.setIfInBounds_toArray, List.set_cons_zero, List.set_cons_succ]
  refine held_take 3 ?_ rfl (by kernel_rfl) (by kernel_rfl) (by kernel_rfl) (fun _ _ _ h => h) (by rfl) ?_ hSc ?_
  rotate_left
  · (intro W hSW; go_simp; try rfl)
  try simp only [Act.put, List.setIfInBounds_toArray, List.set_cons_zero, List.set_cons_succ]
  refine held_take 5 ?_ rfl (by kernel_rfl) (by kernel_rfl) (by kernel_rfl) (fun _ _ _ h => h) (by rfl) ?_ hSc ?_
  rotate_left
  · (intro W hSW; go_simp; try rfl)
  try simp only [Act.put, List.setIfInBounds_toArray, List.set_cons_zero, List.set_cons_succ]
  refine held_take 6 ?_ rfl (by kernel_rfl) (by kernel_rfl) (by kernel_rfl) (fun _ _ _ h => h) (by rfl) ?_ hSc ?_
  rotate_left
  · (intro W hSW; have k0 := hSW.cell 0; have k1 := hSW.cell 1; have k2 := hSW.cell 2; have k3 := hSW.cell 3; go_simp; try rfl)
  try simp only [Act.put, List.setIfInBounds_toArray, List.set_cons_zero, List.set_cons_succ]
  refine held_take 7 ?_ rfl (by kernel_rfl) (by kernel_rfl) (by kernel_rfl) (fun _ _ _ h => h) (by rfl) ?_ hSc ?_
  rotate_left
  · (intro W hSW; go_simp; try rfl)
  try simp only [Act.put, List.setIfInBounds_toArray, List.set_cons_zero, List.set_cons_succ]
  refine held_two 4 8 rfl rfl (by kernel_rfl) (by rfl) (by rfl) ?_ ?_
  · skip
    go_simp
    refine ⟨fun W => Row W w.heap.size 65 #[.int .u8 x.κ, .slice x.A x.n x.c, .slice x.A2 x.n2 x.c2, .slice x.A3 x.n3 x.c3], fun W hW => hW, hSc, ?_⟩
    try simp only [Act.put, List.setIfInBounds_toArray, List.set_cons_zero, List.set_cons_succ]
    refine held_next 8 rfl (by kernel_rfl) (by rfl) ?_
    go_simp
    refine ⟨fun W => Row W w.heap.size 65 #[.int .u8 x.κ, .slice x.A x.n x.c, .slice x.A2 x.n2 x.c2, .slice x.A3 x.n3 x.c3], fun W hW => hW, hSc.alloc _, ?_⟩
    try simp only [Act.put, List.setIfInBounds_toArray, List.set_cons_zero, List.set_cons_succ]
    refine held_next 9 rfl (by kernel_rfl) (by rfl) ?_
    refine wp_gappv eN (w4.drew.alloc (.cells #[.int .u16 y, .int .u8 x.κ, .slice x.A x.n x.c, .slice x.A2 x.n2 x.c2, .slice x.A3 x.n3 x.c3] 106)) _ _ _ rfl 0 sliN infN (.slice A n c) es rfl AR.out _ _ _ [⟨UInt16.ofNat y, x⟩] rfl (GsV.one eN _ ⟨UInt16.ofNat y, x⟩ _ ONE.out) HL.out (Nat.zero_le _) (fun s1 w2 g1 g2 g3 => ?_)
    have hS2 : Row w2 w.heap.size 65 #[.int .u8 x.κ, .slice x.A x.n x.c, .slice x.A2 x.n2 x.c2, .slice x.A3 x.n3 x.c3] := (hSc.alloc _).grown g2 NE.out
    refine ⟨fun W => Row W w.heap.size 65 #[.int .u8 x.κ, .slice x.A x.n x.c, .slice x.A2 x.n2 x.c2, .slice x.A3 x.n3 x.c3], fun W hW => hW, hS2, ?_⟩
    try simp only [Act.put, List.setIfInBounds_toArray, List.set_cons_zero, List.set_cons_succ]
    have R2 : Row w2 b 97 #[.slice A n c] := R1.out.grown g2 NB.out
    obtain ⟨A1, n1, c1, rfl⟩ := g1.slice
    have d0 : w2.cell? ⟨b, 0, none⟩ = some (.slice A n c) := R2.cell 0
    have f0 := R2.frozen 0
    refine held_take 10 ?_ rfl (by kernel_rfl) (by kernel_rfl) (by kernel_rfl) (fun _ _ _ h => h) (by rfl) ?_ hS2 ?_
    rotate_left
    · (intro W hSW; go_simp; try rfl)
    try simp only [Act.put, List.setIfInBounds_toArray, List.set_cons_zero, List.set_cons_succ]
    refine held_take 11 ?_ rfl (by kernel_rfl) (by kernel_rfl) (by kernel_rfl) (fun _ _ _ h => h) (by rfl) ?_ hS2 ?_
    rotate_left
    · (intro W hSW; go_simp; try rfl)
    try simp only [Act.put, List.setIfInBounds_toArray, List.set_cons_zero, List.set_cons_succ]
    have R3 := R2.one_set (.slice A1 n1 c1)
    have G4 := grown_set w2 b 0 (.slice A1 n1 c1)
    refine held_next 12 rfl (by kernel_rfl) (by rfl) ?_
    go_simp
    have FIN := Sx.put S.out HK.out GAP.out (e := ⟨UInt16.ofNat y, x⟩) EK.out HNZ.out HC.out g1 (grown_start GS.out g2) (g3.elim .inl (fun h => .inr ⟨_, h, GS.out.size, (g1.lt _ h).2⟩)) R3 G4
    have hS3 : Row (w2.setCell ⟨b, 0, none⟩ (.slice A1 n1 c1)) w.heap.size 65 #[.int .u8 x.κ, .slice x.A x.n x.c, .slice x.A2 x.n2 x.c2, .slice x.A3 x.n3 x.c3] := hS2.grown G4 NBB.out
    generalize w2.setCell ⟨b, 0, none⟩ (.slice A1 n1 c1) = w3 at *
    refine ⟨fun W => Row W w.heap.size 65 #[.int .u8 x.κ, .slice x.A x.n x.c, .slice x.A2 x.n2 x.c2, .slice x.A3 x.n3 x.c3], fun W hW => hW, hS3, ?_⟩
    refine wpAnyH_done (by kernel_rfl) ?_ _
    have FI := Lib.hid FIN
    clear FIN R3 G4 d0 f0 hS2 hS3 R2 g1 g2 g3 hSc
    go_wp2
    go_end0
    obtain ⟨⟨N', S', NX, OB⟩, OF⟩ := FI.out
    exact ⟨rfl, ⟨N', _, _, S', NX, OB⟩, OF⟩
  · skip
    go_simp
    refine ⟨fun W => Row W w.heap.size 65 #[.int .u8 x.κ, .slice x.A x.n x.c, .slice x.A2 x.n2 x.c2, .slice x.A3 x.n3 x.c3], fun W hW => hW, hSc.alloc _, ?_⟩
    try simp only [Act.put, List.setIfInBounds_toArray, List.set_cons_zero, List.set_cons_succ]
    have c0 : (w4.alloc (.cells #[.int .u16 y, .int .u8 x.κ, .slice x.A x.n x.c, .slice x.A2 x.n2 x.c2, .slice x.A3 x.n3 x.c3] 106)).cell? ⟨b, 0, none⟩ = some (.slice A n c) := C1.out
    refine held_next 4 rfl (by kernel_rfl) (by rfl) ?_
    go_simp
    refine ⟨fun W => Row W w.heap.size 65 #[.int .u8 x.κ, .slice x.A x.n x.c, .slice x.A2 x.n2 x.c2, .slice x.A3 x.n3 x.c3], fun W hW => hW, hSc.alloc _, ?_⟩
    try simp only [Act.put, List.setIfInBounds_toArray, List.set_cons_zero, List.set_cons_succ]
    clear c0
    refine held_next 9 rfl (by kernel_rfl) (by rfl) ?_
    refine wp_gappv eN (w4.drew.alloc (.cells #[.int .u16 y, .int .u8 x.κ, .slice x.A x.n x.c, .slice x.A2 x.n2 x.c2, .slice x.A3 x.n3 x.c3] 106)) _ _ _ rfl 0 sliN infN (.slice A n c) es rfl AR.out _ _ _ [⟨UInt16.ofNat y, x⟩] rfl (GsV.one eN _ ⟨UInt16.ofNat y, x⟩ _ ONE.out) HL.out (Nat.zero_le _) (fun s1 w2 g1 g2 g3 => ?_)
    have hS2 : Row w2 w.heap.size 65 #[.int .u8 x.κ, .slice x.A x.n x.c, .slice x.A2 x.n2 x.c2, .slice x.A3 x.n3 x.c3] := (hSc.alloc _).grown g2 NE.out
    refine ⟨fun W => Row W w.heap.size 65 #[.int .u8 x.κ, .slice x.A x.n x.c, .slice x.A2 x.n2 x.c2, .slice x.A3 x.n3 x.c3], fun W hW => hW, hS2, ?_⟩
    try simp only [Act.put, List.setIfInBounds_toArray, List.set_cons_zero, List.set_cons_succ]
    have R2 : Row w2 b 97 #[.slice A n c] := R1.out.grown g2 NB.out
    obtain ⟨A1, n1, c1, rfl⟩ := g1.slice
    have d0 : w2.cell? ⟨b, 0, none⟩ = some (.slice A n c) := R2.cell 0
    have f0 := R2.frozen 0
    refine held_take 10 ?_ rfl (by kernel_rfl) (by kernel_rfl) (by kernel_rfl) (fun _ _ _ h => h) (by rfl) ?_ hS2 ?_
    rotate_left
    · (intro W hSW; go_simp; try rfl)
    try simp only [Act.put, List.setIfInBounds_toArray, List.set_cons_zero, List.set_cons_succ]
    refine held_take 11 ?_ rfl (by kernel_rfl) (by kernel_rfl) (by kernel_rfl) (fun _ _ _ h => h) (by rfl) ?_ hS2 ?_
    rotate_left
    · (intro W hSW; go_simp; try rfl)
    try simp only [Act.put, List.setIfInBounds_toArray, List.set_cons_zero, List.set_cons_succ]
    have R3 := R2.one_set (.slice A1 n1 c1)
    have G4 := grown_set w2 b 0 (.slice A1 n1 c1)
    refine held_next 12 rfl (by kernel_rfl) (by rfl) ?_
    go_simp
    have FIN := Sx.put S.out HK.out GAP.out (e := ⟨UInt16.ofNat y, x⟩) EK.out HNZ.out HC.out g1 (grown_start GS.out g2) (g3.elim .inl (fun h => .inr ⟨_, h, GS.out.size, (g1.lt _ h).2⟩)) R3 G4
    have hS3 : Row (w2.setCell ⟨b, 0, none⟩ (.slice A1 n1 c1)) w.heap.size 65 #[.int .u8 x.κ, .slice x.A x.n x.c, .slice x.A2 x.n2 x.c2, .slice x.A3 x.n3 x.c3] := hS2.grown G4 NBB.out
    generalize w2.setCell ⟨b, 0, none⟩ (.slice A1 n1 c1) = w3 at *
    refine ⟨fun W => Row W w.heap.size 65 #[.int .u8 x.κ, .slice x.A x.n x.c, .slice x.A2 x.n2 x.c2, .slice x.A3 x.n3 x.c3], fun W hW => hW, hS3, ?_⟩
    refine wpAnyH_done (by kernel_rfl) ?_ _
    have FI := Lib.hid FIN
    clear FIN R3 G4 d0 f0 hS2 hS3 R2 g1 g2 g3 hSc
    go_wp2
    go_end0
    obtain ⟨⟨N', S', NX, OB⟩, OF⟩ := FI.out
    exact ⟨rfl, ⟨N', _, _, S', NX, OB⟩, OF⟩

set_option maxHeartbeats 1000000 in
theorem put_no {N : Nat → Prop} (v s : Value) (P : Nat → Bool) (b K y : Nat) (es : List En) (x : Bd) (w : World) (S : Sx N w v P b K s es)
    (hn : nz P y = false) (hc : Cn N w x.val (blk P y) (ck (blk P y))) :
    Calls Tryz.prog 61 #[v, .int .u16 y, x.val] w fun e w' => e = .returned (.tuple #[]) ∧ Below w.heap.size w w' := by
  have hm : ct (blk P y) 65536 = 0 := nz_ct hn
  have hfo := S.form
  subst hfo
  have bz := bx w (.cells #[.int .u8 x.κ, .slice x.A x.n x.c, .slice x.A2 x.n2 x.c2, .slice x.A3 x.n3 x.c3] 65)
  have HC := Lib.hid hc
  clear S hc hn
  go_enter Tryz.func61, Tryz.ntmps61
  go_wp2_with fail
  generalize w.alloc (.cells #[.int .u8 x.κ, .slice x.A x.n x.c, .slice x.A2 x.n2 x.c2, .slice x.A3 x.n3 x.c3] 65) = w1 at *
  have B1 := Lib.hid bz
  clear bz
  refine (len_c _ _ _ 0 _ hm (HC.out.step B1.out)).mono ?_
  rintro e w4 ⟨rfl, b4⟩
  have B4 := Lib.hid (below_both B1.out b4)
  clear b4
  go_wp2
  go_end0
  exact ⟨rfl, B4.out⟩
/-- A container is put in, unless it is empty. -/
theorem put_c {N : Nat → Prop} (v s : Value) (P : Nat → Bool) (b K y : Nat) (es : List En) (x : Bd) (w : World) (S : Sx N w v P b K s es) (hk : K ≤ y) (hy : y < 65536) (gap : ∀ j, K ≤ j → j < y → nz P j = false)
    (hc : Cn N w x.val (blk P y) (ck (blk P y))) :
    Calls Tryz.prog 61 #[v, .int .u16 y, x.val] w fun e w' => e = .returned (.tuple #[]) ∧ (∃ N' s' es', Sx N' w' v P b (y + 1) s' es' ∧ Nx N w N' w' ∧ (s'.ownBlock = s.ownBlock ∨ ∃ g, s'.ownBlock = some g ∧ w.heap.size ≤ g)) ∧ Off (fun x => x = b ∨ s.ownBlock = some x) w w' := by
  cases hn : nz P y with
  | true => exact put_yes v s P b K y es x _ w S hk hy gap hn rfl hc
  | false =>
    refine (put_no v s P b K y es x w S hn hc).mono ?_
    rintro e w' ⟨rfl, hb⟩
    refine ⟨rfl, ⟨N, s, es, (S.step hb).skip (by omega) fun j h1 h2 => ?_, Nx.refl _ _ _, .inl rfl⟩, Off.of hb⟩
    by_cases h : j < y
    · exact gap j h1 h
    · obtain rfl : j = y := by omega
      exact hn

end Go.Proofs.YtponcpneflhpfaaGreatDoor
namespace Go.Proofs.YtponcpneflhpfaaGreatDoor
open Go.Shelf
def sortSp_ren : Go.Shelf.Ren := ⟨fun | 6 => 132 | 15 => 206 | 14 => 205 | 28 => 265 | 29 => 266 | 20 => 257 | 21 => 258 | 22 => 259 | 23 => 260 | 24 => 261 | 25 => 262 | 26 => 263 | 27 => 264 | 46 => 307 | 47 => 308 | 48 => 309 | 49 => 310 | 50 => 311 | 57 => 334 | n => n, fun | 22 => 26 | 24 => 34 | 25 => 181 | 3 => 3 | 39 => 174 | 0 => 0 | 53 => 28 | 55 => 29 | 4 => 4 | 46 => 265 | 45 => 264 | 50 => 108 | 5 => 5 | 9 => 9 | 66 => 299 | 70 => 303 | 76 => 325 | 77 => 326 | n => n, fun | n => n⟩
theorem sortSp : Go.Proofs.SlLaysF0.n6 Tryz.prog sortSp_ren := {
  mixed := by kernel_rfl
  f6 := ⟨Tryz.f132.name, by decide, Tryz.func132.trans (congrArg some (by kernel_rfl))⟩
  f14 := ⟨Tryz.f205.name, by decide, Tryz.func205.trans (congrArg some (by kernel_rfl))⟩
  f15 := Tryz.func206.trans (congrArg some (by kernel_rfl))
  f20 := ⟨Tryz.f257.name, by decide, Tryz.func257.trans (congrArg some (by kernel_rfl))⟩
  f21 := ⟨Tryz.f258.name, by decide, Tryz.func258.trans (congrArg some (by kernel_rfl))⟩
  f22 := ⟨Tryz.f259.name, by decide, Tryz.func259.trans (congrArg some (by kernel_rfl))⟩
  f23 := ⟨Tryz.f260.name, by decide, Tryz.func260.trans (congrArg some (by kernel_rfl))⟩
  f24 := ⟨Tryz.f261.name, by decide, Tryz.func261.trans (congrArg some (by kernel_rfl))⟩
  f25 := ⟨Tryz.f262.name, by decide, Tryz.func262.trans (congrArg some (by kernel_rfl))⟩
  f26 := ⟨Tryz.f263.name, by decide, Tryz.func263.trans (congrArg some (by kernel_rfl))⟩
  f27 := ⟨Tryz.f264.name, by decide, Tryz.func264.trans (congrArg some (by kernel_rfl))⟩
  f28 := Tryz.func265.trans (congrArg some (by kernel_rfl))
  f29 := Tryz.func266.trans (congrArg some (by kernel_rfl))
  f46 := ⟨Tryz.f307.name, by decide, Tryz.func307.trans (congrArg some (by kernel_rfl))⟩
  f47 := Tryz.func308.trans (congrArg some (by kernel_rfl))
  f48 := Tryz.func309.trans (congrArg some (by kernel_rfl))
  f49 := ⟨Tryz.f310.name, by decide, Tryz.func310.trans (congrArg some (by kernel_rfl))⟩
  f50 := ⟨Tryz.f311.name, by decide, Tryz.func311.trans (congrArg some (by kernel_rfl))⟩
  f57 := ⟨Tryz.f334.name, by decide, Tryz.func334.trans (congrArg some (by kernel_rfl))⟩
  t0 := Tryz.underlying0
  a0 := Tryz.isAgg0
  z0 := Tryz.sizeOf0
  v0 := Tryz.zeroValue0
  t3 := Tryz.underlying3
  a3 := Tryz.isAgg3
  z3 := Tryz.sizeOf3
  v3 := Tryz.zeroValue3
  t4 := Tryz.underlying4
  a4 := Tryz.isAgg4
  z4 := Tryz.sizeOf4
  v4 := Tryz.zeroValue4
  t5 := Tryz.underlying5
  a5 := Tryz.isAgg5
  z5 := Tryz.sizeOf5
  v5 := Tryz.zeroValue5
  t9 := Tryz.underlying9
  a9 := Tryz.isAgg9
  z9 := Tryz.sizeOf9
  v9 := Tryz.zeroValue9
  t22 := Tryz.underlying26
  a22 := Tryz.isAgg26
  z22 := Tryz.sizeOf26
  v22 := Tryz.zeroValue26
  t25 := Tryz.underlying181
  a25 := Tryz.isAgg181
  z25 := Tryz.sizeOf181
  v25 := Tryz.zeroValue181
  t39 := Tryz.underlying174
  a39 := Tryz.isAgg174
  z39 := Tryz.sizeOf174
  v39 := Tryz.zeroValue174
  t45 := Tryz.underlying264
  a45 := Tryz.isAgg264
  z45 := Tryz.sizeOf264
  v45 := Tryz.zeroValue264
  t46 := Tryz.underlying265
  a46 := Tryz.isAgg265
  z46 := Tryz.sizeOf265
  v46 := Tryz.zeroValue265
  t50 := Tryz.underlying108
  a50 := Tryz.isAgg108
  z50 := Tryz.sizeOf108
  v50 := Tryz.zeroValue108
  t53 := Tryz.underlying28
  a53 := Tryz.isAgg28
  z53 := Tryz.sizeOf28
  v53 := Tryz.zeroValue28
  t55 := Tryz.underlying29
  a55 := Tryz.isAgg29
  z55 := Tryz.sizeOf29
  v55 := Tryz.zeroValue29
  t66 := Tryz.underlying299
  a66 := Tryz.isAgg299
  z66 := Tryz.sizeOf299
  v66 := Tryz.zeroValue299
  t70 := Tryz.underlying303
  a70 := Tryz.isAgg303
  z70 := Tryz.sizeOf303
  v70 := Tryz.zeroValue303
  t76 := Tryz.underlying325
  a76 := Tryz.isAgg325
  z76 := Tryz.sizeOf325
  v76 := Tryz.zeroValue325
  t77 := Tryz.underlying326
  a77 := Tryz.isAgg326
  z77 := Tryz.sizeOf326
  v77 := Tryz.zeroValue326 }
end Go.Proofs.YtponcpneflhpfaaGreatDoor
namespace Go.Proofs.YtponcpneflhpfaaGreatDoor
open Go.RowKit
set_option linter.unusedVariables false

set_option maxHeartbeats 400000 in
theorem cloneSp_any (v : Value) (l : List Sn) (lo : Nat) (w : World) (hv : Gs2 eSp w lo w.heap.size v l) (hb : l.length ≤ 100000000) :
    Calls Tryz.prog 131 #[v] w fun e w' => ∃ v', e = .returned v' ∧ Gw2 eSp w' w.heap.size v' l ∧ Below w.heap.size w w' := by
  have hv0 := hv
  obtain ⟨A, c, rfl, hc0, -, -, hbt⟩ := hv
  cases A with
  | none =>
    obtain rfl := hc0 rfl
    have hl : l = [] := by
      by_cases h : l = []
      · exact h
      · obtain ⟨b, off, e, _⟩ := hbt h
        cases e
    subst hl
    clear hc0 hbt hv0
    have hq := fun W n c => Lib.run_eql_slice_nil (P := Tryz.prog) W 26 34 none n c 0 0 Tryz.underlying26
    simp only [Option.isNone_none] at hq
    go_enter Tryz.func131, Tryz.ntmps131
    go_wp2
    go_ret
    exact ⟨_, rfl, Gw2.nil_ _ _, Below.refl _ _⟩
  | some ad =>
    clear hc0 hbt
    have hq := fun W n c => Lib.run_eql_slice_nil (P := Tryz.prog) W 26 34 (some ad) n c 0 0 Tryz.underlying26
    simp only [Option.isNone_some] at hq
    go_enter Tryz.func131, Tryz.ntmps131
    go_wp2_with (at_builtin; refine wpList_gapp2 eSp _ rfl _ _ _ rfl w.heap.size sliSp infSp _ [] rfl (Gw2.empty_ _ _ (Nat.le_refl _)) lo w.heap.size _ l rfl (hv0.alloc (Nat.le_refl _) _) (by simp; omega) (by simp) ?_; intro v2 w2 o2 g2 _)
    go_ret
    exact ⟨v2, rfl, by simpa using o2, ((Below.refl _ _).alloc (Nat.le_refl _) _).grown g2 (by simp) (fun k h => by injection h with h; subst h; exact Nat.le_refl _)⟩

set_option maxHeartbeats 400000 in
theorem nan64_any (x : Int) (w : World) :
    Calls Tryz.prog 207 #[.int .u64 x] w fun e w' => e = .returned (.bool false) ∧ w' = w := by
  go_enter Tryz.func207, Tryz.ntmps207
  go_wp2
  go_ret
  exact ⟨by simp, rfl⟩
set_option maxHeartbeats 1000000 in
theorem compare64_any (x y : Int) (w : World) :
    Calls Tryz.prog 134 #[.int .u64 x, .int .u64 y] w fun e w' => e = .returned (.int .i64 (cmpv x y)) ∧ w' = w := by
  rcases Int.lt_trichotomy x y with h | h | h
  · have e : cmpv x y = -1 := by unfold cmpv; rw [if_pos h]
    rw [e]
    go_enter Tryz.func134, Tryz.ntmps134
    go_wp2_with (go_at_call 207; refine (nan64_any _ _).mono ?_; rintro e w1 ⟨rfl, hz⟩; have hz := hz.symm; subst hz)
    go_ret
    exact ⟨rfl, rfl⟩
  · have e : cmpv x y = 0 := by unfold cmpv; rw [if_neg (by omega), if_neg (by omega)]
    rw [e]
    subst h
    go_enter Tryz.func134, Tryz.ntmps134
    go_wp2_with (go_at_call 207; refine (nan64_any _ _).mono ?_; rintro e w1 ⟨rfl, hz⟩; have hz := hz.symm; subst hz)
    go_ret
    exact ⟨rfl, rfl⟩
  · have e : cmpv x y = 1 := by unfold cmpv; rw [if_neg (by omega), if_pos h]
    rw [e]
    have h2 : x > y := h
    have h3 : ¬ x < y := by omega
    go_enter Tryz.func134, Tryz.ntmps134
    go_wp2_with (go_at_call 207; refine (nan64_any _ _).mono ?_; rintro e w1 ⟨rfl, hz⟩; have hz := hz.symm; subst hz)
    go_ret
    exact ⟨rfl, rfl⟩

/-- A span's two cells; how two spans stand. -/
def encS (s : Sn) : List Value := [.int .u64 s.1.toNat, .int .u64 s.2.toNat]
def cfS (s t : Sn) : Int := cmpv s.1.toNat t.1.toNat
theorem ltS (s t : Sn) : Go.Proofs.ltOf cfS s t = decide (s.1.toNat < t.1.toNat) := by
  unfold Go.Proofs.ltOf cfS cmpv
  by_cases h1 : s.1.toNat < t.1.toNat
  · rw [if_pos (by omega)]; simp [h1]
  · rw [if_neg (by omega)]
    by_cases h2 : t.1.toNat < s.1.toNat
    · rw [if_pos (by omega)]; simp [h1]
    · rw [if_neg (by omega)]; simp [h1]
theorem swoS : Go.Sort.SWO (Go.Proofs.ltOf cfS) where
  irrefl x := by rw [ltS]; simp
  trans x y z h1 h2 := by rw [ltS] at *; simp at *; omega
  ntrans x y z h1 h2 := by rw [ltS] at *; simp at *; omega
set_option maxHeartbeats 1000000 in
theorem cmpSp_c (x y : Sn) (W : World) : Calls Tryz.prog 133 #[.agg #[.int .u64 x.1.toNat, .int .u64 x.2.toNat], .agg #[.int .u64 y.1.toNat, .int .u64 y.2.toNat]] W fun e w' => e = .returned (.int .i64 (cfS x y)) ∧ ∃ q os', w' = Go.Sort.grow (W.drewN q) os' := by
  have hcon := fun W' => compare64_any x.1.toNat y.1.toNat W'
  have hc : cmpv (x.1.toNat : Int) y.1.toNat = cfS x y := rfl
  rw [hc] at hcon
  generalize cfS x y = r at hcon ⊢
  clear hc
  obtain ⟨a, ha⟩ : ∃ a : Nat, a = x.1.toNat := ⟨_, rfl⟩
  obtain ⟨b, hb⟩ : ∃ b : Nat, b = x.2.toNat := ⟨_, rfl⟩
  obtain ⟨c, hc⟩ : ∃ c : Nat, c = y.1.toNat := ⟨_, rfl⟩
  obtain ⟨d, hd⟩ : ∃ d : Nat, d = y.2.toNat := ⟨_, rfl⟩
  rw [← ha, ← hc] at hcon
  rw [← ha, ← hb, ← hc, ← hd]
  clear ha hb hc hd
  go_enter Tryz.func133, Tryz.ntmps133
  go_wp2_with (go_at_call 134; refine (hcon _).mono ?_; rintro e w' ⟨rfl, rfl⟩)
  go_ret
  exact ⟨rfl, 0, _, by rw [Go.Sort.alloc_eq_grow, Go.Sort.alloc_eq_grow, Go.Sort.grow_grow]; rfl⟩
theorem heap_sortWorld (enc : Sn → List Value) (k : Nat) (w : World) (blk off n : Nat) (d : Array Sn) (os : Array Obj) (j : Nat) (hj : j < w.heap.size) (hne : j ≠ blk) : (Go.Proofs.sortWorldK enc k w blk off n d os).heap[j]? = w.heap[j]? := by
  unfold Go.Proofs.sortWorldK Go.Sort.putRowK Go.Sort.putRow Go.Sort.mapBlock Go.Sort.grow Go.Sort.ahead
  show (w.heap.modify blk _ ++ os)[j]? = _
  rw [Array.getElem?_append_left (by simpa using hj), Array.getElem?_modify, if_neg (fun e => hne e.symm)]
set_option maxHeartbeats 1000000 in
theorem sortSp_c (v : Value) (l : List Sn) (base : Nat) (w : World) (hv : Gw2 eSp w base v l) (hb : l.length ≤ 100000000) (hbase : base ≤ w.heap.size) :
    Calls Tryz.prog 132 #[v, .func (.func 133) #[] #[]] w fun e w' => e = .returned (.tuple #[]) ∧ ∃ l', l'.Perm l ∧ (l'.Pairwise fun s t => s.1.toNat ≤ t.1.toNat) ∧ Gs2 eSp w' base w'.heap.size v l' ∧ Below base w w' := by
  by_cases hl : l = []
  · subst hl
    obtain ⟨A, c, rfl, h0, h1, h2, -⟩ := hv.sl
    refine (Go.Proofs.AnyF.slices_SortFunc_none { sortSp with } A c _ w).mono ?_
    rintro e w' ⟨rfl, rfl⟩
    exact ⟨rfl, [], List.Perm.refl _, .nil, ⟨A, c, rfl, h0, h1, h2, fun h => absurd rfl h⟩, Below.refl _ _⟩
  · obtain ⟨b, c, rfl, hlc, hcm, hb1, hb2, hcell, hfz⟩ := hv.form hl
    have eg : ∀ args w, (callFunc 133 args).run Tryz.prog w = .ok (.enter 133 args) w := enters_of Tryz.func133 (by kernel_rfl) rfl
    have hH : Go.Sort.HoldsK encS 2 w b 0 l.toArray := by
      intro j hj
      rw [Go.Sort.size_flatK, List.size_toArray] at hj
      rw [Go.Sort.get_flatK _ _ _ _ (by rw [List.size_toArray]; exact hj)]
      have hj2 : j / 2 < l.length := by omega
      have hg : l.toArray[j / 2]! = l[j / 2] := by rw [getElem!_pos l.toArray (j / 2) (by rw [List.size_toArray]; exact hj2)]; simp
      have hc := hcell (j / 2) _ (List.getElem?_eq_getElem hj2)
      rw [hg, Nat.zero_add]
      refine ⟨?_, hfz j⟩
      rcases Nat.mod_two_eq_zero_or_one j with hm | hm
      · rw [hm]
        have e : j = 2 * (j / 2) := by omega
        have := hc.1
        rw [← e] at this
        exact this
      · rw [hm]
        have e : j = 2 * (j / 2) + 1 := by omega
        have := hc.2
        rw [← e] at this
        exact this
    have hcon := Go.Proofs.AnyQ.slices_SortFunc sortSp 2 Tryz.isAgg34 Tryz.sizeOf34 encS (fun _ => rfl) (fun x v hv => by simp [encS] at hv; rcases hv with rfl | rfl <;> rfl) cfS swoS 133 #[] b 0 c l.toArray w eg (fun _ _ _ _ x y => cmpSp_c x y _) hH hb2 (by rw [List.size_toArray]; omega)
    rw [List.size_toArray] at hcon
    refine hcon.mono ?_
    rintro e w' ⟨rfl, d', n, os, hp, hs, rfl⟩
    have hsz : d'.size = l.length := by rw [hp.1, List.size_toArray]
    have hH' := Go.Proofs.holdsK_sortWorldK_c encS 2 w b 0 l.toArray d' n os hH hb2 hp.1
    have hws : w.heap.size ≤ (Go.Proofs.sortWorldK encS 2 w b 0 n d' os).heap.size := by
      unfold Go.Proofs.sortWorldK Go.Sort.putRowK Go.Sort.putRow Go.Sort.mapBlock Go.Sort.grow Go.Sort.ahead
      simp
    refine ⟨rfl, d'.toList, ?_, ?_, ?_, ⟨rfl, rfl, rfl, hws, fun k hk => heap_sortWorld encS 2 w b 0 n d' os k (by omega) (by omega)⟩⟩
    · have h3 := hp.2.2
      rw [show l.length = d'.size from hsz.symm] at h3
      simp at h3
      rw [hsz, List.take_length] at h3
      exact h3
    · rw [List.pairwise_iff_getElem]
      intro i j hi hj hij
      have := hs i j (Nat.zero_le _) hij (by rw [← hsz]; simpa using hj)
      rw [ltS, getElem!_pos d' j (by simpa using hj), getElem!_pos d' i (by simpa using hi), decide_eq_false_iff_not] at this
      simp only [Array.getElem_toList]
      omega
    · refine ⟨some ⟨b, 0, none⟩, c, congrArg (fun n => Value.slice (some ⟨b, 0, none⟩) n c) (by simp [hsz]), fun e => (by cases e), by rw [Array.length_toList, hsz]; exact hlc, hcm, fun _ => ⟨b, 0, rfl, hb1, Nat.lt_of_lt_of_le hb2 hws, fun j x hx => ?_⟩⟩
      have hjl := (List.getElem?_eq_some_iff.1 hx).1
      have hjd : j < d'.size := by simpa using hjl
      have hg : d'[j]! = x := by
        rw [getElem!_pos d' j hjd]
        have := (List.getElem?_eq_some_iff.1 hx).2
        simpa using this
      have c0 := (hH' (2 * j) (by rw [Go.Sort.size_flatK]; omega)).1
      have c1 := (hH' (2 * j + 1) (by rw [Go.Sort.size_flatK]; omega)).1
      rw [Go.Sort.get_flatK _ _ _ _ (by omega), show 2 * j / 2 = j by omega, show 2 * j % 2 = 0 by omega, hg] at c0
      rw [Go.Sort.get_flatK _ _ _ _ (by omega), show (2 * j + 1) / 2 = j by omega, show (2 * j + 1) % 2 = 1 by omega, hg] at c1
      exact ⟨c0, c1⟩
end Go.Proofs.YtponcpneflhpfaaGreatDoor
