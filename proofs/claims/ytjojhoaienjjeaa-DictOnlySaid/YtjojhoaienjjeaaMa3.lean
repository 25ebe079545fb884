/- Walks: of rows of values: Same, Great; the document's So and Bytes. -/
import Derived.Test.YtjojhoaienjjeaaMa1
import Derived.Test.YtjojhoaienjjeaaMa2
import Derived.BigRegion
import Derived.BigQuiet
import Derived.Laws.StructEq
/- Walks: the document's Put. -/
namespace Go.Proofs.Ytjojhoaienjjeaa
open Go.RowKit
set_option linter.unusedVariables false

theorem vcell0 {W : World} {b off j : Nat} {X : VV} (hc : ∀ i u, (eV.cs X)[i]? = some u → W.cell? ⟨b, off + (eV.n * j + i), none⟩ = some u) : W.cell? ⟨b, off + j * 3, none⟩ = some (.int .u8 X.k) := by
  have h := hc 0 _ rfl
  rw [show off + j * 3 = off + (eV.n * j + 0) from by simp [eV]; omega]
  exact h
theorem vcell1 {W : World} {b off j : Nat} {X : VV} (hc : ∀ i u, (eV.cs X)[i]? = some u → W.cell? ⟨b, off + (eV.n * j + i), none⟩ = some u) : W.cell? ⟨b, off + j * 3 + 1, none⟩ = some (.int .i64 X.n) := by
  have h := hc 1 _ rfl
  rw [show off + j * 3 + 1 = off + (eV.n * j + 1) from by simp [eV]; omega]
  exact h
theorem vcell2 {W : World} {b off j : Nat} {X : VV} (hc : ∀ i u, (eV.cs X)[i]? = some u → W.cell? ⟨b, off + (eV.n * j + i), none⟩ = some u) : W.cell? ⟨b, off + j * 3 + 2, none⟩ = some (.string X.s) := by
  have h := hc 2 _ rfl
  rw [show off + j * 3 + 2 = off + (eV.n * j + 2) from by simp [eV]; omega]
  exact h
theorem infV : (Try.prog.info? eV.E).map (fun i => (i.zero, i.size, i.bytes)) = some (some (eV.val eV.zero), eV.n, eV.bytes) := by kernel_rfl
theorem sliV : Try.prog.underlying 22 = some (.slice eV.E) := Try.underlying22
/-- append of one value, which lies in the block that has just been made for it. -/
theorem wpList_gappv1 {α : Type} (k : ElemV α) {P : Program} (w : World) {ops : Array Oper} {rest : List Oper} {o : Oper} {a : Act} {Q : Exit → Act → World → Prop} (hgd : o.guard = none) (s x : Operand) (t : TypeId)
    (ho : o.op = .call { callee := .builtin .append, args := #[s, x], argTypes := #[t, t] }) (base : Nat) (ht : P.underlying t = some (.slice k.E))
    (hinf : (P.info? k.E).map (fun i => (i.zero, i.size, i.bytes)) = some (some (k.val k.zero), k.n, k.bytes))
    (v : Value) (l : List α) (hs : a.eval s = v) (hown : GwV k w base v l)
    (cs : Array Value) (b : α) (hcs : cs = (k.cs b).toArray) (hx : a.eval x = .slice (some ⟨w.heap.size, 0, none⟩) 1 1)
    (hb : l.length + 1 ≤ 1000000000) (hbase : base ≤ w.heap.size)
    (h : ∀ v' w', GwV k w' base v' (l ++ [b]) → w.grownBy w' v.ownBlock → (v'.ownBlock = v.ownBlock ∨ v'.ownBlock = some (w.heap.size + 1)) → wpList P ops Q rest (a.put o.dst v') w') :
    wpList P ops Q (o :: rest) a (w.alloc (.cells cs k.E)) := by
  refine wpList_gappv k (w.alloc (.cells cs k.E)) hgd s x t ho base ht hinf v l hs (hown.alloc _) w.heap.size (w.heap.size + 1) _ [b] hx (GsV.one k w b cs hcs) (by simpa using hb) (by simp; omega) ?_
  intro v' w' h1 h2 h3
  exact h v' w' h1 ⟨h2.os, h2.tape, h2.output, Nat.le_trans (by simp) h2.size, fun k hk hne => (h2.block k (by simp; omega) hne).trans (Below.heap_alloc w _ k hk)⟩ (by simpa using h3)

theorem held_skip {P : Program} {ops : Array Oper} {Q : Exit → Act → World → Prop} {md : Region.Mode} {S : World → Prop} (i : Nat) {oi : Oper} {rest : List Oper} {fuel : Nat} {listed : Array Bool} {a : Act} {w : World} (hl : ops.toList.drop i = oi :: rest)
    (hs : Region.noSelect ops = true) (hf : Region.free md ops listed i = true) (hr : (Region.ready md ops listed).contains i = true)
    (hQ : ∀ c a w, Q (.panic c) (a.put oi.dst undef) w → Q (.panic c) a w) (hw : Region.wanted oi (yielded ops a.tmps) = false) (hS : S w)
    (h : wpAnyH P md ops Q S fuel (listed.setIfInBounds i true) (a.put oi.dst undef) w) : wpAnyH P md ops Q S (fuel + 1) listed a w :=
  wpAnyH_take (op_at hl) hs hf hr hQ (Or.inr ⟨hw, rfl⟩) hS h
/-- Two values side by side: what '==' goes by. -/
theorem eqW_cases (x y : VV) : (x.k ≠ y.k ∧ eqW x y = false) ∨ (x.k = y.k ∧ x.n ≠ y.n ∧ eqW x y = false) ∨ (x.k = y.k ∧ x.n = y.n ∧ bls x.s ≠ bls y.s ∧ eqW x y = false) ∨ (x = y ∧ eqW x y = true) := by
  by_cases h1 : x.k = y.k
  · by_cases h2 : x.n = y.n
    · by_cases h3 : bls x.s = bls y.s
      · have : x = y := by
          obtain ⟨k, n, s⟩ := x
          obtain ⟨k', n', s'⟩ := y
          simp only at h1 h2 h3
          rw [h1, h2, bls_inj h3]
        exact .inr (.inr (.inr ⟨this, eqW_iff.2 this⟩))
      · exact .inr (.inr (.inl ⟨h1, h2, h3, eqW_not.2 fun e => h3 (by rw [e])⟩))
    · exact .inr (.inl ⟨h1, h2, eqW_not.2 fun e => h2 (by rw [e])⟩)
  · exact .inl ⟨h1, eqW_not.2 fun e => h1 (by rw [e])⟩

/-- While a value is put into its place: the value's block, the one that is looked at, the row that is made. -/
structure Pt (w W : World) (X Y : VV) (b off j : Nat) (vo : Value) (o : List VV) : Prop where
  bx : Bx1 w W X.k X.n X.s
  hb : b < w.heap.size
  q0 : W.cell? ⟨b, off + j * 3, none⟩ = some (.int .u8 Y.k)
  q1 : W.cell? ⟨b, off + j * 3 + 1, none⟩ = some (.int .i64 Y.n)
  q2 : W.cell? ⟨b, off + j * 3 + 2, none⟩ = some (.string Y.s)
  own : GwV eV W (w.heap.size + 1) vo o
section
variable {w W W' : World} {X Y : VV} {b off j : Nat} {vo v' : Value} {o o' : List VV}
theorem Pt.a0 (h : Pt w W X Y b off j vo o) : W.cell? ⟨w.heap.size, 0, none⟩ = some (.int .u8 X.k) := h.bx.a0
theorem Pt.a1 (h : Pt w W X Y b off j vo o) : W.cell? ⟨w.heap.size, 1, none⟩ = some (.int .i64 X.n) := h.bx.a1
theorem Pt.a2 (h : Pt w W X Y b off j vo o) : W.cell? ⟨w.heap.size, 2, none⟩ = some (.string X.s) := h.bx.a2
theorem Pt.drew (h : Pt w W X Y b off j vo o) : Pt w W.drew X Y b off j vo o := ⟨h.bx.drew, h.hb, h.q0, h.q1, h.q2, h.own⟩
theorem Pt.step (h : Pt w W X Y b off j vo o) (B : Below W.heap.size W W') : Pt w W' X Y b off j vo o :=
  have hb : b < W.heap.size := Nat.lt_of_lt_of_le h.hb h.bx.below.size
  ⟨h.bx.step B, h.hb, (B.cell (p := ⟨b, off + j * 3, none⟩) hb).trans h.q0, (B.cell (p := ⟨b, off + j * 3 + 1, none⟩) hb).trans h.q1, (B.cell (p := ⟨b, off + j * 3 + 2, none⟩) hb).trans h.q2, h.own.below B (Nat.le_refl _)⟩
theorem Pt.app (h : Pt w W X Y b off j vo o) (ho : GwV eV W' (w.heap.size + 1) v' o') (hg : W.grownBy W' vo.ownBlock) : Pt w W' X Y b off j v' o' := by
  have hb : b < W.heap.size := Nat.lt_of_lt_of_le h.hb h.bx.below.size
  have hne : ∀ x, vo.ownBlock = some x → w.heap.size < x := fun x hx => (h.own.lt x hx).1
  have hc : ∀ i : Nat, W'.cell? ⟨b, i, none⟩ = W.cell? ⟨b, i, none⟩ := fun i => hg.cell_far ⟨b, i, none⟩ hb (fun e => by have h1 := hne b e.symm; have := h.hb; omega)
  exact ⟨h.bx.grown hg hne, h.hb, (hc _).trans h.q0, (hc _).trans h.q1, (hc _).trans h.q2, ho⟩
end

set_option maxHeartbeats 4000000 in
set_option maxRecDepth 100000 in
theorem put_c (A : Option Addr) (d : Nat) (l : List VV) (X : VV) (w : World) (hG : GsV eV w 0 w.heap.size (.slice A l.length d) l) (hX : X.s.size ≤ 1000000000) (hl : ∀ x ∈ l, x.s.size ≤ 1000000000) (hn : l.length ≤ 100000) :
    Calls Try.prog 32 #[.slice A l.length d, vV X.k X.n X.s] w fun e w' => ∃ A2 d2, e = .returned (.slice A2 (putV l X).length d2) ∧ GsV eV w' 0 w'.heap.size (.slice A2 (putV l X).length d2) (putV l X) ∧ Below w.heap.size w w' := by
  have HG := Lib.hid hG
  have HX := Lib.hid hX
  have HL := Lib.hid hl
  clear hG hX hl
  go_enter Try.func32, Try.ntmps32
  go_wp2_with fail
  go_loopw [5, 6, 7] (fun v dn i wr => ∃ (j : Nat) (D : Bool), i = .int .i64 j ∧ j ≤ l.length ∧ dn = .bool D ∧ anyV (l.take j) X = D ∧ (l.take j).any (fun x => eqW x X) = false ∧ GwV eV wr (w.heap.size + 1) v (if D then insV (l.take j) X else l.take j) ∧ Bx1 w wr X.k X.n X.s) (fun _ _ i _ => l.length - (intOf i).toNat)
  case atStart => exact ⟨0, false, rfl, Nat.zero_le _, rfl, rfl, rfl, GwV.nil_ _ _, Bx1.new w _ _ _⟩
  case round =>
    obtain ⟨j, D, rfl, hj, rfl, hD, hne, ho, hB⟩ := hrel
    by_cases hlt : j < l.length
    · have hG := HG.out.below hB.below
      have HG2 := Lib.hid hG
      obtain ⟨b, off, c', e, -, -, -, hbw, hc⟩ := hG.form (by rintro rfl; simp at hlt)
      injection e with e1 e2 e3
      clear e2
      subst e1 e3
      obtain ⟨Y, hY⟩ : ∃ Y, l[j]? = some Y := ⟨_, List.getElem?_eq_getElem hlt⟩
      have q0 := vcell0 (hc j Y hY)
      have q1 := vcell1 (hc j Y hY)
      have q2 := vcell2 (hc j Y hY)
      have HY := Lib.hid hY
      have HNE := Lib.hid hne
      have hsnoc : l.take (j + 1) = l.take j ++ [Y] := by rw [List.take_add_one, hY]; rfl
      have HSN := Lib.hid hsnoc
      clear hc hG hY hne hsnoc
      rcases eqW_cases Y X with ⟨g1, ge⟩ | ⟨g1, g2, ge⟩ | ⟨g1, g2, g3, ge⟩ | ⟨g1, ge⟩
      · skip
        have p1 : (Y.k == X.k) = false := by simp [g1]
        clear g1
        have GE := Lib.hid ge
        clear ge
        cases D with
        | true =>
          have HD := Lib.hid hD
          simp only [if_true] at ho
          clear hD
          have hP : Pt w wr X Y b off j u5 (insV (l.take j) X) := ⟨hB, hbw, q0, q1, q2, ho⟩
          have HP := Lib.hid hP
          have a0 := hP.a0
          have a1 := hP.a1
          have a2 := hP.a2
          have hlen : (insV (l.take j) X).length ≤ 200000 := by rw [insV_len, List.length_take]; omega
          have HLEN := Lib.hid hlen
          clear ho hB hP hlen
          go_wp2
          go_region
          go_wp2_with fail
          clear a0 a1 a2 q0 q1 q2
          have hSc := HP.out.drew.drew
          refine wp_region_all (S := fun W => Pt w W X Y b off j u5 (insV (l.take j) X)) (by kernel_rfl) hSc (fun W0 hSc => ?_)
          refine held_take 0 ?_ rfl (by kernel_rfl) (by kernel_rfl) (by kernel_rfl) (fun _ _ _ h => h) (by rfl) ?_ hSc ?_
          rotate_left
          · (intro W hSW; go_simp; try rfl)
          try simp only [Act.put, List.setIfInBounds_toArray, List.set_cons_zero, List.set_cons_succ]
          refine held_take 1 ?_ rfl (by kernel_rfl) (by kernel_rfl) (by kernel_rfl) (fun _ _ _ h => h) (by rfl) ?_ hSc ?_
          rotate_left
          · (intro W hSW; go_simp; try rfl)
          try simp only [Act.put, List.setIfInBounds_toArray, List.set_cons_zero, List.set_cons_succ]
          refine held_take 2 ?_ rfl (by kernel_rfl) (by kernel_rfl) (by kernel_rfl) (fun _ _ _ h => h) (by rfl) ?_ hSc ?_
          rotate_left
          · (intro W hSW; go_simp; try rfl)
          try simp only [Act.put, List.setIfInBounds_toArray, List.set_cons_zero, List.set_cons_succ]
          refine held_skip 3 rfl (by kernel_rfl) (by kernel_rfl) (by kernel_rfl) (fun _ _ _ h => h) (by rfl) hSc ?_
          try simp only [Act.put, List.setIfInBounds_toArray, List.set_cons_zero, List.set_cons_succ]
          refine held_skip 4 rfl (by kernel_rfl) (by kernel_rfl) (by kernel_rfl) (fun _ _ _ h => h) (by rfl) hSc ?_
          try simp only [Act.put, List.setIfInBounds_toArray, List.set_cons_zero, List.set_cons_succ]
          refine held_skip 5 rfl (by kernel_rfl) (by kernel_rfl) (by kernel_rfl) (fun _ _ _ h => h) (by rfl) hSc ?_
          try simp only [Act.put, List.setIfInBounds_toArray, List.set_cons_zero, List.set_cons_succ]
          refine held_skip 6 rfl (by kernel_rfl) (by kernel_rfl) (by kernel_rfl) (fun _ _ _ h => h) (by rfl) hSc ?_
          try simp only [Act.put, List.setIfInBounds_toArray, List.set_cons_zero, List.set_cons_succ]
          refine held_skip 7 rfl (by kernel_rfl) (by kernel_rfl) (by kernel_rfl) (fun _ _ _ h => h) (by rfl) hSc ?_
          try simp only [Act.put, List.setIfInBounds_toArray, List.set_cons_zero, List.set_cons_succ]
          refine held_skip 8 rfl (by kernel_rfl) (by kernel_rfl) (by kernel_rfl) (fun _ _ _ h => h) (by rfl) hSc ?_
          try simp only [Act.put, List.setIfInBounds_toArray, List.set_cons_zero, List.set_cons_succ]
          refine held_next 9 rfl (by kernel_rfl) (by rfl) ?_
          go_simp
          refine ⟨fun W => Pt w W X Y b off j u5 (insV (l.take j) X), fun W hW => hW, hSc, ?_⟩
          refine wpAnyH_done (by kernel_rfl) ?_ _
          have HQ := Lib.hid hSc
          clear hSc
          have a0 := HQ.out.bx.a0
          have a1 := HQ.out.bx.a1
          have a2 := HQ.out.bx.a2
          have q0 := HQ.out.q0
          have q1 := HQ.out.q1
          have q2 := HQ.out.q2
          go_wp2_with (at_builtin; refine wpList_gappv1 eV _ rfl _ _ _ rfl (w.heap.size + 1) sliV infV _ _ rfl HQ.out.own _ Y rfl rfl (by have := HLEN.out; (try simp only [List.length_append, List.length_cons, List.length_nil]); omega) HQ.out.bx.lt ?_; intro v2 w2 o2 g2 _; have hQ2 := HQ.out.app o2 g2; have HR := Lib.hid hQ2; clear hQ2 o2 g2 HQ; have a0' := HR.out.bx.a0; have a1' := HR.out.bx.a1; have a2' := HR.out.bx.a2; have q0' := HR.out.q0; have q1' := HR.out.q1; have q2' := HR.out.q2)
          go_roundw
          case rel => exact ⟨j + 1, true, by go_num, by omega, rfl, by rw [HSN.out, anyV_snoc, HD.out]; rfl, by rw [HSN.out, List.any_append, HNE.out]; simp [GE.out], by rw [HSN.out]; simp only [if_true]; rw [insV_some _ _ _ HD.out]; exact HR.out.own, HR.out.bx⟩
          case measure => simp [intOf]; omega
        | false =>
          have HD := Lib.hid hD
          simp only [Bool.false_eq_true, if_false] at ho
          clear hD
          have hP : Pt w wr X Y b off j u5 (l.take j) := ⟨hB, hbw, q0, q1, q2, ho⟩
          have HP := Lib.hid hP
          have a0 := hP.a0
          have a1 := hP.a1
          have a2 := hP.a2
          have hlen : (l.take j).length ≤ 200000 := by rw [List.length_take]; omega
          have HLEN := Lib.hid hlen
          clear ho hB hP hlen
          have hless := fun W => less_any X.k X.n X.s Y.k Y.n Y.s W HX.out (HL.out Y (List.mem_of_getElem? HY.out))
          cases hlt2 : decide (cmpW X Y < 0) with
          | true =>
            rw [show decide (cmpV X.k X.n (bls X.s) Y.k Y.n (bls Y.s) < 0) = decide (cmpW X Y < 0) from rfl, hlt2] at hless
            have HLESS := Lib.hid hless
            have HLT := Lib.hid hlt2
            clear hless hlt2
            go_wp2
            go_region
            go_wp2_with fail
            clear a0 a1 a2 q0 q1 q2
            have hSc := HP.out.drew.drew
            refine wp_region_all (S := fun W => Pt w W X Y b off j u5 (l.take j)) (by kernel_rfl) hSc (fun W0 hSc => ?_)
            refine held_take 0 ?_ rfl (by kernel_rfl) (by kernel_rfl) (by kernel_rfl) (fun _ _ _ h => h) (by rfl) ?_ hSc ?_
            rotate_left
            · (intro W hSW; go_simp; try rfl)
            try simp only [Act.put, List.setIfInBounds_toArray, List.set_cons_zero, List.set_cons_succ]
            refine held_take 1 ?_ rfl (by kernel_rfl) (by kernel_rfl) (by kernel_rfl) (fun _ _ _ h => h) (by rfl) ?_ hSc ?_
            rotate_left
            · (intro W hSW; go_simp; try rfl)
            try simp only [Act.put, List.setIfInBounds_toArray, List.set_cons_zero, List.set_cons_succ]
            refine held_take 2 ?_ rfl (by kernel_rfl) (by kernel_rfl) (by kernel_rfl) (fun _ _ _ h => h) (by rfl) ?_ hSc ?_
            rotate_left
            · (intro W hSW; go_simp; try rfl)
            try simp only [Act.put, List.setIfInBounds_toArray, List.set_cons_zero, List.set_cons_succ]
            refine held_take 3 ?_ rfl (by kernel_rfl) (by kernel_rfl) (by kernel_rfl) (fun _ _ _ h => h) (by rfl) ?_ hSc ?_
            rotate_left
            · (intro W hSW; have a0 := hSW.a0; have a1 := hSW.a1; have a2 := hSW.a2; have q0 := hSW.q0; have q1 := hSW.q1; have q2 := hSW.q2; go_simp; try rfl)
            try simp only [Act.put, List.setIfInBounds_toArray, List.set_cons_zero, List.set_cons_succ]
            refine held_take 4 ?_ rfl (by kernel_rfl) (by kernel_rfl) (by kernel_rfl) (fun _ _ _ h => h) (by rfl) ?_ hSc ?_
            rotate_left
            · (intro W hSW; have a0 := hSW.a0; have a1 := hSW.a1; have a2 := hSW.a2; have q0 := hSW.q0; have q1 := hSW.q1; have q2 := hSW.q2; go_simp; try rfl)
            try simp only [Act.put, List.setIfInBounds_toArray, List.set_cons_zero, List.set_cons_succ]
            refine held_take 5 ?_ rfl (by kernel_rfl) (by kernel_rfl) (by kernel_rfl) (fun _ _ _ h => h) (by rfl) ?_ hSc ?_
            rotate_left
            · (intro W hSW; have a0 := hSW.a0; have a1 := hSW.a1; have a2 := hSW.a2; have q0 := hSW.q0; have q1 := hSW.q1; have q2 := hSW.q2; go_simp; try rfl)
            try simp only [Act.put, List.setIfInBounds_toArray, List.set_cons_zero, List.set_cons_succ]
            refine held_take 6 ?_ rfl (by kernel_rfl) (by kernel_rfl) (by kernel_rfl) (fun _ _ _ h => h) (by rfl) ?_ hSc ?_
            rotate_left
            · (intro W hSW; have a0 := hSW.a0; have a1 := hSW.a1; have a2 := hSW.a2; have q0 := hSW.q0; have q1 := hSW.q1; have q2 := hSW.q2; go_simp; try rfl)
            try simp only [Act.put, List.setIfInBounds_toArray, List.set_cons_zero, List.set_cons_succ]
            refine held_take 7 ?_ rfl (by kernel_rfl) (by kernel_rfl) (by kernel_rfl) (fun _ _ _ h => h) (by rfl) ?_ hSc ?_
            rotate_left
            · (intro W hSW; have a0 := hSW.a0; have a1 := hSW.a1; have a2 := hSW.a2; have q0 := hSW.q0; have q1 := hSW.q1; have q2 := hSW.q2; go_simp; try rfl)
            try simp only [Act.put, List.setIfInBounds_toArray, List.set_cons_zero, List.set_cons_succ]
            refine held_next 8 rfl (by kernel_rfl) (by rfl) ?_
            go_simp
            refine (HLESS.out _).mono ?_
            rintro e wq1 ⟨rfl, bq⟩
            have hSd : (fun W => Pt w W X Y b off j u5 (l.take j)) wq1 := hSc.step bq
            refine ⟨fun W => Pt w W X Y b off j u5 (l.take j), fun W hW => hW, hSd, ?_⟩
            clear hSc bq
            have hSc := hSd
            clear hSd
            try simp only [Act.put, List.setIfInBounds_toArray, List.set_cons_zero, List.set_cons_succ]
            refine held_next 9 rfl (by kernel_rfl) (by rfl) ?_
            go_simp
            refine ⟨fun W => Pt w W X Y b off j u5 (l.take j), fun W hW => hW, hSc, ?_⟩
            refine wpAnyH_done (by kernel_rfl) ?_ _
            have HQ := Lib.hid hSc
            clear hSc
            have a0 := HQ.out.bx.a0
            have a1 := HQ.out.bx.a1
            have a2 := HQ.out.bx.a2
            have q0 := HQ.out.q0
            have q1 := HQ.out.q1
            have q2 := HQ.out.q2
            go_wp2_with (first
              | (at_builtin; refine wpList_gappv1 eV _ rfl _ _ _ rfl (w.heap.size + 1) sliV infV _ _ rfl HQ.out.own _ X rfl rfl (by have := HLEN.out; (try simp only [List.length_append, List.length_cons, List.length_nil]); omega) HQ.out.bx.lt ?_; intro v2 w2 o2 g2 _; have hQ2 := HQ.out.app o2 g2; have HR := Lib.hid hQ2; clear hQ2 o2 g2 HQ; have a0' := HR.out.bx.a0; have a1' := HR.out.bx.a1; have a2' := HR.out.bx.a2; have q0' := HR.out.q0; have q1' := HR.out.q1; have q2' := HR.out.q2)
              | (at_builtin; refine wpList_gappv1 eV _ rfl _ _ _ rfl (w.heap.size + 1) sliV infV _ _ rfl HR.out.own _ Y rfl rfl (by have := HLEN.out; (try simp only [List.length_append, List.length_cons, List.length_nil]); omega) HR.out.bx.lt ?_; intro v2 w2 o2 g2 _; have hQ2 := HR.out.app o2 g2; have HT := Lib.hid hQ2; clear hQ2 o2 g2 HR; have a0'' := HT.out.bx.a0; have a1'' := HT.out.bx.a1; have a2'' := HT.out.bx.a2; have q0'' := HT.out.q0; have q1'' := HT.out.q1; have q2'' := HT.out.q2))
            go_roundw
            case rel => exact ⟨j + 1, true, by go_num, by omega, rfl, by rw [HSN.out, anyV_snoc, HD.out, HLT.out]; rfl, by rw [HSN.out, List.any_append, HNE.out]; simp [GE.out], by rw [HSN.out]; simp only [if_true]; rw [insV_here _ _ _ HD.out (of_decide_eq_true HLT.out)]; have := HT.out.own; simpa using this, HT.out.bx⟩
            case measure => simp [intOf]; omega
          | false =>
            rw [show decide (cmpV X.k X.n (bls X.s) Y.k Y.n (bls Y.s) < 0) = decide (cmpW X Y < 0) from rfl, hlt2] at hless
            have HLESS := Lib.hid hless
            have HLT := Lib.hid hlt2
            clear hless hlt2
            go_wp2
            go_region
            go_wp2_with fail
            clear a0 a1 a2 q0 q1 q2
            have hSc := HP.out.drew.drew
            refine wp_region_all (S := fun W => Pt w W X Y b off j u5 (l.take j)) (by kernel_rfl) hSc (fun W0 hSc => ?_)
            refine held_take 0 ?_ rfl (by kernel_rfl) (by kernel_rfl) (by kernel_rfl) (fun _ _ _ h => h) (by rfl) ?_ hSc ?_
            rotate_left
            · (intro W hSW; go_simp; try rfl)
            try simp only [Act.put, List.setIfInBounds_toArray, List.set_cons_zero, List.set_cons_succ]
            refine held_take 1 ?_ rfl (by kernel_rfl) (by kernel_rfl) (by kernel_rfl) (fun _ _ _ h => h) (by rfl) ?_ hSc ?_
            rotate_left
            · (intro W hSW; go_simp; try rfl)
            try simp only [Act.put, List.setIfInBounds_toArray, List.set_cons_zero, List.set_cons_succ]
            refine held_take 2 ?_ rfl (by kernel_rfl) (by kernel_rfl) (by kernel_rfl) (fun _ _ _ h => h) (by rfl) ?_ hSc ?_
            rotate_left
            · (intro W hSW; go_simp; try rfl)
            try simp only [Act.put, List.setIfInBounds_toArray, List.set_cons_zero, List.set_cons_succ]
            refine held_take 3 ?_ rfl (by kernel_rfl) (by kernel_rfl) (by kernel_rfl) (fun _ _ _ h => h) (by rfl) ?_ hSc ?_
            rotate_left
            · (intro W hSW; have a0 := hSW.a0; have a1 := hSW.a1; have a2 := hSW.a2; have q0 := hSW.q0; have q1 := hSW.q1; have q2 := hSW.q2; go_simp; try rfl)
            try simp only [Act.put, List.setIfInBounds_toArray, List.set_cons_zero, List.set_cons_succ]
            refine held_take 4 ?_ rfl (by kernel_rfl) (by kernel_rfl) (by kernel_rfl) (fun _ _ _ h => h) (by rfl) ?_ hSc ?_
            rotate_left
            · (intro W hSW; have a0 := hSW.a0; have a1 := hSW.a1; have a2 := hSW.a2; have q0 := hSW.q0; have q1 := hSW.q1; have q2 := hSW.q2; go_simp; try rfl)
            try simp only [Act.put, List.setIfInBounds_toArray, List.set_cons_zero, List.set_cons_succ]
            refine held_take 5 ?_ rfl (by kernel_rfl) (by kernel_rfl) (by kernel_rfl) (fun _ _ _ h => h) (by rfl) ?_ hSc ?_
            rotate_left
            · (intro W hSW; have a0 := hSW.a0; have a1 := hSW.a1; have a2 := hSW.a2; have q0 := hSW.q0; have q1 := hSW.q1; have q2 := hSW.q2; go_simp; try rfl)
            try simp only [Act.put, List.setIfInBounds_toArray, List.set_cons_zero, List.set_cons_succ]
            refine held_take 6 ?_ rfl (by kernel_rfl) (by kernel_rfl) (by kernel_rfl) (fun _ _ _ h => h) (by rfl) ?_ hSc ?_
            rotate_left
            · (intro W hSW; have a0 := hSW.a0; have a1 := hSW.a1; have a2 := hSW.a2; have q0 := hSW.q0; have q1 := hSW.q1; have q2 := hSW.q2; go_simp; try rfl)
            try simp only [Act.put, List.setIfInBounds_toArray, List.set_cons_zero, List.set_cons_succ]
            refine held_take 7 ?_ rfl (by kernel_rfl) (by kernel_rfl) (by kernel_rfl) (fun _ _ _ h => h) (by rfl) ?_ hSc ?_
            rotate_left
            · (intro W hSW; have a0 := hSW.a0; have a1 := hSW.a1; have a2 := hSW.a2; have q0 := hSW.q0; have q1 := hSW.q1; have q2 := hSW.q2; go_simp; try rfl)
            try simp only [Act.put, List.setIfInBounds_toArray, List.set_cons_zero, List.set_cons_succ]
            refine held_next 8 rfl (by kernel_rfl) (by rfl) ?_
            go_simp
            refine (HLESS.out _).mono ?_
            rintro e wq1 ⟨rfl, bq⟩
            have hSd : (fun W => Pt w W X Y b off j u5 (l.take j)) wq1 := hSc.step bq
            refine ⟨fun W => Pt w W X Y b off j u5 (l.take j), fun W hW => hW, hSd, ?_⟩
            clear hSc bq
            have hSc := hSd
            clear hSd
            try simp only [Act.put, List.setIfInBounds_toArray, List.set_cons_zero, List.set_cons_succ]
            refine held_next 9 rfl (by kernel_rfl) (by rfl) ?_
            go_simp
            refine ⟨fun W => Pt w W X Y b off j u5 (l.take j), fun W hW => hW, hSc, ?_⟩
            refine wpAnyH_done (by kernel_rfl) ?_ _
            have HQ := Lib.hid hSc
            clear hSc
            have a0 := HQ.out.bx.a0
            have a1 := HQ.out.bx.a1
            have a2 := HQ.out.bx.a2
            have q0 := HQ.out.q0
            have q1 := HQ.out.q1
            have q2 := HQ.out.q2
            go_wp2_with (at_builtin; refine wpList_gappv1 eV _ rfl _ _ _ rfl (w.heap.size + 1) sliV infV _ _ rfl HQ.out.own _ Y rfl rfl (by have := HLEN.out; (try simp only [List.length_append, List.length_cons, List.length_nil]); omega) HQ.out.bx.lt ?_; intro v2 w2 o2 g2 _; have hQ2 := HQ.out.app o2 g2; have HR := Lib.hid hQ2; clear hQ2 o2 g2 HQ; have a0' := HR.out.bx.a0; have a1' := HR.out.bx.a1; have a2' := HR.out.bx.a2; have q0' := HR.out.q0; have q1' := HR.out.q1; have q2' := HR.out.q2)
            go_roundw
            case rel => exact ⟨j + 1, false, by go_num, by omega, rfl, by rw [HSN.out, anyV_snoc, HD.out, HLT.out]; rfl, by rw [HSN.out, List.any_append, HNE.out]; simp [GE.out], by rw [HSN.out]; simp only [Bool.false_eq_true, if_false]; exact HR.out.own, HR.out.bx⟩
            case measure => simp [intOf]; omega
      · skip
        have p1 : (Y.k == X.k) = true := by simp [g1]
        have p2 : (Y.n == X.n) = false := by simp [g2]
        clear g1 g2
        have GE := Lib.hid ge
        clear ge
        cases D with
        | true =>
          have HD := Lib.hid hD
          simp only [if_true] at ho
          clear hD
          have hP : Pt w wr X Y b off j u5 (insV (l.take j) X) := ⟨hB, hbw, q0, q1, q2, ho⟩
          have HP := Lib.hid hP
          have a0 := hP.a0
          have a1 := hP.a1
          have a2 := hP.a2
          have hlen : (insV (l.take j) X).length ≤ 200000 := by rw [insV_len, List.length_take]; omega
          have HLEN := Lib.hid hlen
          clear ho hB hP hlen
          go_wp2
          go_region
          go_wp2_with fail
          clear a0 a1 a2 q0 q1 q2
          have hSc := HP.out.drew.drew
          refine wp_region_all (S := fun W => Pt w W X Y b off j u5 (insV (l.take j) X)) (by kernel_rfl) hSc (fun W0 hSc => ?_)
          refine held_take 0 ?_ rfl (by kernel_rfl) (by kernel_rfl) (by kernel_rfl) (fun _ _ _ h => h) (by rfl) ?_ hSc ?_
          rotate_left
          · (intro W hSW; go_simp; try rfl)
          try simp only [Act.put, List.setIfInBounds_toArray, List.set_cons_zero, List.set_cons_succ]
          refine held_take 1 ?_ rfl (by kernel_rfl) (by kernel_rfl) (by kernel_rfl) (fun _ _ _ h => h) (by rfl) ?_ hSc ?_
          rotate_left
          · (intro W hSW; go_simp; try rfl)
          try simp only [Act.put, List.setIfInBounds_toArray, List.set_cons_zero, List.set_cons_succ]
          refine held_take 2 ?_ rfl (by kernel_rfl) (by kernel_rfl) (by kernel_rfl) (fun _ _ _ h => h) (by rfl) ?_ hSc ?_
          rotate_left
          · (intro W hSW; go_simp; try rfl)
          try simp only [Act.put, List.setIfInBounds_toArray, List.set_cons_zero, List.set_cons_succ]
          refine held_skip 3 rfl (by kernel_rfl) (by kernel_rfl) (by kernel_rfl) (fun _ _ _ h => h) (by rfl) hSc ?_
          try simp only [Act.put, List.setIfInBounds_toArray, List.set_cons_zero, List.set_cons_succ]
          refine held_skip 4 rfl (by kernel_rfl) (by kernel_rfl) (by kernel_rfl) (fun _ _ _ h => h) (by rfl) hSc ?_
          try simp only [Act.put, List.setIfInBounds_toArray, List.set_cons_zero, List.set_cons_succ]
          refine held_skip 5 rfl (by kernel_rfl) (by kernel_rfl) (by kernel_rfl) (fun _ _ _ h => h) (by rfl) hSc ?_
          try simp only [Act.put, List.setIfInBounds_toArray, List.set_cons_zero, List.set_cons_succ]
          refine held_skip 6 rfl (by kernel_rfl) (by kernel_rfl) (by kernel_rfl) (fun _ _ _ h => h) (by rfl) hSc ?_
          try simp only [Act.put, List.setIfInBounds_toArray, List.set_cons_zero, List.set_cons_succ]
          refine held_skip 7 rfl (by kernel_rfl) (by kernel_rfl) (by kernel_rfl) (fun _ _ _ h => h) (by rfl) hSc ?_
          try simp only [Act.put, List.setIfInBounds_toArray, List.set_cons_zero, List.set_cons_succ]
          refine held_skip 8 rfl (by kernel_rfl) (by kernel_rfl) (by kernel_rfl) (fun _ _ _ h => h) (by rfl) hSc ?_
          try simp only [Act.put, List.setIfInBounds_toArray, List.set_cons_zero, List.set_cons_succ]
          refine held_next 9 rfl (by kernel_rfl) (by rfl) ?_
          go_simp
          refine ⟨fun W => Pt w W X Y b off j u5 (insV (l.take j) X), fun W hW => hW, hSc, ?_⟩
          refine wpAnyH_done (by kernel_rfl) ?_ _
          have HQ := Lib.hid hSc
          clear hSc
          have a0 := HQ.out.bx.a0
          have a1 := HQ.out.bx.a1
          have a2 := HQ.out.bx.a2
          have q0 := HQ.out.q0
          have q1 := HQ.out.q1
          have q2 := HQ.out.q2
          go_wp2_with (at_builtin; refine wpList_gappv1 eV _ rfl _ _ _ rfl (w.heap.size + 1) sliV infV _ _ rfl HQ.out.own _ Y rfl rfl (by have := HLEN.out; (try simp only [List.length_append, List.length_cons, List.length_nil]); omega) HQ.out.bx.lt ?_; intro v2 w2 o2 g2 _; have hQ2 := HQ.out.app o2 g2; have HR := Lib.hid hQ2; clear hQ2 o2 g2 HQ; have a0' := HR.out.bx.a0; have a1' := HR.out.bx.a1; have a2' := HR.out.bx.a2; have q0' := HR.out.q0; have q1' := HR.out.q1; have q2' := HR.out.q2)
          go_roundw
          case rel => exact ⟨j + 1, true, by go_num, by omega, rfl, by rw [HSN.out, anyV_snoc, HD.out]; rfl, by rw [HSN.out, List.any_append, HNE.out]; simp [GE.out], by rw [HSN.out]; simp only [if_true]; rw [insV_some _ _ _ HD.out]; exact HR.out.own, HR.out.bx⟩
          case measure => simp [intOf]; omega
        | false =>
          have HD := Lib.hid hD
          simp only [Bool.false_eq_true, if_false] at ho
          clear hD
          have hP : Pt w wr X Y b off j u5 (l.take j) := ⟨hB, hbw, q0, q1, q2, ho⟩
          have HP := Lib.hid hP
          have a0 := hP.a0
          have a1 := hP.a1
          have a2 := hP.a2
          have hlen : (l.take j).length ≤ 200000 := by rw [List.length_take]; omega
          have HLEN := Lib.hid hlen
          clear ho hB hP hlen
          have hless := fun W => less_any X.k X.n X.s Y.k Y.n Y.s W HX.out (HL.out Y (List.mem_of_getElem? HY.out))
          cases hlt2 : decide (cmpW X Y < 0) with
          | true =>
            rw [show decide (cmpV X.k X.n (bls X.s) Y.k Y.n (bls Y.s) < 0) = decide (cmpW X Y < 0) from rfl, hlt2] at hless
            have HLESS := Lib.hid hless
            have HLT := Lib.hid hlt2
            clear hless hlt2
            go_wp2
            go_region
            go_wp2_with fail
            clear a0 a1 a2 q0 q1 q2
            have hSc := HP.out.drew.drew
            refine wp_region_all (S := fun W => Pt w W X Y b off j u5 (l.take j)) (by kernel_rfl) hSc (fun W0 hSc => ?_)
            refine held_take 0 ?_ rfl (by kernel_rfl) (by kernel_rfl) (by kernel_rfl) (fun _ _ _ h => h) (by rfl) ?_ hSc ?_
            rotate_left
            · (intro W hSW; go_simp; try rfl)
            try simp only [Act.put, List.setIfInBounds_toArray, List.set_cons_zero, List.set_cons_succ]
            refine held_take 1 ?_ rfl (by kernel_rfl) (by kernel_rfl) (by kernel_rfl) (fun _ _ _ h => h) (by rfl) ?_ hSc ?_
            rotate_left
            · (intro W hSW; go_simp; try rfl)
            try simp only [Act.put, List.setIfInBounds_toArray, List.set_cons_zero, List.set_cons_succ]
            refine held_take 2 ?_ rfl (by kernel_rfl) (by kernel_rfl) (by kernel_rfl) (fun _ _ _ h => h) (by rfl) ?_ hSc ?_
            rotate_left
            · (intro W hSW; go_simp; try rfl)
            try simp only [Act.put, List.setIfInBounds_toArray, List.set_cons_zero, List.set_cons_succ]
            refine held_take 3 ?_ rfl (by kernel_rfl) (by kernel_rfl) (by kernel_rfl) (fun _ _ _ h => h) (by rfl) ?_ hSc ?_
            rotate_left
            · (intro W hSW; have a0 := hSW.a0; have a1 := hSW.a1; have a2 := hSW.a2; have q0 := hSW.q0; have q1 := hSW.q1; have q2 := hSW.q2; go_simp; try rfl)
            try simp only [Act.put, List.setIfInBounds_toArray, List.set_cons_zero, List.set_cons_succ]
            refine held_take 4 ?_ rfl (by kernel_rfl) (by kernel_rfl) (by kernel_rfl) (fun _ _ _ h => h) (by rfl) ?_ hSc ?_
            rotate_left
            · (intro W hSW; have a0 := hSW.a0; have a1 := hSW.a1; have a2 := hSW.a2; have q0 := hSW.q0; have q1 := hSW.q1; have q2 := hSW.q2; go_simp; try rfl)
            try simp only [Act.put, List.setIfInBounds_toArray, List.set_cons_zero, List.set_cons_succ]
            refine held_take 5 ?_ rfl (by kernel_rfl) (by kernel_rfl) (by kernel_rfl) (fun _ _ _ h => h) (by rfl) ?_ hSc ?_
            rotate_left
            · (intro W hSW; have a0 := hSW.a0; have a1 := hSW.a1; have a2 := hSW.a2; have q0 := hSW.q0; have q1 := hSW.q1; have q2 := hSW.q2; go_simp; try rfl)
            try simp only [Act.put, List.setIfInBounds_toArray, List.set_cons_zero, List.set_cons_succ]
            refine held_take 6 ?_ rfl (by kernel_rfl) (by kernel_rfl) (by kernel_rfl) (fun _ _ _ h => h) (by rfl) ?_ hSc ?_
            rotate_left
            · (intro W hSW; have a0 := hSW.a0; have a1 := hSW.a1; have a2 := hSW.a2; have q0 := hSW.q0; have q1 := hSW.q1; have q2 := hSW.q2; go_simp; try rfl)
            try simp only [Act.put, List.setIfInBounds_toArray, List.set_cons_zero, List.set_cons_succ]
            refine held_take 7 ?_ rfl (by kernel_rfl) (by kernel_rfl) (by kernel_rfl) (fun _ _ _ h => h) (by rfl) ?_ hSc ?_
            rotate_left
            · (intro W hSW; have a0 := hSW.a0; have a1 := hSW.a1; have a2 := hSW.a2; have q0 := hSW.q0; have q1 := hSW.q1; have q2 := hSW.q2; go_simp; try rfl)
            try simp only [Act.put, List.setIfInBounds_toArray, List.set_cons_zero, List.set_cons_succ]
            refine held_next 8 rfl (by kernel_rfl) (by rfl) ?_
            go_simp
            refine (HLESS.out _).mono ?_
            rintro e wq1 ⟨rfl, bq⟩
            have hSd : (fun W => Pt w W X Y b off j u5 (l.take j)) wq1 := hSc.step bq
            refine ⟨fun W => Pt w W X Y b off j u5 (l.take j), fun W hW => hW, hSd, ?_⟩
            clear hSc bq
            have hSc := hSd
            clear hSd
            try simp only [Act.put, List.setIfInBounds_toArray, List.set_cons_zero, List.set_cons_succ]
            refine held_next 9 rfl (by kernel_rfl) (by rfl) ?_
            go_simp
            refine ⟨fun W => Pt w W X Y b off j u5 (l.take j), fun W hW => hW, hSc, ?_⟩
            refine wpAnyH_done (by kernel_rfl) ?_ _
            have HQ := Lib.hid hSc
            clear hSc
            have a0 := HQ.out.bx.a0
            have a1 := HQ.out.bx.a1
            have a2 := HQ.out.bx.a2
            have q0 := HQ.out.q0
            have q1 := HQ.out.q1
            have q2 := HQ.out.q2
            go_wp2_with (first
              | (at_builtin; refine wpList_gappv1 eV _ rfl _ _ _ rfl (w.heap.size + 1) sliV infV _ _ rfl HQ.out.own _ X rfl rfl (by have := HLEN.out; (try simp only [List.length_append, List.length_cons, List.length_nil]); omega) HQ.out.bx.lt ?_; intro v2 w2 o2 g2 _; have hQ2 := HQ.out.app o2 g2; have HR := Lib.hid hQ2; clear hQ2 o2 g2 HQ; have a0' := HR.out.bx.a0; have a1' := HR.out.bx.a1; have a2' := HR.out.bx.a2; have q0' := HR.out.q0; have q1' := HR.out.q1; have q2' := HR.out.q2)
              | (at_builtin; refine wpList_gappv1 eV _ rfl _ _ _ rfl (w.heap.size + 1) sliV infV _ _ rfl HR.out.own _ Y rfl rfl (by have := HLEN.out; (try simp only [List.length_append, List.length_cons, List.length_nil]); omega) HR.out.bx.lt ?_; intro v2 w2 o2 g2 _; have hQ2 := HR.out.app o2 g2; have HT := Lib.hid hQ2; clear hQ2 o2 g2 HR; have a0'' := HT.out.bx.a0; have a1'' := HT.out.bx.a1; have a2'' := HT.out.bx.a2; have q0'' := HT.out.q0; have q1'' := HT.out.q1; have q2'' := HT.out.q2))
            go_roundw
            case rel => exact ⟨j + 1, true, by go_num, by omega, rfl, by rw [HSN.out, anyV_snoc, HD.out, HLT.out]; rfl, by rw [HSN.out, List.any_append, HNE.out]; simp [GE.out], by rw [HSN.out]; simp only [if_true]; rw [insV_here _ _ _ HD.out (of_decide_eq_true HLT.out)]; have := HT.out.own; simpa using this, HT.out.bx⟩
            case measure => simp [intOf]; omega
          | false =>
            rw [show decide (cmpV X.k X.n (bls X.s) Y.k Y.n (bls Y.s) < 0) = decide (cmpW X Y < 0) from rfl, hlt2] at hless
            have HLESS := Lib.hid hless
            have HLT := Lib.hid hlt2
            clear hless hlt2
            go_wp2
            go_region
            go_wp2_with fail
            clear a0 a1 a2 q0 q1 q2
            have hSc := HP.out.drew.drew
            refine wp_region_all (S := fun W => Pt w W X Y b off j u5 (l.take j)) (by kernel_rfl) hSc (fun W0 hSc => ?_)
            refine held_take 0 ?_ rfl (by kernel_rfl) (by kernel_rfl) (by kernel_rfl) (fun _ _ _ h => h) (by rfl) ?_ hSc ?_
            rotate_left
            · (intro W hSW; go_simp; try rfl)
            try simp only [Act.put, List.setIfInBounds_toArray, List.set_cons_zero, List.set_cons_succ]
            refine held_take 1 ?_ rfl (by kernel_rfl) (by kernel_rfl) (by kernel_rfl) (fun _ _ _ h => h) (by rfl) ?_ hSc ?_
            rotate_left
            · (intro W hSW; go_simp; try rfl)
            try simp only [Act.put, List.setIfInBounds_toArray, List.set_cons_zero, List.set_cons_succ]
            refine held_take 2 ?_ rfl (by kernel_rfl) (by kernel_rfl) (by kernel_rfl) (fun _ _ _ h => h) (by rfl) ?_ hSc ?_
            rotate_left
            · (intro W hSW; go_simp; try rfl)
            try simp only [Act.put, List.setIfInBounds_toArray, List.set_cons_zero, List.set_cons_succ]
            refine held_take 3 ?_ rfl (by kernel_rfl) (by kernel_rfl) (by kernel_rfl) (fun _ _ _ h => h) (by rfl) ?_ hSc ?_
            rotate_left
            · (intro W hSW; have a0 := hSW.a0; have a1 := hSW.a1; have a2 := hSW.a2; have q0 := hSW.q0; have q1 := hSW.q1; have q2 := hSW.q2; go_simp; try rfl)
            try simp only [Act.put, List.setIfInBounds_toArray, List.set_cons_zero, List.set_cons_succ]
            refine held_take 4 ?_ rfl (by kernel_rfl) (by kernel_rfl) (by kernel_rfl) (fun _ _ _ h => h) (by rfl) ?_ hSc ?_
            rotate_left
            · (intro W hSW; have a0 := hSW.a0; have a1 := hSW.a1; have a2 := hSW.a2; have q0 := hSW.q0; have q1 := hSW.q1; have q2 := hSW.q2; go_simp; try rfl)
            try simp only [Act.put, List.setIfInBounds_toArray, List.set_cons_zero, List.set_cons_succ]
            refine held_take 5 ?_ rfl (by kernel_rfl) (by kernel_rfl) (by kernel_rfl) (fun _ _ _ h => h) (by rfl) ?_ hSc ?_
            rotate_left
            · (intro W hSW; have a0 := hSW.a0; have a1 := hSW.a1; have a2 := hSW.a2; have q0 := hSW.q0; have q1 := hSW.q1; have q2 := hSW.q2; go_simp; try rfl)
            try simp only [Act.put, List.setIfInBounds_toArray, List.set_cons_zero, List.set_cons_succ]
            refine held_take 6 ?_ rfl (by kernel_rfl) (by kernel_rfl) (by kernel_rfl) (fun _ _ _ h => h) (by rfl) ?_ hSc ?_
            rotate_left
            · (intro W hSW; have a0 := hSW.a0; have a1 := hSW.a1; have a2 := hSW.a2; have q0 := hSW.q0; have q1 := hSW.q1; have q2 := hSW.q2; go_simp; try rfl)
            try simp only [Act.put, List.setIfInBounds_toArray, List.set_cons_zero, List.set_cons_succ]
            refine held_take 7 ?_ rfl (by kernel_rfl) (by kernel_rfl) (by kernel_rfl) (fun _ _ _ h => h) (by rfl) ?_ hSc ?_
            rotate_left
            · (intro W hSW; have a0 := hSW.a0; have a1 := hSW.a1; have a2 := hSW.a2; have q0 := hSW.q0; have q1 := hSW.q1; have q2 := hSW.q2; go_simp; try rfl)
            try simp only [Act.put, List.setIfInBounds_toArray, List.set_cons_zero, List.set_cons_succ]
            refine held_next 8 rfl (by kernel_rfl) (by rfl) ?_
            go_simp
            refine (HLESS.out _).mono ?_
            rintro e wq1 ⟨rfl, bq⟩
            have hSd : (fun W => Pt w W X Y b off j u5 (l.take j)) wq1 := hSc.step bq
            refine ⟨fun W => Pt w W X Y b off j u5 (l.take j), fun W hW => hW, hSd, ?_⟩
            clear hSc bq
            have hSc := hSd
            clear hSd
            try simp only [Act.put, List.setIfInBounds_toArray, List.set_cons_zero, List.set_cons_succ]
            refine held_next 9 rfl (by kernel_rfl) (by rfl) ?_
            go_simp
            refine ⟨fun W => Pt w W X Y b off j u5 (l.take j), fun W hW => hW, hSc, ?_⟩
            refine wpAnyH_done (by kernel_rfl) ?_ _
            have HQ := Lib.hid hSc
            clear hSc
            have a0 := HQ.out.bx.a0
            have a1 := HQ.out.bx.a1
            have a2 := HQ.out.bx.a2
            have q0 := HQ.out.q0
            have q1 := HQ.out.q1
            have q2 := HQ.out.q2
            go_wp2_with (at_builtin; refine wpList_gappv1 eV _ rfl _ _ _ rfl (w.heap.size + 1) sliV infV _ _ rfl HQ.out.own _ Y rfl rfl (by have := HLEN.out; (try simp only [List.length_append, List.length_cons, List.length_nil]); omega) HQ.out.bx.lt ?_; intro v2 w2 o2 g2 _; have hQ2 := HQ.out.app o2 g2; have HR := Lib.hid hQ2; clear hQ2 o2 g2 HQ; have a0' := HR.out.bx.a0; have a1' := HR.out.bx.a1; have a2' := HR.out.bx.a2; have q0' := HR.out.q0; have q1' := HR.out.q1; have q2' := HR.out.q2)
            go_roundw
            case rel => exact ⟨j + 1, false, by go_num, by omega, rfl, by rw [HSN.out, anyV_snoc, HD.out, HLT.out]; rfl, by rw [HSN.out, List.any_append, HNE.out]; simp [GE.out], by rw [HSN.out]; simp only [Bool.false_eq_true, if_false]; exact HR.out.own, HR.out.bx⟩
            case measure => simp [intOf]; omega
      · skip
        have p1 : (Y.k == X.k) = true := by simp [g1]
        have p2 : (Y.n == X.n) = true := by simp [g2]
        have p3 : (Y.s.toList == X.s.toList) = false := by rw [beq_eq_false_iff_ne, bls_list, bls_list]; exact g3
        clear g1 g2 g3
        have GE := Lib.hid ge
        clear ge
        cases D with
        | true =>
          have HD := Lib.hid hD
          simp only [if_true] at ho
          clear hD
          have hP : Pt w wr X Y b off j u5 (insV (l.take j) X) := ⟨hB, hbw, q0, q1, q2, ho⟩
          have HP := Lib.hid hP
          have a0 := hP.a0
          have a1 := hP.a1
          have a2 := hP.a2
          have hlen : (insV (l.take j) X).length ≤ 200000 := by rw [insV_len, List.length_take]; omega
          have HLEN := Lib.hid hlen
          clear ho hB hP hlen
          go_wp2
          go_region
          go_wp2_with fail
          clear a0 a1 a2 q0 q1 q2
          have hSc := HP.out.drew.drew
          refine wp_region_all (S := fun W => Pt w W X Y b off j u5 (insV (l.take j) X)) (by kernel_rfl) hSc (fun W0 hSc => ?_)
          refine held_take 0 ?_ rfl (by kernel_rfl) (by kernel_rfl) (by kernel_rfl) (fun _ _ _ h => h) (by rfl) ?_ hSc ?_
          rotate_left
          · (intro W hSW; go_simp; try rfl)
          try simp only [Act.put, List.setIfInBounds_toArray, List.set_cons_zero, List.set_cons_succ]
          refine held_take 1 ?_ rfl (by kernel_rfl) (by kernel_rfl) (by kernel_rfl) (fun _ _ _ h => h) (by rfl) ?_ hSc ?_
          rotate_left
          · (intro W hSW; go_simp; try rfl)
          try simp only [Act.put, List.setIfInBounds_toArray, List.set_cons_zero, List.set_cons_succ]
          refine held_take 2 ?_ rfl (by kernel_rfl) (by kernel_rfl) (by kernel_rfl) (fun _ _ _ h => h) (by rfl) ?_ hSc ?_
          rotate_left
          · (intro W hSW; go_simp; try rfl)
          try simp only [Act.put, List.setIfInBounds_toArray, List.set_cons_zero, List.set_cons_succ]
          refine held_skip 3 rfl (by kernel_rfl) (by kernel_rfl) (by kernel_rfl) (fun _ _ _ h => h) (by rfl) hSc ?_
          try simp only [Act.put, List.setIfInBounds_toArray, List.set_cons_zero, List.set_cons_succ]
          refine held_skip 4 rfl (by kernel_rfl) (by kernel_rfl) (by kernel_rfl) (fun _ _ _ h => h) (by rfl) hSc ?_
          try simp only [Act.put, List.setIfInBounds_toArray, List.set_cons_zero, List.set_cons_succ]
          refine held_skip 5 rfl (by kernel_rfl) (by kernel_rfl) (by kernel_rfl) (fun _ _ _ h => h) (by rfl) hSc ?_
          try simp only [Act.put, List.setIfInBounds_toArray, List.set_cons_zero, List.set_cons_succ]
          refine held_skip 6 rfl (by kernel_rfl) (by kernel_rfl) (by kernel_rfl) (fun _ _ _ h => h) (by rfl) hSc ?_
          try simp only [Act.put, List.setIfInBounds_toArray, List.set_cons_zero, List.set_cons_succ]
          refine held_skip 7 rfl (by kernel_rfl) (by kernel_rfl) (by kernel_rfl) (fun _ _ _ h => h) (by rfl) hSc ?_
          try simp only [Act.put, List.setIfInBounds_toArray, List.set_cons_zero, List.set_cons_succ]
          refine held_skip 8 rfl (by kernel_rfl) (by kernel_rfl) (by kernel_rfl) (fun _ _ _ h => h) (by rfl) hSc ?_
          try simp only [Act.put, List.setIfInBounds_toArray, List.set_cons_zero, List.set_cons_succ]
          refine held_next 9 rfl (by kernel_rfl) (by rfl) ?_
          go_simp
          refine ⟨fun W => Pt w W X Y b off j u5 (insV (l.take j) X), fun W hW => hW, hSc, ?_⟩
          refine wpAnyH_done (by kernel_rfl) ?_ _
          have HQ := Lib.hid hSc
          clear hSc
          have a0 := HQ.out.bx.a0
          have a1 := HQ.out.bx.a1
          have a2 := HQ.out.bx.a2
          have q0 := HQ.out.q0
          have q1 := HQ.out.q1
          have q2 := HQ.out.q2
          go_wp2_with (at_builtin; refine wpList_gappv1 eV _ rfl _ _ _ rfl (w.heap.size + 1) sliV infV _ _ rfl HQ.out.own _ Y rfl rfl (by have := HLEN.out; (try simp only [List.length_append, List.length_cons, List.length_nil]); omega) HQ.out.bx.lt ?_; intro v2 w2 o2 g2 _; have hQ2 := HQ.out.app o2 g2; have HR := Lib.hid hQ2; clear hQ2 o2 g2 HQ; have a0' := HR.out.bx.a0; have a1' := HR.out.bx.a1; have a2' := HR.out.bx.a2; have q0' := HR.out.q0; have q1' := HR.out.q1; have q2' := HR.out.q2)
          go_roundw
          case rel => exact ⟨j + 1, true, by go_num, by omega, rfl, by rw [HSN.out, anyV_snoc, HD.out]; rfl, by rw [HSN.out, List.any_append, HNE.out]; simp [GE.out], by rw [HSN.out]; simp only [if_true]; rw [insV_some _ _ _ HD.out]; exact HR.out.own, HR.out.bx⟩
          case measure => simp [intOf]; omega
        | false =>
          have HD := Lib.hid hD
          simp only [Bool.false_eq_true, if_false] at ho
          clear hD
          have hP : Pt w wr X Y b off j u5 (l.take j) := ⟨hB, hbw, q0, q1, q2, ho⟩
          have HP := Lib.hid hP
          have a0 := hP.a0
          have a1 := hP.a1
          have a2 := hP.a2
          have hlen : (l.take j).length ≤ 200000 := by rw [List.length_take]; omega
          have HLEN := Lib.hid hlen
          clear ho hB hP hlen
          have hless := fun W => less_any X.k X.n X.s Y.k Y.n Y.s W HX.out (HL.out Y (List.mem_of_getElem? HY.out))
          cases hlt2 : decide (cmpW X Y < 0) with
          | true =>
            rw [show decide (cmpV X.k X.n (bls X.s) Y.k Y.n (bls Y.s) < 0) = decide (cmpW X Y < 0) from rfl, hlt2] at hless
            have HLESS := Lib.hid hless
            have HLT := Lib.hid hlt2
            clear hless hlt2
            go_wp2
            go_region
            go_wp2_with fail
            clear a0 a1 a2 q0 q1 q2
            have hSc := HP.out.drew.drew
            refine wp_region_all (S := fun W => Pt w W X Y b off j u5 (l.take j)) (by kernel_rfl) hSc (fun W0 hSc => ?_)
            refine held_take 0 ?_ rfl (by kernel_rfl) (by kernel_rfl) (by kernel_rfl) (fun _ _ _ h => h) (by rfl) ?_ hSc ?_
            rotate_left
            · (intro W hSW; go_simp; try rfl)
            try simp only [Act.put, List.setIfInBounds_toArray, List.set_cons_zero, List.set_cons_succ]
            refine held_take 1 ?_ rfl (by kernel_rfl) (by kernel_rfl) (by kernel_rfl) (fun _ _ _ h => h) (by rfl) ?_ hSc ?_
            rotate_left
            · (intro W hSW; go_simp; try rfl)
            try simp only [Act.put, List.setIfInBounds_toArray, List.set_cons_zero, List.set_cons_succ]
            refine held_take 2 ?_ rfl (by kernel_rfl) (by kernel_rfl) (by kernel_rfl) (fun _ _ _ h => h) (by rfl) ?_ hSc ?_
            rotate_left
            · (intro W hSW; go_simp; try rfl)
            try simp only [Act.put, List.setIfInBounds_toArray, List.set_cons_zero, List.set_cons_succ]
            refine held_take 3 ?_ rfl (by kernel_rfl) (by kernel_rfl) (by kernel_rfl) (fun _ _ _ h => h) (by rfl) ?_ hSc ?_
            rotate_left
            · (intro W hSW; have a0 := hSW.a0; have a1 := hSW.a1; have a2 := hSW.a2; have q0 := hSW.q0; have q1 := hSW.q1; have q2 := hSW.q2; go_simp; try rfl)
            try simp only [Act.put, List.setIfInBounds_toArray, List.set_cons_zero, List.set_cons_succ]
            refine held_take 4 ?_ rfl (by kernel_rfl) (by kernel_rfl) (by kernel_rfl) (fun _ _ _ h => h) (by rfl) ?_ hSc ?_
            rotate_left
            · (intro W hSW; have a0 := hSW.a0; have a1 := hSW.a1; have a2 := hSW.a2; have q0 := hSW.q0; have q1 := hSW.q1; have q2 := hSW.q2; go_simp; try rfl)
            try simp only [Act.put, List.setIfInBounds_toArray, List.set_cons_zero, List.set_cons_succ]
            refine held_take 5 ?_ rfl (by kernel_rfl) (by kernel_rfl) (by kernel_rfl) (fun _ _ _ h => h) (by rfl) ?_ hSc ?_
            rotate_left
            · (intro W hSW; have a0 := hSW.a0; have a1 := hSW.a1; have a2 := hSW.a2; have q0 := hSW.q0; have q1 := hSW.q1; have q2 := hSW.q2; go_simp; try rfl)
            try simp only [Act.put, List.setIfInBounds_toArray, List.set_cons_zero, List.set_cons_succ]
            refine held_take 6 ?_ rfl (by kernel_rfl) (by kernel_rfl) (by kernel_rfl) (fun _ _ _ h => h) (by rfl) ?_ hSc ?_
            rotate_left
            · (intro W hSW; have a0 := hSW.a0; have a1 := hSW.a1; have a2 := hSW.a2; have q0 := hSW.q0; have q1 := hSW.q1; have q2 := hSW.q2; go_simp; try rfl)
            try simp only [Act.put, List.setIfInBounds_toArray, List.set_cons_zero, List.set_cons_succ]
            refine held_take 7 ?_ rfl (by kernel_rfl) (by kernel_rfl) (by kernel_rfl) (fun _ _ _ h => h) (by rfl) ?_ hSc ?_
            rotate_left
            · (intro W hSW; have a0 := hSW.a0; have a1 := hSW.a1; have a2 := hSW.a2; have q0 := hSW.q0; have q1 := hSW.q1; have q2 := hSW.q2; go_simp; try rfl)
            try simp only [Act.put, List.setIfInBounds_toArray, List.set_cons_zero, List.set_cons_succ]
            refine held_next 8 rfl (by kernel_rfl) (by rfl) ?_
            go_simp
            refine (HLESS.out _).mono ?_
            rintro e wq1 ⟨rfl, bq⟩
            have hSd : (fun W => Pt w W X Y b off j u5 (l.take j)) wq1 := hSc.step bq
            refine ⟨fun W => Pt w W X Y b off j u5 (l.take j), fun W hW => hW, hSd, ?_⟩
            clear hSc bq
            have hSc := hSd
            clear hSd
            try simp only [Act.put, List.setIfInBounds_toArray, List.set_cons_zero, List.set_cons_succ]
            refine held_next 9 rfl (by kernel_rfl) (by rfl) ?_
            go_simp
            refine ⟨fun W => Pt w W X Y b off j u5 (l.take j), fun W hW => hW, hSc, ?_⟩
            refine wpAnyH_done (by kernel_rfl) ?_ _
            have HQ := Lib.hid hSc
            clear hSc
            have a0 := HQ.out.bx.a0
            have a1 := HQ.out.bx.a1
            have a2 := HQ.out.bx.a2
            have q0 := HQ.out.q0
            have q1 := HQ.out.q1
            have q2 := HQ.out.q2
            go_wp2_with (first
              | (at_builtin; refine wpList_gappv1 eV _ rfl _ _ _ rfl (w.heap.size + 1) sliV infV _ _ rfl HQ.out.own _ X rfl rfl (by have := HLEN.out; (try simp only [List.length_append, List.length_cons, List.length_nil]); omega) HQ.out.bx.lt ?_; intro v2 w2 o2 g2 _; have hQ2 := HQ.out.app o2 g2; have HR := Lib.hid hQ2; clear hQ2 o2 g2 HQ; have a0' := HR.out.bx.a0; have a1' := HR.out.bx.a1; have a2' := HR.out.bx.a2; have q0' := HR.out.q0; have q1' := HR.out.q1; have q2' := HR.out.q2)
              | (at_builtin; refine wpList_gappv1 eV _ rfl _ _ _ rfl (w.heap.size + 1) sliV infV _ _ rfl HR.out.own _ Y rfl rfl (by have := HLEN.out; (try simp only [List.length_append, List.length_cons, List.length_nil]); omega) HR.out.bx.lt ?_; intro v2 w2 o2 g2 _; have hQ2 := HR.out.app o2 g2; have HT := Lib.hid hQ2; clear hQ2 o2 g2 HR; have a0'' := HT.out.bx.a0; have a1'' := HT.out.bx.a1; have a2'' := HT.out.bx.a2; have q0'' := HT.out.q0; have q1'' := HT.out.q1; have q2'' := HT.out.q2))
            go_roundw
            case rel => exact ⟨j + 1, true, by go_num, by omega, rfl, by rw [HSN.out, anyV_snoc, HD.out, HLT.out]; rfl, by rw [HSN.out, List.any_append, HNE.out]; simp [GE.out], by rw [HSN.out]; simp only [if_true]; rw [insV_here _ _ _ HD.out (of_decide_eq_true HLT.out)]; have := HT.out.own; simpa using this, HT.out.bx⟩
            case measure => simp [intOf]; omega
          | false =>
            rw [show decide (cmpV X.k X.n (bls X.s) Y.k Y.n (bls Y.s) < 0) = decide (cmpW X Y < 0) from rfl, hlt2] at hless
            have HLESS := Lib.hid hless
            have HLT := Lib.hid hlt2
            clear hless hlt2
            go_wp2
            go_region
            go_wp2_with fail
            clear a0 a1 a2 q0 q1 q2
            have hSc := HP.out.drew.drew
            refine wp_region_all (S := fun W => Pt w W X Y b off j u5 (l.take j)) (by kernel_rfl) hSc (fun W0 hSc => ?_)
            refine held_take 0 ?_ rfl (by kernel_rfl) (by kernel_rfl) (by kernel_rfl) (fun _ _ _ h => h) (by rfl) ?_ hSc ?_
            rotate_left
            · (intro W hSW; go_simp; try rfl)
            try simp only [Act.put, List.setIfInBounds_toArray, List.set_cons_zero, List.set_cons_succ]
            refine held_take 1 ?_ rfl (by kernel_rfl) (by kernel_rfl) (by kernel_rfl) (fun _ _ _ h => h) (by rfl) ?_ hSc ?_
            rotate_left
            · (intro W hSW; go_simp; try rfl)
            try simp only [Act.put, List.setIfInBounds_toArray, List.set_cons_zero, List.set_cons_succ]
            refine held_take 2 ?_ rfl (by kernel_rfl) (by kernel_rfl) (by kernel_rfl) (fun _ _ _ h => h) (by rfl) ?_ hSc ?_
            rotate_left
            · (intro W hSW; go_simp; try rfl)
            try simp only [Act.put, List.setIfInBounds_toArray, List.set_cons_zero, List.set_cons_succ]
            refine held_take 3 ?_ rfl (by kernel_rfl) (by kernel_rfl) (by kernel_rfl) (fun _ _ _ h => h) (by rfl) ?_ hSc ?_
            rotate_left
            · (intro W hSW; have a0 := hSW.a0; have a1 := hSW.a1; have a2 := hSW.a2; have q0 := hSW.q0; have q1 := hSW.q1; have q2 := hSW.q2; go_simp; try rfl)
            try simp only [Act.put, List.setIfInBounds_toArray, List.set_cons_zero, List.set_cons_succ]
            refine held_take 4 ?_ rfl (by kernel_rfl) (by kernel_rfl) (by kernel_rfl) (fun _ _ _ h => h) (by rfl) ?_ hSc ?_
            rotate_left
            · (intro W hSW; have a0 := hSW.a0; have a1 := hSW.a1; have a2 := hSW.a2; have q0 := hSW.q0; have q1 := hSW.q1; have q2 := hSW.q2; go_simp; try rfl)
            try simp only [Act.put, List.setIfInBounds_toArray, List.set_cons_zero, List.set_cons_succ]
            refine held_take 5 ?_ rfl (by kernel_rfl) (by kernel_rfl) (by kernel_rfl) (fun _ _ _ h => h) (by rfl) ?_ hSc ?_
            rotate_left
            · (intro W hSW; have a0 := hSW.a0; have a1 := hSW.a1; have a2 := hSW.a2; have q0 := hSW.q0; have q1 := hSW.q1; have q2 := hSW.q2; go_simp; try rfl)
            try simp only [Act.put, List.setIfInBounds_toArray, List.set_cons_zero, List.set_cons_succ]
            refine held_take 6 ?_ rfl (by kernel_rfl) (by kernel_rfl) (by kernel_rfl) (fun _ _ _ h => h) (by rfl) ?_ hSc ?_
            rotate_left
            · (intro W hSW; have a0 := hSW.a0; have a1 := hSW.a1; have a2 := hSW.a2; have q0 := hSW.q0; have q1 := hSW.q1; have q2 := hSW.q2; go_simp; try rfl)
            try simp only [Act.put, List.setIfInBounds_toArray, List.set_cons_zero, List.set_cons_succ]
            refine held_take 7 ?_ rfl (by kernel_rfl) (by kernel_rfl) (by kernel_rfl) (fun _ _ _ h => h) (by rfl) ?_ hSc ?_
            rotate_left
            · (intro W hSW; have a0 := hSW.a0; have a1 := hSW.a1; have a2 := hSW.a2; have q0 := hSW.q0; have q1 := hSW.q1; have q2 := hSW.q2; go_simp; try rfl)
            try simp only [Act.put, List.setIfInBounds_toArray, List.set_cons_zero, List.set_cons_succ]
            refine held_next 8 rfl (by kernel_rfl) (by rfl) ?_
            go_simp
            refine (HLESS.out _).mono ?_
            rintro e wq1 ⟨rfl, bq⟩
            have hSd : (fun W => Pt w W X Y b off j u5 (l.take j)) wq1 := hSc.step bq
            refine ⟨fun W => Pt w W X Y b off j u5 (l.take j), fun W hW => hW, hSd, ?_⟩
            clear hSc bq
            have hSc := hSd
            clear hSd
            try simp only [Act.put, List.setIfInBounds_toArray, List.set_cons_zero, List.set_cons_succ]
            refine held_next 9 rfl (by kernel_rfl) (by rfl) ?_
            go_simp
            refine ⟨fun W => Pt w W X Y b off j u5 (l.take j), fun W hW => hW, hSc, ?_⟩
            refine wpAnyH_done (by kernel_rfl) ?_ _
            have HQ := Lib.hid hSc
            clear hSc
            have a0 := HQ.out.bx.a0
            have a1 := HQ.out.bx.a1
            have a2 := HQ.out.bx.a2
            have q0 := HQ.out.q0
            have q1 := HQ.out.q1
            have q2 := HQ.out.q2
            go_wp2_with (at_builtin; refine wpList_gappv1 eV _ rfl _ _ _ rfl (w.heap.size + 1) sliV infV _ _ rfl HQ.out.own _ Y rfl rfl (by have := HLEN.out; (try simp only [List.length_append, List.length_cons, List.length_nil]); omega) HQ.out.bx.lt ?_; intro v2 w2 o2 g2 _; have hQ2 := HQ.out.app o2 g2; have HR := Lib.hid hQ2; clear hQ2 o2 g2 HQ; have a0' := HR.out.bx.a0; have a1' := HR.out.bx.a1; have a2' := HR.out.bx.a2; have q0' := HR.out.q0; have q1' := HR.out.q1; have q2' := HR.out.q2)
            go_roundw
            case rel => exact ⟨j + 1, false, by go_num, by omega, rfl, by rw [HSN.out, anyV_snoc, HD.out, HLT.out]; rfl, by rw [HSN.out, List.any_append, HNE.out]; simp [GE.out], by rw [HSN.out]; simp only [Bool.false_eq_true, if_false]; exact HR.out.own, HR.out.bx⟩
            case measure => simp [intOf]; omega
      · skip
        subst g1
        have p1 : (Y.k == Y.k) = true := by simp
        have p2 : (Y.n == Y.n) = true := by simp
        have p3 : (Y.s.toList == Y.s.toList) = true := by simp
        have a0 := hB.a0
        have a1 := hB.a1
        have a2 := hB.a2
        have hput : putV l Y = l := by
          unfold putV
          have hany : l.any (fun x => eqW x Y) = true := List.any_eq_true.2 ⟨Y, List.mem_of_getElem? HY.out, ge⟩
          exact if_pos hany
        have HPUT := Lib.hid hput
        have HB2 := Lib.hid hB.below
        clear hput ge ho hB
        go_wp2
        go_region
        go_wp2
        go_ret
        rw [HPUT.out]
        exact ⟨_, _, rfl, (HG2.out.below (Below.refl _ _).drew).more (Nat.le_refl _) HB2.out.size, HB2.out.drew⟩
    · have ej : j = l.length := by omega
      rw [ej, List.take_length] at hD hne ho
      clear hj ej
      cases D with
      | true =>
        simp only [if_true] at ho
        have hput : putV l X = insV l X := by
          unfold putV
          rw [if_neg (by rw [hne]; simp)]
        obtain ⟨A2, d2, rfl, -⟩ := ho.sl
        have HO := Lib.hid ho
        have HB := Lib.hid hB
        have HPUT := Lib.hid hput
        clear ho hB hne hput hD
        go_wp2
        go_ret
        rw [HPUT.out]
        exact ⟨A2, d2, rfl, HO.out.sl.more (Nat.zero_le _) (Nat.le_refl _), HB.out.below⟩
      | false =>
        simp only [Bool.false_eq_true, if_false] at ho
        have hput : putV l X = insV l X := by
          unfold putV
          rw [if_neg (by rw [hne]; simp)]
        have HI := Lib.hid (insV_none l X hD)
        have a0 := hB.a0
        have a1 := hB.a1
        have a2 := hB.a2
        have HO := Lib.hid ho
        have HB := Lib.hid hB
        have HPUT := Lib.hid hput
        clear ho hB hne hput hD
        go_wp2_with (at_builtin; refine wpList_gappv1 eV _ rfl _ _ _ rfl (w.heap.size + 1) sliV infV _ _ rfl HO.out _ X rfl rfl (by omega) HB.out.lt ?_; intro v2 w2 o2 g2 _; have hB2 := HB.out.below.grown g2 HB.out.below.size (fun x hx => by have := (HO.out.lt x hx).1; omega); rw [← HI.out, ← HPUT.out] at o2; obtain ⟨A2, d2, rfl, -⟩ := o2.sl; have HO2 := Lib.hid o2; have HB2 := Lib.hid hB2; clear o2 g2 hB2)
        go_ret
        exact ⟨A2, d2, rfl, HO2.out.sl.more (Nat.zero_le _) (Nat.le_refl _), HB2.out⟩
end Go.Proofs.Ytjojhoaienjjeaa
/- Walks: the document's Of, Same, Great of values. -/
namespace Go.Proofs.Ytjojhoaienjjeaa
open Go.RowKit
set_option linter.unusedVariables false

/-- Whether a value may be. -/
def mayW (x : VV) : Bool := mayV x.k x.n (bls x.s)
/-- What is told of values that are to be a dictionary. -/
def ofE (kind : Int) (l : List VV) : Int := if kind ≠ 1 ∧ kind ≠ 2 then 2 else if l.all mayW = false then 2 else if l.all (fun x => decide (x.k = kind)) = false then 9 else 0
def ofL (kind : Int) (l : List VV) : List VV := if ofE kind l = 0 then dicV l else []
theorem all_snoc (p : VV → Bool) (l : List VV) (x : VV) : (l ++ [x]).all p = (l.all p && p x) := by simp
theorem all_not {p : VV → Bool} {l : List VV} {x : VV} (h : x ∈ l) (hp : p x = false) : l.all p = false := by
  rw [← Bool.not_eq_true, List.all_eq_true]
  intro g
  rw [g x h] at hp
  cases hp

theorem mayW_size {x : VV} (h : mayW x = true) : x.s.size ≤ 1000000000 := by
  unfold mayW mayV at h
  split at h
  · have : bls x.s = [] := by simpa using h
    rw [← bls_len, this]; simp
  · split at h
    · simp only [Bool.and_eq_true, decide_eq_true_eq] at h
      have := h.2
      rw [bls_len] at this
      omega
    · cases h
set_option maxHeartbeats 2000000 in
set_option maxRecDepth 100000 in
theorem refof_c (kind : Int) (A : Option Addr) (d : Nat) (l : List VV) (w : World) (hG : GsV eV w 0 w.heap.size (.slice A l.length d) l) (hn : l.length ≤ 100000) :
    Calls Try.prog 12 #[.int .u8 kind, .slice A l.length d] w fun e w' => ∃ A2 d2, e = .returned (.tuple #[.slice A2 (ofL kind l).length d2, .int .i64 (ofE kind l)]) ∧ GsV eV w' 0 w'.heap.size (.slice A2 (ofL kind l).length d2) (ofL kind l) ∧ Below w.heap.size w w' := by
  by_cases hk : kind ≠ 1 ∧ kind ≠ 2
  · have e1 : (kind != 1) = true := by simp [hk.1]
    have e2 : (kind != 2) = true := by simp [hk.2]
    have hE : ofE kind l = 2 := by unfold ofE; rw [if_pos hk]
    have hL : ofL kind l = [] := by unfold ofL; rw [hE]; rfl
    rw [hE, hL]
    clear hG hn hE hL
    go_enter Try.func12, Try.ntmps12
    go_wp2
    go_ret2
    exact ⟨none, 0, rfl, GsV.nil_ _ _ _, Below.refl _ _⟩
  · have hpk : (kind != 1) = true ∧ (kind != 2) = false ∨ (kind != 1) = false := by
      by_cases h1 : kind = 1
      · right; simp [h1]
      · left; exact ⟨by simp [h1], by by_cases h2 : kind = 2 <;> simp [h2]; exact hk ⟨h1, h2⟩⟩
    have HG := Lib.hid hG
    have HK := Lib.hid hk
    clear hG hk
    rcases hpk with ⟨e1, e2⟩ | e1
    all_goals
      go_enter Try.func12, Try.ntmps12
      go_wp2_with fail
      go_loopw [6] (fun i wr => ∃ j : Nat, i = .int .i64 j ∧ j ≤ l.length ∧ (l.take j).all mayW = true ∧ Below w.heap.size w wr) (fun i _ => l.length - (intOf i).toNat)
      case atStart => exact ⟨0, rfl, Nat.zero_le _, rfl, Below.refl _ _⟩
      case round =>
        obtain ⟨j, rfl, hj, hm, hB⟩ := hrel
        by_cases hlt : j < l.length
        · skip
          have hG := HG.out.below hB
          obtain ⟨b, off, c', e, -, -, -, hbw, hc⟩ := hG.form (by rintro rfl; simp at hlt)
          injection e with e1 e2 e3
          clear e2
          subst e1 e3
          obtain ⟨Y, hY⟩ : ∃ Y, l[j]? = some Y := ⟨_, List.getElem?_eq_getElem hlt⟩
          have q0 := vcell0 (hc j Y hY)
          have q1 := vcell1 (hc j Y hY)
          have q2 := vcell2 (hc j Y hY)
          have HY := Lib.hid hY
          have hsnoc : l.take (j + 1) = l.take j ++ [Y] := by rw [List.take_add_one, hY]; rfl
          have HSN := Lib.hid hsnoc
          clear hc hG hY hsnoc
          have HM := Lib.hid hm
          have HB := Lib.hid hB
          clear hm hB
          have hmc := fun W => refmay_any Y.k Y.n Y.s W
          rw [show mayV Y.k Y.n (bls Y.s) = mayW Y from rfl] at hmc
          cases hmay : mayW Y with
          | false =>
            rw [hmay] at hmc
            have hE : ofE kind l = 2 := by unfold ofE; rw [if_neg HK.out, if_pos (all_not (List.mem_of_getElem? HY.out) hmay)]
            have hL : ofL kind l = [] := by unfold ofL; rw [hE]; rfl
            have HE := Lib.hid hE
            have HLL := Lib.hid hL
            clear hE hL hmay
            go_wp2_with (go_at_call 31; refine (hmc _).mono ?_; rintro e w3 ⟨rfl, b3⟩; have B3 := Lib.hid (HB.out.trans (b3.mono HB.out.size)); clear b3)
            go_ret2
            rw [HE.out, HLL.out]
            exact ⟨none, 0, rfl, GsV.nil_ _ _ _, B3.out⟩
          | true =>
            rw [hmay] at hmc
            have HMAY := Lib.hid hmay
            clear hmay
            go_wp2_with (go_at_call 31; refine (hmc _).mono ?_; rintro e w3 ⟨rfl, b3⟩; have B3 := Lib.hid (HB.out.trans (b3.mono HB.out.size)); clear b3)
            go_roundw
            case rel => exact ⟨j + 1, by go_num, by omega, by rw [HSN.out, all_snoc, HM.out, HMAY.out]; rfl, B3.out⟩
            case measure => simp [intOf]; omega
        · have ej : j = l.length := by omega
          rw [ej, List.take_length] at hm
          have HM := Lib.hid hm
          have HB1 := Lib.hid hB
          clear hm hB ej hj
          go_wp2_with fail
          go_loopw [7, 8] (fun v i wx => ∃ (j : Nat) (A2 : Option Addr) (d2 : Nat), i = .int .i64 j ∧ j ≤ l.length ∧ v = .slice A2 (dicV (l.take j)).length d2 ∧ (l.take j).all (fun x => decide (x.k = kind)) = true ∧ GsV eV wx 0 wx.heap.size (.slice A2 (dicV (l.take j)).length d2) (dicV (l.take j)) ∧ Below w.heap.size w wx) (fun _ i _ => l.length - (intOf i).toNat)
          case atStart => exact ⟨0, none, 0, rfl, Nat.zero_le _, rfl, rfl, GsV.nil_ _ _ _, HB1.out⟩
          case round =>
            obtain ⟨j, A2, d2, rfl, hj, rfl, hm, hv, hB⟩ := hrel
            by_cases hlt : j < l.length
            · skip
              have hG := HG.out.below hB
              obtain ⟨b, off, c', e, -, -, -, hbw, hc⟩ := hG.form (by rintro rfl; simp at hlt)
              injection e with e1 e2 e3
              clear e2
              subst e1 e3
              obtain ⟨Y, hY⟩ : ∃ Y, l[j]? = some Y := ⟨_, List.getElem?_eq_getElem hlt⟩
              have q0 := vcell0 (hc j Y hY)
              have q1 := vcell1 (hc j Y hY)
              have q2 := vcell2 (hc j Y hY)
              have HY := Lib.hid hY
              have hsnoc : l.take (j + 1) = l.take j ++ [Y] := by rw [List.take_add_one, hY]; rfl
              have HSN := Lib.hid hsnoc
              clear hc hG hY hsnoc
              have HM2 := Lib.hid hm
              have HB := Lib.hid hB
              have HV := Lib.hid hv
              clear hm hB hv
              by_cases hk2 : Y.k = kind
              · have p1 : (Y.k != kind) = false := by simp [hk2]
                have HK2 := Lib.hid hk2
                have hput : putV (dicV (l.take j)) Y = dicV (l.take (j + 1)) := by rw [HSN.out, dicV_snoc]
                have HPUT := Lib.hid hput
                clear hk2 hput
                have hdl : (dicV (l.take j)).length ≤ 100000 := by have := dicV_len (l.take j); rw [List.length_take] at this; omega
                have hds : ∀ x ∈ dicV (l.take j), x.s.size ≤ 1000000000 := fun x hx => mayW_size (List.all_eq_true.1 HM.out x (List.mem_of_mem_take ((dicV_mem _ _).1 hx)))
                have HDL := Lib.hid hdl
                have HDS := Lib.hid hds
                have hys := mayW_size (List.all_eq_true.1 HM.out Y (List.mem_of_getElem? HY.out))
                have HYS := Lib.hid hys
                clear hdl hds hys
                go_wp2_with (go_at_call 32; refine (put_c A2 d2 (dicV (l.take j)) Y _ HV.out HYS.out HDS.out HDL.out).mono ?_; rw [HPUT.out]; rintro e w3 ⟨A3, d3, rfl, o3, b3⟩; have B3 := Lib.hid (HB.out.trans (b3.mono HB.out.size)); have O3 := Lib.hid o3; clear b3 o3)
                go_roundw
                case rel => exact ⟨j + 1, A3, d3, by go_num, by omega, rfl, by rw [HSN.out, all_snoc, HM2.out]; simpa using HK2.out, O3.out, B3.out⟩
                case measure => simp [intOf]; omega
              · have p1 : (Y.k != kind) = true := by simp [hk2]
                have hE : ofE kind l = 9 := by
                  unfold ofE
                  rw [if_neg HK.out, if_neg (by rw [HM.out]; simp), if_pos (all_not (List.mem_of_getElem? HY.out) (decide_eq_false hk2))]
                have hL : ofL kind l = [] := by unfold ofL; rw [hE]; rfl
                have HE := Lib.hid hE
                have HLL := Lib.hid hL
                clear hE hL hk2
                go_wp2
                go_ret2
                rw [HE.out, HLL.out]
                exact ⟨none, 0, rfl, GsV.nil_ _ _ _, HB.out⟩
            · have ej : j = l.length := by omega
              rw [ej, List.take_length] at hm hv
              have hE : ofE kind l = 0 := by
                unfold ofE
                rw [if_neg HK.out, if_neg (by rw [HM.out]; simp), if_neg (by rw [hm]; simp)]
              have hL : ofL kind l = dicV l := by unfold ofL; rw [hE]; rfl
              have HE := Lib.hid hE
              have HLL := Lib.hid hL

              have hdd : (dicV (l.take j)).length = (dicV l).length := by rw [ej, List.take_length]
              have HDD := Lib.hid hdd
              have HV := Lib.hid hv
              have HB := Lib.hid hB
              clear hm hv hB hE hL ej
              go_wp2
              go_ret2
              rw [HE.out, HLL.out]
              exact ⟨A2, d2, by rw [HDD.out]; rfl, HV.out, HB.out⟩
end Go.Proofs.Ytjojhoaienjjeaa
namespace Go.Proofs.Ytjojhoaienjjeaa
open Go.RowKit
set_option linter.unusedVariables false

/-- '!=' of two values that differ. -/
theorem neq_V {k n : Int} {s : ByteArray} {k' n' : Int} {s' : ByteArray} (h : ¬ (k = k' ∧ n = n' ∧ s = s')) : ∀ W : World, (binOp .neq 38 (Value.agg #[.int .u8 k, .int .i64 n, .string s]) (Value.agg #[.int .u8 k', .int .i64 n', .string s'])).run Try.prog W = Result.ok (Value.bool true) W := by
  intro W
  by_cases h1 : k = k'
  · subst h1
    by_cases h2 : n = n'
    · subst h2
      have h3 : ¬ s.toList = s'.toList := by
        intro e
        rw [bls_list, bls_list] at e
        exact h ⟨rfl, rfl, ByteArray.ext (Array.ext' e)⟩
      go_simp
    · go_simp
  · go_simp

set_option maxHeartbeats 1000000 in
set_option maxRecDepth 100000 in
theorem same_cv (A A2 : Option Addr) (d d2 : Nat) (l m : List VV) (B : Bool) (hBB : B = true ↔ l = m) (w : World) (hG : GsV eV w 0 w.heap.size (.slice A l.length d) l) (hM : GsV eV w 0 w.heap.size (.slice A2 m.length d2) m) :
    Calls Try.prog 13 #[.slice A l.length d, .slice A2 m.length d2] w fun e w' => e = .returned (.bool B) ∧ ∃ k, w' = w.drewN k := by
  have HG := Lib.hid hG
  have HM := Lib.hid hM
  have hl1 := hG.len
  have hl2 := hM.len
  have hBB := Lib.hid hBB
  clear hG hM
  by_cases hlen : l.length = m.length
  · have hne : ((l.length : Int) != (m.length : Int)) = false := by simp [hlen]
    go_enter Try.func13, Try.ntmps13
    go_wp2_with fail
    go_loopw [5] (fun i wr => ∃ j k : Nat, i = .int .i64 j ∧ j ≤ l.length ∧ l.take j = m.take j ∧ wr = w.drewN k) (fun i _ => l.length - (intOf i).toNat)
    case atStart => exact ⟨0, 0, rfl, Nat.zero_le _, rfl, rfl⟩
    case round =>
      obtain ⟨j, kk, rfl, hj, ht, rfl⟩ := hrel
      have HT := Lib.hid ht
      clear ht
      by_cases hlt : j < l.length
      · have hlt2 : j < m.length := by omega
        have hG := HG.out
        obtain ⟨b, boff, bc', e, -, -, -, bw, hc⟩ := hG.form (fun e => by have h := congrArg List.length e; simp only [List.length_nil] at h; omega)
        injection e with e1 e2 e3
        clear e2
        subst e1 e3
        obtain ⟨Y, hY⟩ : ∃ Y, l[j]? = some Y := ⟨_, List.getElem?_eq_getElem (by omega)⟩
        have q0 := vcell0 (hc j Y hY)
        have q1 := vcell1 (hc j Y hY)
        have q2 := vcell2 (hc j Y hY)
        have HY := Lib.hid hY
        clear hc hG hY
        have hG := HM.out
        obtain ⟨b2, b2off, b2c', e, -, -, -, b2w, hc⟩ := hG.form (fun e => by have h := congrArg List.length e; simp only [List.length_nil] at h; omega)
        injection e with e1 e2 e3
        clear e2
        subst e1 e3
        obtain ⟨X, hX⟩ : ∃ X, m[j]? = some X := ⟨_, List.getElem?_eq_getElem (by omega)⟩
        have r0 := vcell0 (hc j X hX)
        have r1 := vcell1 (hc j X hX)
        have r2 := vcell2 (hc j X hX)
        have HX := Lib.hid hX
        clear hc hG hX
        rcases eqW_cases Y X with ⟨g1, ge⟩ | ⟨g1, g2, ge⟩ | ⟨g1, g2, g3, ge⟩ | ⟨g1, ge⟩
        · skip
          have hne : B = false := by
            rw [← Bool.not_eq_true, hBB.out]
            intro e
            rw [e] at HY
            have := HY.out.symm.trans HX.out
            injection this with this
            exact absurd this (eqW_not.1 ge)
          subst hne
          have gn : ¬ (Y.k = X.k ∧ Y.n = X.n ∧ Y.s = X.s) := fun h => g1 h.1
          clear g1 ge
          clear HT
          have tt := neq_V gn
          clear gn
          go_wp2
          go_region
          go_wp2
          go_ret
          exact ⟨rfl, _, rfl⟩
        · skip
          have hne : B = false := by
            rw [← Bool.not_eq_true, hBB.out]
            intro e
            rw [e] at HY
            have := HY.out.symm.trans HX.out
            injection this with this
            exact absurd this (eqW_not.1 ge)
          subst hne
          have gn : ¬ (Y.k = X.k ∧ Y.n = X.n ∧ Y.s = X.s) := fun h => g2 h.2.1
          clear g1 g2 ge
          clear HT
          have tt := neq_V gn
          clear gn
          go_wp2
          go_region
          go_wp2
          go_ret
          exact ⟨rfl, _, rfl⟩
        · skip
          have hne : B = false := by
            rw [← Bool.not_eq_true, hBB.out]
            intro e
            rw [e] at HY
            have := HY.out.symm.trans HX.out
            injection this with this
            exact absurd this (eqW_not.1 ge)
          subst hne
          have gn : ¬ (Y.k = X.k ∧ Y.n = X.n ∧ Y.s = X.s) := fun h => g3 (by rw [h.2.2])
          clear g1 g2 g3 ge
          clear HT
          have tt := neq_V gn
          clear gn
          go_wp2
          go_region
          go_wp2
          go_ret
          exact ⟨rfl, _, rfl⟩
        · skip
          subst g1
          have p1 : (Y.k == Y.k) = true := by simp
          have p2 : (Y.n == Y.n) = true := by simp
          have p3 : (Y.s.toList == Y.s.toList) = true := by simp
          clear ge
          go_wp2
          go_region
          go_wp2
          go_roundw
          case rel => exact ⟨j + 1, _, by go_num, by omega, by rw [List.take_add_one, List.take_add_one, HT.out, HY.out, HX.out], rfl⟩
          case measure => simp [intOf]; omega
      · have hB1 : B = true := hBB.out.2 (by
          have h := HT.out
          rwa [List.take_of_length_le (by omega), List.take_of_length_le (by omega)] at h)
        subst hB1
        go_wp2
        go_ret
        exact ⟨rfl, kk, rfl⟩
  · have hne : ((l.length : Int) != (m.length : Int)) = true := by simp; omega
    have hB1 : B = false := by
      rw [← Bool.not_eq_true, hBB.out]
      intro e
      exact hlen (by rw [e])
    subst hB1
    go_enter Try.func13, Try.ntmps13
    go_wp2
    go_ret
    exact ⟨rfl, 0, rfl⟩

/-- What Great tells: more than many, or a bound on how many there are. -/
def GrtAns (l : List VV) (many : Int) (w : World) (e : Ending) (w' : World) : Prop := ∃ B : Bool, e = .returned (.bool B) ∧ (B = false → (l.length : Int) ≤ many) ∧ w' = w
set_option maxHeartbeats 400000 in
theorem great_cv (A : Option Addr) (d : Nat) (l : List VV) (many : Int) (w : World) (hG : GsV eV w 0 w.heap.size (.slice A l.length d) l) :
    Calls Try.prog 9 #[.slice A l.length d, .int .i64 many] w (GrtAns l many w) := by
  have HG := Lib.hid hG
  have hl1 := hG.len
  clear hG
  go_enter Try.func9, Try.ntmps9
  go_wp2_with fail
  go_loopw [5, 6] (fun s i wr => ∃ (j : Nat) (N : Int), s = .int .i64 N ∧ i = .int .i64 j ∧ j ≤ l.length ∧ wr = w) (fun _ i _ => l.length - (intOf i).toNat)
  case atStart => exact ⟨0, 0, rfl, rfl, Nat.zero_le _, by trivial⟩
  case round =>
    obtain ⟨j, N, rfl, rfl, hj, hw⟩ := hrel
    have hw := hw.symm
    subst hw
    by_cases hlt : j < l.length
    · skip
      have hG := HG.out
      obtain ⟨b, boff, bc', e, -, -, -, bw, hc⟩ := hG.form (fun e => by have h := congrArg List.length e; simp only [List.length_nil] at h; omega)
      injection e with e1 e2 e3
      clear e2
      subst e1 e3
      obtain ⟨Y, hY⟩ : ∃ Y, l[j]? = some Y := ⟨_, List.getElem?_eq_getElem (by omega)⟩
      have q0 := vcell0 (hc j Y hY)
      have q1 := vcell1 (hc j Y hY)
      have q2 := vcell2 (hc j Y hY)
      have HY := Lib.hid hY
      clear hc hG hY
      go_wp2
      go_roundw
      case rel => exact ⟨j + 1, _, by go_num, rfl, by omega, by trivial⟩
      case measure => simp [intOf]; omega
    · clear hj
      cases h1 : decide (many < (l.length : Int)) with
      | true =>
        go_wp2
        go_ret
        exact ⟨true, rfl, (fun h => by cases h), rfl⟩
      | false =>
        have h2 := Lib.hid (of_decide_eq_false h1)
        cases h3 : decide ((200000 : Int) < N) with
        | true =>
          go_wp2
          go_ret
          exact ⟨true, rfl, (fun h => by cases h), rfl⟩
        | false =>
          go_wp2
          go_ret
          exact ⟨false, rfl, (fun _ => by have := h2.out; omega), rfl⟩

/-- What a comparison says. -/
def soI (c cmp : Int) : Bool := if cmp = 1 then decide (c = 0) else if cmp = 2 then decide (c ≠ 0) else if cmp = 3 then decide (c < 0) else if cmp = 4 then decide (c ≤ 0) else if cmp = 5 then decide (c > 0) else decide (c ≥ 0)
end Go.Proofs.Ytjojhoaienjjeaa
