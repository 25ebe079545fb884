/- Words for memory, for elements of n cells (a struct of n plain fields): a slice that reads as a list; a slice of the call's own; append of a slice and of one element; an element stored. A file of lemmas. -/
import Derived.Test.YtigngijpbchlaaaGm
namespace Go.Proofs.Ytigngijpbchlaaa
open Go.RowKit
set_option linter.unusedVariables false

/-- A kind of elements of n cells: its type, the cells, the zero element, its bytes. -/
structure ElemV (α : Type) where
  E : TypeId
  n : Nat
  cs : α → List Value
  zero : α
  bytes : Nat
  len : ∀ x, (cs x).length = n
  pos : 0 < n
  one : ∀ x, ∀ u ∈ cs x, u.oneCell' = true
  small : bytes ≤ 1000
variable {α : Type} (k : ElemV α)
/-- An element as the model's value. -/
def ElemV.val (x : α) : Value := .agg (k.cs x).toArray
/-- The cells of a list. -/
def ElemV.row : List α → List Value
  | [] => []
  | x :: l => k.cs x ++ ElemV.row l
theorem rowv_len (l : List α) : (k.row l).length = l.length * k.n := by
  induction l with
  | nil => simp [ElemV.row]
  | cons x l ih => rw [ElemV.row, List.length_append, k.len, ih, List.length_cons, Nat.succ_mul, Nat.add_comm]
theorem rowv_app (l m : List α) : k.row (l ++ m) = k.row l ++ k.row m := by
  induction l with
  | nil => rfl
  | cons x l ih => rw [List.cons_append, ElemV.row, ElemV.row, ih, List.append_assoc]
theorem rowv_at (l : List α) (j : Nat) (x : α) (h : l[j]? = some x) (i : Nat) (hi : i < k.n) : (k.row l)[k.n * j + i]? = (k.cs x)[i]? := by
  induction l generalizing j with
  | nil => simp at h
  | cons y l ih =>
    cases j with
    | zero =>
      simp at h
      subst h
      rw [ElemV.row, Nat.mul_zero, Nat.zero_add, List.getElem?_append_left (by rw [k.len]; exact hi)]
    | succ j =>
      have e : k.n * (j + 1) + i = k.n * j + i + k.n := by rw [Nat.mul_succ]; omega
      rw [ElemV.row, e, List.getElem?_append_right (by rw [k.len]; omega), k.len, Nat.add_sub_cancel]
      exact ih j (by simpa using h)
theorem rowv_one (l : List α) : ∀ u ∈ k.row l, u.oneCell' = true := by
  induction l with
  | nil => intro u h; cases h
  | cons x l ih =>
    intro u h
    rw [ElemV.row, List.mem_append] at h
    rcases h with h | h
    · exact k.one x u h
    · exact ih u h

/-- The value is a slice that reads as l, in a block from lo on and below hi. -/
def GsV (w : World) (lo hi : Nat) (v : Value) (l : List α) : Prop :=
  ∃ A c, v = .slice A l.length c ∧ (A = none → c = 0) ∧ l.length ≤ c ∧ c ≤ maxLen ∧
    (l ≠ [] → ∃ b off, A = some ⟨b, off, none⟩ ∧ lo ≤ b ∧ b < hi ∧ ∀ j x, l[j]? = some x → ∀ i u, (k.cs x)[i]? = some u → w.cell? ⟨b, off + (k.n * j + i), none⟩ = some u)
/-- The value is a slice of the call's own, in a block from base on, with the elements l. -/
def GwV (w : World) (base : Nat) (v : Value) (l : List α) : Prop := w.ownsRow base k.E k.n v l.length (k.row l)

section
variable {k} {w w' : World} {lo hi lo' hi' g base : Nat} {v : Value} {l : List α}
theorem GsV.keep (h : GsV k w lo hi v l) (hk : ∀ p : Addr, lo ≤ p.block → p.block < hi → w'.cell? p = w.cell? p) : GsV k w' lo hi v l :=
  let ⟨A, c, e, h0, h1, h2, hb⟩ := h
  ⟨A, c, e, h0, h1, h2, fun hl => let ⟨b, off, e, h1, h2, hc⟩ := hb hl; ⟨b, off, e, h1, h2, fun j x hx i u hu => (hk _ h1 h2).trans (hc j x hx i u hu)⟩⟩
theorem GsV.more (h : GsV k w lo hi v l) (h1 : lo' ≤ lo) (h2 : hi ≤ hi') : GsV k w lo' hi' v l :=
  let ⟨A, c, e, g0, g1, g2, hb⟩ := h
  ⟨A, c, e, g0, g1, g2, fun hl => let ⟨b, off, e, x1, x2, hc⟩ := hb hl; ⟨b, off, e, by omega, by omega, hc⟩⟩
theorem GsV.below (h : GsV k w lo hi v l) (hb : Below hi w w') : GsV k w' lo hi v l := h.keep fun _ _ hp => hb.cell hp
theorem GsV.alloc (h : GsV k w lo hi v l) (hh : hi ≤ w.heap.size) (o : Obj) : GsV k (w.alloc o) lo hi v l := h.keep fun p _ hp => World.cell?_alloc_lt w o p (by omega)
theorem GsV.drewN (h : GsV k w lo hi v l) (n : Nat) : GsV k (w.drewN n) lo hi v l := h
theorem GsV.grown {row : Option Nat} (h : GsV k w lo hi v l) (hg : w.grownBy w' row) (hh : hi ≤ w.heap.size) (hr : ∀ k, row = some k → k < lo ∨ hi ≤ k) : GsV k w' lo hi v l :=
  h.keep fun p h1 h2 => hg.cell_far p (by omega) (fun e => by have := hr p.block e.symm; omega)
theorem GsV.step (h : GsV k w 0 w.heap.size v l) (b : Below w.heap.size w w') : GsV k w' 0 w'.heap.size v l := (h.below b).more (Nat.le_refl _) b.size
theorem GsV.nil_ (w : World) (lo hi : Nat) : GsV k w lo hi (.slice none 0 0) [] := ⟨none, 0, rfl, fun _ => rfl, Nat.le_refl _, Nat.zero_le _, fun h => absurd rfl h⟩
theorem GsV.len (h : GsV k w lo hi v l) : l.length ≤ 9223372036854775807 := by
  obtain ⟨_, _, _, _, h1, h2, _⟩ := h
  unfold maxLen at h2
  omega
/-- Its address is a cell's, where it is not empty. -/
theorem GsV.form (h : GsV k w lo hi v l) (hl : l ≠ []) : ∃ b off c, v = .slice (some ⟨b, off, none⟩) l.length c ∧ l.length ≤ c ∧ c ≤ maxLen ∧ lo ≤ b ∧ b < hi ∧ ∀ j x, l[j]? = some x → ∀ i u, (k.cs x)[i]? = some u → w.cell? ⟨b, off + (k.n * j + i), none⟩ = some u := by
  obtain ⟨A, c, rfl, h0, h1, h2, hb⟩ := h
  obtain ⟨b, off, rfl, x1, x2, hc⟩ := hb hl
  exact ⟨b, off, c, rfl, h1, h2, x1, x2, hc⟩
theorem addr_addv (b off j : Nat) : (⟨b, off, none⟩ : Addr).add j = ⟨b, off + j, none⟩ := by unfold Addr.add; split <;> simp_all

theorem GwV.sl (h : GwV k w base v l) : GsV k w base w.heap.size v l := by
  rcases h.2 with ⟨rfl, hn⟩ | ⟨g, cap, cur, rfl, hb, hg, hn, hm, hs, ht⟩
  · have : l = [] := List.eq_nil_of_length_eq_zero hn
    subst this
    exact GsV.nil_ _ _ _
  · refine ⟨some ⟨g, 0, none⟩, cap, rfl, fun e => (by cases e), hn, hm, fun _ => ⟨g, 0, rfl, hb, (Array.getElem?_eq_some_iff.1 hg).1, fun j x hx i u hu => ?_⟩⟩
    have hi : i < k.n := by
      have := (List.getElem?_eq_some_iff.1 hu).1
      rwa [k.len] at this
    have h1 := World.ownsRow.cells h (g := g) rfl (k.n * j + i) u (by rw [rowv_at k l j x hx i hi, hu])
    rw [addr_addv] at h1
    exact h1
theorem GwV.below (h : GwV k w base v l) {B : Nat} (hb : Below B w w') (hB : w.heap.size ≤ B) : GwV k w' base v l :=
  World.ownsRow.kept (row := none) h ⟨hb.os, hb.tape, hb.output, hb.size, fun k hk _ => hb.block k (by omega)⟩ (by cases hv : v.ownBlock <;> simp)
theorem GwV.kept {row : Option Nat} (h : GwV k w base v l) (hg : w.grownBy w' row) (hne : ∀ k, v.ownBlock = some k → row ≠ some k) : GwV k w' base v l := by
  refine World.ownsRow.kept h hg ?_
  cases hv : v.ownBlock with
  | none => exact .inl rfl
  | some k => exact .inr (fun e => hne k hv e.symm)
theorem GwV.alloc (h : GwV k w base v l) (o : Obj) : GwV k (w.alloc o) base v l := World.ownsRow.alloc h o
theorem GwV.drewN (h : GwV k w base v l) (n : Nat) : GwV k (w.drewN n) base v l := h
theorem GwV.lt (h : GwV k w base v l) : ∀ k, v.ownBlock = some k → base ≤ k ∧ k < w.heap.size := World.ownsRow.lt h
theorem GwV.more (h : GwV k w base v l) {base' : Nat} (hb : base' ≤ base) : GwV k w base' v l := by
  refine ⟨h.1, ?_⟩
  rcases h.2 with hn | ⟨g, cap, cur, hv, hg, r⟩
  · exact .inl hn
  · exact .inr ⟨g, cap, cur, hv, by omega, r⟩
theorem GwV.form (h : GwV k w base v l) (hl : l ≠ []) :
    ∃ b c, v = .slice (some ⟨b, 0, none⟩) l.length c ∧ l.length ≤ c ∧ c ≤ maxLen ∧ base ≤ b ∧ b < w.heap.size ∧ (∀ j x, l[j]? = some x → ∀ i u, (k.cs x)[i]? = some u → w.cell? ⟨b, k.n * j + i, none⟩ = some u) ∧ ∀ j, w.frozen? ⟨b, j, none⟩ = false := by
  rcases h.2 with ⟨rfl, hn⟩ | ⟨g, cap, cur, rfl, hb, hg, hn, hm, hs, ht⟩
  · exact absurd (List.eq_nil_of_length_eq_zero hn) hl
  · refine ⟨g, cap, rfl, hn, hm, hb, (Array.getElem?_eq_some_iff.1 hg).1, fun j x hx i u hu => ?_, fun j => World.ownsRow.frozenAt h j⟩
    have hi : i < k.n := by
      have := (List.getElem?_eq_some_iff.1 hu).1
      rwa [k.len] at this
    have h1 := World.ownsRow.cells h (g := g) rfl (k.n * j + i) u (by rw [rowv_at k l j x hx i hi, hu])
    rw [addr_addv, Nat.zero_add] at h1
    exact h1
theorem GwV.nil_ (w : World) (base : Nat) : GwV k w base (.slice none 0 0) [] := World.ownsRow_nil w base _ _
theorem GwV.empty_ (w : World) (base : Nat) (h : base ≤ w.heap.size) : GwV k (w.alloc (.cells #[] k.E)) base (.slice (some ⟨w.heap.size, 0, none⟩) 0 0) [] :=
  World.ownsRow_lit w #[] 0 h (Nat.zero_le _) (by simp)
theorem GwV.lit (w : World) (base : Nat) (h : base ≤ w.heap.size) (l : List α) (cs : Array Value) (n : Nat) (hcs : cs = (k.row l).toArray) (hn : l.length = n) (hs : n ≤ 1000) :
    GwV k (w.alloc (.cells cs k.E)) base (.slice (some ⟨w.heap.size, 0, none⟩) n n) l := by
  subst hcs hn
  have := World.ownsRow_lit (base := base) (size := k.n) (e := k.E) w (k.row l).toArray l.length h (by unfold maxLen; omega) (by simp [rowv_len])
  simpa [GwV] using this
end

/-- append onto a slice of the call's own, from whatever slice: the run. -/
theorem run_gappv {P : Program} (w : World) (t ty : TypeId) (base : Nat) (ht : P.underlying t = some (.slice k.E))
    (hinf : (P.info? k.E).map (fun i => (i.zero, i.size, i.bytes)) = some (some (k.val k.zero), k.n, k.bytes))
    (v : Value) (l : List α) (hown : GwV k w base v l) (lo hi : Nat) (u : Value) (m : List α) (hu : GsV k w lo hi u m) (hb : l.length + m.length ≤ 1000000000) (hbase : base ≤ w.heap.size) :
    ∃ v' w', (Builtin.append_ #[t, t] ty #[v, u]).run P w = .ok v' w' ∧ GwV k w' base v' (l ++ m) ∧ w.grownBy w' v.ownBlock ∧ (v'.ownBlock = v.ownBlock ∨ v'.ownBlock = some w.heap.size) := by
  obtain ⟨i, hi1, hz, hsz, hby⟩ := info_parts hinf
  obtain ⟨A, c, rfl, hc0, hlc, hcm, hbt⟩ := hu
  cases A with
  | none =>
    obtain rfl := hc0 rfl
    have hm : m = [] := List.eq_nil_of_length_eq_zero (by omega)
    subst hm
    exact ⟨v, w, run_append_owned_none (P := P) w base t ty k.E i k.n ht hi1 v _ _ hown, by simpa using hown, World.grownBy.refl w _, .inl rfl⟩
  | some ad =>
    have hs := k.small
    have hbb : (l.length + m.length) * k.bytes ≤ 1000000000 * 1000 := Nat.mul_le_mul hb hs
    obtain ⟨v', w', hrun, h2, h3, _, h5⟩ := run_append_own_at (P := P) w base t ty k.E i (k.val k.zero) k.n k.bytes ht hi1 hz hsz hby (by show (k.cs k.zero).toArray.size = k.n; rw [List.size_toArray, k.len]) k.pos v l.length (k.row l) hown ad m.length c (k.row m) (rowv_len k m)
      (fun j y hy => by
        have hj : j < m.length * k.n := by
          have := (List.getElem?_eq_some_iff.1 hy).1
          rwa [rowv_len] at this
        obtain ⟨b, off, e, _, _, hcell⟩ := hbt (by rintro rfl; simp at hj)
        injection e with e
        subst e
        rw [addr_addv]
        have hjm : j / k.n < m.length := Nat.div_lt_of_lt_mul (by rw [Nat.mul_comm]; exact hj)
        have hmod : j % k.n < k.n := Nat.mod_lt _ k.pos
        have e2 : k.n * (j / k.n) + j % k.n = j := Nat.div_add_mod j k.n
        have hy2 := hy
        rw [← e2, rowv_at k m _ _ (List.getElem?_eq_getElem hjm) _ hmod] at hy2
        have := hcell (j / k.n) _ (List.getElem?_eq_getElem hjm) (j % k.n) y hy2
        rwa [e2] at this)
      (rowv_one k m) (by unfold maxLen; omega) (by omega) hbase
    refine ⟨v', w', hrun, ?_, h3, h5⟩
    unfold GwV
    rw [rowv_app, List.length_append]
    exact h2
theorem wpList_gappv {P : Program} (w : World) {ops : Array Oper} {rest : List Oper} {o : Oper} {a : Act} {Q : Exit → Act → World → Prop} (hgd : o.guard = none) (s x : Operand) (t : TypeId)
    (ho : o.op = .call { callee := .builtin .append, args := #[s, x], argTypes := #[t, t] }) (base : Nat) (ht : P.underlying t = some (.slice k.E))
    (hinf : (P.info? k.E).map (fun i => (i.zero, i.size, i.bytes)) = some (some (k.val k.zero), k.n, k.bytes))
    (v : Value) (l : List α) (hs : a.eval s = v) (hown : GwV k w base v l)
    (lo hi : Nat) (u : Value) (m : List α) (hx : a.eval x = u) (hu : GsV k w lo hi u m)
    (hb : l.length + m.length ≤ 1000000000) (hbase : base ≤ w.heap.size)
    (h : ∀ v' w', GwV k w' base v' (l ++ m) → w.grownBy w' v.ownBlock → (v'.ownBlock = v.ownBlock ∨ v'.ownBlock = some w.heap.size) → wpList P ops Q rest (a.put o.dst v') w') :
    wpList P ops Q (o :: rest) a w := by
  obtain ⟨v', w', hrun, h2, h3, h5⟩ := run_gappv k (P := P) w t o.type base ht hinf v l hown lo hi u m hu hb hbase
  refine wpList_plain hgd fun K hK => ?_
  unfold Oper.wp execOp
  simp only [ho, resolve, invoke, builtin, Sem.run_bind, Sem.run_pure, Result.andThen_ok, List.map_toArray, List.map_cons, List.map_nil, hs, hx, hrun]
  exact hK _ _ (h v' w' h2 h3 h5)
/-- A slice over the block that has just been made for one element. -/
theorem GsV.one (w : World) (b : α) (cs : Array Value) (h : cs = (k.cs b).toArray) : GsV k (w.alloc (.cells cs k.E)) w.heap.size (w.heap.size + 1) (.slice (some ⟨w.heap.size, 0, none⟩) 1 1) [b] := by
  subst h
  refine ⟨some ⟨w.heap.size, 0, none⟩, 1, rfl, fun e => (by cases e), by simp, by unfold maxLen; omega, fun _ => ⟨w.heap.size, 0, rfl, Nat.le_refl _, by omega, fun j y hj i u hu => ?_⟩⟩
  match j, hj with
  | 0, hj =>
    simp at hj
    subst hj
    have hr : Row (w.alloc (.cells (k.cs b).toArray k.E)) w.heap.size k.E (k.cs b).toArray := Row.new w k.E _
    rw [Nat.mul_zero, Nat.zero_add, Nat.zero_add, hr.cell, List.getElem?_toArray, hu]
end Go.Proofs.Ytigngijpbchlaaa
