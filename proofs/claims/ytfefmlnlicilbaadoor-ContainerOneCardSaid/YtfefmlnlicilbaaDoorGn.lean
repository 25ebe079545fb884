/- Words for memory, for elements of two cells (a struct of two plain fields): a slice that reads as a list; a slice of the call's own; append of a slice and of one element; a field stored. A file of lemmas. -/
import Derived.Test.YtfefmlnlicilbaaDoorGm
namespace Go.Proofs.YtfefmlnlicilbaaDoor
open Go.RowKit
set_option linter.unusedVariables false

/-- A kind of elements of two cells: its type, the two cells, the zero element, its bytes. -/
structure Elem2 (α : Type) where
  E : TypeId
  fst : α → Value
  snd : α → Value
  zero : α
  bytes : Nat
  one1 : ∀ x, (fst x).oneCell' = true
  one2 : ∀ x, (snd x).oneCell' = true
  small : bytes ≤ 1000
variable {α : Type} (k : Elem2 α)
/-- An element as the model's value. -/
def Elem2.val (x : α) : Value := .agg #[k.fst x, k.snd x]
/-- The cells of a list. -/
def Elem2.row : List α → List Value
  | [] => []
  | x :: l => k.fst x :: k.snd x :: Elem2.row l
theorem row2_len (l : List α) : (k.row l).length = l.length * 2 := by
  induction l with
  | nil => rfl
  | cons x l ih => simp [Elem2.row, ih]; omega
theorem row2_app (l m : List α) : k.row (l ++ m) = k.row l ++ k.row m := by
  induction l with
  | nil => rfl
  | cons x l ih => simp [Elem2.row, ih]
theorem row2_fst (l : List α) (j : Nat) (x : α) (h : l[j]? = some x) : (k.row l)[2 * j]? = some (k.fst x) := by
  induction l generalizing j with
  | nil => simp at h
  | cons y l ih =>
    cases j with
    | zero => simp at h; subst h; rfl
    | succ j =>
      have e : 2 * (j + 1) = 2 * j + 1 + 1 := by omega
      rw [e]
      simpa [Elem2.row] using ih j (by simpa using h)
theorem row2_snd (l : List α) (j : Nat) (x : α) (h : l[j]? = some x) : (k.row l)[2 * j + 1]? = some (k.snd x) := by
  induction l generalizing j with
  | nil => simp at h
  | cons y l ih =>
    cases j with
    | zero => simp at h; subst h; rfl
    | succ j =>
      have e : 2 * (j + 1) + 1 = 2 * j + 1 + 1 + 1 := by omega
      rw [e]
      simpa [Elem2.row] using ih j (by simpa using h)
theorem row2_one (l : List α) : ∀ u ∈ k.row l, u.oneCell' = true := by
  induction l with
  | nil => intro u h; cases h
  | cons x l ih =>
    intro u h
    simp only [Elem2.row, List.mem_cons] at h
    rcases h with rfl | rfl | h
    · exact k.one1 x
    · exact k.one2 x
    · exact ih u h
theorem row2_set1 (l : List α) (j : Nat) (x y : α) (h : l[j]? = some x) (hy : k.snd y = k.snd x) : (k.row l).set (2 * j) (k.fst y) = k.row (l.set j y) := by
  induction l generalizing j with
  | nil => simp at h
  | cons z l ih =>
    cases j with
    | zero => simp at h; subst h; simp [Elem2.row, hy]
    | succ j =>
      have e : 2 * (j + 1) = 2 * j + 1 + 1 := by omega
      rw [e]
      simp only [Elem2.row, List.set_cons_succ]
      rw [ih j (by simpa using h)]
theorem row2_set2 (l : List α) (j : Nat) (x y : α) (h : l[j]? = some x) (hy : k.fst y = k.fst x) : (k.row l).set (2 * j + 1) (k.snd y) = k.row (l.set j y) := by
  induction l generalizing j with
  | nil => simp at h
  | cons z l ih =>
    cases j with
    | zero => simp at h; subst h; simp [Elem2.row, hy]
    | succ j =>
      have e : 2 * (j + 1) + 1 = 2 * j + 1 + 1 + 1 := by omega
      rw [e]
      simp only [Elem2.row, List.set_cons_succ]
      rw [ih j (by simpa using h)]

/-- The value is a slice that reads as l, in a block from lo on and below hi. -/
def Gs2 (w : World) (lo hi : Nat) (v : Value) (l : List α) : Prop :=
  ∃ A c, v = .slice A l.length c ∧ (A = none → c = 0) ∧ l.length ≤ c ∧ c ≤ maxLen ∧
    (l ≠ [] → ∃ b off, A = some ⟨b, off, none⟩ ∧ lo ≤ b ∧ b < hi ∧ ∀ j x, l[j]? = some x → w.cell? ⟨b, off + 2 * j, none⟩ = some (k.fst x) ∧ w.cell? ⟨b, off + 2 * j + 1, none⟩ = some (k.snd x))
/-- The value is a slice of the call's own, in a block from base on, with the elements l. -/
def Gw2 (w : World) (base : Nat) (v : Value) (l : List α) : Prop := w.ownsRow base k.E 2 v l.length (k.row l)

section
variable {k} {w w' : World} {lo hi lo' hi' g base : Nat} {v : Value} {l : List α}
theorem Gs2.keep (h : Gs2 k w lo hi v l) (hk : ∀ p : Addr, lo ≤ p.block → p.block < hi → w'.cell? p = w.cell? p) : Gs2 k w' lo hi v l :=
  let ⟨A, c, e, h0, h1, h2, hb⟩ := h
  ⟨A, c, e, h0, h1, h2, fun hl => let ⟨b, off, e, h1, h2, hc⟩ := hb hl; ⟨b, off, e, h1, h2, fun j x hx => ⟨(hk _ h1 h2).trans (hc j x hx).1, (hk _ h1 h2).trans (hc j x hx).2⟩⟩⟩
theorem Gs2.more (h : Gs2 k w lo hi v l) (h1 : lo' ≤ lo) (h2 : hi ≤ hi') : Gs2 k w lo' hi' v l :=
  let ⟨A, c, e, g0, g1, g2, hb⟩ := h
  ⟨A, c, e, g0, g1, g2, fun hl => let ⟨b, off, e, x1, x2, hc⟩ := hb hl; ⟨b, off, e, by omega, by omega, hc⟩⟩
theorem Gs2.below (h : Gs2 k w lo hi v l) (hb : Below hi w w') : Gs2 k w' lo hi v l := h.keep fun _ _ hp => hb.cell hp
theorem Gs2.alloc (h : Gs2 k w lo hi v l) (hh : hi ≤ w.heap.size) (o : Obj) : Gs2 k (w.alloc o) lo hi v l := h.keep fun p _ hp => World.cell?_alloc_lt w o p (by omega)
theorem Gs2.drewN (h : Gs2 k w lo hi v l) (n : Nat) : Gs2 k (w.drewN n) lo hi v l := h
theorem Gs2.grown {row : Option Nat} (h : Gs2 k w lo hi v l) (hg : w.grownBy w' row) (hh : hi ≤ w.heap.size) (hr : ∀ k, row = some k → k < lo ∨ hi ≤ k) : Gs2 k w' lo hi v l :=
  h.keep fun p h1 h2 => hg.cell_far p (by omega) (fun e => by have := hr p.block e.symm; omega)
theorem Gs2.step (h : Gs2 k w 0 w.heap.size v l) (b : Below w.heap.size w w') : Gs2 k w' 0 w'.heap.size v l := (h.below b).more (Nat.le_refl _) b.size
theorem Gs2.nil_ (w : World) (lo hi : Nat) : Gs2 k w lo hi (.slice none 0 0) [] := ⟨none, 0, rfl, fun _ => rfl, Nat.le_refl _, Nat.zero_le _, fun h => absurd rfl h⟩
theorem Gs2.len (h : Gs2 k w lo hi v l) : l.length ≤ 9223372036854775807 := by
  obtain ⟨_, _, _, _, h1, h2, _⟩ := h
  unfold maxLen at h2
  omega
/-- Its address is a cell's, where it is not empty. -/
theorem Gs2.form (h : Gs2 k w lo hi v l) (hl : l ≠ []) : ∃ b off c, v = .slice (some ⟨b, off, none⟩) l.length c ∧ l.length ≤ c ∧ c ≤ maxLen ∧ lo ≤ b ∧ b < hi ∧ ∀ j x, l[j]? = some x → w.cell? ⟨b, off + 2 * j, none⟩ = some (k.fst x) ∧ w.cell? ⟨b, off + 2 * j + 1, none⟩ = some (k.snd x) := by
  obtain ⟨A, c, rfl, h0, h1, h2, hb⟩ := h
  obtain ⟨b, off, rfl, x1, x2, hc⟩ := hb hl
  exact ⟨b, off, c, rfl, h1, h2, x1, x2, hc⟩
theorem addr_add (b off j : Nat) : (⟨b, off, none⟩ : Addr).add j = ⟨b, off + j, none⟩ := by unfold Addr.add; split <;> simp_all

theorem Gw2.sl (h : Gw2 k w base v l) : Gs2 k w base w.heap.size v l := by
  rcases h.2 with ⟨rfl, hn⟩ | ⟨g, cap, cur, rfl, hb, hg, hn, hm, hs, ht⟩
  · have : l = [] := List.eq_nil_of_length_eq_zero hn
    subst this
    exact Gs2.nil_ _ _ _
  · refine ⟨some ⟨g, 0, none⟩, cap, rfl, fun e => (by cases e), hn, hm, fun _ => ⟨g, 0, rfl, hb, (Array.getElem?_eq_some_iff.1 hg).1, fun j x hx => ?_⟩⟩
    have h1 := World.ownsRow.cells h (g := g) rfl (2 * j) _ (row2_fst k l j x hx)
    have h2 := World.ownsRow.cells h (g := g) rfl (2 * j + 1) _ (row2_snd k l j x hx)
    rw [addr_add] at h1 h2
    exact ⟨h1, h2⟩
theorem Gw2.below (h : Gw2 k w base v l) {B : Nat} (hb : Below B w w') (hB : w.heap.size ≤ B) : Gw2 k w' base v l :=
  World.ownsRow.kept (row := none) h ⟨hb.os, hb.tape, hb.output, hb.size, fun k hk _ => hb.block k (by omega)⟩ (by cases hv : v.ownBlock <;> simp)
theorem Gw2.kept {row : Option Nat} (h : Gw2 k w base v l) (hg : w.grownBy w' row) (hne : ∀ k, v.ownBlock = some k → row ≠ some k) : Gw2 k w' base v l := by
  refine World.ownsRow.kept h hg ?_
  cases hv : v.ownBlock with
  | none => exact .inl rfl
  | some k => exact .inr (fun e => hne k hv e.symm)
theorem Gw2.alloc (h : Gw2 k w base v l) (o : Obj) : Gw2 k (w.alloc o) base v l := World.ownsRow.alloc h o
theorem Gw2.drewN (h : Gw2 k w base v l) (n : Nat) : Gw2 k (w.drewN n) base v l := h
theorem Gw2.lt (h : Gw2 k w base v l) : ∀ k, v.ownBlock = some k → base ≤ k ∧ k < w.heap.size := World.ownsRow.lt h
theorem Gw2.more (h : Gw2 k w base v l) {base' : Nat} (hb : base' ≤ base) : Gw2 k w base' v l := by
  refine ⟨h.1, ?_⟩
  rcases h.2 with hn | ⟨g, cap, cur, hv, hg, r⟩
  · exact .inl hn
  · exact .inr ⟨g, cap, cur, hv, by omega, r⟩
theorem Gw2.form (h : Gw2 k w base v l) (hl : l ≠ []) :
    ∃ b c, v = .slice (some ⟨b, 0, none⟩) l.length c ∧ l.length ≤ c ∧ c ≤ maxLen ∧ base ≤ b ∧ b < w.heap.size ∧ (∀ j x, l[j]? = some x → w.cell? ⟨b, 2 * j, none⟩ = some (k.fst x) ∧ w.cell? ⟨b, 2 * j + 1, none⟩ = some (k.snd x)) ∧ ∀ j, w.frozen? ⟨b, j, none⟩ = false := by
  rcases h.2 with ⟨rfl, hn⟩ | ⟨g, cap, cur, rfl, hb, hg, hn, hm, hs, ht⟩
  · exact absurd (List.eq_nil_of_length_eq_zero hn) hl
  · refine ⟨g, cap, rfl, hn, hm, hb, (Array.getElem?_eq_some_iff.1 hg).1, fun j x hx => ?_, fun j => World.ownsRow.frozenAt h j⟩
    have h1 := World.ownsRow.cells h (g := g) rfl (2 * j) _ (row2_fst k l j x hx)
    have h2 := World.ownsRow.cells h (g := g) rfl (2 * j + 1) _ (row2_snd k l j x hx)
    rw [addr_add, Nat.zero_add] at h1 h2
    exact ⟨h1, h2⟩
theorem Gw2.nil_ (w : World) (base : Nat) : Gw2 k w base (.slice none 0 0) [] := World.ownsRow_nil w base _ _
theorem Gw2.empty_ (w : World) (base : Nat) (h : base ≤ w.heap.size) : Gw2 k (w.alloc (.cells #[] k.E)) base (.slice (some ⟨w.heap.size, 0, none⟩) 0 0) [] :=
  World.ownsRow_lit w #[] 0 h (Nat.zero_le _) rfl
theorem Gw2.lit (w : World) (base : Nat) (h : base ≤ w.heap.size) (l : List α) (cs : Array Value) (n : Nat) (hcs : cs = (k.row l).toArray) (hn : l.length = n) (hs : n ≤ 1000) :
    Gw2 k (w.alloc (.cells cs k.E)) base (.slice (some ⟨w.heap.size, 0, none⟩) n n) l := by
  subst hcs hn
  have := World.ownsRow_lit (base := base) (size := 2) (e := k.E) w (k.row l).toArray l.length h (by unfold maxLen; omega) (by simp [row2_len])
  simpa [Gw2] using this
theorem Gw2.stored1 {b c n : Nat} (h : Gw2 k w base (.slice (some ⟨b, 0, none⟩) n c) l) (j : Nat) (x y : α) (hx : l[j]? = some x) (hy : k.snd y = k.snd x) :
    Gw2 k (w.setCell ⟨b, 2 * j, none⟩ (k.fst y)) base (.slice (some ⟨b, 0, none⟩) n c) (l.set j y) := by
  have hn : n = l.length := by
    rcases h.2 with ⟨e, _⟩ | ⟨g, cap, cur, e, _⟩
    · cases e
    · injection e
  subst hn
  have h1 := (World.ownsRow.stored h (2 * j) (k.fst y)).1
  unfold Gw2
  rw [← row2_set1 k l j x y hx hy, List.length_set]
  exact h1
theorem Gw2.stored2 {b c n : Nat} (h : Gw2 k w base (.slice (some ⟨b, 0, none⟩) n c) l) (j : Nat) (x y : α) (hx : l[j]? = some x) (hy : k.fst y = k.fst x) :
    Gw2 k (w.setCell ⟨b, 2 * j + 1, none⟩ (k.snd y)) base (.slice (some ⟨b, 0, none⟩) n c) (l.set j y) := by
  have hn : n = l.length := by
    rcases h.2 with ⟨e, _⟩ | ⟨g, cap, cur, e, _⟩
    · cases e
    · injection e
  subst hn
  have h1 := (World.ownsRow.stored h (2 * j + 1) (k.snd y)).1
  unfold Gw2
  rw [← row2_set2 k l j x y hx hy, List.length_set]
  exact h1
end

/-- append onto a slice of the call's own, from whatever slice: the run. -/
theorem run_gapp2 {P : Program} (w : World) (t ty : TypeId) (base : Nat) (ht : P.underlying t = some (.slice k.E))
    (hinf : (P.info? k.E).map (fun i => (i.zero, i.size, i.bytes)) = some (some (k.val k.zero), 2, k.bytes))
    (v : Value) (l : List α) (hown : Gw2 k w base v l) (lo hi : Nat) (u : Value) (m : List α) (hu : Gs2 k w lo hi u m) (hb : l.length + m.length ≤ 1000000000) (hbase : base ≤ w.heap.size) :
    ∃ v' w', (Builtin.append_ #[t, t] ty #[v, u]).run P w = .ok v' w' ∧ Gw2 k w' base v' (l ++ m) ∧ w.grownBy w' v.ownBlock ∧ (v'.ownBlock = v.ownBlock ∨ v'.ownBlock = some w.heap.size) := by
  obtain ⟨i, hi1, hz, hsz, hby⟩ := info_parts hinf
  obtain ⟨A, c, rfl, hc0, hlc, hcm, hbt⟩ := hu
  cases A with
  | none =>
    obtain rfl := hc0 rfl
    have hm : m = [] := List.eq_nil_of_length_eq_zero (by omega)
    subst hm
    exact ⟨v, w, run_append_owned_none (P := P) w base t ty k.E i 2 ht hi1 v _ _ hown, by simpa using hown, World.grownBy.refl w _, .inl rfl⟩
  | some ad =>
    have hs := k.small
    have hbb : (l.length + m.length) * k.bytes ≤ 1000000000 * 1000 := Nat.mul_le_mul hb hs
    obtain ⟨v', w', hrun, h2, h3, _, h5⟩ := run_append_own_at (P := P) w base t ty k.E i (k.val k.zero) 2 k.bytes ht hi1 hz hsz hby (by rfl) (by decide) v l.length (k.row l) hown ad m.length c (k.row m) (row2_len k m)
      (fun j y hy => by
        have hj : j < m.length * 2 := by
          have := (List.getElem?_eq_some_iff.1 hy).1
          rwa [row2_len] at this
        obtain ⟨b, off, e, _, _, hcell⟩ := hbt (by rintro rfl; simp at hj)
        injection e with e
        subst e
        rw [addr_add]
        have hjm : j / 2 < m.length := by omega
        obtain ⟨c1, c2⟩ := hcell (j / 2) _ (List.getElem?_eq_getElem hjm)
        rcases Nat.mod_two_eq_zero_or_one j with h0 | h0
        · have e2 : j = 2 * (j / 2) := by omega
          rw [e2, row2_fst k m _ _ (List.getElem?_eq_getElem hjm)] at hy
          injection hy with hy
          rw [e2, ← hy]
          have e3 : 2 * (j / 2) / 2 = j / 2 := by omega
          simpa [e3] using c1
        · have e2 : j = 2 * (j / 2) + 1 := by omega
          rw [e2, row2_snd k m _ _ (List.getElem?_eq_getElem hjm)] at hy
          injection hy with hy
          rw [e2, ← hy]
          have e3 : (2 * (j / 2) + 1) / 2 = j / 2 := by omega
          simpa [e3, Nat.add_assoc] using c2)
      (row2_one k m) (by unfold maxLen; omega) (by omega) hbase
    refine ⟨v', w', hrun, ?_, h3, h5⟩
    unfold Gw2
    rw [row2_app, List.length_append]
    exact h2
theorem wpList_gapp2 {P : Program} (w : World) {ops : Array Oper} {rest : List Oper} {o : Oper} {a : Act} {Q : Exit → Act → World → Prop} (hgd : o.guard = none) (s x : Operand) (t : TypeId)
    (ho : o.op = .call { callee := .builtin .append, args := #[s, x], argTypes := #[t, t] }) (base : Nat) (ht : P.underlying t = some (.slice k.E))
    (hinf : (P.info? k.E).map (fun i => (i.zero, i.size, i.bytes)) = some (some (k.val k.zero), 2, k.bytes))
    (v : Value) (l : List α) (hs : a.eval s = v) (hown : Gw2 k w base v l)
    (lo hi : Nat) (u : Value) (m : List α) (hx : a.eval x = u) (hu : Gs2 k w lo hi u m)
    (hb : l.length + m.length ≤ 1000000000) (hbase : base ≤ w.heap.size)
    (h : ∀ v' w', Gw2 k w' base v' (l ++ m) → w.grownBy w' v.ownBlock → (v'.ownBlock = v.ownBlock ∨ v'.ownBlock = some w.heap.size) → wpList P ops Q rest (a.put o.dst v') w') :
    wpList P ops Q (o :: rest) a w := by
  obtain ⟨v', w', hrun, h2, h3, h5⟩ := run_gapp2 k (P := P) w t o.type base ht hinf v l hown lo hi u m hu hb hbase
  refine wpList_plain hgd fun K hK => ?_
  unfold Oper.wp execOp
  simp only [ho, resolve, invoke, builtin, Sem.run_bind, Sem.run_pure, Result.andThen_ok, List.map_toArray, List.map_cons, List.map_nil, hs, hx, hrun]
  exact hK _ _ (h v' w' h2 h3 h5)
/-- append of one element, which lies in the block that has just been made for it. -/
theorem wpList_gapp2_one {P : Program} (w : World) {ops : Array Oper} {rest : List Oper} {o : Oper} {a : Act} {Q : Exit → Act → World → Prop} (hgd : o.guard = none) (s x : Operand) (t : TypeId)
    (ho : o.op = .call { callee := .builtin .append, args := #[s, x], argTypes := #[t, t] }) (base : Nat) (ht : P.underlying t = some (.slice k.E))
    (hinf : (P.info? k.E).map (fun i => (i.zero, i.size, i.bytes)) = some (some (k.val k.zero), 2, k.bytes))
    (v : Value) (l : List α) (hs : a.eval s = v) (hown : Gw2 k w base v l)
    (X Y : Value) (b : α) (hX : X = k.fst b) (hY : Y = k.snd b) (hx : a.eval x = .slice (some ⟨w.heap.size, 0, none⟩) 1 1)
    (hb : l.length + 1 ≤ 1000000000) (hbase : base ≤ w.heap.size)
    (h : ∀ v' w', Gw2 k w' base v' (l ++ [b]) → w.grownBy w' v.ownBlock → (v'.ownBlock = v.ownBlock ∨ v'.ownBlock = some (w.heap.size + 1)) → wpList P ops Q rest (a.put o.dst v') w') :
    wpList P ops Q (o :: rest) a (w.alloc (.cells #[X, Y] k.E)) := by
  subst hX hY
  refine wpList_gapp2 k (w.alloc (.cells #[k.fst b, k.snd b] k.E)) hgd s x t ho base ht hinf v l hs (hown.alloc _) w.heap.size (w.heap.size + 1) _ [b] hx
    ⟨some ⟨w.heap.size, 0, none⟩, 1, rfl, fun e => (by cases e), by simp, by unfold maxLen; omega, fun _ => ⟨w.heap.size, 0, rfl, Nat.le_refl _, by omega, fun j y hj => ?_⟩⟩ (by simpa using hb) (by simp; omega) ?_
  · match j, hj with
    | 0, hj =>
      simp at hj
      subst hj
      constructor <;> simp
  · intro v' w' h1 h2 h3
    refine h v' w' h1 ⟨h2.os, h2.tape, h2.output, Nat.le_trans (by simp) h2.size, fun k hk hne => (h2.block k (by simp; omega) hne).trans (Below.heap_alloc w _ k hk)⟩ (by simpa using h3)
end Go.Proofs.YtfefmlnlicilbaaDoor
