/- Walks: between; the edges of two rows: edge, passIf, left, pass. -/
import Derived.Test.YtponcpneflhpfaaGreatDoorSa6
import Derived.Test.YtponcpneflhpfaaGreatDoorSa5
import Derived.Test.YtponcpneflhpfaaGreatDoorSa4
import Derived.BigQuiet
import Derived.BigRegion
import Derived.Deep.QuietTactic
import Derived.Deep.RegionWith
namespace Go.Proofs.YtponcpneflhpfaaGreatDoor
open Go.RowKit
set_option linter.unusedVariables false

/-- A kind of elements of two cells: its type, the two cells, the zero element, its bytes. -/
structure Elem2 (α : Type) where
  E : TypeId
  fst : α → Value
  snd : α → Value
  zero : α
  bytes : Nat
  one1 : ∀ x, (fst x).oneCell' = true
  one2 : ∀ x, (snd x).oneCell' = true
  small : bytes ≤ 1000
variable {α : Type} (k : Elem2 α)
/-- An element as the model's value. -/
def Elem2.val (x : α) : Value := .agg #[k.fst x, k.snd x]
/-- The cells of a list. -/
def Elem2.row : List α → List Value
  | [] => []
  | x :: l => k.fst x :: k.snd x :: Elem2.row l
theorem row2_len (l : List α) : (k.row l).length = l.length * 2 := by
  induction l with
  | nil => rfl
  | cons x l ih => simp [Elem2.row, ih]; omega
theorem row2_app (l m : List α) : k.row (l ++ m) = k.row l ++ k.row m := by
  induction l with
  | nil => rfl
  | cons x l ih => simp [Elem2.row, ih]
theorem row2_fst (l : List α) (j : Nat) (x : α) (h : l[j]? = some x) : (k.row l)[2 * j]? = some (k.fst x) := by
  induction l generalizing j with
  | nil => simp at h
  | cons y l ih =>
    cases j with
    | zero => simp at h; subst h; rfl
    | succ j =>
      have e : 2 * (j + 1) = 2 * j + 1 + 1 := by omega
      rw [e]
      simpa [Elem2.row] using ih j (by simpa using h)
theorem row2_snd (l : List α) (j : Nat) (x : α) (h : l[j]? = some x) : (k.row l)[2 * j + 1]? = some (k.snd x) := by
  induction l generalizing j with
  | nil => simp at h
  | cons y l ih =>
    cases j with
    | zero => simp at h; subst h; rfl
    | succ j =>
      have e : 2 * (j + 1) + 1 = 2 * j + 1 + 1 + 1 := by omega
      rw [e]
      simpa [Elem2.row] using ih j (by simpa using h)
theorem row2_one (l : List α) : ∀ u ∈ k.row l, u.oneCell' = true := by
  induction l with
  | nil => intro u h; cases h
  | cons x l ih =>
    intro u h
    simp only [Elem2.row, List.mem_cons] at h
    rcases h with rfl | rfl | h
    · exact k.one1 x
    · exact k.one2 x
    · exact ih u h
theorem row2_set2 (l : List α) (j : Nat) (x y : α) (h : l[j]? = some x) (hy : k.fst y = k.fst x) : (k.row l).set (2 * j + 1) (k.snd y) = k.row (l.set j y) := by
  induction l generalizing j with
  | nil => simp at h
  | cons z l ih =>
    cases j with
    | zero => simp at h; subst h; simp [Elem2.row, hy]
    | succ j =>
      have e : 2 * (j + 1) + 1 = 2 * j + 1 + 1 + 1 := by omega
      rw [e]
      simp only [Elem2.row, List.set_cons_succ]
      rw [ih j (by simpa using h)]

/-- The value is a slice that reads as l, in a block from lo on and below hi. -/
def Gs2 (w : World) (lo hi : Nat) (v : Value) (l : List α) : Prop :=
  ∃ A c, v = .slice A l.length c ∧ (A = none → c = 0) ∧ l.length ≤ c ∧ c ≤ maxLen ∧
    (l ≠ [] → ∃ b off, A = some ⟨b, off, none⟩ ∧ lo ≤ b ∧ b < hi ∧ ∀ j x, l[j]? = some x → w.cell? ⟨b, off + 2 * j, none⟩ = some (k.fst x) ∧ w.cell? ⟨b, off + 2 * j + 1, none⟩ = some (k.snd x))
/-- The value is a slice of the call's own, in a block from base on, with the elements l. -/
def Gw2 (w : World) (base : Nat) (v : Value) (l : List α) : Prop := w.ownsRow base k.E 2 v l.length (k.row l)

section
variable {k} {w w' : World} {lo hi lo' hi' g base : Nat} {v : Value} {l : List α}
theorem Gs2.keep (h : Gs2 k w lo hi v l) (hk : ∀ p : Addr, lo ≤ p.block → p.block < hi → w'.cell? p = w.cell? p) : Gs2 k w' lo hi v l :=
  let ⟨A, c, e, h0, h1, h2, hb⟩ := h
  ⟨A, c, e, h0, h1, h2, fun hl => let ⟨b, off, e, h1, h2, hc⟩ := hb hl; ⟨b, off, e, h1, h2, fun j x hx => ⟨(hk _ h1 h2).trans (hc j x hx).1, (hk _ h1 h2).trans (hc j x hx).2⟩⟩⟩
theorem Gs2.more (h : Gs2 k w lo hi v l) (h1 : lo' ≤ lo) (h2 : hi ≤ hi') : Gs2 k w lo' hi' v l :=
  let ⟨A, c, e, g0, g1, g2, hb⟩ := h
  ⟨A, c, e, g0, g1, g2, fun hl => let ⟨b, off, e, x1, x2, hc⟩ := hb hl; ⟨b, off, e, by omega, by omega, hc⟩⟩
theorem Gs2.below (h : Gs2 k w lo hi v l) (hb : Below hi w w') : Gs2 k w' lo hi v l := h.keep fun _ _ hp => hb.cell hp
theorem Gs2.alloc (h : Gs2 k w lo hi v l) (hh : hi ≤ w.heap.size) (o : Obj) : Gs2 k (w.alloc o) lo hi v l := h.keep fun p _ hp => World.cell?_alloc_lt w o p (by omega)
theorem Gs2.drewN (h : Gs2 k w lo hi v l) (n : Nat) : Gs2 k (w.drewN n) lo hi v l := h
theorem Gs2.grown {row : Option Nat} (h : Gs2 k w lo hi v l) (hg : w.grownBy w' row) (hh : hi ≤ w.heap.size) (hr : ∀ k, row = some k → k < lo ∨ hi ≤ k) : Gs2 k w' lo hi v l :=
  h.keep fun p h1 h2 => hg.cell_far p (by omega) (fun e => by have := hr p.block e.symm; omega)
theorem Gs2.step (h : Gs2 k w 0 w.heap.size v l) (b : Below w.heap.size w w') : Gs2 k w' 0 w'.heap.size v l := (h.below b).more (Nat.le_refl _) b.size
theorem Gs2.nil_ (w : World) (lo hi : Nat) : Gs2 k w lo hi (.slice none 0 0) [] := ⟨none, 0, rfl, fun _ => rfl, Nat.le_refl _, Nat.zero_le _, fun h => absurd rfl h⟩
theorem Gs2.len (h : Gs2 k w lo hi v l) : l.length ≤ 9223372036854775807 := by
  obtain ⟨_, _, _, _, h1, h2, _⟩ := h
  unfold maxLen at h2
  omega
/-- Its address is a cell's, where it is not empty. -/
theorem Gs2.form (h : Gs2 k w lo hi v l) (hl : l ≠ []) : ∃ b off c, v = .slice (some ⟨b, off, none⟩) l.length c ∧ l.length ≤ c ∧ c ≤ maxLen ∧ lo ≤ b ∧ b < hi ∧ ∀ j x, l[j]? = some x → w.cell? ⟨b, off + 2 * j, none⟩ = some (k.fst x) ∧ w.cell? ⟨b, off + 2 * j + 1, none⟩ = some (k.snd x) := by
  obtain ⟨A, c, rfl, h0, h1, h2, hb⟩ := h
  obtain ⟨b, off, rfl, x1, x2, hc⟩ := hb hl
  exact ⟨b, off, c, rfl, h1, h2, x1, x2, hc⟩
theorem addr_add (b off j : Nat) : (⟨b, off, none⟩ : Addr).add j = ⟨b, off + j, none⟩ := by unfold Addr.add; split <;> simp_all

theorem Gw2.sl (h : Gw2 k w base v l) : Gs2 k w base w.heap.size v l := by
  rcases h.2 with ⟨rfl, hn⟩ | ⟨g, cap, cur, rfl, hb, hg, hn, hm, hs, ht⟩
  · have : l = [] := List.eq_nil_of_length_eq_zero hn
    subst this
    exact Gs2.nil_ _ _ _
  · refine ⟨some ⟨g, 0, none⟩, cap, rfl, fun e => (by cases e), hn, hm, fun _ => ⟨g, 0, rfl, hb, (Array.getElem?_eq_some_iff.1 hg).1, fun j x hx => ?_⟩⟩
    have h1 := World.ownsRow.cells h (g := g) rfl (2 * j) _ (row2_fst k l j x hx)
    have h2 := World.ownsRow.cells h (g := g) rfl (2 * j + 1) _ (row2_snd k l j x hx)
    rw [addr_add] at h1 h2
    exact ⟨h1, h2⟩
theorem Gw2.below (h : Gw2 k w base v l) {B : Nat} (hb : Below B w w') (hB : w.heap.size ≤ B) : Gw2 k w' base v l :=
  World.ownsRow.kept (row := none) h ⟨hb.os, hb.tape, hb.output, hb.size, fun k hk _ => hb.block k (by omega)⟩ (by cases hv : v.ownBlock <;> simp)
theorem Gw2.kept {row : Option Nat} (h : Gw2 k w base v l) (hg : w.grownBy w' row) (hne : ∀ k, v.ownBlock = some k → row ≠ some k) : Gw2 k w' base v l := by
  refine World.ownsRow.kept h hg ?_
  cases hv : v.ownBlock with
  | none => exact .inl rfl
  | some k => exact .inr (fun e => hne k hv e.symm)
theorem Gw2.alloc (h : Gw2 k w base v l) (o : Obj) : Gw2 k (w.alloc o) base v l := World.ownsRow.alloc h o
theorem Gw2.drewN (h : Gw2 k w base v l) (n : Nat) : Gw2 k (w.drewN n) base v l := h
theorem Gw2.lt (h : Gw2 k w base v l) : ∀ k, v.ownBlock = some k → base ≤ k ∧ k < w.heap.size := World.ownsRow.lt h
theorem Gw2.more (h : Gw2 k w base v l) {base' : Nat} (hb : base' ≤ base) : Gw2 k w base' v l := by
  refine ⟨h.1, ?_⟩
  rcases h.2 with hn | ⟨g, cap, cur, hv, hg, r⟩
  · exact .inl hn
  · exact .inr ⟨g, cap, cur, hv, by omega, r⟩
theorem Gw2.form (h : Gw2 k w base v l) (hl : l ≠ []) :
    ∃ b c, v = .slice (some ⟨b, 0, none⟩) l.length c ∧ l.length ≤ c ∧ c ≤ maxLen ∧ base ≤ b ∧ b < w.heap.size ∧ (∀ j x, l[j]? = some x → w.cell? ⟨b, 2 * j, none⟩ = some (k.fst x) ∧ w.cell? ⟨b, 2 * j + 1, none⟩ = some (k.snd x)) ∧ ∀ j, w.frozen? ⟨b, j, none⟩ = false := by
  rcases h.2 with ⟨rfl, hn⟩ | ⟨g, cap, cur, rfl, hb, hg, hn, hm, hs, ht⟩
  · exact absurd (List.eq_nil_of_length_eq_zero hn) hl
  · refine ⟨g, cap, rfl, hn, hm, hb, (Array.getElem?_eq_some_iff.1 hg).1, fun j x hx => ?_, fun j => World.ownsRow.frozenAt h j⟩
    have h1 := World.ownsRow.cells h (g := g) rfl (2 * j) _ (row2_fst k l j x hx)
    have h2 := World.ownsRow.cells h (g := g) rfl (2 * j + 1) _ (row2_snd k l j x hx)
    rw [addr_add, Nat.zero_add] at h1 h2
    exact ⟨h1, h2⟩
theorem Gw2.nil_ (w : World) (base : Nat) : Gw2 k w base (.slice none 0 0) [] := World.ownsRow_nil w base _ _
theorem Gw2.empty_ (w : World) (base : Nat) (h : base ≤ w.heap.size) : Gw2 k (w.alloc (.cells #[] k.E)) base (.slice (some ⟨w.heap.size, 0, none⟩) 0 0) [] :=
  World.ownsRow_lit w #[] 0 h (Nat.zero_le _) rfl
theorem Gw2.lit (w : World) (base : Nat) (h : base ≤ w.heap.size) (l : List α) (cs : Array Value) (n : Nat) (hcs : cs = (k.row l).toArray) (hn : l.length = n) (hs : n ≤ 1000) :
    Gw2 k (w.alloc (.cells cs k.E)) base (.slice (some ⟨w.heap.size, 0, none⟩) n n) l := by
  subst hcs hn
  have := World.ownsRow_lit (base := base) (size := 2) (e := k.E) w (k.row l).toArray l.length h (by unfold maxLen; omega) (by simp [row2_len])
  simpa [Gw2] using this
theorem Gw2.stored2 {b c n : Nat} (h : Gw2 k w base (.slice (some ⟨b, 0, none⟩) n c) l) (j : Nat) (x y : α) (hx : l[j]? = some x) (hy : k.fst y = k.fst x) :
    Gw2 k (w.setCell ⟨b, 2 * j + 1, none⟩ (k.snd y)) base (.slice (some ⟨b, 0, none⟩) n c) (l.set j y) := by
  have hn : n = l.length := by
    rcases h.2 with ⟨e, _⟩ | ⟨g, cap, cur, e, _⟩
    · cases e
    · injection e
  subst hn
  have h1 := (World.ownsRow.stored h (2 * j + 1) (k.snd y)).1
  unfold Gw2
  rw [← row2_set2 k l j x y hx hy, List.length_set]
  exact h1
end

/-- append onto a slice of the call's own, from whatever slice: the run. -/
theorem run_gapp2 {P : Program} (w : World) (t ty : TypeId) (base : Nat) (ht : P.underlying t = some (.slice k.E))
    (hinf : (P.info? k.E).map (fun i => (i.zero, i.size, i.bytes)) = some (some (k.val k.zero), 2, k.bytes))
    (v : Value) (l : List α) (hown : Gw2 k w base v l) (lo hi : Nat) (u : Value) (m : List α) (hu : Gs2 k w lo hi u m) (hb : l.length + m.length ≤ 1000000000) (hbase : base ≤ w.heap.size) :
    ∃ v' w', (Builtin.append_ #[t, t] ty #[v, u]).run P w = .ok v' w' ∧ Gw2 k w' base v' (l ++ m) ∧ w.grownBy w' v.ownBlock ∧ (v'.ownBlock = v.ownBlock ∨ v'.ownBlock = some w.heap.size) := by
  obtain ⟨i, hi1, hz, hsz, hby⟩ := info_parts hinf
  obtain ⟨A, c, rfl, hc0, hlc, hcm, hbt⟩ := hu
  cases A with
  | none =>
    obtain rfl := hc0 rfl
    have hm : m = [] := List.eq_nil_of_length_eq_zero (by omega)
    subst hm
    exact ⟨v, w, run_append_owned_none (P := P) w base t ty k.E i 2 ht hi1 v _ _ hown, by simpa using hown, World.grownBy.refl w _, .inl rfl⟩
  | some ad =>
    have hs := k.small
    have hbb : (l.length + m.length) * k.bytes ≤ 1000000000 * 1000 := Nat.mul_le_mul hb hs
    obtain ⟨v', w', hrun, h2, h3, _, h5⟩ := run_append_own_at (P := P) w base t ty k.E i (k.val k.zero) 2 k.bytes ht hi1 hz hsz hby (by rfl) (by decide) v l.length (k.row l) hown ad m.length c (k.row m) (row2_len k m)
      (fun j y hy => by
        have hj : j < m.length * 2 := by
          have := (List.getElem?_eq_some_iff.1 hy).1
          rwa [row2_len] at this
        obtain ⟨b, off, e, _, _, hcell⟩ := hbt (by rintro rfl; simp at hj)
        injection e with e
        subst e
        rw [addr_add]
        have hjm : j / 2 < m.length := by omega
        obtain ⟨c1, c2⟩ := hcell (j / 2) _ (List.getElem?_eq_getElem hjm)
        rcases Nat.mod_two_eq_zero_or_one j with h0 | h0
        · have e2 : j = 2 * (j / 2) := by omega
          rw [e2, row2_fst k m _ _ (List.getElem?_eq_getElem hjm)] at hy
          injection hy with hy
          rw [e2, ← hy]
          have e3 : 2 * (j / 2) / 2 = j / 2 := by omega
          simpa [e3] using c1
        · have e2 : j = 2 * (j / 2) + 1 := by omega
          rw [e2, row2_snd k m _ _ (List.getElem?_eq_getElem hjm)] at hy
          injection hy with hy
          rw [e2, ← hy]
          have e3 : (2 * (j / 2) + 1) / 2 = j / 2 := by omega
          simpa [e3, Nat.add_assoc] using c2)
      (row2_one k m) (by unfold maxLen; omega) (by omega) hbase
    refine ⟨v', w', hrun, ?_, h3, h5⟩
    unfold Gw2
    rw [row2_app, List.length_append]
    exact h2
theorem wpList_gapp2 {P : Program} (w : World) {ops : Array Oper} {rest : List Oper} {o : Oper} {a : Act} {Q : Exit → Act → World → Prop} (hgd : o.guard = none) (s x : Operand) (t : TypeId)
    (ho : o.op = .call { callee := .builtin .append, args := #[s, x], argTypes := #[t, t] }) (base : Nat) (ht : P.underlying t = some (.slice k.E))
    (hinf : (P.info? k.E).map (fun i => (i.zero, i.size, i.bytes)) = some (some (k.val k.zero), 2, k.bytes))
    (v : Value) (l : List α) (hs : a.eval s = v) (hown : Gw2 k w base v l)
    (lo hi : Nat) (u : Value) (m : List α) (hx : a.eval x = u) (hu : Gs2 k w lo hi u m)
    (hb : l.length + m.length ≤ 1000000000) (hbase : base ≤ w.heap.size)
    (h : ∀ v' w', Gw2 k w' base v' (l ++ m) → w.grownBy w' v.ownBlock → (v'.ownBlock = v.ownBlock ∨ v'.ownBlock = some w.heap.size) → wpList P ops Q rest (a.put o.dst v') w') :
    wpList P ops Q (o :: rest) a w := by
  obtain ⟨v', w', hrun, h2, h3, h5⟩ := run_gapp2 k (P := P) w t o.type base ht hinf v l hown lo hi u m hu hb hbase
  refine wpList_plain hgd fun K hK => ?_
  unfold Oper.wp execOp
  simp only [ho, resolve, invoke, builtin, Sem.run_bind, Sem.run_pure, Result.andThen_ok, List.map_toArray, List.map_cons, List.map_nil, hs, hx, hrun]
  exact hK _ _ (h v' w' h2 h3 h5)
/-- append of one element, which lies in the block that has just been made for it. -/
theorem wpList_gapp2_one {P : Program} (w : World) {ops : Array Oper} {rest : List Oper} {o : Oper} {a : Act} {Q : Exit → Act → World → Prop} (hgd : o.guard = none) (s x : Operand) (t : TypeId)
    (ho : o.op = .call { callee := .builtin .append, args := #[s, x], argTypes := #[t, t] }) (base : Nat) (ht : P.underlying t = some (.slice k.E))
    (hinf : (P.info? k.E).map (fun i => (i.zero, i.size, i.bytes)) = some (some (k.val k.zero), 2, k.bytes))
    (v : Value) (l : List α) (hs : a.eval s = v) (hown : Gw2 k w base v l)
    (X Y : Value) (b : α) (hX : X = k.fst b) (hY : Y = k.snd b) (hx : a.eval x = .slice (some ⟨w.heap.size, 0, none⟩) 1 1)
    (hb : l.length + 1 ≤ 1000000000) (hbase : base ≤ w.heap.size)
    (h : ∀ v' w', Gw2 k w' base v' (l ++ [b]) → w.grownBy w' v.ownBlock → (v'.ownBlock = v.ownBlock ∨ v'.ownBlock = some (w.heap.size + 1)) → wpList P ops Q rest (a.put o.dst v') w') :
    wpList P ops Q (o :: rest) a (w.alloc (.cells #[X, Y] k.E)) := by
  subst hX hY
  refine wpList_gapp2 k (w.alloc (.cells #[k.fst b, k.snd b] k.E)) hgd s x t ho base ht hinf v l hs (hown.alloc _) w.heap.size (w.heap.size + 1) _ [b] hx
    ⟨some ⟨w.heap.size, 0, none⟩, 1, rfl, fun e => (by cases e), by simp, by unfold maxLen; omega, fun _ => ⟨w.heap.size, 0, rfl, Nat.le_refl _, by omega, fun j y hj => ?_⟩⟩ (by simpa using hb) (by simp; omega) ?_
  · match j, hj with
    | 0, hj =>
      simp at hj
      subst hj
      constructor <;> simp
  · intro v' w' h1 h2 h3
    refine h v' w' h1 ⟨h2.os, h2.tape, h2.output, Nat.le_trans (by simp) h2.size, fun k hk hne => (h2.block k (by simp; omega) hne).trans (Below.heap_alloc w _ k hk)⟩ (by simpa using h3)
end Go.Proofs.YtponcpneflhpfaaGreatDoor
namespace Go.Proofs.YtponcpneflhpfaaGreatDoor
set_option linter.unusedVariables false
/-- The place of the next edge. -/
def edg : List Rn → Bool → Int
  | [], _ => 9223372036854775807
  | r :: _, true => (r.1.toNat : Int) + ((r.2.toNat : Int) + 1)
  | r :: _, false => (r.1.toNat : Int)
/-- The edge passed, where it is at that place. -/
def psf (s : List Rn × Bool) (at_ : Int) : List Rn × Bool :=
  if edg s.1 s.2 = at_ then (if s.2 = true then s.1.tail else s.1, !s.2) else s
/-- The runs of the numbers from lo on, below hi. -/
def btw (lo hi : Int) : List Rn := if hi ≤ lo then [] else [(UInt16.ofNat lo.toNat, UInt16.ofNat (hi - lo - 1).toNat)]
/-- The next place where there are edges. -/
def nxt (a b : List Rn × Bool) : Int := min (edg a.1 a.2) (edg b.1 b.2)
/-- How many edges are ahead. -/
def ahd (s : List Rn × Bool) : Nat := 2 * s.1.length - s.2.toNat
/-- The runs of what is taken, from the edges ahead; the open one's beginning, if one is open. -/
def pr (t : Bool → Bool → Bool) : Nat → Option Int → List Rn × Bool → List Rn × Bool → List Rn
  | 0, _, _, _ => []
  | f + 1, o, a, b =>
    if a.1 = [] ∧ b.1 = [] then [] else
      match o with
      | none => if t (psf a (nxt a b)).2 (psf b (nxt a b)).2 = true then pr t f (some (nxt a b)) (psf a (nxt a b)) (psf b (nxt a b)) else pr t f none (psf a (nxt a b)) (psf b (nxt a b))
      | some lo => if t (psf a (nxt a b)).2 (psf b (nxt a b)).2 = true then pr t f (some lo) (psf a (nxt a b)) (psf b (nxt a b)) else btw lo (nxt a b) ++ pr t f none (psf a (nxt a b)) (psf b (nxt a b))
theorem edg_nil (b : Bool) : edg [] b = 9223372036854775807 := by cases b <;> rfl
theorem pr_nil (t : Bool → Bool → Bool) (f : Nat) (o : Option Int) {a b : List Rn × Bool} (h : a.1 = [] ∧ b.1 = []) : pr t f o a b = [] := by
  cases f with
  | zero => rfl
  | succ f => rw [pr.eq_def]; simp only [if_pos h]
theorem pr_none (t : Bool → Bool → Bool) (f : Nat) {a b : List Rn × Bool} (h : ¬ (a.1 = [] ∧ b.1 = [])) :
    pr t (f + 1) none a b = if t (psf a (nxt a b)).2 (psf b (nxt a b)).2 = true then pr t f (some (nxt a b)) (psf a (nxt a b)) (psf b (nxt a b)) else pr t f none (psf a (nxt a b)) (psf b (nxt a b)) := by
  rw [pr.eq_def]; simp only [if_neg h]
theorem pr_some (t : Bool → Bool → Bool) (f : Nat) (lo : Int) {a b : List Rn × Bool} (h : ¬ (a.1 = [] ∧ b.1 = [])) :
    pr t (f + 1) (some lo) a b = if t (psf a (nxt a b)).2 (psf b (nxt a b)).2 = true then pr t f (some lo) (psf a (nxt a b)) (psf b (nxt a b)) else btw lo (nxt a b) ++ pr t f none (psf a (nxt a b)) (psf b (nxt a b)) := by
  rw [pr.eq_def]; simp only [if_neg h]
theorem edg_lt {l : List Rn} (h : l ≠ []) (b : Bool) : 0 ≤ edg l b ∧ edg l b ≤ 131071 := by
  cases l with
  | nil => exact absurd rfl h
  | cons r l =>
    have h1 := r.1.toNat_lt
    have h2 := r.2.toNat_lt
    cases b <;> simp only [edg] <;> omega
theorem nxt_lt {a b : List Rn × Bool} (h : ¬ (a.1 = [] ∧ b.1 = [])) : 0 ≤ nxt a b ∧ nxt a b ≤ 131071 := by
  unfold nxt
  by_cases ha : a.1 = []
  · have hb : b.1 ≠ [] := fun e => h ⟨ha, e⟩
    have := edg_lt hb b.2
    rw [ha, edg_nil]
    omega
  · have := edg_lt ha a.2
    by_cases hb : b.1 = []
    · rw [hb, edg_nil]
      omega
    · have := edg_lt hb b.2
      omega
/-- Where a run has begun, there is one. -/
def sok (s : List Rn × Bool) : Prop := s.2 = true → s.1 ≠ []
theorem sok_psf {s : List Rn × Bool} (h : sok s) {at_ : Int} (ha : at_ ≤ 131071) : sok (psf s at_) := by
  obtain ⟨l, b⟩ := s
  unfold psf
  split
  · rename_i he
    cases l with
    | nil => simp only [edg] at he; omega
    | cons r l => cases b <;> simp [sok]
  · exact h
theorem ahd_psf_le {s : List Rn × Bool} (h : sok s) (at_ : Int) : ahd (psf s at_) ≤ ahd s := by
  obtain ⟨l, b⟩ := s
  unfold psf
  split
  · cases l with
    | nil => cases b with
      | true => exact absurd rfl (h rfl)
      | false => simp [ahd]
    | cons r l => cases b <;> simp [ahd] <;> omega
  · exact Nat.le_refl _
theorem ahd_psf_lt {s : List Rn × Bool} (h : sok s) {at_ : Int} (ha : at_ ≤ 131071) (he : edg s.1 s.2 = at_) : ahd (psf s at_) < ahd s := by
  obtain ⟨l, b⟩ := s
  unfold psf
  rw [if_pos he]
  cases l with
  | nil => simp only [edg] at he; omega
  | cons r l => cases b <;> simp [ahd] <;> omega
/-- Each pass goes on. -/
theorem ahd_nxt {a b : List Rn × Bool} (ha : sok a) (hb : sok b) (h : ¬ (a.1 = [] ∧ b.1 = [])) : ahd (psf a (nxt a b)) + ahd (psf b (nxt a b)) < ahd a + ahd b := by
  have hl := (nxt_lt h).2
  have h1 := ahd_psf_le ha (nxt a b)
  have h2 := ahd_psf_le hb (nxt a b)
  have : edg a.1 a.2 = nxt a b ∨ edg b.1 b.2 = nxt a b := by unfold nxt; omega
  rcases this with e | e
  · have := ahd_psf_lt ha hl e; omega
  · have := ahd_psf_lt hb hl e; omega
theorem btw_len (lo hi : Int) : (btw lo hi).length ≤ 1 := by unfold btw; split <;> simp
/-- All edges ahead lie at p or above, as right runs' do. -/
def good (p : Nat) : List Rn × Bool → Prop
  | (l, false) => mayr p l = true
  | (r :: l, true) => p ≤ lst r + 1 ∧ lst r ≤ 65535 ∧ mayr (lst r + 2) l = true
  | ([], true) => False
/-- The marks ahead. -/
def vs : List Rn × Bool → Nat → Bool
  | (l, false), x => mr l x
  | (r :: l, true), x => decide (x ≤ lst r) || mr l x
  | ([], true), _ => false
theorem good_edg {p : Nat} {s : List Rn × Bool} (h : good p s) : (p : Int) ≤ edg s.1 s.2 ∨ s.1 = [] := by
  obtain ⟨l, b⟩ := s
  cases l with
  | nil => exact .inr rfl
  | cons r l =>
    left
    cases b with
    | false =>
      have := (mayr_cons.1 h).1
      simp only [edg]
      omega
    | true =>
      have := h.1
      unfold lst at this
      simp only [edg]
      omega
theorem good_psf {p : Nat} {s : List Rn × Bool} (h : good p s) {q : Nat} (hp : p ≤ q) (hq : (q : Int) ≤ edg s.1 s.2) (hl : (q : Int) ≤ 131071) : good (q + 1) (psf s (q : Int)) := by
  obtain ⟨l, b⟩ := s
  unfold psf
  cases l with
  | nil =>
    rw [if_neg (by simp only [edg]; omega)]
    cases b with
    | false => exact rfl
    | true => exact h
  | cons r l =>
    have hf := fst_le r
    cases b with
    | false =>
      obtain ⟨h1, h2, h3⟩ := mayr_cons.1 h
      simp only [edg] at hq ⊢
      split
      · rename_i he
        simp only [Bool.false_eq_true, if_false, Bool.not_false, good]
        exact ⟨by omega, h2, h3⟩
      · exact mayr_cons.2 ⟨by omega, h2, h3⟩
    | true =>
      obtain ⟨h1, h2, h3⟩ := h
      simp only [edg] at hq ⊢
      split
      · rename_i he
        simp only [if_true, Bool.not_true, good, List.tail_cons]
        unfold lst at h3
        have e : q + 1 = r.1.toNat + r.2.toNat + 2 := by omega
        rw [e]
        exact h3
      · refine ⟨?_, h2, h3⟩
        unfold lst
        omega
theorem vs_psf {s : List Rn × Bool} {q x : Nat} (hl : (q : Int) ≤ 131071) (hx : q ≤ x) : vs (psf s (q : Int)) x = vs s x := by
  obtain ⟨l, b⟩ := s
  unfold psf
  split
  · rename_i he
    cases l with
    | nil => simp only [edg] at he; omega
    | cons r l =>
      have hf := fst_le r
      cases b with
      | false =>
        simp only [edg] at he
        simp only [Bool.false_eq_true, if_false, Bool.not_false, vs]
        rw [mr_cons]
        unfold inr
        rw [decide_eq_true (by omega : r.1.toNat ≤ x), Bool.true_and]
      | true =>
        simp only [edg] at he
        simp only [if_true, Bool.not_true, vs, List.tail_cons]
        rw [decide_eq_false (by unfold lst; omega), Bool.false_or]
  · rfl
/-- Up to the next edge nothing turns. -/
theorem vs_ahead {p : Nat} {s : List Rn × Bool} (h : good p s) {x : Nat} (hx : (x : Int) < edg s.1 s.2) : vs s x = s.2 := by
  obtain ⟨l, b⟩ := s
  cases b with
  | false =>
    simp only [vs]
    rw [Bool.eq_false_iff]
    intro hm
    cases l with
    | nil => cases hm
    | cons r l =>
      have hm2 : mayr r.1.toNat (r :: l) = true := by
        obtain ⟨h1, h2, h3⟩ := mayr_cons.1 h
        exact mayr_cons.2 ⟨Nat.le_refl _, h2, h3⟩
      have := (mr_ge hm2 hm).1
      simp only [edg] at hx
      omega
  | true =>
    cases l with
    | nil => exact h.elim
    | cons r l =>
      simp only [edg] at hx
      simp only [vs]
      rw [decide_eq_true (by unfold lst; omega), Bool.true_or]
theorem vs_nil {p : Nat} {s : List Rn × Bool} (h : good p s) (hs : s.1 = []) : s.2 = false ∧ ∀ x, vs s x = false := by
  obtain ⟨l, b⟩ := s
  simp only at hs
  subst hs
  cases b with
  | false => exact ⟨rfl, fun x => rfl⟩
  | true => exact h.elim
theorem edg_le {p : Nat} {s : List Rn × Bool} (h : good p s) (hs : s.1 ≠ []) : edg s.1 s.2 ≤ 65536 := by
  obtain ⟨l, b⟩ := s
  cases l with
  | nil => exact absurd rfl hs
  | cons r l =>
    have hf := fst_le r
    cases b with
    | false =>
      have := (mayr_cons.1 h).2.1
      simp only [edg]
      omega
    | true =>
      have := h.2.1
      unfold lst at this
      simp only [edg]
      omega
theorem btw_right {lo hi : Nat} (h : lo < hi) (hh : hi ≤ 65536) : ∃ r, btw (lo : Int) (hi : Int) = [r] ∧ r.1.toNat = lo ∧ lst r + 1 = hi := by
  refine ⟨_, by unfold btw; rw [if_neg (by omega)], ?_, ?_⟩
  · simp only [Int.toNat_natCast]; exact u16_of lo (by omega)
  · unfold lst
    have e : ((hi : Int) - lo - 1).toNat = hi - lo - 1 := by omega
    simp only [Int.toNat_natCast]
    rw [e, u16_of lo (by omega), u16_of _ (by omega)]
    omega
theorem pr_right (t : Bool → Bool → Bool) (t0 : t false false = false) (f : Nat) : ∀ (p : Nat) (o : Option Nat) (a b : List Rn × Bool), good p a → good p b → ahd a + ahd b ≤ f →
    (o = none → t a.2 b.2 = false → mayr p (pr t f (o.map Int.ofNat) a b) = true ∧ ∀ x, p ≤ x + 1 → mr (pr t f (o.map Int.ofNat) a b) x = t (vs a x) (vs b x)) ∧
    (∀ lo, o = some lo → t a.2 b.2 = true → lo < p → mayr lo (pr t f (o.map Int.ofNat) a b) = true ∧ ∀ x, lo ≤ x → mr (pr t f (o.map Int.ofNat) a b) x = (decide (x < p) || t (vs a x) (vs b x))) := by
  induction f with
  | zero =>
    intro p o a b ha hb hf
    have na : a.1 = [] := by
      obtain ⟨l, c⟩ := a
      cases l with
      | nil => rfl
      | cons r l => cases c <;> simp [ahd] at hf <;> omega
    have nb : b.1 = [] := by
      obtain ⟨l, c⟩ := b
      cases l with
      | nil => rfl
      | cons r l => cases c <;> simp [ahd] at hf <;> omega
    obtain ⟨a1, a2⟩ := vs_nil ha na
    obtain ⟨b1, b2⟩ := vs_nil hb nb
    refine ⟨fun _ _ => ⟨rfl, fun x _ => by rw [a2, b2, t0]; rfl⟩, fun lo _ h => ?_⟩
    rw [a1, b1, t0] at h
    cases h
  | succ f ih =>
    intro p o a b ha hb hf
    by_cases hn : a.1 = [] ∧ b.1 = []
    · obtain ⟨a1, a2⟩ := vs_nil ha hn.1
      obtain ⟨b1, b2⟩ := vs_nil hb hn.2
      refine ⟨fun _ _ => ?_, fun lo _ h => ?_⟩
      · have e : pr t (f + 1) (o.map Int.ofNat) a b = [] := pr_nil t _ _ hn
        rw [e]
        exact ⟨rfl, fun x _ => by rw [a2, b2, t0]; rfl⟩
      · rw [a1, b1, t0] at h
        cases h
    · have hl := nxt_lt hn
      obtain ⟨q, hq⟩ : ∃ q : Nat, nxt a b = (q : Int) := ⟨(nxt a b).toNat, by omega⟩
      have ka : sok a := by
        obtain ⟨l, c⟩ := a
        cases l with
        | nil => cases c with
          | false => intro h; cases h
          | true => exact ha.elim
        | cons r l => intro _; simp
      have kb : sok b := by
        obtain ⟨l, c⟩ := b
        cases l with
        | nil => cases c with
          | false => intro h; cases h
          | true => exact hb.elim
        | cons r l => intro _; simp
      have hm := ahd_nxt ka kb hn
      have qa : (q : Int) ≤ edg a.1 a.2 := by rw [← hq]; exact Int.min_le_left _ _
      have qb : (q : Int) ≤ edg b.1 b.2 := by rw [← hq]; exact Int.min_le_right _ _
      have hpq : p ≤ q := by
        have e1 := good_edg ha
        have e2 := good_edg hb
        have e3 : nxt a b = edg a.1 a.2 ∨ nxt a b = edg b.1 b.2 := by unfold nxt; omega
        rcases e1 with e1 | e1
        · rcases e2 with e2 | e2
          · omega
          · have : edg b.1 b.2 = 9223372036854775807 := by rw [e2]; rfl
            omega
        · rcases e2 with e2 | e2
          · have : edg a.1 a.2 = 9223372036854775807 := by rw [e1]; rfl
            omega
          · exact absurd ⟨e1, e2⟩ hn
      have q6 : q ≤ 65536 := by
        by_cases na : a.1 = []
        · have := edg_le hb (fun e => hn ⟨na, e⟩)
          omega
        · have := edg_le ha na
          omega
      rw [hq] at hm hl
      have ga := good_psf ha hpq qa hl.2
      have gb := good_psf hb hpq qb hl.2
      have vt : ∀ x, q ≤ x → t (vs (psf a (q : Int)) x) (vs (psf b (q : Int)) x) = t (vs a x) (vs b x) := fun x hx => by rw [vs_psf hl.2 hx, vs_psf hl.2 hx]
      have va : ∀ x, x < q → t (vs a x) (vs b x) = t a.2 b.2 := fun x hx => by rw [vs_ahead ha (by omega), vs_ahead hb (by omega)]
      refine ⟨fun ho h0 => ?_, fun lo ho h1 hlo => ?_⟩
      · subst ho
        have e : pr t (f + 1) (Option.map Int.ofNat none) a b = if t (psf a (q : Int)).2 (psf b (q : Int)).2 = true then pr t f (some (q : Int)) (psf a (q : Int)) (psf b (q : Int)) else pr t f none (psf a (q : Int)) (psf b (q : Int)) := by
          rw [Option.map_none, pr_none t f hn, hq]
        rw [e]
        cases ht : t (psf a (q : Int)).2 (psf b (q : Int)).2 with
        | true =>
          rw [if_pos rfl]
          obtain ⟨i1, i2⟩ := (ih (q + 1) (some q) _ _ ga gb (by omega)).2 q rfl ht (by omega)
          simp only [Option.map_some, Int.ofNat_eq_natCast] at i1 i2
          refine ⟨mayr_mono hpq i1, fun x hx => ?_⟩
          rcases Nat.lt_or_ge x q with hxq | hxq
          · rw [va x hxq, h0, Bool.eq_false_iff]
            intro hm
            have := (mr_ge i1 hm).1
            omega
          · rw [i2 x hxq, vt x hxq]
            rcases Nat.lt_or_ge q x with hh | hh
            · rw [decide_eq_false (by omega), Bool.false_or]
            · have hxe : x = q := by omega
              subst hxe
              rw [decide_eq_true (by omega), Bool.true_or, ← vt x (Nat.le_refl _)]
              have za : vs (psf a (x : Int)) x = (psf a (x : Int)).2 := by
                rcases good_edg ga with e | e
                · exact vs_ahead ga (by omega)
                · rw [(vs_nil ga e).2, (vs_nil ga e).1]
              have zb : vs (psf b (x : Int)) x = (psf b (x : Int)).2 := by
                rcases good_edg gb with e | e
                · exact vs_ahead gb (by omega)
                · rw [(vs_nil gb e).2, (vs_nil gb e).1]
              rw [za, zb, ht]
        | false =>
          rw [if_neg (by simp)]
          obtain ⟨i1, i2⟩ := (ih (q + 1) none _ _ ga gb (by omega)).1 rfl ht
          simp only [Option.map_none] at i1 i2
          refine ⟨mayr_mono (by omega) i1, fun x hx => ?_⟩
          rcases Nat.lt_or_ge x q with hxq | hxq
          · rw [va x hxq, h0, Bool.eq_false_iff]
            intro hm
            have := (mr_ge i1 hm).1
            omega
          · rw [i2 x (by omega), vt x hxq]
      · subst ho
        have e : pr t (f + 1) (Option.map Int.ofNat (some lo)) a b = if t (psf a (q : Int)).2 (psf b (q : Int)).2 = true then pr t f (some (lo : Int)) (psf a (q : Int)) (psf b (q : Int)) else btw (lo : Int) (q : Int) ++ pr t f none (psf a (q : Int)) (psf b (q : Int)) := by
          rw [Option.map_some, Int.ofNat_eq_natCast, pr_some t f _ hn, hq]
        rw [e]
        cases ht : t (psf a (q : Int)).2 (psf b (q : Int)).2 with
        | true =>
          rw [if_pos rfl]
          obtain ⟨i1, i2⟩ := (ih (q + 1) (some lo) _ _ ga gb (by omega)).2 lo rfl ht (by omega)
          simp only [Option.map_some, Int.ofNat_eq_natCast] at i1 i2
          refine ⟨i1, fun x hx => ?_⟩
          rw [i2 x hx]
          rcases Nat.lt_or_ge x q with hxq | hxq
          · rw [va x hxq, h1, decide_eq_true (by omega), Bool.true_or, Bool.or_true]
          · rw [vt x hxq]
            rcases Nat.lt_or_ge q x with hh | hh
            · rw [decide_eq_false (by omega), decide_eq_false (by omega)]
            · have hxe : x = q := by omega
              subst hxe
              rw [decide_eq_true (by omega), Bool.true_or, decide_eq_false (by omega), Bool.false_or, ← vt x (Nat.le_refl _)]
              have za : vs (psf a (x : Int)) x = (psf a (x : Int)).2 := by
                rcases good_edg ga with e | e
                · exact vs_ahead ga (by omega)
                · rw [(vs_nil ga e).2, (vs_nil ga e).1]
              have zb : vs (psf b (x : Int)) x = (psf b (x : Int)).2 := by
                rcases good_edg gb with e | e
                · exact vs_ahead gb (by omega)
                · rw [(vs_nil gb e).2, (vs_nil gb e).1]
              rw [za, zb, ht]
        | false =>
          rw [if_neg (by simp)]
          obtain ⟨i1, i2⟩ := (ih (q + 1) none _ _ ga gb (by omega)).1 rfl ht
          simp only [Option.map_none] at i1 i2
          obtain ⟨r, e1, e2, e3⟩ := btw_right (lo := lo) (hi := q) (by omega) q6
          rw [e1, List.singleton_append]
          refine ⟨mayr_cons.2 ⟨by omega, by omega, mayr_mono (by omega) i1⟩, fun x hx => ?_⟩
          rw [mr_cons]
          rcases Nat.lt_or_ge x q with hxq | hxq
          · rw [va x hxq, h1, (inr_iff _ _).2 ⟨by omega, by omega⟩, Bool.true_or, Bool.or_true]
          · have : inr r x = false := by
              rw [Bool.eq_false_iff]
              intro hh
              have := ((inr_iff _ _).1 hh).2
              omega
            rw [this, Bool.false_or, i2 x (by omega), vt x hxq, decide_eq_false (by omega), Bool.false_or]
/-- The runs of what is taken of two rows. -/
def pd (t : Bool → Bool → Bool) (a b : List Rn) : List Rn := pr t (2 * a.length + 2 * b.length) none (a, false) (b, false)
theorem pd_right {t : Bool → Bool → Bool} (t0 : t false false = false) {a b : List Rn} (ha : mayr 0 a = true) (hb : mayr 0 b = true) :
    mayr 0 (pd t a b) = true ∧ ∀ x, mr (pd t a b) x = t (mr a x) (mr b x) := by
  obtain ⟨h1, h2⟩ := (pr_right t t0 (2 * a.length + 2 * b.length) 0 none (a, false) (b, false) ha hb (by simp [ahd])).1 rfl t0
  exact ⟨h1, fun x => h2 x (Nat.zero_le _)⟩
end Go.Proofs.YtponcpneflhpfaaGreatDoor
namespace Go.Proofs.YtponcpneflhpfaaGreatDoor
open Go.RowKit
set_option linter.unusedVariables false

theorem drop_at {l : List UInt16} {k : Nat} (h : k < l.length) : l.drop k = at16 l k :: l.drop (k + 1) := by
  rw [List.drop_eq_getElem_cons h]
  simp [at16, List.getD, h]

section
variable {α : Type} {k : Elem α} {w : World} {lo hi : Nat} {A : Option Addr} {c : Nat} {l : List α}
/-- A cut on both sides that keeps its room. -/
theorem Gs.mid (h : Gs k w lo hi (.slice A l.length c) l) {p m : Nat} (hm : p + m ≤ l.length) (hc : c ≠ p) : Gs k w lo hi (.slice (A.map fun x => x.add p) m (c - p)) ((l.drop p).take m) := by
  obtain ⟨A', c', e, h0, h1, h2, hb⟩ := h
  injection e with e1 e2 e3
  subst e1 e3
  have hl : ((l.drop p).take m).length = m := by simp; omega
  have hz : m = 0 → (l.drop p).take m = [] := by rintro rfl; simp
  refine ⟨_, _, by rw [hl], fun e => ?_, by omega, by omega, fun hn => ?_⟩
  · cases A with
    | none => have := h0 rfl; omega
    | some a => cases e
  · obtain ⟨b, off, e, x1, x2, hcell⟩ := hb (by rintro rfl; simp at hn)
    subst e
    refine ⟨b, off + p, by simp [Addr.add], x1, x2, fun j x hx => ?_⟩
    rw [List.getElem?_take] at hx
    split at hx
    · rw [List.getElem?_drop] at hx
      have := hcell _ x hx
      rwa [← Nat.add_assoc] at this
    · cases hx
/-- Cut ahead, up to the end. -/
theorem Gs.tail (h : Gs k w lo hi (.slice A l.length c) l) {p : Nat} (hp : p ≤ l.length) (hc : c ≠ p) : Gs k w lo hi (.slice (A.map fun x => x.add p) (l.length - p) (c - p)) (l.drop p) := by
  have := h.mid (p := p) (m := l.length - p) (by omega) hc
  rwa [List.take_of_length_le (by simp)] at this
end
end Go.Proofs.YtponcpneflhpfaaGreatDoor
namespace Go.Proofs.YtponcpneflhpfaaGreatDoor
open Go.RowKit
set_option linter.unusedVariables false

/-- Runs as elements. -/
def eR : Elem2 Rn := { E := 130, fst := fun x => .int .u16 x.1.toNat, snd := fun x => .int .u16 x.2.toNat, zero := (0, 0), bytes := 4, one1 := fun _ => rfl, one2 := fun _ => rfl, small := by omega }
theorem infR : (Tryz.prog.info? eR.E).map (fun i => (i.zero, i.size, i.bytes)) = some (some (eR.val eR.zero), 2, eR.bytes) := by kernel_rfl
theorem sliR : Tryz.prog.underlying 63 = some (.slice eR.E) := Tryz.underlying63

set_option maxHeartbeats 400000 in
theorem size_any (f m : Nat) (hm : m < 65536) (w : World) :
    Calls Tryz.prog 238 #[.agg #[.int .u16 f, .int .u16 m]] w fun e w' => e = .returned (.int .i64 ((m : Int) + 1)) ∧ Below w.heap.size w w' := by
  go_enter Tryz.func238, Tryz.ntmps238
  go_wp2
  go_ret
  exact ⟨rfl, below_of_grown (World.grownBy_alloc w _ none) (by intro k h; cases h)⟩
set_option maxHeartbeats 400000 in
theorem end_any (f m : Nat) (hf : f < 65536) (hm : m < 65536) (w : World) :
    Calls Tryz.prog 173 #[.agg #[.int .u16 f, .int .u16 m]] w fun e w' => e = .returned (.int .i64 ((f : Int) + ((m : Int) + 1))) ∧ Below w.heap.size w w' := by
  have hw : IntKind.i64.wrap (f : Int) = (f : Int) := by simp [IntKind.wrap, IntKind.bits, IntKind.signed]; omega
  have hs : IntKind.i64.wrap ((f : Int) + ((m : Int) + 1)) = (f : Int) + ((m : Int) + 1) := by simp [IntKind.wrap, IntKind.bits, IntKind.signed]; omega
  go_enter Tryz.func173, Tryz.ntmps173
  go_wp2
  go_region_with (first | (go_at_call 238; refine (size_any f m hm _).mono ?_; rintro e w9 ⟨rfl, b9⟩; have c0 := (b9.cell (p := ⟨w.heap.size, 0, none⟩) (by simp)).trans (show _ = some (.int .u16 (f : Int)) by simp); have c1 := (b9.cell (p := ⟨w.heap.size, 1, none⟩) (by simp)).trans (show _ = some (.int .u16 (m : Int)) by simp); have B9 := Lib.hid b9; clear b9))
  all_goals
    go_wp2
    go_ret
    exact ⟨rfl, (((Below.refl w.heap.size w).alloc (Nat.le_refl _) _).drew).trans (B9.out.mono (by simp))⟩
end Go.Proofs.YtponcpneflhpfaaGreatDoor
namespace Go.Proofs.YtponcpneflhpfaaGreatDoor
open Go.RowKit
set_option linter.unusedVariables false

theorem wrap16 (x : Int) (h : 0 ≤ x) : IntKind.u16.wrap x = ((UInt16.ofNat x.toNat).toNat : Int) := by
  rw [UInt16.toNat_ofNat']
  simp [IntKind.wrap, IntKind.bits, IntKind.signed]
  omega
set_option maxHeartbeats 400000 in
theorem between_any (lo hi : Int) (h0 : 0 ≤ lo ∧ lo ≤ 1000000) (h1 : 0 ≤ hi ∧ hi ≤ 1000000) (w : World) :
    Calls Tryz.prog 273 #[.int .i64 lo, .int .i64 hi] w fun e w' => ∃ v, e = .returned v ∧ Gw2 eR w' w.heap.size v (btw lo hi) ∧ Below w.heap.size w w' := by
  rcases Int.lt_or_le lo hi with h | h
  · have e : btw lo hi = [(UInt16.ofNat lo.toNat, UInt16.ofNat (hi - lo - 1).toNat)] := by unfold btw; rw [if_neg (by omega)]
    have w1 := wrap16 lo h0.1
    have w2 := wrap16 (hi - lo - 1) (by omega)
    have w3 : IntKind.i64.wrap (hi - lo) = hi - lo := by simp [IntKind.wrap, IntKind.bits, IntKind.signed]; omega
    have w4 : IntKind.i64.wrap (hi - lo - 1) = hi - lo - 1 := by simp [IntKind.wrap, IntKind.bits, IntKind.signed]; omega
    rw [e]
    obtain ⟨A, hA⟩ : ∃ A, A = UInt16.ofNat lo.toNat := ⟨_, rfl⟩
    obtain ⟨B, hB⟩ : ∃ B, B = UInt16.ofNat (hi - lo - 1).toNat := ⟨_, rfl⟩
    rw [← hA] at w1
    rw [← hB] at w2
    rw [← hA, ← hB]
    clear e hA hB
    go_enter Tryz.func273, Tryz.ntmps273
    go_wp2
    go_ret
    exact ⟨_, rfl, (Gw2.lit w w.heap.size (Nat.le_refl _) [(A, B)] _ 1 (by rfl) rfl (by omega)), (Below.refl _ w).alloc (Nat.le_refl _) _⟩
  · have e : btw lo hi = [] := by unfold btw; rw [if_pos h]
    rw [e]
    have h2 : lo ≥ hi := h
    go_enter Tryz.func273, Tryz.ntmps273
    go_wp2
    go_ret
    exact ⟨_, rfl, Gw2.nil_ _ _, Below.refl _ w⟩

/-- A first run's two cells. -/
theorem gs2_head {w : World} {lo hi : Nat} {A : Option Addr} {n c : Nat} {r : Rn} {l : List Rn} (h : Gs2 eR w lo hi (.slice A n c) (r :: l)) :
    ∃ b off, A = some ⟨b, off, none⟩ ∧ n = l.length + 1 ∧ b < hi ∧ w.cell? ⟨b, off, none⟩ = some (.int .u16 r.1.toNat) ∧ w.cell? ⟨b, off + 1, none⟩ = some (.int .u16 r.2.toNat) := by
  obtain ⟨b, off, c', e, -, -, -, hb, hc⟩ := h.form (by simp)
  injection e with e1 e2 e3
  have := hc 0 r rfl
  simp only [Nat.mul_zero, Nat.add_zero] at this
  exact ⟨b, off, e1, by simpa using e2, hb, this.1, this.2⟩
set_option maxHeartbeats 1000000 in
theorem edge_any (g o hi : Nat) (v : Value) (l : List Rn) (b : Bool) (w : World) (h0 : w.cell? ⟨g, o, none⟩ = some v) (h1 : w.cell? ⟨g, o + 1, none⟩ = some (.bool b)) (hv : Gs2 eR w 0 hi v l) (hh : hi ≤ w.heap.size) :
    Calls Tryz.prog 315 #[.pointer (some ⟨g, o, none⟩)] w fun e w' => e = .returned (.int .i64 (edg l b)) ∧ Below w.heap.size w w' := by
  have hlen := hv.len
  obtain ⟨A, c, rfl, -⟩ := id hv
  cases l with
  | nil =>
    rw [edg_nil]
    clear hv
    go_enter Tryz.func315, Tryz.ntmps315
    go_wp2
    go_ret
    exact ⟨rfl, Below.refl _ w⟩
  | cons r l =>
    obtain ⟨bb, off, rfl, -, hbb, c0, c1⟩ := gs2_head hv
    have hf := u16_lt r.1
    have hm := u16_lt r.2
    obtain ⟨f, hfe⟩ : ∃ f, f = r.1.toNat := ⟨_, rfl⟩
    obtain ⟨m, hme⟩ : ∃ m, m = r.2.toNat := ⟨_, rfl⟩
    have hln : ((l.length + 1 : Nat) : Int) ≠ 0 := by omega
    simp only [List.length_cons] at h0
    cases b with
    | false =>
      have e : edg (r :: l) false = (f : Int) := by rw [hfe]; rfl
      rw [e]
      rw [← hfe] at c0 hf
      clear e hfe hme hm c1 hv
      go_enter Tryz.func315, Tryz.ntmps315
      go_wp2
      go_ret
      exact ⟨rfl, Below.refl _ w⟩
    | true =>
      have e : edg (r :: l) true = (f : Int) + ((m : Int) + 1) := by rw [hfe, hme]; rfl
      rw [e]
      rw [← hfe] at c0 hf
      rw [← hme] at c1 hm
      clear e hfe hme hv
      go_enter Tryz.func315, Tryz.ntmps315
      go_wp2_with (go_at_call 173; refine (end_any f m hf hm _).mono ?_; rintro e w9 ⟨rfl, b9⟩; have B9 := Lib.hid b9; clear b9)
      go_ret
      exact ⟨rfl, B9.out⟩
end Go.Proofs.YtponcpneflhpfaaGreatDoor
