/- Words for memory, for elements of one cell of whatever kind: a slice that reads as a list; a slice of the call's own; a block known whole; the laws of append, make, string(b) in these words. A file of lemmas. -/
import Derived.Test.YtigjkolhhhmdhaaRows
import Derived.WalkKit
import Derived.WalkSpells
import Derived.WalkLawsBesides
import Derived.Maps.AppendAt
import Derived.Laws.IdiomStrings
import Derived.Laws.OwnMore
import Derived.OwnWalk
import Derived.Deep.Draws
import Derived.Deep.AppendLies
import Derived.Lib.Hide
namespace Go.Proofs.Ytigjkolhhhmdhaa
open Go.RowKit
set_option linter.unusedVariables false

/-- A kind of elements: its type, an element as the model's value, the zero element, its bytes. -/
structure Elem (α : Type) where
  E : TypeId
  val : α → Value
  zero : α
  bytes : Nat
  one : ∀ x, (val x).oneCell' = true
  cell : ∀ x, (val x).cells = #[val x]
  small : bytes ≤ 1000

def b8 (b : UInt8) : Value := .int .u8 (b.toNat : Int)
def b64 (b : UInt64) : Value := .int .u64 (b.toNat : Int)
def e8 : Elem UInt8 := ⟨5, b8, 0, 1, fun _ => rfl, fun _ => rfl, by omega⟩
def e64 : Elem UInt64 := ⟨62, b64, 0, 8, fun _ => rfl, fun _ => rfl, by omega⟩

def b16 (b : UInt16) : Value := .int .u16 (b.toNat : Int)

variable {α : Type} (k : Elem α)

/-- The value is a slice that reads as l, in a block from lo on and below hi. -/
def Gs (w : World) (lo hi : Nat) (v : Value) (l : List α) : Prop :=
  ∃ A c, v = .slice A l.length c ∧ (A = none → c = 0) ∧ l.length ≤ c ∧ c ≤ maxLen ∧
    (l ≠ [] → ∃ b off, A = some ⟨b, off, none⟩ ∧ lo ≤ b ∧ b < hi ∧ ∀ j x, l[j]? = some x → w.cell? ⟨b, off + j, none⟩ = some (k.val x))
/-- The value is a slice of the call's own, in a block from base on, with the elements l. -/
def Gw (w : World) (base : Nat) (v : Value) (l : List α) : Prop := w.ownsRow base k.E 1 v l.length (l.map k.val)
/-- Block g is just the cells cs of element type t, none of them frozen. -/
def Row (w : World) (g : Nat) (t : TypeId) (cs : Array Value) : Prop := w.heap[g]? = some (.cells cs t (0, 0))
theorem val_one (l : List α) : ∀ u ∈ l.map k.val, u.oneCell' = true := by
  intro u hu
  obtain ⟨b, _, rfl⟩ := List.mem_map.1 hu
  exact k.one b

section
variable {k} {w w' : World} {lo hi lo' hi' g base : Nat} {v : Value} {l : List α} {t : TypeId} {cs : Array Value}
theorem Gs.keep (h : Gs k w lo hi v l) (hk : ∀ p : Addr, lo ≤ p.block → p.block < hi → w'.cell? p = w.cell? p) : Gs k w' lo hi v l :=
  let ⟨A, c, e, h0, h1, h2, hb⟩ := h
  ⟨A, c, e, h0, h1, h2, fun hl => let ⟨b, off, e, h1, h2, hc⟩ := hb hl; ⟨b, off, e, h1, h2, fun j x hx => (hk _ h1 h2).trans (hc j x hx)⟩⟩
theorem Gs.more (h : Gs k w lo hi v l) (h1 : lo' ≤ lo) (h2 : hi ≤ hi') : Gs k w lo' hi' v l :=
  let ⟨A, c, e, g0, g1, g2, hb⟩ := h
  ⟨A, c, e, g0, g1, g2, fun hl => let ⟨b, off, e, x1, x2, hc⟩ := hb hl; ⟨b, off, e, by omega, by omega, hc⟩⟩
theorem Gs.below (h : Gs k w lo hi v l) (hb : Below hi w w') : Gs k w' lo hi v l := h.keep fun _ _ hp => hb.cell hp
theorem Gs.alloc (h : Gs k w lo hi v l) (hh : hi ≤ w.heap.size) (o : Obj) : Gs k (w.alloc o) lo hi v l := h.keep fun p _ hp => World.cell?_alloc_lt w o p (by omega)
theorem Gs.drewN (h : Gs k w lo hi v l) (n : Nat) : Gs k (w.drewN n) lo hi v l := h
theorem Gs.grown {row : Option Nat} (h : Gs k w lo hi v l) (hg : w.grownBy w' row) (hh : hi ≤ w.heap.size) (hr : ∀ k, row = some k → k < lo ∨ hi ≤ k) : Gs k w' lo hi v l :=
  h.keep fun p h1 h2 => hg.cell_far p (by omega) (fun e => by have := hr p.block e.symm; omega)
theorem Gs.nil_ (w : World) (lo hi : Nat) : Gs k w lo hi (.slice none 0 0) [] := ⟨none, 0, rfl, fun _ => rfl, Nat.le_refl _, Nat.zero_le _, fun h => absurd rfl h⟩
theorem Gs.len (h : Gs k w lo hi v l) : l.length ≤ 9223372036854775807 := by
  obtain ⟨_, _, _, _, h1, h2, _⟩ := h
  unfold maxLen at h2
  omega
/-- Its address is a cell's, where it is not empty. -/
theorem Gs.form (h : Gs k w lo hi v l) (hl : l ≠ []) : ∃ b off c, v = .slice (some ⟨b, off, none⟩) l.length c ∧ l.length ≤ c ∧ c ≤ maxLen ∧ lo ≤ b ∧ b < hi ∧ ∀ j x, l[j]? = some x → w.cell? ⟨b, off + j, none⟩ = some (k.val x) := by
  obtain ⟨A, c, rfl, h0, h1, h2, hb⟩ := h
  obtain ⟨b, off, rfl, x1, x2, hc⟩ := hb hl
  exact ⟨b, off, c, rfl, h1, h2, x1, x2, hc⟩
/-- A cut ahead. -/
theorem Gs.take {A : Option Addr} {c : Nat} (h : Gs k w lo hi (.slice A l.length c) l) {m : Nat} (hm : m ≤ l.length) : Gs k w lo hi (.slice A m c) (l.take m) := by
  obtain ⟨A', c', e, h0, h1, h2, hb⟩ := h
  injection e with e1 e2 e3
  subst e1 e3
  have hl : (l.take m).length = m := by simp; omega
  refine ⟨A, c, by rw [hl], h0, by omega, h2, fun hn => ?_⟩
  obtain ⟨b, off, e, x1, x2, hc⟩ := hb (by rintro rfl; simp at hn)
  refine ⟨b, off, e, x1, x2, fun j x hx => hc j x ?_⟩
  rw [List.getElem?_take] at hx
  split at hx
  · exact hx
  · cases hx

theorem Gw.sl (h : Gw k w base v l) : Gs k w base w.heap.size v l := by
  rcases h.2 with ⟨rfl, hn⟩ | ⟨g, cap, cur, rfl, hb, hg, hn, hm, hs, ht⟩
  · have : l = [] := List.eq_nil_of_length_eq_zero hn
    subst this
    exact Gs.nil_ _ _ _
  · refine ⟨some ⟨g, 0, none⟩, cap, rfl, fun e => (by cases e), hn, hm, fun _ => ⟨g, 0, rfl, hb, (Array.getElem?_eq_some_iff.1 hg).1, fun j x hx => ?_⟩⟩
    have h1 := World.ownsRow.cells h (g := g) rfl j (k.val x) (by rw [List.getElem?_map, hx]; rfl)
    have h2 : (⟨g, 0, none⟩ : Addr).add j = ⟨g, 0 + j, none⟩ := by unfold Addr.add; split <;> simp_all
    rw [← h2]; exact h1
theorem Gw.below (h : Gw k w base v l) {B : Nat} (hb : Below B w w') (hB : w.heap.size ≤ B) : Gw k w' base v l :=
  World.ownsRow.kept (row := none) h ⟨hb.os, hb.tape, hb.output, hb.size, fun k hk _ => hb.block k (by omega)⟩ (by cases hv : v.ownBlock <;> simp)
theorem Gw.kept {row : Option Nat} (h : Gw k w base v l) (hg : w.grownBy w' row) (hne : ∀ k, v.ownBlock = some k → row ≠ some k) : Gw k w' base v l := by
  refine World.ownsRow.kept h hg ?_
  cases hv : v.ownBlock with
  | none => exact .inl rfl
  | some k => exact .inr (fun e => hne k hv e.symm)
theorem Gw.alloc (h : Gw k w base v l) (o : Obj) : Gw k (w.alloc o) base v l := World.ownsRow.alloc h o
theorem Gw.drew (h : Gw k w base v l) : Gw k w.drew base v l := h
theorem Gw.drewN (h : Gw k w base v l) (n : Nat) : Gw k (w.drewN n) base v l := h
theorem Gw.lt (h : Gw k w base v l) : ∀ k, v.ownBlock = some k → base ≤ k ∧ k < w.heap.size := World.ownsRow.lt h
theorem Gw.more (h : Gw k w base v l) {base' : Nat} (hb : base' ≤ base) : Gw k w base' v l := by
  refine ⟨h.1, ?_⟩
  rcases h.2 with hn | ⟨g, cap, cur, hv, hg, r⟩
  · exact .inl hn
  · exact .inr ⟨g, cap, cur, hv, by omega, r⟩
theorem Gw.form (h : Gw k w base v l) (hl : l ≠ []) :
    ∃ b c, v = .slice (some ⟨b, 0, none⟩) l.length c ∧ l.length ≤ c ∧ c ≤ maxLen ∧ base ≤ b ∧ b < w.heap.size ∧ (∀ j x, l[j]? = some x → w.cell? ⟨b, j, none⟩ = some (k.val x)) ∧ ∀ j, w.frozen? ⟨b, j, none⟩ = false := by
  rcases h.2 with ⟨rfl, hn⟩ | ⟨g, cap, cur, rfl, hb, hg, hn, hm, hs, ht⟩
  · exact absurd (List.eq_nil_of_length_eq_zero hn) hl
  · refine ⟨g, cap, rfl, hn, hm, hb, (Array.getElem?_eq_some_iff.1 hg).1, fun j x hx => ?_, fun j => ?_⟩
    · have h1 := World.ownsRow.cells h (g := g) rfl j (k.val x) (by rw [List.getElem?_map, hx]; rfl)
      have h2 : (⟨g, 0, none⟩ : Addr).add j = ⟨g, j, none⟩ := by unfold Addr.add; split <;> simp_all
      rw [← h2]; exact h1
    · exact World.ownsRow.frozenAt h j
theorem Gw.nil_ (w : World) (base : Nat) : Gw k w base (.slice none 0 0) [] := World.ownsRow_nil w base _ _
theorem Gw.empty_ (w : World) (base : Nat) (h : base ≤ w.heap.size) : Gw k (w.alloc (.cells #[] k.E)) base (.slice (some ⟨w.heap.size, 0, none⟩) 0 0) [] :=
  World.ownsRow_lit w #[] 0 h (Nat.zero_le _) rfl
theorem Gw.lit (w : World) (base : Nat) (h : base ≤ w.heap.size) (l : List α) (cs : Array Value) (n : Nat) (hcs : cs = (l.map k.val).toArray) (hn : l.length = n) (hs : n ≤ 1000) :
    Gw k (w.alloc (.cells cs k.E)) base (.slice (some ⟨w.heap.size, 0, none⟩) n n) l := by
  subst hcs hn
  have := World.ownsRow_lit (base := base) (size := 1) (e := k.E) w (l.map k.val).toArray l.length h (by unfold maxLen; omega) (by simp)
  simpa [Gw] using this
theorem Gw.stored {b c n : Nat} (h : Gw k w base (.slice (some ⟨b, 0, none⟩) n c) l) (j : Nat) (y : α) :
    Gw k (w.setCell ⟨b, j, none⟩ (k.val y)) base (.slice (some ⟨b, 0, none⟩) n c) (l.set j y) := by
  have hn : n = l.length := by
    rcases h.2 with ⟨e, _⟩ | ⟨g, cap, cur, e, _⟩
    · cases e
    · injection e
  subst hn
  have h1 := (World.ownsRow.stored h j (k.val y)).1
  unfold Gw
  rw [List.map_set, List.length_set]
  exact h1
theorem grown_set (w : World) (g i : Nat) (u : Value) : w.grownBy (w.setCell ⟨g, i, none⟩ u) (some g) :=
  ⟨rfl, rfl, rfl, by simp [World.setCell], fun k hk hne => Below.heap_setCell w _ u k (fun e => hne (by rw [e]))⟩

theorem Row.lt (h : Row w g t cs) : g < w.heap.size := (Array.getElem?_eq_some_iff.1 h).1
theorem Row.cell (h : Row w g t cs) (i : Nat) : w.cell? ⟨g, i, none⟩ = cs[i]? := cell_of_row w g i cs t (0, 0) h
theorem Row.frozen (h : Row w g t cs) (i : Nat) : w.frozen? ⟨g, i, none⟩ = false := by
  unfold Row at h
  simp [World.frozen?, h]
theorem Row.keep (h : Row w g t cs) (hk : w'.heap[g]? = w.heap[g]?) : Row w' g t cs := hk.trans h
theorem Row.alloc (h : Row w g t cs) (o : Obj) : Row (w.alloc o) g t cs := h.keep (Below.heap_alloc w o g h.lt)
theorem Row.new (w : World) (t : TypeId) (cs : Array Value) : Row (w.alloc (.cells cs t)) w.heap.size t cs := heap_alloc_new w _
theorem Row.below {B : Nat} (h : Row w g t cs) (hb : Below B w w') (hg : g < B) : Row w' g t cs := h.keep (hb.block g hg)
theorem Row.grown {row : Option Nat} (h : Row w g t cs) (hb : w.grownBy w' row) (hg : row ≠ some g) : Row w' g t cs := h.keep (hb.block g h.lt (fun e => hg e.symm))
theorem Row.set_ (h : Row w g t cs) (i : Nat) (u : Value) : Row (w.setCell ⟨g, i, none⟩ u) g t (cs.setIfInBounds i u) := by
  unfold Row at h ⊢
  simp [World.setCell, Array.getElem?_modify, h]
end

/-- append onto a slice of the call's own, from whatever slice: the run. -/
theorem run_gapp {P : Program} (w : World) (t ty : TypeId) (base : Nat) (ht : P.underlying t = some (.slice k.E))
    (hinf : (P.info? k.E).map (fun i => (i.zero, i.size, i.bytes)) = some (some (k.val k.zero), 1, k.bytes))
    (v : Value) (l : List α) (hown : Gw k w base v l) (lo hi : Nat) (u : Value) (m : List α) (hu : Gs k w lo hi u m) (hb : l.length + m.length ≤ 1000000000) (hbase : base ≤ w.heap.size) :
    ∃ v' w', (Builtin.append_ #[t, t] ty #[v, u]).run P w = .ok v' w' ∧ Gw k w' base v' (l ++ m) ∧ w.grownBy w' v.ownBlock ∧ (v'.ownBlock = v.ownBlock ∨ v'.ownBlock = some w.heap.size) := by
  obtain ⟨i, hi1, hz, hsz, hby⟩ := info_parts hinf
  obtain ⟨A, c, rfl, hc0, hlc, hcm, hbt⟩ := hu
  cases A with
  | none =>
    obtain rfl := hc0 rfl
    have hm : m = [] := List.eq_nil_of_length_eq_zero (by omega)
    subst hm
    exact ⟨v, w, run_append_owned_none (P := P) w base t ty k.E i 1 ht hi1 v _ _ hown, by simpa using hown, World.grownBy.refl w _, .inl rfl⟩
  | some ad =>
    have hs := k.small
    have hbb : (l.length + m.length) * k.bytes ≤ 1000000000 * 1000 := Nat.mul_le_mul hb hs
    obtain ⟨v', w', hrun, h2, h3, _, h5⟩ := run_append_own_at (P := P) w base t ty k.E i (k.val k.zero) 1 k.bytes ht hi1 hz hsz hby (by rw [k.cell]; rfl) (by decide) v l.length (l.map k.val) hown ad m.length c (m.map k.val) (by simp)
      (fun j y hy => by
        have hj : j < m.length := by simpa using (List.getElem?_eq_some_iff.1 hy).1
        obtain ⟨b, off, e, _, _, hcell⟩ := hbt (by rintro rfl; simp at hj)
        injection e with e
        subst e
        have h2 : (⟨b, off, none⟩ : Addr).add j = ⟨b, off + j, none⟩ := by unfold Addr.add; split <;> simp_all
        rw [h2, hcell j _ (List.getElem?_eq_getElem hj)]
        rw [List.getElem?_map, List.getElem?_eq_getElem hj] at hy
        exact hy)
      (val_one k m) (by unfold maxLen; omega) (by omega) hbase
    refine ⟨v', w', hrun, ?_, h3, h5⟩
    unfold Gw
    simpa using h2
theorem wpList_gapp {P : Program} (w : World) {ops : Array Oper} {rest : List Oper} {o : Oper} {a : Act} {Q : Exit → Act → World → Prop} (hgd : o.guard = none) (s x : Operand) (t : TypeId)
    (ho : o.op = .call { callee := .builtin .append, args := #[s, x], argTypes := #[t, t] }) (base : Nat) (ht : P.underlying t = some (.slice k.E))
    (hinf : (P.info? k.E).map (fun i => (i.zero, i.size, i.bytes)) = some (some (k.val k.zero), 1, k.bytes))
    (v : Value) (l : List α) (hs : a.eval s = v) (hown : Gw k w base v l)
    (lo hi : Nat) (u : Value) (m : List α) (hx : a.eval x = u) (hu : Gs k w lo hi u m)
    (hb : l.length + m.length ≤ 1000000000) (hbase : base ≤ w.heap.size)
    (h : ∀ v' w', Gw k w' base v' (l ++ m) → w.grownBy w' v.ownBlock → (v'.ownBlock = v.ownBlock ∨ v'.ownBlock = some w.heap.size) → wpList P ops Q rest (a.put o.dst v') w') :
    wpList P ops Q (o :: rest) a w := by
  obtain ⟨v', w', hrun, h2, h3, h5⟩ := run_gapp k (P := P) w t o.type base ht hinf v l hown lo hi u m hu hb hbase
  refine wpList_plain hgd fun K hK => ?_
  unfold Oper.wp execOp
  simp only [ho, resolve, invoke, builtin, Sem.run_bind, Sem.run_pure, Result.andThen_ok, List.map_toArray, List.map_cons, List.map_nil, hs, hx, hrun]
  exact hK _ _ (h v' w' h2 h3 h5)
theorem wp_gapp {P : Program} (w : World) {o : Oper} {a : Act} {K : Act → World → Prop} {Q : Exit → Act → World → Prop} (s x : Operand) (t : TypeId)
    (ho : o.op = .call { callee := .builtin .append, args := #[s, x], argTypes := #[t, t] }) (base : Nat) (ht : P.underlying t = some (.slice k.E))
    (hinf : (P.info? k.E).map (fun i => (i.zero, i.size, i.bytes)) = some (some (k.val k.zero), 1, k.bytes))
    (v : Value) (l : List α) (hs : a.eval s = v) (hown : Gw k w base v l) (lo hi : Nat) (u : Value) (m : List α) (hx : a.eval x = u) (hu : Gs k w lo hi u m)
    (hb : l.length + m.length ≤ 1000000000) (hbase : base ≤ w.heap.size)
    (h : ∀ v' w', Gw k w' base v' (l ++ m) → w.grownBy w' v.ownBlock → K (a.put o.dst v') w') : o.wp P a w K Q := by
  obtain ⟨v', w', hrun, h2, h3, h5⟩ := run_gapp k (P := P) w t o.type base ht hinf v l hown lo hi u m hu hb hbase
  unfold Oper.wp execOp
  simp only [ho, resolve, invoke, builtin, Sem.run_bind, Sem.run_pure, Result.andThen_ok, List.map_toArray, List.map_cons, List.map_nil, hs, hx, hrun]
  exact h v' w' h2 h3
/-- append of one element, which lies in the block that has just been made for it. -/
theorem wpList_gapp1 {P : Program} (w : World) {ops : Array Oper} {rest : List Oper} {o : Oper} {a : Act} {Q : Exit → Act → World → Prop} (hgd : o.guard = none) (s x : Operand) (t : TypeId)
    (ho : o.op = .call { callee := .builtin .append, args := #[s, x], argTypes := #[t, t] }) (base : Nat) (ht : P.underlying t = some (.slice k.E))
    (hinf : (P.info? k.E).map (fun i => (i.zero, i.size, i.bytes)) = some (some (k.val k.zero), 1, k.bytes))
    (v : Value) (l : List α) (hs : a.eval s = v) (hown : Gw k w base v l)
    (X : Value) (b : α) (hX : X = k.val b) (hx : a.eval x = .slice (some ⟨w.heap.size, 0, none⟩) 1 1)
    (hb : l.length + 1 ≤ 1000000000) (hbase : base ≤ w.heap.size)
    (h : ∀ v' w', Gw k w' base v' (l ++ [b]) → w.grownBy w' v.ownBlock → (v'.ownBlock = v.ownBlock ∨ v'.ownBlock = some (w.heap.size + 1)) → wpList P ops Q rest (a.put o.dst v') w') :
    wpList P ops Q (o :: rest) a (w.alloc (.cells #[X] k.E)) := by
  subst hX
  refine wpList_gapp k (w.alloc (.cells #[k.val b] k.E)) hgd s x t ho base ht hinf v l hs (hown.alloc _) w.heap.size (w.heap.size + 1) _ [b] hx
    ⟨some ⟨w.heap.size, 0, none⟩, 1, rfl, fun e => (by cases e), by simp, by unfold maxLen; omega, fun _ => ⟨w.heap.size, 0, rfl, Nat.le_refl _, by omega, fun j y hj => ?_⟩⟩ (by simpa using hb) (by simp; omega) ?_
  · match j, hj with
    | 0, hj =>
      simp at hj
      subst hj
      simp
  · intro v' w' h1 h2 h3
    refine h v' w' h1 ⟨h2.os, h2.tape, h2.output, Nat.le_trans (by simp) h2.size, fun k hk hne => (h2.block k (by simp; omega) hne).trans (Below.heap_alloc w _ k hk)⟩ (by simpa using h3)
/-- make of n zero elements. -/
theorem wpList_gfull {P : Program} (w : World) {ops : Array Oper} {rest : List Oper} {o : Oper} {a : Act} {Q : Exit → Act → World → Prop} (hgd : o.guard = none) (x c : Operand) (t : TypeId) (ho : o.op = Op.makeSlice t x c)
    (ht : P.underlying t = some (.slice k.E)) (hinf : (P.info? k.E).map (fun i => (i.zero, i.size, i.bytes)) = some (some (k.val k.zero), 1, k.bytes))
    (kl kc : IntKind) (L C : Int) (n : Nat) (hx : a.eval x = .int kl L) (hc : a.eval c = .int kc C) (hL : L = (n : Int)) (hC : C = (n : Int)) (hn : n ≤ 1000000000)
    (h : ∀ w', Gw k w' w.heap.size (.slice (some ⟨w.heap.size, 0, none⟩) n n) (List.replicate n k.zero) → w.grownBy w' none → wpList P ops Q rest (a.put o.dst (.slice (some ⟨w.heap.size, 0, none⟩) n n)) w') : wpList P ops Q (o :: rest) a w := by
  obtain ⟨i, hi, hz, hsz, hby⟩ := info_parts hinf
  have hs := k.small
  have hbb : k.bytes * n ≤ 1000 * 1000000000 := Nat.mul_le_mul hs hn
  refine wpList_make_full w hgd x c t ho w.heap.size k.E i (k.val k.zero) 1 ht hi hz hsz kl kc L C n hx hc hL hC (by rw [hby]; omega) (by unfold maxLen; omega) (Nat.le_refl _) fun w' h1 h2 => h w' ?_ h2
  rw [k.cell, Nat.mul_one, toList_madeCells_one] at h1
  unfold Gw
  rw [List.length_replicate, List.map_replicate]
  exact h1

theorem below_of_grown {w w' : World} {row : Option Nat} (hg : w.grownBy w' row) (hr : ∀ k, row = some k → w.heap.size ≤ k) : Below w.heap.size w w' :=
  ⟨hg.os, hg.tape, hg.output, hg.size, fun k hk => hg.block k hk (fun e => by have := hr k e.symm; omega)⟩
theorem grown_of_below {w W : World} (h : Below w.heap.size w W) : w.grownBy W none := ⟨h.os, h.tape, h.output, h.size, fun k hk _ => h.block k hk⟩
theorem grown_drewN {w w' : World} {row : Option Nat} (h : w.grownBy w' row) (n : Nat) : w.grownBy (w'.drewN n) row := ⟨h.os, h.tape, h.output, h.size, h.block⟩
theorem below_drewN {w w' : World} {B : Nat} (h : Below B w w') (n : Nat) : Below B w (w'.drewN n) := ⟨h.os, h.tape, h.output, h.size, h.block⟩

/-- 'string(b)'. -/
theorem run_str {P : Program} (w : World) (src dst e : TypeId) (hs : P.underlying src = some (.slice e)) (he : P.underlying e = some (.int .u8)) (hd : P.underlying dst = some .string)
    {lo hi : Nat} {v : Value} {l : List UInt8} (h : Gs e8 w lo hi v l) : (convert src dst v).run P w = .ok (.string ⟨l.toArray⟩) w := by
  obtain ⟨A, c, rfl, hc0, hlc, hcm, hbt⟩ := h
  by_cases hl : l = []
  · subst hl
    rw [run_convert_bytes_string w src dst e _ _ c hs he hd]
    cases A <;> simp [Conv.bytesToString, loadCells]
    all_goals rfl
  · obtain ⟨b, off, rfl, _, _, hcell⟩ := hbt hl
    refine run_convert_bytes_back w src dst e _ c l hs he hd fun j hj => ?_
    have h2 : (⟨b, off, none⟩ : Addr).add j = ⟨b, off + j, none⟩ := by unfold Addr.add; split <;> simp_all
    rw [h2, hcell j _ (List.getElem?_eq_getElem hj)]
    rfl

theorem inf8 : (Try.prog.info? e8.E).map (fun i => (i.zero, i.size, i.bytes)) = some (some (e8.val e8.zero), 1, e8.bytes) := by kernel_rfl
theorem inf64 : (Try.prog.info? e64.E).map (fun i => (i.zero, i.size, i.bytes)) = some (some (e64.val e64.zero), 1, e64.bytes) := by kernel_rfl
theorem sli8 : Try.prog.underlying 31 = some (.slice e8.E) := Try.underlying31
theorem str8 {w : World} {lo hi : Nat} {v : Value} {l : List UInt8} (h : Gs e8 w lo hi v l) : (convert 31 9 v).run Try.prog w = .ok (.string ⟨l.toArray⟩) w :=  run_str w 31 9 5 Try.underlying31 Try.underlying5 Try.underlying9 h

/-- A slice of integers that came in: it is nil; or it leads to a row of cap cells, the numbers zs, of which the first len are its elements. -/
def IsRow (k : IntKind) (w : World) (a : Option Addr) (len cap : Nat) (zs : List Int) : Prop :=
  (a = none ∧ len = 0 ∧ cap = 0 ∧ zs = []) ∨
  ∃ x, a = some x ∧ len ≤ cap ∧ cap ≤ maxLen ∧ zs.length = cap ∧ (∀ i, i < zs.length → w.cell? (x.add i) = some (.int k (zs.getD i 0))) ∧ ∀ n ∈ zs, (Lit.int k n).wf = true
theorem gs_of_row {α : Type} (k : Elem α) (kd : IntKind) (f : Int → α) (hf : ∀ n, (Lit.int kd n).wf = true → k.val (f n) = .int kd n) {w : World} {a : Option Addr} {len cap : Nat} {zs : List Int} (h : IsRow kd w a len cap zs) :
    ∃ l : List α, l.length = len ∧ Gs k w 0 w.heap.size (.slice a len cap) l := by
  rcases h with ⟨rfl, rfl, rfl, rfl⟩ | ⟨x, rfl, hl, hm, hz, hc, hw⟩
  · exact ⟨[], rfl, Gs.nil_ _ _ _⟩
  · have hlen : ((zs.take len).map f).length = len := by simp; omega
    refine ⟨(zs.take len).map f, hlen, some x, cap, by rw [hlen], fun e => (by cases e), by rw [hlen]; exact hl, hm, fun hne => ?_⟩
    have h0 : 0 < len := by
      rcases Nat.eq_zero_or_pos len with h | h
      · subst h; simp at hne
      · exact h
    obtain ⟨b, off, spot⟩ := x
    have hc0 := hc 0 (by omega)
    have hspot : spot = none := by simpa [Addr.add] using World.cell?_spot hc0
    subst hspot
    have hb : b < w.heap.size := by
      have := World.block_lt_of_cell? w _ hc0
      simpa [Addr.add] using this
    refine ⟨b, off, rfl, Nat.zero_le _, hb, fun j y hy => ?_⟩
    have hj : j < len := by
      have := (List.getElem?_eq_some_iff.1 hy).1
      simp at this
      omega
    have h1 := hc j (by omega)
    have h2 : (⟨b, off, none⟩ : Addr).add j = ⟨b, off + j, none⟩ := by unfold Addr.add; split <;> simp_all
    rw [h2] at h1
    rw [h1]
    have hjz : j < zs.length := by omega
    rw [List.getElem?_map, List.getElem?_take, if_pos hj, List.getElem?_eq_getElem hjz] at hy
    simp at hy
    subst hy
    rw [hf _ (hw zs[j] (List.getElem_mem hjz))]
    simp [List.getD, List.getElem?_eq_getElem hjz]
theorem gs8_of_row {w : World} {a : Option Addr} {len cap : Nat} {zs : List Int} (h : IsRow .u8 w a len cap zs) : ∃ l : List UInt8, l.length = len ∧ Gs e8 w 0 w.heap.size (.slice a len cap) l :=
  gs_of_row e8 .u8 (fun n => UInt8.ofNat n.toNat) (fun n hwf => by
    simp [Lit.wf, IntKind.min, IntKind.max, IntKind.bits, IntKind.signed] at hwf
    simp only [e8, b8, UInt8.toNat_ofNat']
    congr 1
    omega) h
theorem gs64_of_row {w : World} {a : Option Addr} {len cap : Nat} {zs : List Int} (h : IsRow .u64 w a len cap zs) : ∃ l : List UInt64, l.length = len ∧ Gs e64 w 0 w.heap.size (.slice a len cap) l := gs_of_row e64 .u64 (fun n => UInt64.ofNat n.toNat) (fun n hwf => by simp [Lit.wf, IntKind.min, IntKind.max, IntKind.bits, IntKind.signed] at hwf; simp only [e64, b64, UInt64.toNat_ofNat']; congr 1; omega) h
theorem row_len {k : IntKind} {w : World} {a : Option Addr} {len cap : Nat} {zs : List Int} (h : IsRow k w a len cap zs) : len ≤ 9223372036854775807 := by
  rcases h with ⟨_, rfl, _⟩ | ⟨x, _, h1, h2, _⟩
  · omega
  · unfold maxLen at h2; omega
end Go.Proofs.Ytigjkolhhhmdhaa
