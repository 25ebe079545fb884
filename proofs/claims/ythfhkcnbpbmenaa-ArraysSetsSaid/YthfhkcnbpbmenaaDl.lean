/- What the law ArraysSets keeps while it writes over what it was told. -/
import Derived.Test.YthfhkcnbpbmenaaDk
namespace Go.Proofs.Ythfhkcnbpbmenaa
open Go.RowKit
set_option linter.unusedVariables false

/-- Both, either, the first one alone, just one. -/
def fs : Nat → Bool → Bool → Bool
  | 0 => fAnd
  | 1 => fOr
  | 2 => fNot
  | _ => fXor
theorem fs_ff (k : Nat) : fs k false false = false := by
  match k with
  | 0 => rfl
  | 1 => rfl
  | 2 => rfl
  | k + 3 => rfl
theorem both_all (k : Nat) (hk : k < 4) (ga gb : Nat) (p q : Nat → Bool) (w : World) (ha : Row w ga 45 (mA 65536 p)) (hb : Row w gb 45 (mA 65536 q)) :
    Calls Try.prog 17 #[.pointer (some ⟨ga, 0, none⟩), .pointer (some ⟨gb, 0, none⟩), .int .i64 ((k : Int) + 1)] w fun e w' => e = .returned (.pointer (some ⟨w.heap.size, 0, none⟩)) ∧ Row w' w.heap.size 45 (mA 65536 fun i => fs k (p i) (q i)) ∧ Below w.heap.size w w' := by
  match k, hk with
  | 0, _ => exact both_and ga gb p q w ha hb
  | 1, _ => exact both_or ga gb p q w ha hb
  | 2, _ => exact both_not ga gb p q w ha hb
  | 3, _ => exact both_xor ga gb p q w ha hb
theorem arr4 (f : Nat → Value) {k : Nat} (hk : k < 4) : (#[f 0, f 1, f 2, f 3] : Array Value)[k]? = some (f k) := by
  match k, hk with
  | 0, _ => rfl
  | 1, _ => rfl
  | 2, _ => rfl
  | 3, _ => rfl

/-- What stays: what was handed in and its copies, the array of what was told, the marks, and the row with x. -/
structure St (w : World) (N3 g N8 gm gO : Nat) (vI vA va vb vW : Value) (l m L5 : List UInt16) (sl : Nat → Value) (wr : World) : Prop where
  I : Gs e16 wr 0 N3 vI l
  A : Gs e16 wr 0 N3 vA m
  a : Gs e16 wr 0 N3 va l
  b : Gs e16 wr 0 N3 vb m
  R : Row wr g 26 #[sl 0, sl 1, sl 2, sl 3]
  RM : Row wr gm 45 (mA 65536 (mk l))
  RO : Row wr gO 45 (mA 65536 (mk m))
  W : Gw e16 wr N8 vW L5
  B : Below w.heap.size w wr
  o : w.heap.size ≤ N3 ∧ N3 ≤ g ∧ g < N8 ∧ g < gm ∧ g < gO ∧ N8 ≤ gm ∧ gm < gO
section
variable {w : World} {N3 g N8 gm gO : Nat} {vI vA va vb vW : Value} {l m L5 : List UInt16} {sl : Nat → Value} {wr wr' : World}
theorem St.below (h : St w N3 g N8 gm gO vI vA va vb vW l m L5 sl wr) (hb : Below wr.heap.size wr wr') : St w N3 g N8 gm gO vI vA va vb vW l m L5 sl wr' := by
  have hg := h.R.lt
  have ho := h.o
  have hb3 : Below N3 wr wr' := hb.mono (by omega)
  exact ⟨h.I.below hb3, h.A.below hb3, h.a.below hb3, h.b.below hb3, h.R.below hb hg, h.RM.below hb h.RM.lt, h.RO.below hb h.RO.lt, h.W.below hb (Nat.le_refl _), h.B.trans (hb.mono (by omega)), ho⟩
theorem St.grown {row : Option Nat} (h : St w N3 g N8 gm gO vI vA va vb vW l m L5 sl wr) (hg : wr.grownBy wr' row) (hr : ∀ k, row = some k → N3 ≤ k ∧ k < g) : St w N3 g N8 gm gO vI vA va vb vW l m L5 sl wr' := by
  have hl := h.R.lt
  have ho := h.o
  have h1 : ∀ k, row = some k → k < 0 ∨ N3 ≤ k := fun k e => .inr (hr k e).1
  have h2 : N3 ≤ wr.heap.size := by omega
  exact ⟨h.I.grown hg h2 h1, h.A.grown hg h2 h1, h.a.grown hg h2 h1, h.b.grown hg h2 h1, h.R.grown hg (fun e => by have := (hr _ e).2; omega), h.RM.grown hg (fun e => by have := (hr _ e).2; omega), h.RO.grown hg (fun e => by have := (hr _ e).2; omega),
    h.W.kept hg (fun k hk e => by have := (hr _ e).2; have := (h.W.lt k hk).1; omega), h.B.grown hg (by omega) (fun k e => by have := (hr k e).1; omega), ho⟩
/-- What was told and is not yet written over. -/
def Rem (bs : Nat → Nat) (sl : Nat → Value) (L : Nat → List UInt16) (k : Nat) (wr : World) : Prop := ∀ i, k ≤ i → i < 4 → Gw e16 wr (bs i) (sl i) (L i)
variable {bs : Nat → Nat} {L : Nat → List UInt16} {k : Nat}
theorem Rem.below (h : Rem bs sl L k wr) (hb : Below wr.heap.size wr wr') : Rem bs sl L k wr' := fun i h1 h2 => (h i h1 h2).below hb (Nat.le_refl _)
theorem Rem.grown {row : Option Nat} (h : Rem bs sl L k wr) (hg : wr.grownBy wr' row) (hr : ∀ j, row = some j → j < bs (k + 1)) (hm : ∀ i j, i ≤ j → bs i ≤ bs j) : Rem bs sl L (k + 1) wr' :=
  fun i h1 h2 => (h i (by omega) h2).kept hg fun j hj e => by
    have := hr j e
    have := ((h i (by omega) h2).lt j hj).1
    have := hm (k + 1) i h1
    omega
end
/-- What stays to the end. -/
structure Ft (w : World) (N3 : Nat) (vI vA va vb : Value) (l m : List UInt16) (wr : World) : Prop where
  I : Gs e16 wr 0 N3 vI l
  A : Gs e16 wr 0 N3 vA m
  a : Gs e16 wr 0 N3 va l
  b : Gs e16 wr 0 N3 vb m
  B : Below w.heap.size w wr
  o : w.heap.size ≤ N3 ∧ N3 ≤ wr.heap.size
section
variable {w : World} {N3 : Nat} {vI vA va vb : Value} {l m : List UInt16} {wr wr' : World}
theorem Ft.below (h : Ft w N3 vI vA va vb l m wr) (hb : Below wr.heap.size wr wr') : Ft w N3 vI vA va vb l m wr' := by
  have ho := h.o
  have hs := hb.size
  have hb3 : Below N3 wr wr' := hb.mono ho.2
  exact ⟨h.I.below hb3, h.A.below hb3, h.a.below hb3, h.b.below hb3, h.B.trans (hb.mono (by omega)), by omega, by omega⟩
theorem Ft.grown {row : Option Nat} (h : Ft w N3 vI vA va vb l m wr) (hg : wr.grownBy wr' row) (hr : ∀ k, row = some k → N3 ≤ k) : Ft w N3 vI vA va vb l m wr' := by
  have ho := h.o
  have hs := hg.size
  have h1 : ∀ k, row = some k → k < 0 ∨ N3 ≤ k := fun k e => .inr (hr k e)
  exact ⟨h.I.grown hg ho.2 h1, h.A.grown hg ho.2 h1, h.a.grown hg ho.2 h1, h.b.grown hg ho.2 h1, h.B.grown hg (by omega) (fun k e => by have := hr k e; omega), by omega, by omega⟩
theorem St.ft {g N8 gm gO : Nat} {vW : Value} {L5 : List UInt16} {sl : Nat → Value} (h : St w N3 g N8 gm gO vI vA va vb vW l m L5 sl wr) : Ft w N3 vI vA va vb l m wr :=
  ⟨h.I, h.A, h.a, h.b, h.B, h.o.1, by have := h.R.lt; have := h.o; omega⟩
end
/-- Four slices, by number. -/
theorem Four.fn {w : World} {base : Nat} {v1 v2 v3 v4 : Value} {l m : List UInt16} (h : Four w base v1 v2 v3 v4 (mg fAnd l m) (mg fOr l m) (mg fNot l m) (mg fXor l m)) :
    ∃ (bs : Nat → Nat) (sl : Nat → Value), sl 0 = v1 ∧ sl 1 = v2 ∧ sl 2 = v3 ∧ sl 3 = v4 ∧ (∀ i j, i ≤ j → bs i ≤ bs j) ∧ base ≤ bs 0 ∧ bs 4 ≤ w.heap.size ∧ Rem bs sl (fun i => mg (fs i) l m) 0 w ∧ ∀ i, i < 4 → ∀ k, (sl i).ownBlock = some k → k < bs (i + 1) := by
  obtain ⟨s1, s2, s3, s4, l1, l2, l3, l4, l5, x1, y1, x2, y2, x3, y3, x4, y4⟩ := h.e
  refine ⟨fun | 0 => base | 1 => s1 | 2 => s2 | 3 => s3 | _ => s4, fun | 0 => v1 | 1 => v2 | 2 => v3 | _ => v4, rfl, rfl, rfl, rfl, ?_, Nat.le_refl _, l5, ?_, ?_⟩
  · intro i j hij
    match i, j, hij with
    | 0, 0, _ => exact Nat.le_refl _
    | 0, 1, _ => exact l1
    | 0, 2, _ => exact Nat.le_trans l1 l2
    | 0, 3, _ => exact Nat.le_trans l1 (Nat.le_trans l2 l3)
    | 0, j + 4, _ => exact Nat.le_trans l1 (Nat.le_trans l2 (Nat.le_trans l3 l4))
    | 1, 1, _ => exact Nat.le_refl _
    | 1, 2, _ => exact l2
    | 1, 3, _ => exact Nat.le_trans l2 l3
    | 1, j + 4, _ => exact Nat.le_trans l2 (Nat.le_trans l3 l4)
    | 2, 2, _ => exact Nat.le_refl _
    | 2, 3, _ => exact l3
    | 2, j + 4, _ => exact Nat.le_trans l3 l4
    | 3, 3, _ => exact Nat.le_refl _
    | 3, j + 4, _ => exact l4
    | i + 4, j + 4, _ => exact Nat.le_refl _
    | i + 1, 0, h => exact absurd h (by omega)
    | i + 2, 1, h => exact absurd h (by omega)
    | i + 3, 2, h => exact absurd h (by omega)
    | i + 4, 3, h => exact absurd h (by omega)
  · intro i _ hi
    match i, hi with
    | 0, _ => exact x1
    | 1, _ => exact x2
    | 2, _ => exact x3
    | 3, _ => exact x4
  · intro i hi
    match i, hi with
    | 0, _ => exact y1
    | 1, _ => exact y2
    | 2, _ => exact y3
    | 3, _ => exact y4
end Go.Proofs.Ythfhkcnbpbmenaa
