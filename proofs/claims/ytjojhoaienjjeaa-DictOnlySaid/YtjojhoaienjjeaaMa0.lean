/- Walks: values.Int, Text, May; the document's May. -/
import Derived.WalkKit
import Derived.Lib.Bytealg
import Derived.Test.YtjojhoaienjjeaaRows
import Derived.WalkSpells
import Derived.WalkLawsBesides
import Derived.Maps.AppendAt
import Derived.Laws.IdiomStrings
import Derived.Laws.OwnMore
import Derived.OwnWalk
import Derived.Deep.Draws
import Derived.Deep.AppendLies
import Derived.Lib.Hide
import Derived.Deep.RegionWith
import Derived.BigQuiet
import Derived.Deep.QuietTactic
import Derived.ProofKit
import Derived.OpenShut
import Derived.ShutString
import Derived.ChangeOld
import Derived.Below
import Derived.Deep.SlicePairs
import Derived.Deep.RegionHeld3
/- Plain mathematics: the order of values. No Go in sight. -/
namespace Go.Proofs.Ytjojhoaienjjeaa
open Go.RowKit
set_option linter.unusedVariables false

/-- Which of two whole numbers comes first. -/
def cmpI (x y : Int) : Int := if x < y then -1 else if y < x then 1 else 0
/-- Which of two rows of bytes comes first. -/
abbrev cmpB (a b : List UInt8) : Int := Lib.compareBytes a b
/-- The first of three that is not 0. -/
def orI (a b c : Int) : Int := if a ≠ 0 then a else if b ≠ 0 then b else c
/-- Which of two values comes first. -/
def cmpV (k n : Int) (s : List UInt8) (k' n' : Int) (s' : List UInt8) : Int := orI (cmpI k k') (cmpI n n') (cmpB s s')

theorem cmpI_lt {x y : Int} (h : x < y) : cmpI x y = -1 := by unfold cmpI; rw [if_pos h]
theorem cmpI_gt {x y : Int} (h : y < x) : cmpI x y = 1 := by unfold cmpI; rw [if_neg (by omega), if_pos h]
theorem cmpI_eq (x : Int) : cmpI x x = 0 := by unfold cmpI; simp
theorem cmpI_or (x y : Int) : (x < y ∧ cmpI x y = -1) ∨ (x = y ∧ cmpI x y = 0) ∨ (y < x ∧ cmpI x y = 1) := by
  rcases Int.lt_trichotomy x y with h | h | h
  · exact .inl ⟨h, cmpI_lt h⟩
  · subst h; exact .inr (.inl ⟨rfl, cmpI_eq _⟩)
  · exact .inr (.inr ⟨h, cmpI_gt h⟩)

theorem cmpB_three : ∀ a b : List UInt8, cmpB a b = -1 ∨ cmpB a b = 0 ∨ cmpB a b = 1
  | [], [] => by simp [cmpB, Lib.compareBytes]
  | [], _ :: _ => by simp [cmpB, Lib.compareBytes]
  | _ :: _, [] => by simp [cmpB, Lib.compareBytes]
  | x :: a, y :: b => by
    have ih := cmpB_three a b
    unfold cmpB at ih ⊢
    unfold Lib.compareBytes
    split
    · simp
    · split
      · simp
      · exact ih
theorem cmpB_same : ∀ a : List UInt8, cmpB a a = 0
  | [] => rfl
  | x :: a => by
    unfold cmpB Lib.compareBytes
    rw [if_neg (UInt8.lt_irrefl x), if_neg (UInt8.lt_irrefl x)]
    exact cmpB_same a
theorem cmpB_zero : ∀ a b : List UInt8, cmpB a b = 0 → a = b
  | [], [] => fun _ => rfl
  | [], _ :: _ => fun h => by simp [cmpB, Lib.compareBytes] at h
  | _ :: _, [] => fun h => by simp [cmpB, Lib.compareBytes] at h
  | x :: a, y :: b => fun h => by
    unfold cmpB Lib.compareBytes at h
    split at h
    · simp at h
    · split at h
      · simp at h
      · rename_i h1 h2
        have : x = y := UInt8.le_antisymm (UInt8.not_lt.1 h2) (UInt8.not_lt.1 h1)
        rw [this, cmpB_zero a b h]
theorem cmpB_turn : ∀ a b : List UInt8, cmpB b a = -cmpB a b
  | [], [] => rfl
  | [], _ :: _ => by simp [cmpB, Lib.compareBytes]
  | _ :: _, [] => by simp [cmpB, Lib.compareBytes]
  | x :: a, y :: b => by
    have ih := cmpB_turn a b
    unfold cmpB at ih ⊢
    unfold Lib.compareBytes
    by_cases h1 : x < y
    · have h2 : ¬ y < x := UInt8.not_lt.2 (UInt8.le_of_lt h1)
      rw [if_pos h1, if_neg h2, if_pos h1]; rfl
    · by_cases h2 : y < x
      · simp [h1, h2]
      · simpa [h1, h2] using ih
/-- Of three rows of bytes the order goes over. -/
theorem cmpB_over : ∀ a b c : List UInt8, cmpB a b ≤ 0 → cmpB b c ≤ 0 → cmpB a c ≤ 0 ∧ (cmpB a c = 0 → cmpB a b = 0 ∧ cmpB b c = 0)
  | [], [], c => fun _ h => ⟨h, fun e => ⟨rfl, e⟩⟩
  | [], _ :: _, [] => fun _ h => by simp [cmpB, Lib.compareBytes] at h
  | [], _ :: _, _ :: _ => fun _ _ => by simp [cmpB, Lib.compareBytes]
  | _ :: _, [], _ => fun h => by simp [cmpB, Lib.compareBytes] at h
  | _ :: _, _ :: _, [] => fun _ h => by simp [cmpB, Lib.compareBytes] at h
  | x :: a, y :: b, z :: c => fun h1 h2 => by
    have ih := cmpB_over a b c
    unfold cmpB at ih h1 h2 ⊢
    unfold Lib.compareBytes at h1 h2 ⊢
    have e1 : x < y ↔ x.toNat < y.toNat := UInt8.lt_iff_toNat_lt
    have e2 : y < x ↔ y.toNat < x.toNat := UInt8.lt_iff_toNat_lt
    have e3 : y < z ↔ y.toNat < z.toNat := UInt8.lt_iff_toNat_lt
    have e4 : z < y ↔ z.toNat < y.toNat := UInt8.lt_iff_toNat_lt
    have e5 : x < z ↔ x.toNat < z.toNat := UInt8.lt_iff_toNat_lt
    have e6 : z < x ↔ z.toNat < x.toNat := UInt8.lt_iff_toNat_lt
    simp only [e1, e2, e3, e4, e5, e6] at h1 h2 ⊢
    by_cases g1 : x.toNat < y.toNat
    · by_cases g2 : z.toNat < y.toNat
      · rw [if_neg (by omega), if_pos g2] at h2; omega
      · rw [if_pos (show x.toNat < z.toNat by omega)]; omega
    · by_cases g1' : y.toNat < x.toNat
      · rw [if_neg g1, if_pos g1'] at h1; omega
      · have e : x.toNat = y.toNat := by omega
        rw [if_neg g1, if_neg g1'] at h1 ⊢
        rw [e]
        by_cases g2 : y.toNat < z.toNat
        · simp only [if_pos g2]; omega
        · by_cases g3 : z.toNat < y.toNat
          · rw [if_neg g2, if_pos g3] at h2; omega
          · simp only [if_neg g2, if_neg g3] at h2 ⊢
            exact ih h1 h2

theorem cmpV_three (k n : Int) (s : List UInt8) (k' n' : Int) (s' : List UInt8) : cmpV k n s k' n' s' = -1 ∨ cmpV k n s k' n' s' = 0 ∨ cmpV k n s k' n' s' = 1 := by
  unfold cmpV orI
  rcases cmpI_or k k' with ⟨_, h⟩ | ⟨_, h⟩ | ⟨_, h⟩ <;> rcases cmpI_or n n' with ⟨_, h'⟩ | ⟨_, h'⟩ | ⟨_, h'⟩ <;> rw [h, h'] <;> simp [cmpB_three s s']
theorem cmpV_zero {k n : Int} {s : List UInt8} {k' n' : Int} {s' : List UInt8} : cmpV k n s k' n' s' = 0 ↔ k = k' ∧ n = n' ∧ s = s' := by
  unfold cmpV orI
  constructor
  · intro h
    rcases cmpI_or k k' with ⟨g1, h1⟩ | ⟨g1, h1⟩ | ⟨g1, h1⟩ <;> rcases cmpI_or n n' with ⟨g2, h2⟩ | ⟨g2, h2⟩ | ⟨g2, h2⟩ <;> rw [h1, h2] at h <;> simp at h
    exact ⟨g1, g2, cmpB_zero _ _ h⟩
  · rintro ⟨rfl, rfl, rfl⟩
    rw [cmpI_eq, cmpI_eq]
    simp [cmpB_same]
theorem cmpI_turn (x y : Int) : cmpI y x = -cmpI x y := by
  rcases cmpI_or x y with ⟨g, h⟩ | ⟨rfl, h⟩ | ⟨g, h⟩
  · rw [h, cmpI_gt g]; rfl
  · rw [h]; rfl
  · rw [h, cmpI_lt g]
theorem cmpV_turn (k n : Int) (s : List UInt8) (k' n' : Int) (s' : List UInt8) : cmpV k' n' s' k n s = -cmpV k n s k' n' s' := by
  unfold cmpV orI
  rw [cmpI_turn k k', cmpI_turn n n', cmpB_turn s s']
  rcases cmpI_or k k' with ⟨g1, h1⟩ | ⟨g1, h1⟩ | ⟨g1, h1⟩ <;> rcases cmpI_or n n' with ⟨g2, h2⟩ | ⟨g2, h2⟩ | ⟨g2, h2⟩ <;> rw [h1, h2] <;> simp
theorem cmpV_over (k n : Int) (s : List UInt8) (k' n' : Int) (s' : List UInt8) (k2 n2 : Int) (s2 : List UInt8) (h1 : cmpV k n s k' n' s' ≤ 0) (h2 : cmpV k' n' s' k2 n2 s2 ≤ 0) :
    cmpV k n s k2 n2 s2 ≤ 0 ∧ (cmpV k n s k2 n2 s2 = 0 → cmpV k n s k' n' s' = 0 ∧ cmpV k' n' s' k2 n2 s2 = 0) := by
  unfold cmpV orI at *
  rcases cmpI_or k k' with ⟨a1, b1⟩ | ⟨a1, b1⟩ | ⟨a1, b1⟩ <;> rcases cmpI_or k' k2 with ⟨a2, b2⟩ | ⟨a2, b2⟩ | ⟨a2, b2⟩ <;> rw [b1] at h1 ⊢ <;> rw [b2] at h2 ⊢ <;> simp at h1 h2 <;>
    try (rw [cmpI_lt (show k < k2 by omega)]; simp)
  subst a1 a2
  rw [cmpI_eq]
  rcases cmpI_or n n' with ⟨a1, b1⟩ | ⟨a1, b1⟩ | ⟨a1, b1⟩ <;> rcases cmpI_or n' n2 with ⟨a2, b2⟩ | ⟨a2, b2⟩ | ⟨a2, b2⟩ <;> rw [b1] at h1 ⊢ <;> rw [b2] at h2 ⊢ <;> simp at h1 h2 <;>
    try (rw [cmpI_lt (show n < n2 by omega)]; simp)
  subst a1 a2
  rw [cmpI_eq]
  simpa using cmpB_over s s' s2 h1 h2

/-- The document's loop: what is looked at so far is the same. -/
theorem cmpB_end (a b : List UInt8) (i : Nat) (h : i = min a.length b.length) : cmpB (a.drop i) (b.drop i) = cmpI a.length b.length := by
  rcases Nat.lt_trichotomy a.length b.length with g | g | g
  · rw [List.drop_of_length_le (by omega : a.length ≤ i), cmpI_lt (by omega)]
    have : (b.drop i).length ≠ 0 := by rw [List.length_drop]; omega
    cases hb : b.drop i with
    | nil => rw [hb] at this; simp at this
    | cons x r => rfl
  · rw [List.drop_of_length_le (by omega : a.length ≤ i), List.drop_of_length_le (by omega : b.length ≤ i), g, cmpI_eq]; rfl
  · rw [List.drop_of_length_le (by omega : b.length ≤ i), cmpI_gt (by omega)]
    have : (a.drop i).length ≠ 0 := by rw [List.length_drop]; omega
    cases hb : a.drop i with
    | nil => rw [hb] at this; simp at this
    | cons x r => rfl
theorem cmpB_next (a b : List UInt8) (i : Nat) (h1 : i < a.length) (h2 : i < b.length) :
    cmpB (a.drop i) (b.drop i) = if (a.getD i 0).toNat = (b.getD i 0).toNat then cmpB (a.drop (i + 1)) (b.drop (i + 1)) else cmpI (a.getD i 0).toNat (b.getD i 0).toNat := by
  rw [List.drop_eq_getElem_cons h1, List.drop_eq_getElem_cons h2]
  have e1 : a.getD i 0 = a[i] := by simp [List.getD, List.getElem?_eq_getElem h1]
  have e2 : b.getD i 0 = b[i] := by simp [List.getD, List.getElem?_eq_getElem h2]
  rw [e1, e2]
  generalize a[i] = x
  generalize b[i] = y
  unfold cmpB
  rw [Lib.compareBytes]
  have g1 : x < y ↔ x.toNat < y.toNat := UInt8.lt_iff_toNat_lt
  have g2 : y < x ↔ y.toNat < x.toNat := UInt8.lt_iff_toNat_lt
  simp only [g1, g2]
  rcases Nat.lt_trichotomy x.toNat y.toNat with g | g | g
  · rw [if_pos g, if_neg (by omega), cmpI_lt (by omega)]
  · rw [if_neg (by omega), if_neg (by omega), if_pos g]
  · rw [if_neg (by omega), if_pos g, if_neg (by omega), cmpI_gt (by omega)]

/-- Whether a value may be. -/
def mayV (k n : Int) (s : List UInt8) : Bool := if k = 1 then s.isEmpty else if k = 2 then decide (n = 0) && decide (s.length ≤ 65535) else false
end Go.Proofs.Ytjojhoaienjjeaa
/- Words for memory, for elements of one cell of whatever kind: a slice that reads as a list; a slice of the call's own; a block known whole; the laws of append, make, string(b) in these words. A file of lemmas. -/
namespace Go.Proofs.Ytjojhoaienjjeaa
open Go.RowKit
set_option linter.unusedVariables false

/-- A kind of elements: its type, an element as the model's value, the zero element, its bytes. -/
structure Elem (α : Type) where
  E : TypeId
  val : α → Value
  zero : α
  bytes : Nat
  one : ∀ x, (val x).oneCell' = true
  cell : ∀ x, (val x).cells = #[val x]
  small : bytes ≤ 1000

def b8 (b : UInt8) : Value := .int .u8 (b.toNat : Int)
def b64 (b : UInt64) : Value := .int .u64 (b.toNat : Int)
def e8 : Elem UInt8 := ⟨5, b8, 0, 1, fun _ => rfl, fun _ => rfl, by omega⟩
def e64 : Elem UInt64 := ⟨88, b64, 0, 8, fun _ => rfl, fun _ => rfl, by omega⟩

def b16 (b : UInt16) : Value := .int .u16 (b.toNat : Int)

variable {α : Type} (k : Elem α)

/-- The value is a slice that reads as l, in a block from lo on and below hi. -/
def Gs (w : World) (lo hi : Nat) (v : Value) (l : List α) : Prop :=
  ∃ A c, v = .slice A l.length c ∧ (A = none → c = 0) ∧ l.length ≤ c ∧ c ≤ maxLen ∧
    (l ≠ [] → ∃ b off, A = some ⟨b, off, none⟩ ∧ lo ≤ b ∧ b < hi ∧ ∀ j x, l[j]? = some x → w.cell? ⟨b, off + j, none⟩ = some (k.val x))
/-- The value is a slice of the call's own, in a block from base on, with the elements l. -/
def Gw (w : World) (base : Nat) (v : Value) (l : List α) : Prop := w.ownsRow base k.E 1 v l.length (l.map k.val)
/-- Block g is just the cells cs of element type t, none of them frozen. -/
def Row (w : World) (g : Nat) (t : TypeId) (cs : Array Value) : Prop := w.heap[g]? = some (.cells cs t (0, 0))
theorem val_one (l : List α) : ∀ u ∈ l.map k.val, u.oneCell' = true := by
  intro u hu
  obtain ⟨b, _, rfl⟩ := List.mem_map.1 hu
  exact k.one b

section
variable {k} {w w' : World} {lo hi lo' hi' g base : Nat} {v : Value} {l : List α} {t : TypeId} {cs : Array Value}
theorem Gs.keep (h : Gs k w lo hi v l) (hk : ∀ p : Addr, lo ≤ p.block → p.block < hi → w'.cell? p = w.cell? p) : Gs k w' lo hi v l :=
  let ⟨A, c, e, h0, h1, h2, hb⟩ := h
  ⟨A, c, e, h0, h1, h2, fun hl => let ⟨b, off, e, h1, h2, hc⟩ := hb hl; ⟨b, off, e, h1, h2, fun j x hx => (hk _ h1 h2).trans (hc j x hx)⟩⟩
theorem Gs.more (h : Gs k w lo hi v l) (h1 : lo' ≤ lo) (h2 : hi ≤ hi') : Gs k w lo' hi' v l :=
  let ⟨A, c, e, g0, g1, g2, hb⟩ := h
  ⟨A, c, e, g0, g1, g2, fun hl => let ⟨b, off, e, x1, x2, hc⟩ := hb hl; ⟨b, off, e, by omega, by omega, hc⟩⟩
theorem Gs.below (h : Gs k w lo hi v l) (hb : Below hi w w') : Gs k w' lo hi v l := h.keep fun _ _ hp => hb.cell hp
theorem Gs.alloc (h : Gs k w lo hi v l) (hh : hi ≤ w.heap.size) (o : Obj) : Gs k (w.alloc o) lo hi v l := h.keep fun p _ hp => World.cell?_alloc_lt w o p (by omega)
theorem Gs.drewN (h : Gs k w lo hi v l) (n : Nat) : Gs k (w.drewN n) lo hi v l := h
theorem Gs.grown {row : Option Nat} (h : Gs k w lo hi v l) (hg : w.grownBy w' row) (hh : hi ≤ w.heap.size) (hr : ∀ k, row = some k → k < lo ∨ hi ≤ k) : Gs k w' lo hi v l :=
  h.keep fun p h1 h2 => hg.cell_far p (by omega) (fun e => by have := hr p.block e.symm; omega)
theorem Gs.nil_ (w : World) (lo hi : Nat) : Gs k w lo hi (.slice none 0 0) [] := ⟨none, 0, rfl, fun _ => rfl, Nat.le_refl _, Nat.zero_le _, fun h => absurd rfl h⟩
theorem Gs.len (h : Gs k w lo hi v l) : l.length ≤ 9223372036854775807 := by
  obtain ⟨_, _, _, _, h1, h2, _⟩ := h
  unfold maxLen at h2
  omega
/-- Its address is a cell's, where it is not empty. -/
theorem Gs.form (h : Gs k w lo hi v l) (hl : l ≠ []) : ∃ b off c, v = .slice (some ⟨b, off, none⟩) l.length c ∧ l.length ≤ c ∧ c ≤ maxLen ∧ lo ≤ b ∧ b < hi ∧ ∀ j x, l[j]? = some x → w.cell? ⟨b, off + j, none⟩ = some (k.val x) := by
  obtain ⟨A, c, rfl, h0, h1, h2, hb⟩ := h
  obtain ⟨b, off, rfl, x1, x2, hc⟩ := hb hl
  exact ⟨b, off, c, rfl, h1, h2, x1, x2, hc⟩
/-- A cut ahead. -/
theorem Gs.take {A : Option Addr} {c : Nat} (h : Gs k w lo hi (.slice A l.length c) l) {m : Nat} (hm : m ≤ l.length) : Gs k w lo hi (.slice A m c) (l.take m) := by
  obtain ⟨A', c', e, h0, h1, h2, hb⟩ := h
  injection e with e1 e2 e3
  subst e1 e3
  have hl : (l.take m).length = m := by simp; omega
  refine ⟨A, c, by rw [hl], h0, by omega, h2, fun hn => ?_⟩
  obtain ⟨b, off, e, x1, x2, hc⟩ := hb (by rintro rfl; simp at hn)
  refine ⟨b, off, e, x1, x2, fun j x hx => hc j x ?_⟩
  rw [List.getElem?_take] at hx
  split at hx
  · exact hx
  · cases hx

theorem Gw.sl (h : Gw k w base v l) : Gs k w base w.heap.size v l := by
  rcases h.2 with ⟨rfl, hn⟩ | ⟨g, cap, cur, rfl, hb, hg, hn, hm, hs, ht⟩
  · have : l = [] := List.eq_nil_of_length_eq_zero hn
    subst this
    exact Gs.nil_ _ _ _
  · refine ⟨some ⟨g, 0, none⟩, cap, rfl, fun e => (by cases e), hn, hm, fun _ => ⟨g, 0, rfl, hb, (Array.getElem?_eq_some_iff.1 hg).1, fun j x hx => ?_⟩⟩
    have h1 := World.ownsRow.cells h (g := g) rfl j (k.val x) (by rw [List.getElem?_map, hx]; rfl)
    have h2 : (⟨g, 0, none⟩ : Addr).add j = ⟨g, 0 + j, none⟩ := by unfold Addr.add; split <;> simp_all
    rw [← h2]; exact h1
theorem Gw.below (h : Gw k w base v l) {B : Nat} (hb : Below B w w') (hB : w.heap.size ≤ B) : Gw k w' base v l :=
  World.ownsRow.kept (row := none) h ⟨hb.os, hb.tape, hb.output, hb.size, fun k hk _ => hb.block k (by omega)⟩ (by cases hv : v.ownBlock <;> simp)
theorem Gw.kept {row : Option Nat} (h : Gw k w base v l) (hg : w.grownBy w' row) (hne : ∀ k, v.ownBlock = some k → row ≠ some k) : Gw k w' base v l := by
  refine World.ownsRow.kept h hg ?_
  cases hv : v.ownBlock with
  | none => exact .inl rfl
  | some k => exact .inr (fun e => hne k hv e.symm)
theorem Gw.alloc (h : Gw k w base v l) (o : Obj) : Gw k (w.alloc o) base v l := World.ownsRow.alloc h o
theorem Gw.drew (h : Gw k w base v l) : Gw k w.drew base v l := h
theorem Gw.drewN (h : Gw k w base v l) (n : Nat) : Gw k (w.drewN n) base v l := h
theorem Gw.lt (h : Gw k w base v l) : ∀ k, v.ownBlock = some k → base ≤ k ∧ k < w.heap.size := World.ownsRow.lt h
theorem Gw.more (h : Gw k w base v l) {base' : Nat} (hb : base' ≤ base) : Gw k w base' v l := by
  refine ⟨h.1, ?_⟩
  rcases h.2 with hn | ⟨g, cap, cur, hv, hg, r⟩
  · exact .inl hn
  · exact .inr ⟨g, cap, cur, hv, by omega, r⟩
theorem Gw.form (h : Gw k w base v l) (hl : l ≠ []) :
    ∃ b c, v = .slice (some ⟨b, 0, none⟩) l.length c ∧ l.length ≤ c ∧ c ≤ maxLen ∧ base ≤ b ∧ b < w.heap.size ∧ (∀ j x, l[j]? = some x → w.cell? ⟨b, j, none⟩ = some (k.val x)) ∧ ∀ j, w.frozen? ⟨b, j, none⟩ = false := by
  rcases h.2 with ⟨rfl, hn⟩ | ⟨g, cap, cur, rfl, hb, hg, hn, hm, hs, ht⟩
  · exact absurd (List.eq_nil_of_length_eq_zero hn) hl
  · refine ⟨g, cap, rfl, hn, hm, hb, (Array.getElem?_eq_some_iff.1 hg).1, fun j x hx => ?_, fun j => ?_⟩
    · have h1 := World.ownsRow.cells h (g := g) rfl j (k.val x) (by rw [List.getElem?_map, hx]; rfl)
      have h2 : (⟨g, 0, none⟩ : Addr).add j = ⟨g, j, none⟩ := by unfold Addr.add; split <;> simp_all
      rw [← h2]; exact h1
    · exact World.ownsRow.frozenAt h j
theorem Gw.nil_ (w : World) (base : Nat) : Gw k w base (.slice none 0 0) [] := World.ownsRow_nil w base _ _
theorem Gw.empty_ (w : World) (base : Nat) (h : base ≤ w.heap.size) : Gw k (w.alloc (.cells #[] k.E)) base (.slice (some ⟨w.heap.size, 0, none⟩) 0 0) [] :=
  World.ownsRow_lit w #[] 0 h (Nat.zero_le _) rfl
theorem Gw.lit (w : World) (base : Nat) (h : base ≤ w.heap.size) (l : List α) (cs : Array Value) (n : Nat) (hcs : cs = (l.map k.val).toArray) (hn : l.length = n) (hs : n ≤ 1000) :
    Gw k (w.alloc (.cells cs k.E)) base (.slice (some ⟨w.heap.size, 0, none⟩) n n) l := by
  subst hcs hn
  have := World.ownsRow_lit (base := base) (size := 1) (e := k.E) w (l.map k.val).toArray l.length h (by unfold maxLen; omega) (by simp)
  simpa [Gw] using this
theorem Gw.stored {b c n : Nat} (h : Gw k w base (.slice (some ⟨b, 0, none⟩) n c) l) (j : Nat) (y : α) :
    Gw k (w.setCell ⟨b, j, none⟩ (k.val y)) base (.slice (some ⟨b, 0, none⟩) n c) (l.set j y) := by
  have hn : n = l.length := by
    rcases h.2 with ⟨e, _⟩ | ⟨g, cap, cur, e, _⟩
    · cases e
    · injection e
  subst hn
  have h1 := (World.ownsRow.stored h j (k.val y)).1
  unfold Gw
  rw [List.map_set, List.length_set]
  exact h1
theorem grown_set (w : World) (g i : Nat) (u : Value) : w.grownBy (w.setCell ⟨g, i, none⟩ u) (some g) :=
  ⟨rfl, rfl, rfl, by simp [World.setCell], fun k hk hne => Below.heap_setCell w _ u k (fun e => hne (by rw [e]))⟩

theorem Row.lt (h : Row w g t cs) : g < w.heap.size := (Array.getElem?_eq_some_iff.1 h).1
theorem Row.cell (h : Row w g t cs) (i : Nat) : w.cell? ⟨g, i, none⟩ = cs[i]? := cell_of_row w g i cs t (0, 0) h
theorem Row.frozen (h : Row w g t cs) (i : Nat) : w.frozen? ⟨g, i, none⟩ = false := by
  unfold Row at h
  simp [World.frozen?, h]
theorem Row.keep (h : Row w g t cs) (hk : w'.heap[g]? = w.heap[g]?) : Row w' g t cs := hk.trans h
theorem Row.alloc (h : Row w g t cs) (o : Obj) : Row (w.alloc o) g t cs := h.keep (Below.heap_alloc w o g h.lt)
theorem Row.new (w : World) (t : TypeId) (cs : Array Value) : Row (w.alloc (.cells cs t)) w.heap.size t cs := heap_alloc_new w _
theorem Row.below {B : Nat} (h : Row w g t cs) (hb : Below B w w') (hg : g < B) : Row w' g t cs := h.keep (hb.block g hg)
theorem Row.grown {row : Option Nat} (h : Row w g t cs) (hb : w.grownBy w' row) (hg : row ≠ some g) : Row w' g t cs := h.keep (hb.block g h.lt (fun e => hg e.symm))
theorem Row.set_ (h : Row w g t cs) (i : Nat) (u : Value) : Row (w.setCell ⟨g, i, none⟩ u) g t (cs.setIfInBounds i u) := by
  unfold Row at h ⊢
  simp [World.setCell, Array.getElem?_modify, h]
end

/-- append onto a slice of the call's own, from whatever slice: the run. -/
theorem run_gapp {P : Program} (w : World) (t ty : TypeId) (base : Nat) (ht : P.underlying t = some (.slice k.E))
    (hinf : (P.info? k.E).map (fun i => (i.zero, i.size, i.bytes)) = some (some (k.val k.zero), 1, k.bytes))
    (v : Value) (l : List α) (hown : Gw k w base v l) (lo hi : Nat) (u : Value) (m : List α) (hu : Gs k w lo hi u m) (hb : l.length + m.length ≤ 1000000000) (hbase : base ≤ w.heap.size) :
    ∃ v' w', (Builtin.append_ #[t, t] ty #[v, u]).run P w = .ok v' w' ∧ Gw k w' base v' (l ++ m) ∧ w.grownBy w' v.ownBlock ∧ (v'.ownBlock = v.ownBlock ∨ v'.ownBlock = some w.heap.size) := by
  obtain ⟨i, hi1, hz, hsz, hby⟩ := info_parts hinf
  obtain ⟨A, c, rfl, hc0, hlc, hcm, hbt⟩ := hu
  cases A with
  | none =>
    obtain rfl := hc0 rfl
    have hm : m = [] := List.eq_nil_of_length_eq_zero (by omega)
    subst hm
    exact ⟨v, w, run_append_owned_none (P := P) w base t ty k.E i 1 ht hi1 v _ _ hown, by simpa using hown, World.grownBy.refl w _, .inl rfl⟩
  | some ad =>
    have hs := k.small
    have hbb : (l.length + m.length) * k.bytes ≤ 1000000000 * 1000 := Nat.mul_le_mul hb hs
    obtain ⟨v', w', hrun, h2, h3, _, h5⟩ := run_append_own_at (P := P) w base t ty k.E i (k.val k.zero) 1 k.bytes ht hi1 hz hsz hby (by rw [k.cell]; rfl) (by decide) v l.length (l.map k.val) hown ad m.length c (m.map k.val) (by simp)
      (fun j y hy => by
        have hj : j < m.length := by simpa using (List.getElem?_eq_some_iff.1 hy).1
        obtain ⟨b, off, e, _, _, hcell⟩ := hbt (by rintro rfl; simp at hj)
        injection e with e
        subst e
        have h2 : (⟨b, off, none⟩ : Addr).add j = ⟨b, off + j, none⟩ := by unfold Addr.add; split <;> simp_all
        rw [h2, hcell j _ (List.getElem?_eq_getElem hj)]
        rw [List.getElem?_map, List.getElem?_eq_getElem hj] at hy
        exact hy)
      (val_one k m) (by unfold maxLen; omega) (by omega) hbase
    refine ⟨v', w', hrun, ?_, h3, h5⟩
    unfold Gw
    simpa using h2
theorem wpList_gapp {P : Program} (w : World) {ops : Array Oper} {rest : List Oper} {o : Oper} {a : Act} {Q : Exit → Act → World → Prop} (hgd : o.guard = none) (s x : Operand) (t : TypeId)
    (ho : o.op = .call { callee := .builtin .append, args := #[s, x], argTypes := #[t, t] }) (base : Nat) (ht : P.underlying t = some (.slice k.E))
    (hinf : (P.info? k.E).map (fun i => (i.zero, i.size, i.bytes)) = some (some (k.val k.zero), 1, k.bytes))
    (v : Value) (l : List α) (hs : a.eval s = v) (hown : Gw k w base v l)
    (lo hi : Nat) (u : Value) (m : List α) (hx : a.eval x = u) (hu : Gs k w lo hi u m)
    (hb : l.length + m.length ≤ 1000000000) (hbase : base ≤ w.heap.size)
    (h : ∀ v' w', Gw k w' base v' (l ++ m) → w.grownBy w' v.ownBlock → (v'.ownBlock = v.ownBlock ∨ v'.ownBlock = some w.heap.size) → wpList P ops Q rest (a.put o.dst v') w') :
    wpList P ops Q (o :: rest) a w := by
  obtain ⟨v', w', hrun, h2, h3, h5⟩ := run_gapp k (P := P) w t o.type base ht hinf v l hown lo hi u m hu hb hbase
  refine wpList_plain hgd fun K hK => ?_
  unfold Oper.wp execOp
  simp only [ho, resolve, invoke, builtin, Sem.run_bind, Sem.run_pure, Result.andThen_ok, List.map_toArray, List.map_cons, List.map_nil, hs, hx, hrun]
  exact hK _ _ (h v' w' h2 h3 h5)
theorem wp_gapp {P : Program} (w : World) {o : Oper} {a : Act} {K : Act → World → Prop} {Q : Exit → Act → World → Prop} (s x : Operand) (t : TypeId)
    (ho : o.op = .call { callee := .builtin .append, args := #[s, x], argTypes := #[t, t] }) (base : Nat) (ht : P.underlying t = some (.slice k.E))
    (hinf : (P.info? k.E).map (fun i => (i.zero, i.size, i.bytes)) = some (some (k.val k.zero), 1, k.bytes))
    (v : Value) (l : List α) (hs : a.eval s = v) (hown : Gw k w base v l) (lo hi : Nat) (u : Value) (m : List α) (hx : a.eval x = u) (hu : Gs k w lo hi u m)
    (hb : l.length + m.length ≤ 1000000000) (hbase : base ≤ w.heap.size)
    (h : ∀ v' w', Gw k w' base v' (l ++ m) → w.grownBy w' v.ownBlock → K (a.put o.dst v') w') : o.wp P a w K Q := by
  obtain ⟨v', w', hrun, h2, h3, h5⟩ := run_gapp k (P := P) w t o.type base ht hinf v l hown lo hi u m hu hb hbase
  unfold Oper.wp execOp
  simp only [ho, resolve, invoke, builtin, Sem.run_bind, Sem.run_pure, Result.andThen_ok, List.map_toArray, List.map_cons, List.map_nil, hs, hx, hrun]
  exact h v' w' h2 h3
/-- append of one element, which lies in the block that has just been made for it. -/
theorem wpList_gapp1 {P : Program} (w : World) {ops : Array Oper} {rest : List Oper} {o : Oper} {a : Act} {Q : Exit → Act → World → Prop} (hgd : o.guard = none) (s x : Operand) (t : TypeId)
    (ho : o.op = .call { callee := .builtin .append, args := #[s, x], argTypes := #[t, t] }) (base : Nat) (ht : P.underlying t = some (.slice k.E))
    (hinf : (P.info? k.E).map (fun i => (i.zero, i.size, i.bytes)) = some (some (k.val k.zero), 1, k.bytes))
    (v : Value) (l : List α) (hs : a.eval s = v) (hown : Gw k w base v l)
    (X : Value) (b : α) (hX : X = k.val b) (hx : a.eval x = .slice (some ⟨w.heap.size, 0, none⟩) 1 1)
    (hb : l.length + 1 ≤ 1000000000) (hbase : base ≤ w.heap.size)
    (h : ∀ v' w', Gw k w' base v' (l ++ [b]) → w.grownBy w' v.ownBlock → (v'.ownBlock = v.ownBlock ∨ v'.ownBlock = some (w.heap.size + 1)) → wpList P ops Q rest (a.put o.dst v') w') :
    wpList P ops Q (o :: rest) a (w.alloc (.cells #[X] k.E)) := by
  subst hX
  refine wpList_gapp k (w.alloc (.cells #[k.val b] k.E)) hgd s x t ho base ht hinf v l hs (hown.alloc _) w.heap.size (w.heap.size + 1) _ [b] hx
    ⟨some ⟨w.heap.size, 0, none⟩, 1, rfl, fun e => (by cases e), by simp, by unfold maxLen; omega, fun _ => ⟨w.heap.size, 0, rfl, Nat.le_refl _, by omega, fun j y hj => ?_⟩⟩ (by simpa using hb) (by simp; omega) ?_
  · match j, hj with
    | 0, hj =>
      simp at hj
      subst hj
      simp
  · intro v' w' h1 h2 h3
    refine h v' w' h1 ⟨h2.os, h2.tape, h2.output, Nat.le_trans (by simp) h2.size, fun k hk hne => (h2.block k (by simp; omega) hne).trans (Below.heap_alloc w _ k hk)⟩ (by simpa using h3)
/-- make of n zero elements. -/
theorem wpList_gfull {P : Program} (w : World) {ops : Array Oper} {rest : List Oper} {o : Oper} {a : Act} {Q : Exit → Act → World → Prop} (hgd : o.guard = none) (x c : Operand) (t : TypeId) (ho : o.op = Op.makeSlice t x c)
    (ht : P.underlying t = some (.slice k.E)) (hinf : (P.info? k.E).map (fun i => (i.zero, i.size, i.bytes)) = some (some (k.val k.zero), 1, k.bytes))
    (kl kc : IntKind) (L C : Int) (n : Nat) (hx : a.eval x = .int kl L) (hc : a.eval c = .int kc C) (hL : L = (n : Int)) (hC : C = (n : Int)) (hn : n ≤ 1000000000)
    (h : ∀ w', Gw k w' w.heap.size (.slice (some ⟨w.heap.size, 0, none⟩) n n) (List.replicate n k.zero) → w.grownBy w' none → wpList P ops Q rest (a.put o.dst (.slice (some ⟨w.heap.size, 0, none⟩) n n)) w') : wpList P ops Q (o :: rest) a w := by
  obtain ⟨i, hi, hz, hsz, hby⟩ := info_parts hinf
  have hs := k.small
  have hbb : k.bytes * n ≤ 1000 * 1000000000 := Nat.mul_le_mul hs hn
  refine wpList_make_full w hgd x c t ho w.heap.size k.E i (k.val k.zero) 1 ht hi hz hsz kl kc L C n hx hc hL hC (by rw [hby]; omega) (by unfold maxLen; omega) (Nat.le_refl _) fun w' h1 h2 => h w' ?_ h2
  rw [k.cell, Nat.mul_one, toList_madeCells_one] at h1
  unfold Gw
  rw [List.length_replicate, List.map_replicate]
  exact h1

theorem below_of_grown {w w' : World} {row : Option Nat} (hg : w.grownBy w' row) (hr : ∀ k, row = some k → w.heap.size ≤ k) : Below w.heap.size w w' :=
  ⟨hg.os, hg.tape, hg.output, hg.size, fun k hk => hg.block k hk (fun e => by have := hr k e.symm; omega)⟩
theorem grown_of_below {w W : World} (h : Below w.heap.size w W) : w.grownBy W none := ⟨h.os, h.tape, h.output, h.size, fun k hk _ => h.block k hk⟩
theorem grown_drewN {w w' : World} {row : Option Nat} (h : w.grownBy w' row) (n : Nat) : w.grownBy (w'.drewN n) row := ⟨h.os, h.tape, h.output, h.size, h.block⟩
theorem below_drewN {w w' : World} {B : Nat} (h : Below B w w') (n : Nat) : Below B w (w'.drewN n) := ⟨h.os, h.tape, h.output, h.size, h.block⟩

/-- 'string(b)'. -/
theorem run_str {P : Program} (w : World) (src dst e : TypeId) (hs : P.underlying src = some (.slice e)) (he : P.underlying e = some (.int .u8)) (hd : P.underlying dst = some .string)
    {lo hi : Nat} {v : Value} {l : List UInt8} (h : Gs e8 w lo hi v l) : (convert src dst v).run P w = .ok (.string ⟨l.toArray⟩) w := by
  obtain ⟨A, c, rfl, hc0, hlc, hcm, hbt⟩ := h
  by_cases hl : l = []
  · subst hl
    rw [run_convert_bytes_string w src dst e _ _ c hs he hd]
    cases A <;> simp [Conv.bytesToString, loadCells]
    all_goals rfl
  · obtain ⟨b, off, rfl, _, _, hcell⟩ := hbt hl
    refine run_convert_bytes_back w src dst e _ c l hs he hd fun j hj => ?_
    have h2 : (⟨b, off, none⟩ : Addr).add j = ⟨b, off + j, none⟩ := by unfold Addr.add; split <;> simp_all
    rw [h2, hcell j _ (List.getElem?_eq_getElem hj)]
    rfl

theorem inf8 : (Try.prog.info? e8.E).map (fun i => (i.zero, i.size, i.bytes)) = some (some (e8.val e8.zero), 1, e8.bytes) := by kernel_rfl
theorem inf64 : (Try.prog.info? e64.E).map (fun i => (i.zero, i.size, i.bytes)) = some (some (e64.val e64.zero), 1, e64.bytes) := by kernel_rfl
theorem sli8 : Try.prog.underlying 52 = some (.slice e8.E) := Try.underlying52
theorem str8 {w : World} {lo hi : Nat} {v : Value} {l : List UInt8} (h : Gs e8 w lo hi v l) : (convert 52 9 v).run Try.prog w = .ok (.string ⟨l.toArray⟩) w :=  run_str w 52 9 5 Try.underlying52 Try.underlying5 Try.underlying9 h

/-- A slice of integers that came in: it is nil; or it leads to a row of cap cells, the numbers zs, of which the first len are its elements. -/
def IsRow (k : IntKind) (w : World) (a : Option Addr) (len cap : Nat) (zs : List Int) : Prop :=
  (a = none ∧ len = 0 ∧ cap = 0 ∧ zs = []) ∨
  ∃ x, a = some x ∧ len ≤ cap ∧ cap ≤ maxLen ∧ zs.length = cap ∧ (∀ i, i < zs.length → w.cell? (x.add i) = some (.int k (zs.getD i 0))) ∧ ∀ n ∈ zs, (Lit.int k n).wf = true
theorem gs_of_row {α : Type} (k : Elem α) (kd : IntKind) (f : Int → α) (hf : ∀ n, (Lit.int kd n).wf = true → k.val (f n) = .int kd n) {w : World} {a : Option Addr} {len cap : Nat} {zs : List Int} (h : IsRow kd w a len cap zs) :
    ∃ l : List α, l.length = len ∧ Gs k w 0 w.heap.size (.slice a len cap) l := by
  rcases h with ⟨rfl, rfl, rfl, rfl⟩ | ⟨x, rfl, hl, hm, hz, hc, hw⟩
  · exact ⟨[], rfl, Gs.nil_ _ _ _⟩
  · have hlen : ((zs.take len).map f).length = len := by simp; omega
    refine ⟨(zs.take len).map f, hlen, some x, cap, by rw [hlen], fun e => (by cases e), by rw [hlen]; exact hl, hm, fun hne => ?_⟩
    have h0 : 0 < len := by
      rcases Nat.eq_zero_or_pos len with h | h
      · subst h; simp at hne
      · exact h
    obtain ⟨b, off, spot⟩ := x
    have hc0 := hc 0 (by omega)
    have hspot : spot = none := by simpa [Addr.add] using World.cell?_spot hc0
    subst hspot
    have hb : b < w.heap.size := by
      have := World.block_lt_of_cell? w _ hc0
      simpa [Addr.add] using this
    refine ⟨b, off, rfl, Nat.zero_le _, hb, fun j y hy => ?_⟩
    have hj : j < len := by
      have := (List.getElem?_eq_some_iff.1 hy).1
      simp at this
      omega
    have h1 := hc j (by omega)
    have h2 : (⟨b, off, none⟩ : Addr).add j = ⟨b, off + j, none⟩ := by unfold Addr.add; split <;> simp_all
    rw [h2] at h1
    rw [h1]
    have hjz : j < zs.length := by omega
    rw [List.getElem?_map, List.getElem?_take, if_pos hj, List.getElem?_eq_getElem hjz] at hy
    simp at hy
    subst hy
    rw [hf _ (hw zs[j] (List.getElem_mem hjz))]
    simp [List.getD, List.getElem?_eq_getElem hjz]
theorem gs8_of_row {w : World} {a : Option Addr} {len cap : Nat} {zs : List Int} (h : IsRow .u8 w a len cap zs) : ∃ l : List UInt8, l.length = len ∧ Gs e8 w 0 w.heap.size (.slice a len cap) l :=
  gs_of_row e8 .u8 (fun n => UInt8.ofNat n.toNat) (fun n hwf => by
    simp [Lit.wf, IntKind.min, IntKind.max, IntKind.bits, IntKind.signed] at hwf
    simp only [e8, b8, UInt8.toNat_ofNat']
    congr 1
    omega) h
theorem gs64_of_row {w : World} {a : Option Addr} {len cap : Nat} {zs : List Int} (h : IsRow .u64 w a len cap zs) : ∃ l : List UInt64, l.length = len ∧ Gs e64 w 0 w.heap.size (.slice a len cap) l := gs_of_row e64 .u64 (fun n => UInt64.ofNat n.toNat) (fun n hwf => by simp [Lit.wf, IntKind.min, IntKind.max, IntKind.bits, IntKind.signed] at hwf; simp only [e64, b64, UInt64.toNat_ofNat']; congr 1; omega) h
theorem row_len {k : IntKind} {w : World} {a : Option Addr} {len cap : Nat} {zs : List Int} (h : IsRow k w a len cap zs) : len ≤ 9223372036854775807 := by
  rcases h with ⟨_, rfl, _⟩ | ⟨x, _, h1, h2, _⟩
  · omega
  · unfold maxLen at h2; omega
end Go.Proofs.Ytjojhoaienjjeaa
/- Walks: which of two comes first: cmp.Compare, cmp.Or, strings.Compare, values.Compare; values.May, Int, Text. -/
namespace Go.Proofs.Ytjojhoaienjjeaa
open Go.RowKit
set_option linter.unusedVariables false

set_option maxHeartbeats 400000 in
theorem isNaN8_any (x : Int) (w : World) : Calls Try.prog 62 #[.int .u8 x] w fun e w' => e = .returned (.bool false) ∧ w = w' := by
  have hb : (x != x) = false := by simp
  go_enter Try.func62, Try.ntmps62
  go_wp2
  go_ret
  exact ⟨rfl, rfl⟩
set_option maxHeartbeats 400000 in
theorem isNaN64_any (x : Int) (w : World) : Calls Try.prog 63 #[.int .i64 x] w fun e w' => e = .returned (.bool false) ∧ w = w' := by
  have hb : (x != x) = false := by simp
  go_enter Try.func63, Try.ntmps63
  go_wp2
  go_ret
  exact ⟨rfl, rfl⟩
set_option maxHeartbeats 400000 in
theorem cmp8_any (x y : Int) (w : World) : Calls Try.prog 43 #[.int .u8 x, .int .u8 y] w fun e w' => e = .returned (.int .i64 (cmpI x y)) ∧ w = w' := by
  rcases cmpI_or x y with ⟨h, e⟩ | ⟨h, e⟩ | ⟨h, e⟩
  all_goals
    rw [e]
    have h1 : decide (x < y) = (if x < y then true else false) := by by_cases g : x < y <;> simp [g]
    have h2 : decide (y < x) = (if y < x then true else false) := by by_cases g : y < x <;> simp [g]
  · rw [if_pos h] at h1
    rw [if_neg (by omega)] at h2
    clear h
    go_enter Try.func43, Try.ntmps43
    go_wp2_with (go_at_call 62; refine (isNaN8_any _ _).mono ?_; rintro e w1 ⟨rfl, rfl⟩)
    go_ret
    exact ⟨rfl, rfl⟩
  · rw [if_neg (by omega)] at h1
    rw [if_neg (by omega)] at h2
    clear h
    go_enter Try.func43, Try.ntmps43
    go_wp2_with (go_at_call 62; refine (isNaN8_any _ _).mono ?_; rintro e w1 ⟨rfl, rfl⟩)
    go_ret
    exact ⟨rfl, rfl⟩
  · rw [if_neg (by omega)] at h1
    rw [if_pos h] at h2
    clear h
    go_enter Try.func43, Try.ntmps43
    go_wp2_with (go_at_call 62; refine (isNaN8_any _ _).mono ?_; rintro e w1 ⟨rfl, rfl⟩)
    go_ret
    exact ⟨rfl, rfl⟩
set_option maxHeartbeats 400000 in
theorem cmp64_any (x y : Int) (w : World) : Calls Try.prog 44 #[.int .i64 x, .int .i64 y] w fun e w' => e = .returned (.int .i64 (cmpI x y)) ∧ w = w' := by
  rcases cmpI_or x y with ⟨h, e⟩ | ⟨h, e⟩ | ⟨h, e⟩
  all_goals
    rw [e]
    have h1 : decide (x < y) = (if x < y then true else false) := by by_cases g : x < y <;> simp [g]
    have h2 : decide (y < x) = (if y < x then true else false) := by by_cases g : y < x <;> simp [g]
  · rw [if_pos h] at h1
    rw [if_neg (by omega)] at h2
    clear h
    go_enter Try.func44, Try.ntmps44
    go_wp2_with (go_at_call 63; refine (isNaN64_any _ _).mono ?_; rintro e w1 ⟨rfl, rfl⟩)
    go_ret
    exact ⟨rfl, rfl⟩
  · rw [if_neg (by omega)] at h1
    rw [if_neg (by omega)] at h2
    clear h
    go_enter Try.func44, Try.ntmps44
    go_wp2_with (go_at_call 63; refine (isNaN64_any _ _).mono ?_; rintro e w1 ⟨rfl, rfl⟩)
    go_ret
    exact ⟨rfl, rfl⟩
  · rw [if_neg (by omega)] at h1
    rw [if_pos h] at h2
    clear h
    go_enter Try.func44, Try.ntmps44
    go_wp2_with (go_at_call 63; refine (isNaN64_any _ _).mono ?_; rintro e w1 ⟨rfl, rfl⟩)
    go_ret
    exact ⟨rfl, rfl⟩
set_option maxHeartbeats 1000000 in
set_option maxRecDepth 100000 in
theorem compareString_any (a b : ByteArray) (w : World) :
    Calls Try.prog 64 #[.string a, .string b] w fun e w' => e = .returned (.int .i64 (cmpB a.data.toList b.data.toList)) ∧ w = w' := by
  go_enter Try.func64, Try.ntmps64
  go_wp2
  rw [run_callFunc_extern Try.func76 (by kernel_rfl) (by kernel_rfl) (by kernel_rfl) (e := Extern.BytealgCompare.compare) (by kernel_rfl), Lib.run_compareString]
  simp only [Result.andThen]
  rw [Oper.upon_value]
  go_wp2
  go_ret
  exact ⟨rfl, rfl⟩
set_option maxHeartbeats 400000 in
theorem compareS_any (a b : ByteArray) (w : World) :
    Calls Try.prog 45 #[.string a, .string b] w fun e w' => e = .returned (.int .i64 (cmpB a.data.toList b.data.toList)) ∧ w = w' := by
  go_enter Try.func45, Try.ntmps45
  go_wp2_with (go_at_call 64; refine (compareString_any _ _ _).mono ?_; rintro e w1 ⟨rfl, rfl⟩)
  go_ret
  exact ⟨rfl, rfl⟩

set_option maxHeartbeats 1000000 in
theorem or_any (g : Nat) (a b c : Int) (w : World) (h0 : w.cell? ⟨g, 0, none⟩ = some (.int .i64 a)) (h1 : w.cell? ⟨g, 1, none⟩ = some (.int .i64 b)) (h2 : w.cell? ⟨g, 2, none⟩ = some (.int .i64 c)) :
    Calls Try.prog 42 #[.slice (some ⟨g, 0, none⟩) 3 3] w fun e w' => e = .returned (.int .i64 (orI a b c)) ∧ w = w' := by
  go_enter Try.func42, Try.ntmps42
  go_wp2
  go_loopw [8] (fun i wr => wr = w ∧ (i = .int .i64 0 ∨ (i = .int .i64 1 ∧ a = 0) ∨ (i = .int .i64 2 ∧ a = 0 ∧ b = 0) ∨ (i = .int .i64 3 ∧ a = 0 ∧ b = 0 ∧ c = 0))) (fun i _ => (3 - intOf i).toNat)
  case atStart => exact ⟨rfl, .inl rfl⟩
  case round =>
    obtain ⟨rfl, rfl | ⟨rfl, ha⟩ | ⟨rfl, ha, hb⟩ | ⟨rfl, ha, hb, hc⟩⟩ := hrel
    · by_cases h : a = 0
      · have hz : (a != 0) = false := by simp [h]
        go_wp2
        go_roundw
        case rel => exact ⟨by trivial, .inr (.inl ⟨rfl, h⟩)⟩
        case measure => simp [intOf]
      · have hz : (a != 0) = true := by simp [h]
        go_wp2
        go_ret
        exact ⟨by rw [orI, if_pos h]; rfl, rfl⟩
    · by_cases h : b = 0
      · have hz : (b != 0) = false := by simp [h]
        go_wp2
        go_roundw
        case rel => exact ⟨by trivial, .inr (.inr (.inl ⟨rfl, ha, h⟩))⟩
        case measure => simp [intOf]
      · have hz : (b != 0) = true := by simp [h]
        go_wp2
        go_ret
        exact ⟨by rw [orI, if_neg (by simpa using ha), if_pos h]; rfl, rfl⟩
    · by_cases h : c = 0
      · have hz : (c != 0) = false := by simp [h]
        go_wp2
        go_roundw
        case rel => exact ⟨by trivial, .inr (.inr (.inr ⟨rfl, ha, hb, h⟩))⟩
        case measure => simp [intOf]
      · have hz : (c != 0) = true := by simp [h]
        go_wp2
        go_ret
        exact ⟨by rw [orI, if_neg (by simpa using ha), if_neg (by simpa using hb)]; rfl, rfl⟩
    · go_wp2
      go_ret
      exact ⟨by rw [orI, if_neg (by simpa using ha), if_neg (by simpa using hb), hc]; rfl, rfl⟩


/-- A value as the model has it. -/
abbrev vV (k n : Int) (s : ByteArray) : Value := .agg #[.int .u8 k, .int .i64 n, .string s]
abbrev bls (s : ByteArray) : List UInt8 := s.data.toList
theorem bls_len (s : ByteArray) : (bls s).length = s.size := Array.length_toList
end Go.Proofs.Ytjojhoaienjjeaa
/- What each row's proof asks of the program. -/
namespace Go.Proofs.Ytjojhoaienjjeaa
theorem own_knob : ownKnob Try.prog.godebug = none := by kernel_rfl
theorem laid_out : laidOutB Try.prog = true := by kernel_rfl
end Go.Proofs.Ytjojhoaienjjeaa
/- Arguments: a value, bytes, values. -/
namespace Go.Proofs.Ytjojhoaienjjeaa
open Go.ChangeShapes Go.WideShapes Go.ChangeAt Go.RowKit
open Go.ChangeMaps (open_string shut_string)
set_option linter.unusedVariables false

set_option maxRecDepth 100000 in
theorem val_cells {H : Type} {enc : TypeId × Value → H} {w : World} {fuel : Nat} {cs : List Value} {x : DataW H × List MemPlace} {hh : Bool}
    (h : DataW.trod enc Try.prog w 0 (fun _ => true) hh fuel 38 cs = some x) :
    ∃ (k n : Int) (s : ByteArray), cs = [.int .u8 k, .int .i64 n, .string s] ∧ (Lit.int .u8 k).wf = true ∧ (Lit.int .i64 n).wf = true ∧ s.size ≤ maxLen := by
  obtain ⟨xs, m, rfl, rfl, hl, hlen, hf⟩ := DataW.trod_struct Try.underlying38 h
  have hl3 : cs.length = 3 := by rw [hl]; kernel_rfl
  match cs, hl3 with
  | [c0, c1, c2], _ =>
    match xs, hlen with
    | [x0, x1, x2], _ =>
      have h0 : DataW.trod enc Try.prog w 0 (fun _ => true) hh m 5 (([c0, c1, c2].drop 0).take (Try.prog.cellsOf 5)) = some x0 := hf 0 _ rfl
      have h1 : DataW.trod enc Try.prog w 0 (fun _ => true) hh m 2 (([c0, c1, c2].drop 1).take (Try.prog.cellsOf 2)) = some x1 := hf 1 _ rfl
      have h2 : DataW.trod enc Try.prog w 0 (fun _ => true) hh m 9 (([c0, c1, c2].drop 2).take (Try.prog.cellsOf 9)) = some x2 := hf 2 _ rfl
      have e8 : Try.prog.cellsOf 5 = 1 := by kernel_rfl
      have e64 : Try.prog.cellsOf 2 = 1 := by kernel_rfl
      have eS : Try.prog.cellsOf 9 = 1 := by kernel_rfl
      rw [e8] at h0
      rw [e64] at h1
      rw [eS] at h2
      obtain ⟨k, ek, -, wk⟩ := DataW.trod_int Try.underlying5 h0
      obtain ⟨n, en, -, wn⟩ := DataW.trod_int Try.underlying2 h1
      obtain ⟨s, es, -, ws⟩ := DataW.trod_string Try.underlying9 h2
      simp at ek en es
      exact ⟨k, n, s, by rw [ek, en, es], wk, wn, ws⟩
set_option maxRecDepth 100000 in
theorem open_val {H : Type} {enc : TypeId × Value → H} {w : World} {r : Reach} {b0 : Nat} {v : Value} {d : DataW H} {ps : List MemPlace} {hh : Bool} (hval : Value.okWide Try.prog w r b0 38 v)
    (h : DataW.Trod enc Try.prog w 0 (fun _ => true) hh 38 v d ps) :
    ∃ (k n : Int) (s : ByteArray), v = vV k n s ∧ (Lit.int .u8 k).wf = true ∧ (Lit.int .i64 n).wf = true ∧ s.size ≤ maxLen := by
  obtain ⟨cs, rfl, hsz⟩ := okWide_struct Try.underlying38 hval
  obtain ⟨fuel, hf⟩ := h
  obtain ⟨k, n, s, e, wk, wn, ws⟩ := val_cells hf
  simp [Value.cells] at e
  refine ⟨k, n, s, ?_, wk, wn, ws⟩
  unfold vV
  congr 1
  apply Array.toList_inj.1
  rw [e]
theorem bytes_arg {H : Type} {enc : TypeId × Value → H} {w : World} {a : Option Addr} {len cap : Nat} {d : DataW H} {ps : List MemPlace}
    (h : DataW.Trod enc Try.prog w 0 (fun _ => true) true 52 (.slice a len cap) d ps) : ∃ l : List UInt8, l.length = len ∧ Gs e8 w 0 w.heap.size (.slice a len cap) l := by
  obtain ⟨fuel, hf⟩ := h
  have key : ∃ zs, IsRow .u8 w a len cap zs := by
    rcases open_ints Try.underlying52 Try.underlying5 (by kernel_rfl) hf with ⟨hcs, _⟩ | ⟨x, l, c, zs, hcs, _, hl, hm, hz, _, hcell, hwz⟩
    · simp [Value.cells] at hcs
      obtain ⟨rfl, rfl, rfl⟩ := hcs
      exact ⟨[], .inl ⟨rfl, rfl, rfl, rfl⟩⟩
    · simp [Value.cells] at hcs
      obtain ⟨rfl, rfl, rfl⟩ := hcs
      exact ⟨zs, .inr ⟨_, rfl, hl, hm, by simpa using hz, hcell, hwz⟩⟩
  obtain ⟨zs, hz⟩ := key
  exact gs8_of_row hz
end Go.Proofs.Ytjojhoaienjjeaa
/- Words for memory, for elements of n cells (a struct of n plain fields): a slice that reads as a list; a slice of the call's own; append of a slice and of one element; an element stored. A file of lemmas. -/
namespace Go.Proofs.Ytjojhoaienjjeaa
open Go.RowKit
set_option linter.unusedVariables false

/-- A kind of elements of n cells: its type, the cells, the zero element, its bytes. -/
structure ElemV (α : Type) where
  E : TypeId
  n : Nat
  cs : α → List Value
  zero : α
  bytes : Nat
  len : ∀ x, (cs x).length = n
  pos : 0 < n
  one : ∀ x, ∀ u ∈ cs x, u.oneCell' = true
  small : bytes ≤ 1000
variable {α : Type} (k : ElemV α)
/-- An element as the model's value. -/
def ElemV.val (x : α) : Value := .agg (k.cs x).toArray
/-- The cells of a list. -/
def ElemV.row : List α → List Value
  | [] => []
  | x :: l => k.cs x ++ ElemV.row l
theorem rowv_len (l : List α) : (k.row l).length = l.length * k.n := by
  induction l with
  | nil => simp [ElemV.row]
  | cons x l ih => rw [ElemV.row, List.length_append, k.len, ih, List.length_cons, Nat.succ_mul, Nat.add_comm]
theorem rowv_app (l m : List α) : k.row (l ++ m) = k.row l ++ k.row m := by
  induction l with
  | nil => rfl
  | cons x l ih => rw [List.cons_append, ElemV.row, ElemV.row, ih, List.append_assoc]
theorem rowv_at (l : List α) (j : Nat) (x : α) (h : l[j]? = some x) (i : Nat) (hi : i < k.n) : (k.row l)[k.n * j + i]? = (k.cs x)[i]? := by
  induction l generalizing j with
  | nil => simp at h
  | cons y l ih =>
    cases j with
    | zero =>
      simp at h
      subst h
      rw [ElemV.row, Nat.mul_zero, Nat.zero_add, List.getElem?_append_left (by rw [k.len]; exact hi)]
    | succ j =>
      have e : k.n * (j + 1) + i = k.n * j + i + k.n := by rw [Nat.mul_succ]; omega
      rw [ElemV.row, e, List.getElem?_append_right (by rw [k.len]; omega), k.len, Nat.add_sub_cancel]
      exact ih j (by simpa using h)
theorem rowv_one (l : List α) : ∀ u ∈ k.row l, u.oneCell' = true := by
  induction l with
  | nil => intro u h; cases h
  | cons x l ih =>
    intro u h
    rw [ElemV.row, List.mem_append] at h
    rcases h with h | h
    · exact k.one x u h
    · exact ih u h

/-- The value is a slice that reads as l, in a block from lo on and below hi. -/
def GsV (w : World) (lo hi : Nat) (v : Value) (l : List α) : Prop :=
  ∃ A c, v = .slice A l.length c ∧ (A = none → c = 0) ∧ l.length ≤ c ∧ c ≤ maxLen ∧
    (l ≠ [] → ∃ b off, A = some ⟨b, off, none⟩ ∧ lo ≤ b ∧ b < hi ∧ ∀ j x, l[j]? = some x → ∀ i u, (k.cs x)[i]? = some u → w.cell? ⟨b, off + (k.n * j + i), none⟩ = some u)
/-- The value is a slice of the call's own, in a block from base on, with the elements l. -/
def GwV (w : World) (base : Nat) (v : Value) (l : List α) : Prop := w.ownsRow base k.E k.n v l.length (k.row l)

section
variable {k} {w w' : World} {lo hi lo' hi' g base : Nat} {v : Value} {l : List α}
theorem GsV.keep (h : GsV k w lo hi v l) (hk : ∀ p : Addr, lo ≤ p.block → p.block < hi → w'.cell? p = w.cell? p) : GsV k w' lo hi v l :=
  let ⟨A, c, e, h0, h1, h2, hb⟩ := h
  ⟨A, c, e, h0, h1, h2, fun hl => let ⟨b, off, e, h1, h2, hc⟩ := hb hl; ⟨b, off, e, h1, h2, fun j x hx i u hu => (hk _ h1 h2).trans (hc j x hx i u hu)⟩⟩
theorem GsV.more (h : GsV k w lo hi v l) (h1 : lo' ≤ lo) (h2 : hi ≤ hi') : GsV k w lo' hi' v l :=
  let ⟨A, c, e, g0, g1, g2, hb⟩ := h
  ⟨A, c, e, g0, g1, g2, fun hl => let ⟨b, off, e, x1, x2, hc⟩ := hb hl; ⟨b, off, e, by omega, by omega, hc⟩⟩
theorem GsV.below (h : GsV k w lo hi v l) (hb : Below hi w w') : GsV k w' lo hi v l := h.keep fun _ _ hp => hb.cell hp
theorem GsV.alloc (h : GsV k w lo hi v l) (hh : hi ≤ w.heap.size) (o : Obj) : GsV k (w.alloc o) lo hi v l := h.keep fun p _ hp => World.cell?_alloc_lt w o p (by omega)
theorem GsV.drewN (h : GsV k w lo hi v l) (n : Nat) : GsV k (w.drewN n) lo hi v l := h
theorem GsV.grown {row : Option Nat} (h : GsV k w lo hi v l) (hg : w.grownBy w' row) (hh : hi ≤ w.heap.size) (hr : ∀ k, row = some k → k < lo ∨ hi ≤ k) : GsV k w' lo hi v l :=
  h.keep fun p h1 h2 => hg.cell_far p (by omega) (fun e => by have := hr p.block e.symm; omega)
theorem GsV.step (h : GsV k w 0 w.heap.size v l) (b : Below w.heap.size w w') : GsV k w' 0 w'.heap.size v l := (h.below b).more (Nat.le_refl _) b.size
theorem GsV.nil_ (w : World) (lo hi : Nat) : GsV k w lo hi (.slice none 0 0) [] := ⟨none, 0, rfl, fun _ => rfl, Nat.le_refl _, Nat.zero_le _, fun h => absurd rfl h⟩
theorem GsV.len (h : GsV k w lo hi v l) : l.length ≤ 9223372036854775807 := by
  obtain ⟨_, _, _, _, h1, h2, _⟩ := h
  unfold maxLen at h2
  omega
/-- Its address is a cell's, where it is not empty. -/
theorem GsV.form (h : GsV k w lo hi v l) (hl : l ≠ []) : ∃ b off c, v = .slice (some ⟨b, off, none⟩) l.length c ∧ l.length ≤ c ∧ c ≤ maxLen ∧ lo ≤ b ∧ b < hi ∧ ∀ j x, l[j]? = some x → ∀ i u, (k.cs x)[i]? = some u → w.cell? ⟨b, off + (k.n * j + i), none⟩ = some u := by
  obtain ⟨A, c, rfl, h0, h1, h2, hb⟩ := h
  obtain ⟨b, off, rfl, x1, x2, hc⟩ := hb hl
  exact ⟨b, off, c, rfl, h1, h2, x1, x2, hc⟩
theorem addr_addv (b off j : Nat) : (⟨b, off, none⟩ : Addr).add j = ⟨b, off + j, none⟩ := by unfold Addr.add; split <;> simp_all

theorem GwV.sl (h : GwV k w base v l) : GsV k w base w.heap.size v l := by
  rcases h.2 with ⟨rfl, hn⟩ | ⟨g, cap, cur, rfl, hb, hg, hn, hm, hs, ht⟩
  · have : l = [] := List.eq_nil_of_length_eq_zero hn
    subst this
    exact GsV.nil_ _ _ _
  · refine ⟨some ⟨g, 0, none⟩, cap, rfl, fun e => (by cases e), hn, hm, fun _ => ⟨g, 0, rfl, hb, (Array.getElem?_eq_some_iff.1 hg).1, fun j x hx i u hu => ?_⟩⟩
    have hi : i < k.n := by
      have := (List.getElem?_eq_some_iff.1 hu).1
      rwa [k.len] at this
    have h1 := World.ownsRow.cells h (g := g) rfl (k.n * j + i) u (by rw [rowv_at k l j x hx i hi, hu])
    rw [addr_addv] at h1
    exact h1
theorem GwV.below (h : GwV k w base v l) {B : Nat} (hb : Below B w w') (hB : w.heap.size ≤ B) : GwV k w' base v l :=
  World.ownsRow.kept (row := none) h ⟨hb.os, hb.tape, hb.output, hb.size, fun k hk _ => hb.block k (by omega)⟩ (by cases hv : v.ownBlock <;> simp)
theorem GwV.kept {row : Option Nat} (h : GwV k w base v l) (hg : w.grownBy w' row) (hne : ∀ k, v.ownBlock = some k → row ≠ some k) : GwV k w' base v l := by
  refine World.ownsRow.kept h hg ?_
  cases hv : v.ownBlock with
  | none => exact .inl rfl
  | some k => exact .inr (fun e => hne k hv e.symm)
theorem GwV.alloc (h : GwV k w base v l) (o : Obj) : GwV k (w.alloc o) base v l := World.ownsRow.alloc h o
theorem GwV.drewN (h : GwV k w base v l) (n : Nat) : GwV k (w.drewN n) base v l := h
theorem GwV.lt (h : GwV k w base v l) : ∀ k, v.ownBlock = some k → base ≤ k ∧ k < w.heap.size := World.ownsRow.lt h
theorem GwV.more (h : GwV k w base v l) {base' : Nat} (hb : base' ≤ base) : GwV k w base' v l := by
  refine ⟨h.1, ?_⟩
  rcases h.2 with hn | ⟨g, cap, cur, hv, hg, r⟩
  · exact .inl hn
  · exact .inr ⟨g, cap, cur, hv, by omega, r⟩
theorem GwV.form (h : GwV k w base v l) (hl : l ≠ []) :
    ∃ b c, v = .slice (some ⟨b, 0, none⟩) l.length c ∧ l.length ≤ c ∧ c ≤ maxLen ∧ base ≤ b ∧ b < w.heap.size ∧ (∀ j x, l[j]? = some x → ∀ i u, (k.cs x)[i]? = some u → w.cell? ⟨b, k.n * j + i, none⟩ = some u) ∧ ∀ j, w.frozen? ⟨b, j, none⟩ = false := by
  rcases h.2 with ⟨rfl, hn⟩ | ⟨g, cap, cur, rfl, hb, hg, hn, hm, hs, ht⟩
  · exact absurd (List.eq_nil_of_length_eq_zero hn) hl
  · refine ⟨g, cap, rfl, hn, hm, hb, (Array.getElem?_eq_some_iff.1 hg).1, fun j x hx i u hu => ?_, fun j => World.ownsRow.frozenAt h j⟩
    have hi : i < k.n := by
      have := (List.getElem?_eq_some_iff.1 hu).1
      rwa [k.len] at this
    have h1 := World.ownsRow.cells h (g := g) rfl (k.n * j + i) u (by rw [rowv_at k l j x hx i hi, hu])
    rw [addr_addv, Nat.zero_add] at h1
    exact h1
theorem GwV.nil_ (w : World) (base : Nat) : GwV k w base (.slice none 0 0) [] := World.ownsRow_nil w base _ _
theorem GwV.empty_ (w : World) (base : Nat) (h : base ≤ w.heap.size) : GwV k (w.alloc (.cells #[] k.E)) base (.slice (some ⟨w.heap.size, 0, none⟩) 0 0) [] :=
  World.ownsRow_lit w #[] 0 h (Nat.zero_le _) (by simp)
theorem GwV.lit (w : World) (base : Nat) (h : base ≤ w.heap.size) (l : List α) (cs : Array Value) (n : Nat) (hcs : cs = (k.row l).toArray) (hn : l.length = n) (hs : n ≤ 1000) :
    GwV k (w.alloc (.cells cs k.E)) base (.slice (some ⟨w.heap.size, 0, none⟩) n n) l := by
  subst hcs hn
  have := World.ownsRow_lit (base := base) (size := k.n) (e := k.E) w (k.row l).toArray l.length h (by unfold maxLen; omega) (by simp [rowv_len])
  simpa [GwV] using this
end

/-- append onto a slice of the call's own, from whatever slice: the run. -/
theorem run_gappv {P : Program} (w : World) (t ty : TypeId) (base : Nat) (ht : P.underlying t = some (.slice k.E))
    (hinf : (P.info? k.E).map (fun i => (i.zero, i.size, i.bytes)) = some (some (k.val k.zero), k.n, k.bytes))
    (v : Value) (l : List α) (hown : GwV k w base v l) (lo hi : Nat) (u : Value) (m : List α) (hu : GsV k w lo hi u m) (hb : l.length + m.length ≤ 1000000000) (hbase : base ≤ w.heap.size) :
    ∃ v' w', (Builtin.append_ #[t, t] ty #[v, u]).run P w = .ok v' w' ∧ GwV k w' base v' (l ++ m) ∧ w.grownBy w' v.ownBlock ∧ (v'.ownBlock = v.ownBlock ∨ v'.ownBlock = some w.heap.size) := by
  obtain ⟨i, hi1, hz, hsz, hby⟩ := info_parts hinf
  obtain ⟨A, c, rfl, hc0, hlc, hcm, hbt⟩ := hu
  cases A with
  | none =>
    obtain rfl := hc0 rfl
    have hm : m = [] := List.eq_nil_of_length_eq_zero (by omega)
    subst hm
    exact ⟨v, w, run_append_owned_none (P := P) w base t ty k.E i k.n ht hi1 v _ _ hown, by simpa using hown, World.grownBy.refl w _, .inl rfl⟩
  | some ad =>
    have hs := k.small
    have hbb : (l.length + m.length) * k.bytes ≤ 1000000000 * 1000 := Nat.mul_le_mul hb hs
    obtain ⟨v', w', hrun, h2, h3, _, h5⟩ := run_append_own_at (P := P) w base t ty k.E i (k.val k.zero) k.n k.bytes ht hi1 hz hsz hby (by show (k.cs k.zero).toArray.size = k.n; rw [List.size_toArray, k.len]) k.pos v l.length (k.row l) hown ad m.length c (k.row m) (rowv_len k m)
      (fun j y hy => by
        have hj : j < m.length * k.n := by
          have := (List.getElem?_eq_some_iff.1 hy).1
          rwa [rowv_len] at this
        obtain ⟨b, off, e, _, _, hcell⟩ := hbt (by rintro rfl; simp at hj)
        injection e with e
        subst e
        rw [addr_addv]
        have hjm : j / k.n < m.length := Nat.div_lt_of_lt_mul (by rw [Nat.mul_comm]; exact hj)
        have hmod : j % k.n < k.n := Nat.mod_lt _ k.pos
        have e2 : k.n * (j / k.n) + j % k.n = j := Nat.div_add_mod j k.n
        have hy2 := hy
        rw [← e2, rowv_at k m _ _ (List.getElem?_eq_getElem hjm) _ hmod] at hy2
        have := hcell (j / k.n) _ (List.getElem?_eq_getElem hjm) (j % k.n) y hy2
        rwa [e2] at this)
      (rowv_one k m) (by unfold maxLen; omega) (by omega) hbase
    refine ⟨v', w', hrun, ?_, h3, h5⟩
    unfold GwV
    rw [rowv_app, List.length_append]
    exact h2
theorem wpList_gappv {P : Program} (w : World) {ops : Array Oper} {rest : List Oper} {o : Oper} {a : Act} {Q : Exit → Act → World → Prop} (hgd : o.guard = none) (s x : Operand) (t : TypeId)
    (ho : o.op = .call { callee := .builtin .append, args := #[s, x], argTypes := #[t, t] }) (base : Nat) (ht : P.underlying t = some (.slice k.E))
    (hinf : (P.info? k.E).map (fun i => (i.zero, i.size, i.bytes)) = some (some (k.val k.zero), k.n, k.bytes))
    (v : Value) (l : List α) (hs : a.eval s = v) (hown : GwV k w base v l)
    (lo hi : Nat) (u : Value) (m : List α) (hx : a.eval x = u) (hu : GsV k w lo hi u m)
    (hb : l.length + m.length ≤ 1000000000) (hbase : base ≤ w.heap.size)
    (h : ∀ v' w', GwV k w' base v' (l ++ m) → w.grownBy w' v.ownBlock → (v'.ownBlock = v.ownBlock ∨ v'.ownBlock = some w.heap.size) → wpList P ops Q rest (a.put o.dst v') w') :
    wpList P ops Q (o :: rest) a w := by
  obtain ⟨v', w', hrun, h2, h3, h5⟩ := run_gappv k (P := P) w t o.type base ht hinf v l hown lo hi u m hu hb hbase
  refine wpList_plain hgd fun K hK => ?_
  unfold Oper.wp execOp
  simp only [ho, resolve, invoke, builtin, Sem.run_bind, Sem.run_pure, Result.andThen_ok, List.map_toArray, List.map_cons, List.map_nil, hs, hx, hrun]
  exact hK _ _ (h v' w' h2 h3 h5)
/-- A slice over the block that has just been made for one element. -/
theorem GsV.one (w : World) (b : α) (cs : Array Value) (h : cs = (k.cs b).toArray) : GsV k (w.alloc (.cells cs k.E)) w.heap.size (w.heap.size + 1) (.slice (some ⟨w.heap.size, 0, none⟩) 1 1) [b] := by
  subst h
  refine ⟨some ⟨w.heap.size, 0, none⟩, 1, rfl, fun e => (by cases e), by simp, by unfold maxLen; omega, fun _ => ⟨w.heap.size, 0, rfl, Nat.le_refl _, by omega, fun j y hj i u hu => ?_⟩⟩
  match j, hj with
  | 0, hj =>
    simp at hj
    subst hj
    have hr : Row (w.alloc (.cells (k.cs b).toArray k.E)) w.heap.size k.E (k.cs b).toArray := Row.new w k.E _
    rw [Nat.mul_zero, Nat.zero_add, Nat.zero_add, hr.cell, List.getElem?_toArray, hu]
end Go.Proofs.Ytjojhoaienjjeaa
/- Arguments: values. -/
namespace Go.Proofs.Ytjojhoaienjjeaa
open Go.ChangeShapes Go.WideShapes Go.ChangeAt Go.RowKit Go.Deep
set_option linter.unusedVariables false

/-- A value: kind, number, text. -/
structure VV where
  k : Int
  n : Int
  s : ByteArray
def VV.ok (x : VV) : Prop := (Lit.int .u8 x.k).wf = true ∧ (Lit.int .i64 x.n).wf = true ∧ x.s.size ≤ maxLen
instance : Inhabited VV := ⟨⟨0, 0, ⟨#[]⟩⟩⟩
def eV : ElemV VV := ⟨38, 3, fun x => [.int .u8 x.k, .int .i64 x.n, .string x.s], ⟨0, 0, ⟨#[]⟩⟩, 32, fun _ => rfl, by omega, fun x u hu => by
  simp at hu
  rcases hu with rfl | rfl | rfl <;> rfl, by omega⟩
theorem vals_arg {H : Type} {enc : TypeId × Value → H} {w : World} {a : Option Addr} {len cap : Nat} {d : DataW H} {ps : List MemPlace}
    (h : DataW.Trod enc Try.prog w 0 (fun _ => true) true 22 (.slice a len cap) d ps) : ∃ l : List VV, l.length = len ∧ GsV eV w 0 w.heap.size (.slice a len cap) l ∧ ∀ x ∈ l, x.ok := by
  obtain ⟨fuel, hf⟩ := h
  have c3 : Try.prog.cellsOf 38 = 3 := by kernel_rfl
  rcases open_slice Try.underlying22 hf with ⟨hcs, _⟩ | ⟨ad, l, c, m, n, D, Pl, hcs, _, hl, hm, hmm, _, hx⟩
  · simp [Value.cells] at hcs
    obtain ⟨rfl, rfl, rfl⟩ := hcs
    exact ⟨[], rfl, GsV.nil_ _ _ _, by simp⟩
  · simp [Value.cells] at hcs
    obtain ⟨rfl, rfl, rfl⟩ := hcs
    simp only [if_true] at hmm
    subst hmm
    have each : ∀ i, i < len → ∃ r : VV, r.ok ∧ w.cell? (ad.add (i * 3)) = some (.int .u8 r.k) ∧ w.cell? (ad.add (i * 3 + 1)) = some (.int .i64 r.n) ∧ w.cell? (ad.add (i * 3 + 2)) = some (.string r.s) := by
      intro i hi
      obtain ⟨cs', h1, h2⟩ := hx i (by omega)
      rw [c3] at h1
      obtain ⟨_, hlen, hcell⟩ := World.cells?_some h1
      obtain ⟨k, n, s, rfl, wk, wn, ws⟩ := val_cells h2
      have e0 := hcell 0 (by omega)
      have e1 := hcell 1 (by omega)
      have e2 := hcell 2 (by omega)
      rw [add_add] at e0 e1 e2
      exact ⟨⟨k, n, s⟩, ⟨wk, wn, ws⟩, by simpa using e0, by simpa using e1, by simpa using e2⟩
    obtain ⟨g, hg⟩ : ∃ g : Nat → VV, ∀ i, i < len → (g i).ok ∧ w.cell? (ad.add (i * 3)) = some (.int .u8 (g i).k) ∧ w.cell? (ad.add (i * 3 + 1)) = some (.int .i64 (g i).n) ∧ w.cell? (ad.add (i * 3 + 2)) = some (.string (g i).s) :=
      ⟨fun i => if h : i < len then Classical.choose (each i h) else default, fun i h => by simp only [dif_pos h]; exact Classical.choose_spec (each i h)⟩
    have hlen : ((List.range len).map g).length = len := by simp
    refine ⟨(List.range len).map g, hlen, ⟨some ad, _, by rw [hlen], fun e => (by cases e), by rw [hlen]; exact hl, hm, fun hne => ?_⟩, ?_⟩
    · have h0 : 0 < len := by
        rcases Nat.eq_zero_or_pos len with h | h
        · subst h; simp at hne
        · exact h
      obtain ⟨b, off, spot⟩ := ad
      have hc0 := (hg 0 h0).2.1
      have hspot : spot = none := by simpa [Addr.add] using World.cell?_spot hc0
      subst hspot
      have hb : b < w.heap.size := by
        have := World.block_lt_of_cell? w _ hc0
        simpa [Addr.add] using this
      refine ⟨b, off, rfl, Nat.zero_le _, hb, fun j y hy i u hu => ?_⟩
      have hj : j < len := by
        have := (List.getElem?_eq_some_iff.1 hy).1
        simpa using this
      obtain ⟨-, q0, q1, q2⟩ := hg j hj
      rw [addr_addv] at q0 q1 q2
      rw [List.getElem?_map, List.getElem?_range hj] at hy
      simp at hy
      subst hy
      show w.cell? ⟨b, off + (3 * j + i), none⟩ = some u
      rw [Nat.mul_comm 3 j]
      match i, hu with
      | 0, hu => simp [eV] at hu; subst hu; exact q0
      | 1, hu => simp [eV] at hu; subst hu; rw [← Nat.add_assoc] at q1 ⊢; exact q1
      | 2, hu => simp [eV] at hu; subst hu; rw [← Nat.add_assoc] at q2 ⊢; exact q2
      | i + 3, hu => simp [eV] at hu
    · intro x hx
      obtain ⟨i, hi, rfl⟩ := List.mem_map.1 hx
      exact (hg i (List.mem_range.1 hi)).1
end Go.Proofs.Ytjojhoaienjjeaa
/- A region that draws its order, walked step by step under a condition on the world that may grow from step to step. No program of its own. -/
namespace Go.Proofs.Ytjojhoaienjjeaa

section
variable {P : Program} {ops : Array Oper} {Q : Exit → Act → World → Prop} {md : Region.Mode} {S S' : World → Prop}

theorem held_mono (hs : ∀ w, S' w → S w) : ∀ (fuel : Nat) (listed : Array Bool) (a : Act) (w : World), wpAnyH P md ops Q S' fuel listed a w → wpAnyH P md ops Q S fuel listed a w
  | 0, _, _, _, h => h
  | fuel + 1, _, _, _, h => ⟨h.1, fun i hi => wpOp_mono (fun a' w' h' => ⟨hs _ h'.1, held_mono hs fuel _ a' w' h'.2⟩) (h.2 i hi)⟩

theorem op_at {i : Nat} {oi : Oper} {rest : List Oper} (hl : ops.toList.drop i = oi :: rest) : ops[i]? = some oi := by
  rw [← Array.getElem?_toList]
  have h := congrArg List.head? hl
  rw [List.head?_drop] at h
  simpa using h

/-- An operation that yields v in every world that meets S is taken first. -/
theorem held_take (i : Nat) {oi : Oper} {rest : List Oper} {fuel : Nat} {listed : Array Bool} {a : Act} {w : World} (v : Value) (hl : ops.toList.drop i = oi :: rest)
    (hs : Region.noSelect ops = true) (hf : Region.free md ops listed i = true) (hr : (Region.ready md ops listed).contains i = true)
    (hQ : ∀ c a w, Q (.panic c) (a.put oi.dst v) w → Q (.panic c) a w) (hw : Region.wanted oi (yielded ops a.tmps) = true) (hy : ∀ w, S w → (execOp a.eval oi).run P w = .ok (.value v) w) (hS : S w)
    (h : wpAnyH P md ops Q S fuel (listed.setIfInBounds i true) (a.put oi.dst v) w) : wpAnyH P md ops Q S (fuel + 1) listed a w :=
  wpAnyH_take (op_at hl) hs hf hr hQ (Or.inl ⟨hw, hy⟩) hS h

/-- The one operation that may come up is carried out; behind it the condition may be another, narrower one. -/
theorem held_next (i : Nat) {oi : Oper} {rest : List Oper} {fuel : Nat} {listed : Array Bool} {a : Act} {w : World} (hl : ops.toList.drop i = oi :: rest) (hr : Region.ready md ops listed = [i]) (hw : Region.wanted oi (yielded ops a.tmps) = true)
    (h : Oper.wp P oi a w (fun a' w' => ∃ S' : World → Prop, (∀ W, S' W → S W) ∧ S' w' ∧ wpAnyH P md ops Q S' fuel (listed.setIfInBounds i true) a' w') Q) : wpAnyH P md ops Q S (fuel + 1) listed a w := by
  refine wpAnyH_ready hr (by simp) (AllReadyH.cons (op_at hl) (fun K' hK => ?_) AllReadyH.nil)
  rw [if_pos hw]
  exact Oper.wp_mono (fun a' w' ⟨S', h1, h2, h3⟩ => hK.out a' w' (h1 _ h2) (fun _ => held_mono h1 _ _ _ _ h3)) h
/-- Two operations may come up: whichever does is carried out. -/
theorem held_two (i j : Nat) {oi oj : Oper} {ri rj : List Oper} {fuel : Nat} {listed : Array Bool} {a : Act} {w : World} (hi : ops.toList.drop i = oi :: ri) (hj : ops.toList.drop j = oj :: rj) (hr : Region.ready md ops listed = [i, j])
    (hwi : Region.wanted oi (yielded ops a.tmps) = true) (hwj : Region.wanted oj (yielded ops a.tmps) = true)
    (h1 : Oper.wp P oi a w (fun a' w' => ∃ S' : World → Prop, (∀ W, S' W → S W) ∧ S' w' ∧ wpAnyH P md ops Q S' fuel (listed.setIfInBounds i true) a' w') Q)
    (h2 : Oper.wp P oj a w (fun a' w' => ∃ S' : World → Prop, (∀ W, S' W → S W) ∧ S' w' ∧ wpAnyH P md ops Q S' fuel (listed.setIfInBounds j true) a' w') Q) : wpAnyH P md ops Q S (fuel + 1) listed a w := by
  refine wpAnyH_ready hr (by simp) (AllReadyH.cons (op_at hi) (fun K' hK => ?_) (AllReadyH.cons (op_at hj) (fun K' hK => ?_) AllReadyH.nil))
  · rw [if_pos hwi]
    exact Oper.wp_mono (fun a' w' ⟨S', h1, h2, h3⟩ => hK.out a' w' (h1 _ h2) (fun _ => held_mono h1 _ _ _ _ h3)) h1
  · rw [if_pos hwj]
    exact Oper.wp_mono (fun a' w' ⟨S', h1, h2, h3⟩ => hK.out a' w' (h1 _ h2) (fun _ => held_mono h1 _ _ _ _ h3)) h2
end
end Go.Proofs.Ytjojhoaienjjeaa
/- Walks: values.Compare. -/
namespace Go.Proofs.Ytjojhoaienjjeaa
open Go.RowKit
set_option linter.unusedVariables false

section
variable {P : Program} {ops : Array Oper} {Q : Exit → Act → World → Prop} {S : World → Prop}
/-- A region that draws, walked in any world that meets S. -/
theorem wp_region_all {id : Nat} {a : Act} {w : World} (hm : P.follows .mixedOrders = true) (hS : S w.drew)
    (h : ∀ W, S W → wpAnyH P .any ops Q S ops.size (Array.replicate ops.size false) a W) : (Code.region id ops true).wp P Q a w :=
  wp_region_held_drew hm hS (fun h' => h _ h')
end
/-- The two blocks in which two values lie; older blocks are as they were. -/
structure Bx2 (w W : World) (k n : Int) (s : ByteArray) (k' n' : Int) (s' : ByteArray) : Prop where
  below : Below w.heap.size w W
  r1 : Row W w.heap.size 38 #[.int .u8 k, .int .i64 n, .string s]
  r2 : Row W (w.heap.size + 1) 38 #[.int .u8 k', .int .i64 n', .string s']
section
variable {w W W' : World} {k n k' n' : Int} {s s' : ByteArray}
theorem Bx2.new (w : World) (k n : Int) (s : ByteArray) (k' n' : Int) (s' : ByteArray) :
    Bx2 w ((w.alloc (.cells #[.int .u8 k, .int .i64 n, .string s] 38)).alloc (.cells #[.int .u8 k', .int .i64 n', .string s'] 38)) k n s k' n' s' :=
  ⟨((Below.refl _ _).alloc (Nat.le_refl _) _).alloc (by simp) _, (Row.new _ _ _).alloc _, by have := Row.new (w.alloc (.cells #[.int .u8 k, .int .i64 n, .string s] 38)) 38 #[.int .u8 k', .int .i64 n', .string s']; simpa using this⟩
theorem Bx2.a0 (h : Bx2 w W k n s k' n' s') : W.cell? ⟨w.heap.size, 0, none⟩ = some (.int .u8 k) := by rw [h.r1.cell]; rfl
theorem Bx2.a1 (h : Bx2 w W k n s k' n' s') : W.cell? ⟨w.heap.size, 1, none⟩ = some (.int .i64 n) := by rw [h.r1.cell]; rfl
theorem Bx2.a2 (h : Bx2 w W k n s k' n' s') : W.cell? ⟨w.heap.size, 2, none⟩ = some (.string s) := by rw [h.r1.cell]; rfl
theorem Bx2.b0 (h : Bx2 w W k n s k' n' s') : W.cell? ⟨w.heap.size + 1, 0, none⟩ = some (.int .u8 k') := by rw [h.r2.cell]; rfl
theorem Bx2.b1 (h : Bx2 w W k n s k' n' s') : W.cell? ⟨w.heap.size + 1, 1, none⟩ = some (.int .i64 n') := by rw [h.r2.cell]; rfl
theorem Bx2.b2 (h : Bx2 w W k n s k' n' s') : W.cell? ⟨w.heap.size + 1, 2, none⟩ = some (.string s') := by rw [h.r2.cell]; rfl
theorem Bx2.lt (h : Bx2 w W k n s k' n' s') : w.heap.size + 1 < W.heap.size := h.r2.lt
theorem Bx2.alloc (h : Bx2 w W k n s k' n' s') (o : Obj) : Bx2 w (W.alloc o) k n s k' n' s' := ⟨h.below.alloc (by have := h.lt; omega) _, h.r1.alloc _, h.r2.alloc _⟩
theorem Bx2.step (h : Bx2 w W k n s k' n' s') (b : Below W.heap.size W W') : Bx2 w W' k n s k' n' s' :=
  ⟨h.below.trans (b.mono (by have := h.lt; omega)), h.r1.below b h.r1.lt, h.r2.below b h.r2.lt⟩
theorem Bx2.drew (h : Bx2 w W k n s k' n' s') : Bx2 w W.drew k n s k' n' s' := ⟨h.below.drew, h.r1, h.r2⟩
theorem Bx2.drewN (h : Bx2 w W k n s k' n' s') (m : Nat) : Bx2 w (W.drewN m) k n s k' n' s' := ⟨below_drewN h.below m, h.r1, h.r2⟩
end

set_option maxHeartbeats 1000000 in
theorem compareV_any (k n : Int) (s : ByteArray) (k' n' : Int) (s' : ByteArray) (w : World) :
    Calls Try.prog 23 #[vV k n s, vV k' n' s'] w fun e w' => e = .returned (.int .i64 (cmpV k n (bls s) k' n' (bls s'))) ∧ Below w.heap.size w w' := by
  go_enter Try.func23, Try.ntmps23
  go_wp2_with fail
  have hSc := (Bx2.new w k n s k' n' s').drew
  refine wp_region_all (S := fun W => Bx2 w W k n s k' n' s') (by kernel_rfl) hSc (fun W0 hSc => ?_)
  refine held_take 0 ?_ rfl (by kernel_rfl) (by kernel_rfl) (by kernel_rfl) (fun _ _ _ h => h) (by rfl) ?_ hSc ?_
  rotate_left
  · (intro W hSW; have a0 := hSW.a0; have a1 := hSW.a1; have a2 := hSW.a2; have b0 := hSW.b0; have b1 := hSW.b1; have b2 := hSW.b2; go_simp; try rfl)
  try simp only [Act.put, List.setIfInBounds_toArray, List.set_cons_zero, List.set_cons_succ]
  refine held_take 1 ?_ rfl (by kernel_rfl) (by kernel_rfl) (by kernel_rfl) (fun _ _ _ h => h) (by rfl) ?_ hSc ?_
  rotate_left
  · (intro W hSW; have a0 := hSW.a0; have a1 := hSW.a1; have a2 := hSW.a2; have b0 := hSW.b0; have b1 := hSW.b1; have b2 := hSW.b2; go_simp; try rfl)
  try simp only [Act.put, List.setIfInBounds_toArray, List.set_cons_zero, List.set_cons_succ]
  refine held_take 2 ?_ rfl (by kernel_rfl) (by kernel_rfl) (by kernel_rfl) (fun _ _ _ h => h) (by rfl) ?_ hSc ?_
  rotate_left
  · (intro W hSW; have a0 := hSW.a0; have a1 := hSW.a1; have a2 := hSW.a2; have b0 := hSW.b0; have b1 := hSW.b1; have b2 := hSW.b2; go_simp; try rfl)
  try simp only [Act.put, List.setIfInBounds_toArray, List.set_cons_zero, List.set_cons_succ]
  refine held_take 3 ?_ rfl (by kernel_rfl) (by kernel_rfl) (by kernel_rfl) (fun _ _ _ h => h) (by rfl) ?_ hSc ?_
  rotate_left
  · (intro W hSW; have a0 := hSW.a0; have a1 := hSW.a1; have a2 := hSW.a2; have b0 := hSW.b0; have b1 := hSW.b1; have b2 := hSW.b2; go_simp; try rfl)
  try simp only [Act.put, List.setIfInBounds_toArray, List.set_cons_zero, List.set_cons_succ]
  refine held_take 5 ?_ rfl (by kernel_rfl) (by kernel_rfl) (by kernel_rfl) (fun _ _ _ h => h) (by rfl) ?_ hSc ?_
  rotate_left
  · (intro W hSW; have a0 := hSW.a0; have a1 := hSW.a1; have a2 := hSW.a2; have b0 := hSW.b0; have b1 := hSW.b1; have b2 := hSW.b2; go_simp; try rfl)
  try simp only [Act.put, List.setIfInBounds_toArray, List.set_cons_zero, List.set_cons_succ]
  refine held_take 6 ?_ rfl (by kernel_rfl) (by kernel_rfl) (by kernel_rfl) (fun _ _ _ h => h) (by rfl) ?_ hSc ?_
  rotate_left
  · (intro W hSW; have a0 := hSW.a0; have a1 := hSW.a1; have a2 := hSW.a2; have b0 := hSW.b0; have b1 := hSW.b1; have b2 := hSW.b2; go_simp; try rfl)
  try simp only [Act.put, List.setIfInBounds_toArray, List.set_cons_zero, List.set_cons_succ]
  refine held_take 7 ?_ rfl (by kernel_rfl) (by kernel_rfl) (by kernel_rfl) (fun _ _ _ h => h) (by rfl) ?_ hSc ?_
  rotate_left
  · (intro W hSW; have a0 := hSW.a0; have a1 := hSW.a1; have a2 := hSW.a2; have b0 := hSW.b0; have b1 := hSW.b1; have b2 := hSW.b2; go_simp; try rfl)
  try simp only [Act.put, List.setIfInBounds_toArray, List.set_cons_zero, List.set_cons_succ]
  refine held_take 8 ?_ rfl (by kernel_rfl) (by kernel_rfl) (by kernel_rfl) (fun _ _ _ h => h) (by rfl) ?_ hSc ?_
  rotate_left
  · (intro W hSW; have a0 := hSW.a0; have a1 := hSW.a1; have a2 := hSW.a2; have b0 := hSW.b0; have b1 := hSW.b1; have b2 := hSW.b2; go_simp; try rfl)
  try simp only [Act.put, List.setIfInBounds_toArray, List.set_cons_zero, List.set_cons_succ]
  refine held_take 10 ?_ rfl (by kernel_rfl) (by kernel_rfl) (by kernel_rfl) (fun _ _ _ h => h) (by rfl) ?_ hSc ?_
  rotate_left
  · (intro W hSW; have a0 := hSW.a0; have a1 := hSW.a1; have a2 := hSW.a2; have b0 := hSW.b0; have b1 := hSW.b1; have b2 := hSW.b2; go_simp; try rfl)
  try simp only [Act.put, List.setIfInBounds_toArray, List.set_cons_zero, List.set_cons_succ]
  refine held_take 11 ?_ rfl (by kernel_rfl) (by kernel_rfl) (by kernel_rfl) (fun _ _ _ h => h) (by rfl) ?_ hSc ?_
  rotate_left
  · (intro W hSW; have a0 := hSW.a0; have a1 := hSW.a1; have a2 := hSW.a2; have b0 := hSW.b0; have b1 := hSW.b1; have b2 := hSW.b2; go_simp; try rfl)
  try simp only [Act.put, List.setIfInBounds_toArray, List.set_cons_zero, List.set_cons_succ]
  refine held_take 12 ?_ rfl (by kernel_rfl) (by kernel_rfl) (by kernel_rfl) (fun _ _ _ h => h) (by rfl) ?_ hSc ?_
  rotate_left
  · (intro W hSW; have a0 := hSW.a0; have a1 := hSW.a1; have a2 := hSW.a2; have b0 := hSW.b0; have b1 := hSW.b1; have b2 := hSW.b2; go_simp; try rfl)
  try simp only [Act.put, List.setIfInBounds_toArray, List.set_cons_zero, List.set_cons_succ]
  refine held_take 13 ?_ rfl (by kernel_rfl) (by kernel_rfl) (by kernel_rfl) (fun _ _ _ h => h) (by rfl) ?_ hSc ?_
  rotate_left
  · (intro W hSW; have a0 := hSW.a0; have a1 := hSW.a1; have a2 := hSW.a2; have b0 := hSW.b0; have b1 := hSW.b1; have b2 := hSW.b2; go_simp; try rfl)
  try simp only [Act.put, List.setIfInBounds_toArray, List.set_cons_zero, List.set_cons_succ]
  refine held_next 4 rfl (by kernel_rfl) (by rfl) ?_
  go_simp
  refine (cmp8_any _ _ _).mono ?_
  rintro e _ ⟨rfl, rfl⟩
  refine ⟨fun W => Bx2 w W k n s k' n' s', fun W hW => hW, hSc, ?_⟩
  try simp only [Act.put, List.setIfInBounds_toArray, List.set_cons_zero, List.set_cons_succ]
  refine held_next 9 rfl (by kernel_rfl) (by rfl) ?_
  go_simp
  refine (cmp64_any _ _ _).mono ?_
  rintro e _ ⟨rfl, rfl⟩
  refine ⟨fun W => Bx2 w W k n s k' n' s', fun W hW => hW, hSc, ?_⟩
  try simp only [Act.put, List.setIfInBounds_toArray, List.set_cons_zero, List.set_cons_succ]
  refine held_next 14 rfl (by kernel_rfl) (by rfl) ?_
  go_simp
  refine (compareS_any _ _ _).mono ?_
  rintro e _ ⟨rfl, rfl⟩
  refine ⟨fun W => Bx2 w W k n s k' n' s', fun W hW => hW, hSc, ?_⟩
  try simp only [Act.put, List.setIfInBounds_toArray, List.set_cons_zero, List.set_cons_succ]
  refine held_next 15 rfl (by kernel_rfl) (by rfl) ?_
  go_simp
  have hSd := hSc.alloc (.cells #[.int .i64 (cmpI k k'), .int .i64 (cmpI n n'), .int .i64 (cmpB (bls s) (bls s'))] 3)
  refine ⟨fun W => Bx2 w W k n s k' n' s', fun W hW => hW, hSd, ?_⟩
  clear hSc 
  have hSc := hSd
  clear hSd
  try simp only [Act.put, List.setIfInBounds_toArray, List.set_cons_zero, List.set_cons_succ]
  refine held_next 16 rfl (by kernel_rfl) (by rfl) ?_
  go_simp
  refine (or_any _ (cmpI k k') (cmpI n n') (cmpB (bls s) (bls s')) _ (by rw [(Row.new _ _ _).cell]; rfl) (by rw [(Row.new _ _ _).cell]; rfl) (by rw [(Row.new _ _ _).cell]; rfl)).mono ?_
  rintro e _ ⟨rfl, rfl⟩
  refine ⟨fun W => Bx2 w W k n s k' n' s', fun W hW => hW, hSc, ?_⟩
  try simp only [Act.put, List.setIfInBounds_toArray, List.set_cons_zero, List.set_cons_succ]
  refine held_next 17 rfl (by kernel_rfl) (by rfl) ?_
  go_simp
  refine ⟨fun W => Bx2 w W k n s k' n' s', fun W hW => hW, hSc, ?_⟩
  refine wpAnyH_done (by kernel_rfl) ?_ _
  go_wp2
  go_ret
  exact ⟨rfl, hSc.below⟩
end Go.Proofs.Ytjojhoaienjjeaa
namespace Go.Proofs.Ytjojhoaienjjeaa
open Go.RowKit
set_option linter.unusedVariables false

theorem bls_list (s : ByteArray) : s.toList = bls s := ByteArray.toList_eq s
theorem may_one (n : Int) (s : ByteArray) : s.toList.isEmpty = mayV 1 n (bls s) := by rw [bls_list]; rfl
theorem may_two {n : Int} (h : n = 0) (s : ByteArray) : decide ((s.size : Int) ≤ 65535) = mayV 2 n (bls s) := by
  unfold mayV
  rw [if_neg (by omega), if_pos rfl, decide_eq_true h, Bool.true_and, bls_len]
  exact decide_eq_decide.2 (by omega)
theorem may_not {n : Int} (h : n ≠ 0) (s : ByteArray) : false = mayV 2 n (bls s) := by
  unfold mayV
  rw [if_neg (by omega), if_pos rfl, decide_eq_false h, Bool.false_and]
theorem may_none {k n : Int} (h1 : k ≠ 1) (h2 : k ≠ 2) (s : ByteArray) : false = mayV k n (bls s) := by
  unfold mayV
  rw [if_neg h1, if_neg h2]

set_option maxHeartbeats 400000 in
theorem int_any (n : Int) (w : World) :
    Calls Try.prog 95 #[.int .i64 n] w fun e w' => e = .returned (vV 1 n ⟨#[]⟩) ∧ Below w.heap.size w w' := by
  go_enter Try.func95, Try.ntmps95
  go_wp2
  refine bodyPost_ret (v := vV 1 n ⟨#[]⟩) (by simp [results, Try.results95, go_sem]) rfl ⟨rfl, (Below.refl _ _).alloc (Nat.le_refl _) _⟩
set_option maxHeartbeats 400000 in
theorem text_any (s : ByteArray) (w : World) :
    Calls Try.prog 98 #[.string s] w fun e w' => e = .returned (vV 2 0 s) ∧ Below w.heap.size w w' := by
  go_enter Try.func98, Try.ntmps98
  go_wp2
  refine bodyPost_ret (v := vV 2 0 s) (by simp [results, Try.results98, go_sem]) rfl ⟨rfl, (Below.refl _ _).alloc (Nat.le_refl _) _⟩
set_option maxHeartbeats 400000 in
theorem may_any (k n : Int) (s : ByteArray) (w : World) :
    Calls Try.prog 37 #[vV k n s] w fun e w' => e = .returned (.bool (mayV k n (bls s))) ∧ Below w.heap.size w w' := by
  by_cases h1 : k = 1
  · subst h1
    go_enter Try.func37, Try.ntmps37
    go_wp2
    go_ret
    exact ⟨congrArg (fun b => Ending.returned (Value.bool b)) (may_one n s), (Below.refl _ _).alloc (Nat.le_refl _) _⟩
  · have e1 : (k == 1) = false := by simp [h1]
    by_cases h2 : k = 2
    · subst h2
      by_cases hn : n = 0
      · have e3 : (n == 0) = true := by simp [hn]
        go_enter Try.func37, Try.ntmps37
        go_wp2
        go_ret
        exact ⟨congrArg (fun b => Ending.returned (Value.bool b)) (may_two hn s), (Below.refl _ _).alloc (Nat.le_refl _) _⟩
      · have e3 : (n == 0) = false := by simp [hn]
        go_enter Try.func37, Try.ntmps37
        go_wp2
        go_ret
        exact ⟨congrArg (fun b => Ending.returned (Value.bool b)) (may_not hn s), (Below.refl _ _).alloc (Nat.le_refl _) _⟩
    · have e2 : (k == 2) = false := by simp [h2]
      go_enter Try.func37, Try.ntmps37
      go_wp2
      go_ret
      exact ⟨congrArg (fun b => Ending.returned (Value.bool b)) (may_none h1 h2 s), (Below.refl _ _).alloc (Nat.le_refl _) _⟩
set_option maxHeartbeats 400000 in
theorem refmay_any (k n : Int) (s : ByteArray) (w : World) :
    Calls Try.prog 31 #[vV k n s] w fun e w' => e = .returned (.bool (mayV k n (bls s))) ∧ Below w.heap.size w w' := by
  by_cases h1 : k = 1
  · subst h1
    go_enter Try.func31, Try.ntmps31
    go_wp2
    go_ret
    exact ⟨congrArg (fun b => Ending.returned (Value.bool b)) (may_one n s), (Below.refl _ _).alloc (Nat.le_refl _) _⟩
  · have e1 : (k == 1) = false := by simp [h1]
    by_cases h2 : k = 2
    · subst h2
      by_cases hn : n = 0
      · have e3 : (n == 0) = true := by simp [hn]
        go_enter Try.func31, Try.ntmps31
        go_wp2
        go_ret
        exact ⟨congrArg (fun b => Ending.returned (Value.bool b)) (may_two hn s), (Below.refl _ _).alloc (Nat.le_refl _) _⟩
      · have e3 : (n == 0) = false := by simp [hn]
        go_enter Try.func31, Try.ntmps31
        go_wp2
        go_ret
        exact ⟨congrArg (fun b => Ending.returned (Value.bool b)) (may_not hn s), (Below.refl _ _).alloc (Nat.le_refl _) _⟩
    · have e2 : (k == 2) = false := by simp [h2]
      go_enter Try.func31, Try.ntmps31
      go_wp2
      go_ret
      exact ⟨congrArg (fun b => Ending.returned (Value.bool b)) (may_none h1 h2 s), (Below.refl _ _).alloc (Nat.le_refl _) _⟩
end Go.Proofs.Ytjojhoaienjjeaa
