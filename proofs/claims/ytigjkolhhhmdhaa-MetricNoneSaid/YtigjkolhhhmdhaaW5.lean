/- Walks: a copy of bytes; a new reader. -/
import Derived.Test.YtigjkolhhhmdhaaW4
namespace Go.Proofs.Ytigjkolhhhmdhaa
open Go.RowKit
set_option linter.unusedVariables false

theorem Ow.nil_ (w : World) (base : Nat) : Ow w base (.slice none 0 0) [] := World.ownsRow_nil w base _ _
theorem Ow.empty_ (w : World) (base : Nat) (h : base ≤ w.heap.size) : Ow (w.alloc (.cells #[] 5)) base (.slice (some ⟨w.heap.size, 0, none⟩) 0 0) [] :=
  World.ownsRow_lit w #[] 0 h (Nat.zero_le _) rfl

set_option maxHeartbeats 400000 in
theorem clone_any (v : Value) (l : List UInt8) (lo : Nat) (w : World) (hv : Sl w lo w.heap.size v l) (hb : l.length ≤ 100000000) :
    Calls Try.prog 34 #[v] w fun e w' => ∃ v', e = .returned v' ∧ Ow w' w.heap.size v' l ∧ Below w.heap.size w w' := by
  have hv0 := hv
  obtain ⟨A, c, rfl, hc0, -, -, hbt⟩ := hv
  cases A with
  | none =>
    obtain rfl := hc0 rfl
    have hl : l = [] := by
      by_cases h : l = []
      · exact h
      · obtain ⟨b, off, e, _⟩ := hbt h
        cases e
    subst hl
    clear hc0 hbt hv0
    have hq := fun W n c => Lib.run_eql_slice_nil (P := Try.prog) W 31 5 none n c 0 0 Try.underlying31
    simp only [Option.isNone_none] at hq
    go_enter Try.func34, Try.ntmps34
    go_wp2
    go_ret
    exact ⟨_, rfl, Ow.nil_ _ _, Below.refl _ _⟩
  | some ad =>
    clear hc0 hbt
    have hq := fun W n c => Lib.run_eql_slice_nil (P := Try.prog) W 31 5 (some ad) n c 0 0 Try.underlying31
    simp only [Option.isNone_some] at hq
    go_enter Try.func34, Try.ntmps34
    go_wp2_with (at_builtin; refine wpList_app _ rfl _ _ _ rfl w.heap.size Try.underlying31 info8 _ [] rfl (Ow.empty_ _ _ (Nat.le_refl _)) lo w.heap.size _ l rfl (hv0.alloc (Nat.le_refl _) _) (by simp; omega) (by simp) ?_; intro v2 w2 o2 g2 _)
    go_ret
    exact ⟨v2, rfl, by simpa using o2, ((Below.refl _ _).alloc (Nat.le_refl _) _).grown g2 (by simp) (fun k h => by injection h with h; subst h; exact Nat.le_refl _)⟩

/-- Block g is a reader: the bytes v, which are l; the place p; whether it is bad. -/
structure Rd (w : World) (base g : Nat) (v : Value) (l : List UInt8) (p : Nat) (x : Bool) : Prop where
  row : Row w g 70 #[v, .int .i64 p, .bool x]
  own : Ow w base v l
  ge : base ≤ g
  le : p ≤ l.length
  small : l.length ≤ 10000000

section
variable {w w' : World} {base g : Nat} {v : Value} {l : List UInt8} {p : Nat} {x : Bool}
theorem Ow.not_row {t : TypeId} {cs : Array Value} (h : Ow w base v l) (hr : Row w g t cs) (ht : t ≠ 5) : v.ownBlock ≠ some g := by
  rcases h.2 with ⟨rfl, _⟩ | ⟨g', cap, cur, rfl, _, hh, _⟩
  · simp [Value.ownBlock]
  · intro e
    simp only [Value.ownBlock, Option.some.injEq] at e
    subst e
    unfold Row at hr
    rw [hh] at hr
    injection hr with hr
    injection hr with _ h2
    exact ht h2.symm
theorem Rd.c0 (h : Rd w base g v l p x) : w.cell? ⟨g, 0, none⟩ = some v := by rw [h.row.cell]; rfl
theorem Rd.c1 (h : Rd w base g v l p x) : w.cell? ⟨g, 1, none⟩ = some (.int .i64 p) := by rw [h.row.cell]; rfl
theorem Rd.c2 (h : Rd w base g v l p x) : w.cell? ⟨g, 2, none⟩ = some (.bool x) := by rw [h.row.cell]; rfl
theorem Rd.ne (h : Rd w base g v l p x) : v.ownBlock ≠ some g := h.own.not_row h.row (by decide)
theorem Rd.grown {row : Option Nat} (h : Rd w base g v l p x) (hg : w.grownBy w' row) (hr : ∀ k, row = some k → k < base) : Rd w' base g v l p x :=
  ⟨h.row.grown hg (fun e => by have := hr g e; have := h.ge; omega), h.own.kept hg (fun k hk e => by have := hr k e; have := (h.own.lt k hk).1; omega), h.ge, h.le, h.small⟩
theorem Rd.far {row : Nat} (h : Rd w base g v l p x) (hg : w.grownBy w' (some row)) (h1 : row ≠ g) (h2 : v.ownBlock ≠ some row) : Rd w' base g v l p x :=
  ⟨h.row.grown hg (fun e => h1 (Option.some.inj e)), h.own.kept hg (fun k hk e => by injection e with e; subst e; exact h2 hk), h.ge, h.le, h.small⟩
theorem Rd.below {B : Nat} (h : Rd w base g v l p x) (hb : Below B w w') (hB : w.heap.size ≤ B) : Rd w' base g v l p x :=
  ⟨h.row.below hb (Nat.lt_of_lt_of_le h.row.lt hB), h.own.below hb hB, h.ge, h.le, h.small⟩
theorem Rd.alloc (h : Rd w base g v l p x) (o : Obj) : Rd (w.alloc o) base g v l p x := ⟨h.row.alloc o, h.own.alloc o, h.ge, h.le, h.small⟩
theorem Rd.lt (h : Rd w base g v l p x) : g < w.heap.size := h.row.lt
theorem Rd.more (h : Rd w base g v l p x) {base' : Nat} (hb : base' ≤ base) : Rd w base' g v l p x := ⟨h.row, h.own.more hb, Nat.le_trans hb h.ge, h.le, h.small⟩
theorem Rd.drewN (h : Rd w base g v l p x) (n : Nat) : Rd (w.drewN n) base g v l p x := ⟨h.row, h.own, h.ge, h.le, h.small⟩
end

set_option maxHeartbeats 400000 in
theorem new_any (v : Value) (l : List UInt8) (lo : Nat) (w : World) (hv : Sl w lo w.heap.size v l) (hb : l.length ≤ 10000000) :
    Calls Try.prog 24 #[v] w fun e w' => ∃ g v', e = .returned (.pointer (some ⟨g, 0, none⟩)) ∧ Rd w' w.heap.size g v' l 0 false ∧ Below w.heap.size w w' := by
  go_enter Try.func24, Try.ntmps24
  go_wp2_with (go_at_call 34; refine (clone_any v l lo _ hv (by omega)).mono ?_; rintro e w1 ⟨v1, rfl, o1, b1⟩; obtain ⟨A1, c1, rfl, -⟩ := o1.sl)
  go_ret
  exact ⟨w1.heap.size, _, rfl, ⟨Row.new _ _ _, o1.alloc _, b1.size, Nat.zero_le _, hb⟩, b1.alloc b1.size _⟩
end Go.Proofs.Ytigjkolhhhmdhaa
