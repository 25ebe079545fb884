/- The marks' zero: 65536 cells that say no. -/
import Derived.Test.YtgkelfhmpeakkaaDz
import Derived.Test.YtgkelfhmpeakkaaProg
import Derived.Deep.WholeRow
import Derived.Deep.MidRow
import Derived.Deep.LoopGhost
namespace Go.Proofs.Ytgkelfhmpeakkaa
open Go.RowKit
set_option linter.unusedVariables false

/-- 64, and twice as many with each step. -/
def pw : Nat → Nat
  | 0 => 64
  | k + 1 => pw k + pw k
theorem rep_app {α : Type} {x : α} {k : Nat} {a b : List α} (ha : a = List.replicate (pw k) x) (hb : b = List.replicate (pw k) x) : List.append a b = List.replicate (pw (k + 1)) x := by
  subst ha hb
  exact List.replicate_append_replicate
/-- No mark. -/
def noMark : Value := .bool false
theorem rep_64 : [noMark, noMark, noMark, noMark, noMark, noMark, noMark, noMark, noMark, noMark, noMark, noMark, noMark, noMark, noMark, noMark, noMark, noMark, noMark, noMark, noMark, noMark, noMark, noMark, noMark, noMark, noMark, noMark, noMark, noMark, noMark, noMark, noMark, noMark, noMark, noMark, noMark, noMark, noMark, noMark, noMark, noMark, noMark, noMark, noMark, noMark, noMark, noMark, noMark, noMark, noMark, noMark, noMark, noMark, noMark, noMark, noMark, noMark, noMark, noMark, noMark, noMark, noMark, noMark] = List.replicate (pw 0) noMark := rfl
set_option maxRecDepth 100000 in
theorem marks_rep : ∃ L : List Value, Try.t53.zero = some (.agg L.toArray) ∧ L = List.replicate (pw 10) noMark := by
  refine ⟨_, rfl, ?_⟩
  iterate 10 (all_goals apply rep_app)
  all_goals exact rep_64

/-- The cells of the marks p. -/
def mA (n : Nat) (p : Nat → Bool) : Array Value := Array.ofFn (n := n) fun j => Value.bool (p j.val)
theorem mA_size (n : Nat) (p : Nat → Bool) : (mA n p).size = n := by simp [mA]
theorem mA_one (n : Nat) (p : Nat → Bool) : (mA n p).all (·.oneCell') = true := by
  rw [Array.all_eq_true]
  intro i h
  simp [mA, Value.oneCell']
theorem mA_at (n : Nat) (p : Nat → Bool) (x : Nat) (h : x < n) : (mA n p)[x]? = some (.bool (p x)) := by
  rw [Array.getElem?_eq_getElem (by simpa [mA] using h)]
  simp [mA]
theorem mA_set (n : Nat) (p : Nat → Bool) (x : Nat) (b : Bool) : (mA n p).setIfInBounds x (.bool b) = mA n (fun i => if i = x then b else p i) := by
  apply Array.ext
  · simp [mA]
  · intro i h1 h2
    rw [Array.getElem_setIfInBounds (by simpa using h1)]
    simp only [mA, Array.getElem_ofFn]
    by_cases h : x = i
    · subst h
      simp
    · rw [if_neg h, if_neg (fun e => h e.symm)]
theorem mA_rep (n : Nat) : (List.replicate n noMark).toArray = mA n fun _ => false := by
  apply Array.ext
  · simp only [List.size_toArray, List.length_replicate, mA_size]
  · intro i h1 h2
    simp only [mA, Array.getElem_ofFn, List.getElem_toArray, List.getElem_replicate]
    rfl
theorem pw10 : pw 10 = 65536 := by simp [pw]
theorem zeroM : (Try.prog.info? 53).map (fun i => (i.zero, i.size)) = some (some (.agg (mA 65536 fun _ => false)), 65536) := by
  have h : Try.prog.info? 53 = some Try.t53 := by kernel_rfl
  obtain ⟨L, h1, h2⟩ := marks_rep
  rw [h, Option.map_some, h1, h2, mA_rep, pw10]
  rfl

end Go.Proofs.Ytgkelfhmpeakkaa
