/- The marks: Of (cut from stages 4 to 6) -/
import Derived.Test.YtfefmlnlicilbaaDoorU6
import Derived.Test.YtfefmlnlicilbaaDoorProg
import Derived.Deep.WholeRow
import Derived.Deep.MidRow
import Derived.Deep.LoopGhost
namespace Go.Proofs.YtfefmlnlicilbaaDoor
open Go.RowKit
set_option linter.unusedVariables false

/-- 64, and twice as many with each step. -/
def pw : Nat → Nat
  | 0 => 64
  | k + 1 => pw k + pw k
theorem rep_app {α : Type} {x : α} {k : Nat} {a b : List α} (ha : a = List.replicate (pw k) x) (hb : b = List.replicate (pw k) x) : List.append a b = List.replicate (pw (k + 1)) x := by
  subst ha hb
  exact List.replicate_append_replicate
/-- No mark. -/
def noMark : Value := .bool false
theorem rep_64 : [noMark, noMark, noMark, noMark, noMark, noMark, noMark, noMark, noMark, noMark, noMark, noMark, noMark, noMark, noMark, noMark, noMark, noMark, noMark, noMark, noMark, noMark, noMark, noMark, noMark, noMark, noMark, noMark, noMark, noMark, noMark, noMark, noMark, noMark, noMark, noMark, noMark, noMark, noMark, noMark, noMark, noMark, noMark, noMark, noMark, noMark, noMark, noMark, noMark, noMark, noMark, noMark, noMark, noMark, noMark, noMark, noMark, noMark, noMark, noMark, noMark, noMark, noMark, noMark] = List.replicate (pw 0) noMark := rfl
set_option maxRecDepth 100000 in
theorem marks_rep : ∃ L : List Value, Tryd.t47.zero = some (.agg L.toArray) ∧ L = List.replicate (pw 10) noMark := by
  refine ⟨_, rfl, ?_⟩
  iterate 10 (all_goals apply rep_app)
  all_goals exact rep_64
/-- The cells of the marks p. -/
def mA (n : Nat) (p : Nat → Bool) : Array Value := Array.ofFn (n := n) fun j => Value.bool (p j.val)
theorem mA_size (n : Nat) (p : Nat → Bool) : (mA n p).size = n := by simp [mA]
theorem mA_one (n : Nat) (p : Nat → Bool) : (mA n p).all (·.oneCell') = true := by
  rw [Array.all_eq_true]
  intro i h
  simp [mA, Value.oneCell']
theorem mA_at (n : Nat) (p : Nat → Bool) (x : Nat) (h : x < n) : (mA n p)[x]? = some (.bool (p x)) := by
  rw [Array.getElem?_eq_getElem (by simpa [mA] using h)]
  simp [mA]
theorem mA_set (n : Nat) (p : Nat → Bool) (x : Nat) (b : Bool) : (mA n p).setIfInBounds x (.bool b) = mA n (fun i => if i = x then b else p i) := by
  apply Array.ext
  · simp [mA]
  · intro i h1 h2
    rw [Array.getElem_setIfInBounds (by simpa using h1)]
    simp only [mA, Array.getElem_ofFn]
    by_cases h : x = i
    · subst h
      simp
    · rw [if_neg h, if_neg (fun e => h e.symm)]
theorem mA_rep (n : Nat) : (List.replicate n noMark).toArray = mA n fun _ => false := by
  apply Array.ext
  · simp only [List.size_toArray, List.length_replicate, mA_size]
  · intro i h1 h2
    simp only [mA, Array.getElem_ofFn, List.getElem_toArray, List.getElem_replicate]
    rfl
theorem pw10 : pw 10 = 65536 := by simp [pw]
theorem zeroM : (Tryd.prog.info? 47).map (fun i => (i.zero, i.size)) = some (some (.agg (mA 65536 fun _ => false)), 65536) := by
  have h : Tryd.prog.info? 47 = some Tryd.t47 := by kernel_rfl
  obtain ⟨L, h1, h2⟩ := marks_rep
  rw [h, Option.map_some, h1, h2, mA_rep, pw10]
  rfl
set_option maxHeartbeats 400000 in
theorem of_any (v : Value) (l : List UInt16) (lo : Nat) (w : World) (hv : Gs e16 w lo w.heap.size v l) (hb : l.length ≤ 100000000) :
    Calls Tryd.prog 7 #[v] w fun e w' => e = .returned (.pointer (some ⟨w.heap.size, 0, none⟩)) ∧ Row w' w.heap.size 47 (mA 65536 (mk l)) ∧ Below w.heap.size w w' := by
  have HV := Lib.hid hv
  obtain ⟨A, c, rfl, -⟩ := hv
  have hz := (zero_of_info zeroM).1
  generalize hZ : mA 65536 (fun _ => false) = Z at hz
  go_enter Tryd.func7, Tryd.ntmps7
  go_wp2
  subst hZ
  go_loopw [4] (fun i wr => ∃ k : Nat, k ≤ l.length ∧ i = .int .i64 k ∧ Row wr w.heap.size 47 (mA 65536 (mk (l.take k))) ∧ Below w.heap.size w wr) (fun i _ => l.length - (intOf i).toNat)
  case atStart => exact ⟨0, Nat.zero_le _, rfl, Row.new _ _ _, (Below.refl _ _).alloc (Nat.le_refl _) _⟩
  case round =>
    obtain ⟨k, hk, rfl, hr, hbl⟩ := hrel
    have HR := Lib.hid hr
    have HB := Lib.hid hbl
    by_cases hlt : k < l.length
    · obtain ⟨b, o, c, e1, -, -, -, hbk, hc⟩ := HV.out.form (by rintro rfl; simp at hlt)
      injection e1 with e1 _ e2
      subst e1 e2
      have k1 := hc k _ (at16_get hlt)
      simp only [e16, b16] at k1
      rw [← hbl.cell (p := ⟨b, o + k, none⟩) hbk] at k1
      have hlx := u16_lt (at16 l k)
      have hst : mA 65536 (mk (l.take (k + 1))) = (mA 65536 (mk (l.take k))).setIfInBounds (at16 l k).toNat (.bool true) := by
        rw [mA_set, List.take_add_one, at16_get hlt]
        unfold mA
        congr 1
        funext j
        simp [mk, List.any_append]
        by_cases hj : (at16 l k).toNat = j.val
        · simp [hj]
        · simp [hj, Ne.symm hj]
      have c1 := hr.cell (at16 l k).toNat
      rw [mA_at _ _ _ hlx] at c1
      have c2 := hr.frozen (at16 l k).toNat
      obtain ⟨y, hy⟩ : ∃ y : Nat, y = (at16 l k).toNat := ⟨_, rfl⟩
      rw [← hy] at c1 c2 k1 hst
      have hyl : (y : Int) < 65536 := by omega
      have HS := Lib.hid hst
      clear hc hy hst hr hbl hlx
      go_wp2_with fail
      go_region
      go_wp2
      go_roundw
      case rel => exact ⟨k + 1, hlt, by go_num, by rw [HS.out]; exact Row.set_ HR.out y _, (HB.out.drew).grown (grown_set _ _ _ _) HB.out.size (fun j h => by injection h with h; subst h; exact Nat.le_refl _)⟩
      case measure => simp [intOf]; omega
    · obtain rfl : k = l.length := by omega
      rw [List.take_length] at hr
      have HR := Lib.hid hr
      clear hr hbl
      go_wp2
      go_ret
      exact ⟨rfl, HR.out, HB.out⟩
end Go.Proofs.YtfefmlnlicilbaaDoor
