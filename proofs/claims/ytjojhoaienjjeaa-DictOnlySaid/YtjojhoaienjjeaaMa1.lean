/- Plain mathematics: short numbers and how they are read. No Go in sight. -/
import Derived.Test.YtjojhoaienjjeaaMa0
import Derived.BigRegion
import Derived.BigQuiet
import Derived.Deep.QuietTactic
import Derived.WalkKit
import Derived.Lib.BitFns
/- Walks: the document's Less and Compare. -/
namespace Go.Proofs.Ytjojhoaienjjeaa
open Go.RowKit
set_option linter.unusedVariables false

theorem get_bl (s : ByteArray) (j : Nat) (h : j < s.size) : ((bls s).getD j 0) = s[j]'h := by
  have h' : j < (bls s).length := by rw [bls_len]; exact h
  rw [List.getD_eq_getElem?_getD, List.getElem?_eq_getElem h']
  simp only [Option.getD_some, bls]
  exact Array.getElem_toList _
theorem cmpV_k {k n : Int} {s : List UInt8} {k' n' : Int} {s' : List UInt8} (h : k ≠ k') : decide (k < k') = decide (cmpV k n s k' n' s' < 0) := by
  unfold cmpV orI
  rcases cmpI_or k k' with ⟨g, e⟩ | ⟨g, e⟩ | ⟨g, e⟩
  · rw [e]; simp [g]
  · exact absurd g h
  · rw [e]; have : ¬ k < k' := by omega
    simp [this]
theorem cmpV_n {k n : Int} {s : List UInt8} {n' : Int} {s' : List UInt8} (h : n ≠ n') : decide (n < n') = decide (cmpV k n s k n' s' < 0) := by
  unfold cmpV orI
  rw [cmpI_eq]
  rcases cmpI_or n n' with ⟨g, e⟩ | ⟨g, e⟩ | ⟨g, e⟩
  · rw [e]; simp [g]
  · exact absurd g h
  · rw [e]; have : ¬ n < n' := by omega
    simp [this]
theorem cmpV_s (k n : Int) (s s' : List UInt8) : cmpV k n s k n s' = cmpB s s' := by
  unfold cmpV orI
  rw [cmpI_eq, cmpI_eq]
  simp
theorem less_end {s s' : ByteArray} {j : Nat} (k n : Int) (hj : j ≤ s.size) (hj' : j ≤ s'.size) (h : ¬ (j < s.size ∧ j < s'.size)) (hc : cmpB (bls s) (bls s') = cmpB ((bls s).drop j) ((bls s').drop j)) :
    decide (s.size < s'.size) = decide (cmpV k n (bls s) k n (bls s') < 0) := by
  rw [cmpV_s, hc, cmpB_end _ _ j (by rw [bls_len, bls_len]; omega), bls_len, bls_len]
  rcases cmpI_or s.size s'.size with ⟨g, e⟩ | ⟨g, e⟩ | ⟨g, e⟩ <;> rw [e]
  · have : s.size < s'.size := by omega
    simp [this]
  · have : ¬ s.size < s'.size := by omega
    simp [this]
  · have : ¬ s.size < s'.size := by omega
    simp [this]
theorem less_here {s s' : ByteArray} {j x y : Nat} (k n : Int) (h1 : j < s.size) (h2 : j < s'.size) (hx : (s[j]'h1).toNat = x) (hy : (s'[j]'h2).toNat = y) (hne : x ≠ y) (hc : cmpB (bls s) (bls s') = cmpB ((bls s).drop j) ((bls s').drop j)) :
    decide (x < y) = decide (cmpV k n (bls s) k n (bls s') < 0) := by
  rw [cmpV_s, hc, cmpB_next _ _ j (by rw [bls_len]; exact h1) (by rw [bls_len]; exact h2), get_bl s j h1, get_bl s' j h2, hx, hy, if_neg hne]
  rcases cmpI_or x y with ⟨g, e⟩ | ⟨g, e⟩ | ⟨g, e⟩ <;> rw [e]
  · have : x < y := by omega
    simp [this]
  · exact absurd (by omega) hne
  · have : ¬ x < y := by omega
    simp [this]
theorem less_next {s s' : ByteArray} {j x y : Nat} (h1 : j < s.size) (h2 : j < s'.size) (hx : (s[j]'h1).toNat = x) (hy : (s'[j]'h2).toNat = y) (he : x = y) (hc : cmpB (bls s) (bls s') = cmpB ((bls s).drop j) ((bls s').drop j)) :
    cmpB (bls s) (bls s') = cmpB ((bls s).drop (j + 1)) ((bls s').drop (j + 1)) := by
  rw [hc, cmpB_next _ _ j (by rw [bls_len]; exact h1) (by rw [bls_len]; exact h2), get_bl s j h1, get_bl s' j h2, hx, hy, if_pos he]

set_option maxHeartbeats 1000000 in
theorem less_any (k n : Int) (s : ByteArray) (k' n' : Int) (s' : ByteArray) (w : World) (hs : s.size ≤ 1000000000) (hs' : s'.size ≤ 1000000000) :
    Calls Try.prog 53 #[vV k n s, vV k' n' s'] w fun e w' => e = .returned (.bool (decide (cmpV k n (bls s) k' n' (bls s') < 0))) ∧ Below w.heap.size w w' := by
  by_cases hk : k = k'
  · subst hk
    have e0 : (k != k) = false := by simp
    by_cases hn : n = n'
    · subst hn
      have e1 : (n != n) = false := by simp
      go_enter Try.func53, Try.ntmps53
      go_wp2
      go_loopw [5] (fun i wr => ∃ j : Nat, i = .int .i64 j ∧ j ≤ s.size ∧ j ≤ s'.size ∧ cmpB (bls s) (bls s') = cmpB ((bls s).drop j) ((bls s').drop j) ∧ Bx2 w wr k n s k n s') (fun i _ => (s.size - intOf i).toNat)
      case atStart => exact ⟨0, rfl, Nat.zero_le _, Nat.zero_le _, rfl, Bx2.new w k n s k n s'⟩
      case round =>
        obtain ⟨j, rfl, hj, hj', hc, hB⟩ := hrel
        have a2 := hB.a2
        have b2 := hB.b2
        have HB := Lib.hid hB
        have HC := Lib.hid hc
        clear hB hc
        by_cases h1 : j < s.size
        · by_cases h2 : j < s'.size
          · have d1 : decide ((j : Int) < s.size) = true := decide_eq_true (by omega)
            have d2 : decide ((j : Int) < s'.size) = true := decide_eq_true (by omega)
            obtain ⟨x, hx⟩ : ∃ x, (s[j]'h1).toNat = x := ⟨_, rfl⟩
            obtain ⟨y, hy⟩ : ∃ y, (s'[j]'h2).toNat = y := ⟨_, rfl⟩
            by_cases he : x = y
            · have d3 : ((x : Int) != (y : Int)) = false := by simp [he]
              have HE := Lib.hid he
              clear he
              go_wp2
              go_region
              go_wp2
              go_roundw
              case rel => exact ⟨j + 1, by go_num, by omega, by omega, less_next h1 h2 hx hy HE.out HC.out, HB.out.drew⟩
              case measure => simp [intOf]; omega
            · have d3 : ((x : Int) != (y : Int)) = true := by simp; omega
              have HE := Lib.hid he
              clear he
              go_wp2
              go_region
              go_wp2
              go_region
              go_wp2
              go_ret
              exact ⟨congrArg (fun b => Ending.returned (Value.bool b)) (less_here k n h1 h2 hx hy HE.out HC.out), HB.out.below.drew.drew⟩
          · have d1 : decide ((j : Int) < s.size) = true := decide_eq_true (by omega)
            have d2 : decide ((j : Int) < s'.size) = false := decide_eq_false (by omega)
            go_wp2
            go_ret
            exact ⟨congrArg (fun b => Ending.returned (Value.bool b)) (less_end k n hj hj' (fun h => h2 h.2) HC.out), HB.out.below⟩
        · have d1 : decide ((j : Int) < s.size) = false := decide_eq_false (by omega)
          go_wp2
          go_ret
          exact ⟨congrArg (fun b => Ending.returned (Value.bool b)) (less_end k n hj hj' (fun h => h1 h.1) HC.out), HB.out.below⟩
    · have e1 : (n != n') = true := by simp [hn]
      go_enter Try.func53, Try.ntmps53
      go_wp2
      go_ret
      exact ⟨congrArg (fun b => Ending.returned (Value.bool b)) (cmpV_n hn), (Bx2.new w k n s k n' s').below⟩
  · have e0 : (k != k') = true := by simp [hk]
    go_enter Try.func53, Try.ntmps53
    go_wp2
    go_ret
    exact ⟨congrArg (fun b => Ending.returned (Value.bool b)) (cmpV_k hk), (Bx2.new w k n s k' n' s').below⟩

set_option maxHeartbeats 1000000 in
theorem refcompare_any (k n : Int) (s : ByteArray) (k' n' : Int) (s' : ByteArray) (w : World) (hs : s.size ≤ 1000000000) (hs' : s'.size ≤ 1000000000) :
    Calls Try.prog 56 #[vV k n s, vV k' n' s'] w fun e w' => e = .returned (.int .i64 (cmpV k n (bls s) k' n' (bls s'))) ∧ Below w.heap.size w w' := by
  have h1 := fun W => less_any k n s k' n' s' W hs hs'
  have h2 := fun W => less_any k' n' s' k n s W hs' hs
  have ht := cmpV_turn k n (bls s) k' n' (bls s')
  rw [ht] at h2
  rcases cmpV_three k n (bls s) k' n' (bls s') with h | h | h
  all_goals
    rw [h] at h1 h2 ⊢
    have H1 := Lib.hid h1
    have H2 := Lib.hid h2
    clear h1 h2 ht h
    go_enter Try.func56, Try.ntmps56
  · go_wp2_with (go_at_call 53; refine (H1.out _).mono ?_; rintro e w1 ⟨rfl, b1⟩; have hB := (Bx2.new w k n s k' n' s').step b1; have a0 := hB.a0; have a1 := hB.a1; have a2 := hB.a2; have b0 := hB.b0; have c1 := hB.b1; have c2 := hB.b2; have HB := Lib.hid hB; clear hB b1 H1)
    go_ret
    exact ⟨rfl, HB.out.below⟩
  · go_wp2_with (first | (go_at_call 53; refine (H1.out _).mono ?_; rintro e w1 ⟨rfl, b1⟩; have hB := (Bx2.new w k n s k' n' s').step b1; have a0 := hB.a0; have a1 := hB.a1; have a2 := hB.a2; have b0 := hB.b0; have c1 := hB.b1; have c2 := hB.b2; have HB := Lib.hid hB; clear hB b1 H1) | (go_at_call 53; refine (H2.out _).mono ?_; rintro e w2 ⟨rfl, b2⟩; have HC := Lib.hid (HB.out.step b2); clear b2 H2))
    go_ret
    exact ⟨rfl, HC.out.below⟩
  · go_wp2_with (first | (go_at_call 53; refine (H1.out _).mono ?_; rintro e w1 ⟨rfl, b1⟩; have hB := (Bx2.new w k n s k' n' s').step b1; have a0 := hB.a0; have a1 := hB.a1; have a2 := hB.a2; have b0 := hB.b0; have c1 := hB.b1; have c2 := hB.b2; have HB := Lib.hid hB; clear hB b1 H1) | (go_at_call 53; refine (H2.out _).mono ?_; rintro e w2 ⟨rfl, b2⟩; have HC := Lib.hid (HB.out.step b2); clear b2 H2))
    go_ret
    exact ⟨rfl, HC.out.below⟩
end Go.Proofs.Ytjojhoaienjjeaa
/- Plain mathematics: rows of values, the document's dictionary. -/
namespace Go.Proofs.Ytjojhoaienjjeaa
open Go.RowKit
set_option linter.unusedVariables false

/-- Which of two values comes first. -/
def cmpW (x y : VV) : Int := cmpV x.k x.n (bls x.s) y.k y.n (bls y.s)
theorem bls_inj {s t : ByteArray} (h : bls s = bls t) : s = t := by
  apply ByteArray.ext
  exact Array.toList_inj.1 h
theorem cmpW_three (x y : VV) : cmpW x y = -1 ∨ cmpW x y = 0 ∨ cmpW x y = 1 := cmpV_three _ _ _ _ _ _
theorem cmpW_zero {x y : VV} : cmpW x y = 0 ↔ x = y := by
  unfold cmpW
  rw [cmpV_zero]
  constructor
  · rintro ⟨h1, h2, h3⟩
    obtain ⟨k, n, s⟩ := x
    obtain ⟨k', n', s'⟩ := y
    simp only at h1 h2 h3
    rw [h1, h2, bls_inj h3]
  · rintro rfl; exact ⟨rfl, rfl, rfl⟩
theorem cmpW_turn (x y : VV) : cmpW y x = -cmpW x y := cmpV_turn _ _ _ _ _ _
theorem cmpW_self (x : VV) : cmpW x x = 0 := cmpW_zero.2 rfl
theorem cmpW_over (x y z : VV) (h1 : cmpW x y ≤ 0) (h2 : cmpW y z ≤ 0) : cmpW x z ≤ 0 ∧ (cmpW x z = 0 → cmpW x y = 0 ∧ cmpW y z = 0) := cmpV_over _ _ _ _ _ _ _ _ _ h1 h2
theorem cmpW_lt {x y z : VV} (h1 : cmpW x y < 0) (h2 : cmpW y z ≤ 0) : cmpW x z < 0 := by
  have h := cmpW_over x y z (by omega) h2
  rcases cmpW_three x z with g | g | g
  · omega
  · have := (h.2 g).1; omega
  · omega
theorem cmpW_lt' {x y z : VV} (h1 : cmpW x y ≤ 0) (h2 : cmpW y z < 0) : cmpW x z < 0 := by
  have h := cmpW_over x y z h1 (by omega)
  rcases cmpW_three x z with g | g | g
  · omega
  · have := (h.2 g).2; omega
  · omega
/-- Are two the same, as the model's '==' has it? -/
def eqW (x y : VV) : Bool := cmpW x y == 0
theorem eqW_iff {x y : VV} : eqW x y = true ↔ x = y := by unfold eqW; rw [beq_iff_eq, cmpW_zero]
theorem eqW_not {x y : VV} : eqW x y = false ↔ x ≠ y := by
  rw [← Bool.not_eq_true, eqW_iff]

/-- A row that rises. -/
def rise (l : List VV) : Prop := l.Pairwise fun x y => cmpW x y < 0
/-- A value ahead of the first one that is more. -/
def insV : List VV → VV → List VV
  | [], v => [v]
  | x :: r, v => if cmpW v x < 0 then v :: x :: r else x :: insV r v
/-- Is one of them more than v? -/
def anyV (l : List VV) (v : VV) : Bool := l.any fun x => decide (cmpW v x < 0)
theorem insV_none : ∀ (l : List VV) (v : VV), anyV l v = false → insV l v = l ++ [v]
  | [], v, _ => rfl
  | x :: r, v, h => by
    unfold anyV at h
    rw [List.any_cons, Bool.or_eq_false_iff, decide_eq_false_iff_not] at h
    rw [insV, if_neg h.1, insV_none r v h.2, List.cons_append]
theorem insV_some : ∀ (l m : List VV) (v : VV), anyV l v = true → insV (l ++ m) v = insV l v ++ m
  | [], m, v, h => by simp [anyV] at h
  | x :: r, m, v, h => by
    unfold anyV at h
    rw [List.any_cons, Bool.or_eq_true, decide_eq_true_eq] at h
    rw [List.cons_append, insV, insV]
    by_cases g : cmpW v x < 0
    · rw [if_pos g, if_pos g]; rfl
    · rw [if_neg g, if_neg g, insV_some r m v (h.resolve_left g), List.cons_append]
theorem insV_here (l : List VV) (x v : VV) (h : anyV l v = false) (hx : cmpW v x < 0) : insV (l ++ [x]) v = l ++ [v, x] := by
  induction l with
  | nil => simp [insV, hx]
  | cons y r ih =>
    unfold anyV at h
    rw [List.any_cons, Bool.or_eq_false_iff, decide_eq_false_iff_not] at h
    rw [List.cons_append, insV, if_neg h.1, ih h.2, List.cons_append]
theorem anyV_snoc (l : List VV) (x v : VV) : anyV (l ++ [x]) v = (anyV l v || decide (cmpW v x < 0)) := by simp [anyV]
theorem insV_len (l : List VV) (v : VV) : (insV l v).length = l.length + 1 := by
  induction l with
  | nil => rfl
  | cons x r ih => rw [insV]; split <;> simp [ih]
theorem insV_mem (l : List VV) (v x : VV) : x ∈ insV l v ↔ x = v ∨ x ∈ l := by
  induction l with
  | nil => simp [insV]
  | cons y r ih =>
    rw [insV]
    split
    · simp
    · simp only [List.mem_cons, ih]
      constructor
      · rintro (h | h | h)
        · exact .inr (.inl h)
        · exact .inl h
        · exact .inr (.inr h)
      · rintro (h | h | h)
        · exact .inr (.inl h)
        · exact .inl h
        · exact .inr (.inr h)
/-- The document's Put. -/
def putV (l : List VV) (v : VV) : List VV := if l.any (fun x => eqW x v) then l else insV l v
theorem putV_mem (l : List VV) (v x : VV) : x ∈ putV l v ↔ x = v ∨ x ∈ l := by
  unfold putV
  split
  · rename_i h
    obtain ⟨y, hy, he⟩ := List.any_eq_true.1 h
    rw [eqW_iff] at he
    subst he
    constructor
    · exact .inr
    · rintro (rfl | h)
      · exact hy
      · exact h
  · exact insV_mem l v x
theorem putV_len (l : List VV) (v : VV) : (putV l v).length ≤ l.length + 1 := by
  unfold putV
  split
  · omega
  · rw [insV_len]; omega
theorem insV_rise (l : List VV) (v : VV) (h : rise l) (hn : ∀ x ∈ l, x ≠ v) : rise (insV l v) := by
  induction l with
  | nil => exact List.pairwise_singleton _ _
  | cons x r ih =>
    obtain ⟨h1, h2⟩ := List.pairwise_cons.1 h
    rw [insV]
    split
    · rename_i g
      refine List.pairwise_cons.2 ⟨fun y hy => ?_, h⟩
      rcases List.mem_cons.1 hy with e | e
      · rw [e]; exact g
      · have := h1 y e; exact cmpW_lt g (by omega)
    · rename_i g
      refine List.pairwise_cons.2 ⟨fun y hy => ?_, ih h2 (fun y hy => hn y (by simp [hy]))⟩
      rcases (insV_mem r v y).1 hy with e | e
      · rw [e]
        have h0 : cmpW x v ≠ 0 := fun e => hn x (by simp) (cmpW_zero.1 e)
        have ht := cmpW_turn v x
        rcases cmpW_three x v with q | q | q <;> omega
      · exact h1 y e
theorem putV_rise (l : List VV) (v : VV) (h : rise l) : rise (putV l v) := by
  unfold putV
  split
  · exact h
  · rename_i g
    refine insV_rise l v h fun x hx e => g ?_
    exact List.any_eq_true.2 ⟨x, hx, eqW_iff.2 e⟩
/-- The document's values of a dictionary. -/
def dicV (l : List VV) : List VV := l.foldl putV []
theorem dicV_snoc (l : List VV) (v : VV) : dicV (l ++ [v]) = putV (dicV l) v := by simp [dicV]
theorem dicV_rise (l : List VV) : rise (dicV l) := by
  have : ∀ (l m : List VV), rise m → rise (l.foldl putV m) := by
    intro l
    induction l with
    | nil => intro m h; exact h
    | cons x r ih => intro m h; exact ih _ (putV_rise m x h)
  exact this l [] List.Pairwise.nil
theorem dicV_mem (l : List VV) (x : VV) : x ∈ dicV l ↔ x ∈ l := by
  have : ∀ (l m : List VV), x ∈ l.foldl putV m ↔ x ∈ m ∨ x ∈ l := by
    intro l
    induction l with
    | nil => simp
    | cons y r ih =>
      intro m
      rw [List.foldl_cons, ih, putV_mem, List.mem_cons]
      constructor
      · rintro ((h | h) | h)
        · exact .inr (.inl h)
        · exact .inl h
        · exact .inr (.inr h)
      · rintro (h | h | h)
        · exact .inl (.inr h)
        · exact .inl (.inl h)
        · exact .inr h
  simpa [dicV] using this l []
theorem dicV_len (l : List VV) : (dicV l).length ≤ l.length := by
  have : ∀ (l m : List VV), (l.foldl putV m).length ≤ m.length + l.length := by
    intro l
    induction l with
    | nil => simp
    | cons x r ih => intro m; have h1 := ih (putV m x); have h2 := putV_len m x; rw [List.foldl_cons, List.length_cons]; omega
  simpa [dicV] using this l []
/-- Two rising rows of the same values are one. -/
theorem rise_ext : ∀ (a b : List VV), rise a → rise b → (∀ x, x ∈ a ↔ x ∈ b) → a = b
  | [], [], _, _, _ => rfl
  | [], y :: r, _, _, h => absurd ((h y).2 (by simp)) (by simp)
  | x :: r, [], _, _, h => absurd ((h x).1 (by simp)) (by simp)
  | x :: r, y :: t, ha, hb, h => by
    obtain ⟨a1, a2⟩ := List.pairwise_cons.1 ha
    obtain ⟨b1, b2⟩ := List.pairwise_cons.1 hb
    have hxy : x = y := by
      rcases List.mem_cons.1 ((h x).1 (by simp)) with e | e
      · exact e
      · rcases List.mem_cons.1 ((h y).2 (by simp)) with e2 | e2
        · exact e2.symm
        · have h1 := a1 y e2
          have h2 := b1 x e
          have := cmpW_turn x y
          omega
    subst hxy
    rw [rise_ext r t a2 b2 fun z => ?_]
    constructor
    · intro hz
      rcases List.mem_cons.1 ((h z).1 (by simp [hz])) with e | e
      · subst e; have := a1 z hz; rw [cmpW_self] at this; omega
      · exact e
    · intro hz
      rcases List.mem_cons.1 ((h z).2 (by simp [hz])) with e | e
      · subst e; have := b1 z hz; rw [cmpW_self] at this; omega
      · exact e
end Go.Proofs.Ytjojhoaienjjeaa
/- Words for memory: slices of bytes, in Gm's words. A file of lemmas. -/
namespace Go.Proofs.Ytjojhoaienjjeaa
open Go.RowKit
set_option linter.unusedVariables false

/-- The value is a slice that reads as the bytes l. -/
abbrev Sl (w : World) (lo hi : Nat) (v : Value) (l : List UInt8) : Prop := Gs e8 w lo hi v l
/-- The value is a slice of the call's own, in a block from base on, with the bytes l. -/
abbrev Ow (w : World) (base : Nat) (v : Value) (l : List UInt8) : Prop := Gw e8 w base v l
theorem Sl.nil_ (w : World) (lo hi : Nat) : Sl w lo hi (.slice none 0 0) [] := Gs.nil_ w lo hi
theorem b8_one (l : List UInt8) : ∀ u ∈ l.map b8, u.oneCell' = true := by
  intro u hu
  obtain ⟨b, _, rfl⟩ := List.mem_map.1 hu
  rfl
/-- append onto a slice of bytes of the call's own, from whatever slice of bytes. -/
theorem wpList_app {P : Program} (w : World) {ops : Array Oper} {rest : List Oper} {o : Oper} {a : Act} {Q : Exit → Act → World → Prop} (hgd : o.guard = none) (s x : Operand) (t : TypeId)
    (ho : o.op = .call { callee := .builtin .append, args := #[s, x], argTypes := #[t, t] }) (base : Nat) (ht : P.underlying t = some (.slice 5))
    (hinf : (P.info? 5).map (fun i => (i.zero, i.size, i.bytes)) = some (some (.int .u8 0), 1, 1))
    (v : Value) (l : List UInt8) (hs : a.eval s = v) (hown : Ow w base v l)
    (lo hi : Nat) (u : Value) (m : List UInt8) (hx : a.eval x = u) (hu : Sl w lo hi u m)
    (hb : l.length + m.length ≤ 1000000000) (hbase : base ≤ w.heap.size)
    (h : ∀ v' w', Ow w' base v' (l ++ m) → w.grownBy w' v.ownBlock → (v'.ownBlock = v.ownBlock ∨ v'.ownBlock = some w.heap.size) → wpList P ops Q rest (a.put o.dst v') w') :
    wpList P ops Q (o :: rest) a w :=
  wpList_gapp e8 w hgd s x t ho base ht hinf v l hs hown lo hi u m hx hu hb hbase h

/-- append of one byte, which lies in the block that has just been made for it. -/
theorem wpList_app1 {P : Program} (w : World) {ops : Array Oper} {rest : List Oper} {o : Oper} {a : Act} {Q : Exit → Act → World → Prop} (hgd : o.guard = none) (s x : Operand) (t : TypeId)
    (ho : o.op = .call { callee := .builtin .append, args := #[s, x], argTypes := #[t, t] }) (base : Nat) (ht : P.underlying t = some (.slice 5))
    (hinf : (P.info? 5).map (fun i => (i.zero, i.size, i.bytes)) = some (some (.int .u8 0), 1, 1))
    (v : Value) (l : List UInt8) (hs : a.eval s = v) (hown : Ow w base v l)
    (X : Int) (b : UInt8) (hX : X = (b.toNat : Int)) (hx : a.eval x = .slice (some ⟨w.heap.size, 0, none⟩) 1 1)
    (hb : l.length + 1 ≤ 1000000000) (hbase : base ≤ w.heap.size)
    (h : ∀ v' w', Ow w' base v' (l ++ [b]) → w.grownBy w' v.ownBlock → (v'.ownBlock = v.ownBlock ∨ v'.ownBlock = some (w.heap.size + 1)) → wpList P ops Q rest (a.put o.dst v') w') :
    wpList P ops Q (o :: rest) a (w.alloc (.cells #[.int .u8 X] 5)) :=
  wpList_gapp1 e8 w hgd s x t ho base ht hinf v l hs hown _ b (by rw [hX]; rfl) hx hb hbase h

/-- make of bytes: no length, room for n. -/
theorem wpList_mk {P : Program} (w : World) {ops : Array Oper} {rest : List Oper} {o : Oper} {a : Act} {Q : Exit → Act → World → Prop} (hgd : o.guard = none) (x c : Operand) (t : TypeId) (ho : o.op = Op.makeSlice t x c)
    (ht : P.underlying t = some (.slice 5)) (hinf : (P.info? 5).map (fun i => (i.zero, i.size, i.bytes)) = some (some (.int .u8 0), 1, 1))
    (kl kc : IntKind) (C : Int) (n : Nat) (hx : a.eval x = .int kl 0) (hc : a.eval c = .int kc C) (hC : C = (n : Int)) (hn : n ≤ 1000000000)
    (h : ∀ w', Ow w' w.heap.size (.slice (some ⟨w.heap.size, 0, none⟩) 0 n) [] → w.grownBy w' none → wpList P ops Q rest (a.put o.dst (.slice (some ⟨w.heap.size, 0, none⟩) 0 n)) w') : wpList P ops Q (o :: rest) a w := by
  obtain ⟨i, hi, hz, hsz, hby⟩ := info_parts hinf
  exact wpList_make_own w hgd x c t ho w.heap.size 5 i (.int .u8 0) 1 ht hi hz hsz kl kc C n hx hc hC (by rw [hby]; omega) (by unfold maxLen; omega) (Nat.le_refl _) fun w' h1 h2 => h w' h1 h2

theorem Below.after {B : Nat} {w w1 w2 : World} {row : Option Nat} (h : Below B w w1) (hB : B ≤ w1.heap.size) (hg : w1.grownBy w2 row) (hr : ∀ k, row = some k → B ≤ k) : Below B w w2 := h.grown hg hB hr

theorem info8 : (Try.prog.info? 5).map (fun i => (i.zero, i.size, i.bytes)) = some (some (.int .u8 0), 1, 1) := by kernel_rfl
end Go.Proofs.Ytjojhoaienjjeaa
/- Walks. -/
namespace Go.Proofs.Ytjojhoaienjjeaa
open Go.RowKit
set_option linter.unusedVariables false

set_option maxHeartbeats 400000 in
theorem bad_nil (w : World) : Calls Try.prog 66 #[.pointer none] w fun e w' => e = .returned (.bool true) ∧ w = w' := by
  go_enter Try.func66, Try.ntmps66
  go_wp2
  go_ret
  exact ⟨rfl, rfl⟩

set_option maxHeartbeats 400000 in
theorem bad_at (g : Nat) (x : Bool) (w : World) (h2 : w.cell? ⟨g, 2, none⟩ = some (.bool x)) :
    Calls Try.prog 66 #[.pointer (some ⟨g, 0, none⟩)] w fun e w' => e = .returned (.bool x) ∧ w = w' := by
  go_enter Try.func66, Try.ntmps66
  go_wp2
  go_ret
  exact ⟨rfl, rfl⟩

set_option maxHeartbeats 400000 in
theorem left_bad (g : Nat) (w : World) (h2 : w.cell? ⟨g, 2, none⟩ = some (.bool true)) :
    Calls Try.prog 49 #[.pointer (some ⟨g, 0, none⟩)] w fun e w' => e = .returned (.int .i64 0) ∧ w = w' := by
  go_enter Try.func49, Try.ntmps49
  go_wp2
  go_ret
  exact ⟨rfl, rfl⟩

set_option maxHeartbeats 400000 in
theorem left_good (g : Nat) (A : Option Addr) (n c p : Nat) (w : World) (h0 : w.cell? ⟨g, 0, none⟩ = some (.slice A n c)) (h1 : w.cell? ⟨g, 1, none⟩ = some (.int .i64 p)) (h2 : w.cell? ⟨g, 2, none⟩ = some (.bool false)) (hp : p ≤ n) (hn : n ≤ 1000000000) :
    Calls Try.prog 49 #[.pointer (some ⟨g, 0, none⟩)] w fun e w' => e = .returned (.int .i64 (n - p : Nat)) ∧ ∃ k, w' = w.drewN k := by
  go_enter Try.func49, Try.ntmps49
  go_wp2
  go_quiet (fail)
  go_wp2
  go_ret
  refine ⟨?_, _, rfl⟩
  have : ((n - p : Nat) : Int) = (n : Int) - p := by omega
  rw [this]; rfl

set_option maxHeartbeats 400000 in
theorem at_good (g : Nat) (p : Int) (w : World) (h1 : w.cell? ⟨g, 1, none⟩ = some (.int .i64 p)) :
    Calls Try.prog 68 #[.pointer (some ⟨g, 0, none⟩)] w fun e w' => e = .returned (.int .i64 p) ∧ w = w' := by
  go_enter Try.func68, Try.ntmps68
  go_wp2
  go_ret
  exact ⟨rfl, rfl⟩

set_option maxHeartbeats 400000 in
theorem copyWithRoom_any (v : Value) (l : List UInt8) (lo : Nat) (m : Int) (w : World) (hv : Sl w lo w.heap.size v l) (hm : 0 ≤ m) (hb : (l.length : Int) + m ≤ 100000000) :
    Calls Try.prog 74 #[v, .int .i64 m] w fun e w' => ∃ v', e = .returned v' ∧ Ow w' w.heap.size v' l ∧ Below w.heap.size w w' := by
  obtain ⟨m, rfl⟩ := Int.eq_ofNat_of_zero_le hm
  have hv0 := hv
  obtain ⟨A, c, rfl, -, -, -, -⟩ := hv
  go_enter Try.func74, Try.ntmps74
  go_wp2_with (first | (at_make; refine wpList_mk _ rfl _ _ _ rfl Try.underlying52 info8 _ _ _ (l.length + m) rfl rfl ?_ (by omega) ?_; omega; intro w1 o1 g1) | (at_builtin; refine wpList_app _ rfl _ _ _ rfl w.heap.size Try.underlying52 info8 _ [] rfl o1 lo w.heap.size _ l rfl (hv0.grown g1 (Nat.le_refl _) (fun k h => by cases h)) (by simp; omega) g1.size ?_; intro v2 w2 o2 g2 _))
  have b2 : Below w.heap.size w w2 := (below_of_grown g1 (fun k h => by cases h)).grown g2 g1.size (fun k h => by injection h with h; subst h; exact Nat.le_refl _)
  go_ret
  exact ⟨v2, rfl, o2, b2⟩
end Go.Proofs.Ytjojhoaienjjeaa
/- Plain mathematics: numbers and their bytes. No Go in sight. -/
namespace Go.Proofs.Ytjojhoaienjjeaa

/-- The k lowest bytes of n, the lowest first. -/
def le : Nat → Nat → List UInt8
  | 0, _ => []
  | k + 1, n => UInt8.ofNat n :: le k (n / 256)
theorem le_length (k n : Nat) : (le k n).length = k := by
  induction k generalizing n with
  | zero => rfl
  | succ k ih => simp [le, ih]
theorem le_snoc (k n : Nat) : le (k + 1) n = le k n ++ [UInt8.ofNat (n / 256 ^ k)] := by
  induction k generalizing n with
  | zero => simp [le]
  | succ k ih =>
    rw [le, ih (n / 256), le, List.cons_append, Nat.div_div_eq_div_mul, Nat.pow_succ, Nat.mul_comm]
theorem div_pow_succ (n k : Nat) : n / 256 ^ k / 256 = n / 256 ^ (k + 1) := by rw [Nat.div_div_eq_div_mul, Nat.pow_succ]

/-- The short form of n. -/
def sh : Nat → Nat → List UInt8
  | 0, n => [UInt8.ofNat n]
  | f + 1, n => if n < 128 then [UInt8.ofNat n] else UInt8.ofNat (n % 128 + 128) :: sh f (n / 128)
def short (n : Nat) : List UInt8 := sh n n
theorem sh_fuel (f n : Nat) (h : n ≤ f) (f' : Nat) (h' : n ≤ f') : sh f n = sh f' n := by
  induction f generalizing n f' with
  | zero =>
    obtain rfl : n = 0 := by omega
    cases f' with
    | zero => rfl
    | succ f' => simp [sh]
  | succ f ih =>
    cases f' with
    | zero =>
      obtain rfl : n = 0 := by omega
      simp [sh]
    | succ f' =>
      unfold sh
      split
      · rfl
      · rw [ih (n / 128) (by omega) f' (by omega)]
theorem short_lt {n : Nat} (h : n < 128) : short n = [UInt8.ofNat n] := by
  unfold short
  cases n with
  | zero => rfl
  | succ n => rw [sh, if_pos h]
theorem short_ge {n : Nat} (h : 128 ≤ n) : short n = UInt8.ofNat (n % 128 + 128) :: short (n / 128) := by
  unfold short
  obtain ⟨m, rfl⟩ : ∃ m, n = m + 1 := ⟨n - 1, by omega⟩
  rw [sh, if_neg (by omega), sh_fuel _ ((m + 1) / 128) (by omega) ((m + 1) / 128) (by omega)]
theorem u8_mod (n : Nat) : ((UInt8.ofNat n).toNat : Int) = (n : Int) % 256 := by simp

/-- How many bits n needs; of nought none. -/
def bl (n : Nat) : Nat := if n = 0 then 0 else n.log2 + 1
theorem log2_shift (n k : Nat) (h : 2 ^ k ≤ n) : n.log2 = (n / 2 ^ k).log2 + k := by
  have hp : 0 < 2 ^ k := Nat.two_pow_pos k
  have hn : n ≠ 0 := by omega
  have hd : n / 2 ^ k ≠ 0 := by
    have := Nat.div_pos h hp
    omega
  rw [Nat.log2_eq_iff hn]
  have h1 := (Nat.log2_eq_iff hd (k := (n / 2 ^ k).log2)).1 rfl
  constructor
  · rw [Nat.pow_add]
    exact (Nat.le_div_iff_mul_le hp).1 h1.1
  · rw [show (n / 2 ^ k).log2 + k + 1 = (n / 2 ^ k).log2 + 1 + k from by omega, Nat.pow_add]
    exact (Nat.div_lt_iff_lt_mul hp).1 h1.2
theorem bl_shift (n k : Nat) (h : 2 ^ k ≤ n) : bl n = bl (n / 2 ^ k) + k := by
  have hp : 0 < 2 ^ k := Nat.two_pow_pos k
  have hn : n ≠ 0 := by omega
  have hd : n / 2 ^ k ≠ 0 := by
    have := Nat.div_pos h hp
    omega
  unfold bl
  rw [if_neg hn, if_neg hd, log2_shift n k h]
  omega
theorem short_length (n : Nat) : (short n).length = n.log2 / 7 + 1 := by
  induction n using Nat.strongRecOn with
  | ind n ih =>
    by_cases h : n < 128
    · rw [short_lt h]
      have h7 : n.log2 < 7 := by
        by_cases h0 : n = 0
        · subst h0; decide
        · exact (Nat.log2_lt h0).2 h
      simp; omega
    · rw [short_ge (by omega), List.length_cons, ih (n / 128) (by omega), log2_shift n 7 (by omega), show (2 : Nat) ^ 7 = 128 from rfl]
      omega
theorem short_size (n : Nat) : ((short n).length : Int) = max 1 (((bl n : Int) + 6) / 7) := by
  rw [short_length]
  unfold bl
  split
  · rename_i h; subst h; decide
  · omega
theorem bl_le (n : Nat) (h : n < 18446744073709551616) : bl n ≤ 64 := by
  unfold bl
  split
  · omega
  · rename_i h0
    have := (Nat.log2_lt h0).2 (show n < 2 ^ 64 from h)
    omega
theorem short_length_le (n : Nat) (h : n < 18446744073709551616) : (short n).length ≤ 10 := by
  rw [short_length]
  by_cases h0 : n = 0
  · subst h0; decide
  · have := (Nat.log2_lt h0).2 (show n < 2 ^ 64 from h)
    omega
theorem short_length_pos (n : Nat) : 1 ≤ (short n).length := by rw [short_length]; omega

/-- The number whose bytes these are, the lowest first. -/
def leVal : List UInt8 → Nat
  | [] => 0
  | b :: r => b.toNat + 256 * leVal r
theorem leVal_snoc (a : List UInt8) (y : UInt8) : leVal (a ++ [y]) = leVal a + y.toNat * 2 ^ (8 * a.length) := by
  induction a with
  | nil => simp [leVal]
  | cons b r ih =>
    rw [List.cons_append, leVal, leVal, ih, List.length_cons, show 8 * (r.length + 1) = 8 * r.length + 8 from by omega, Nat.pow_add]
    rw [Nat.mul_add, ← Nat.add_assoc, Nat.mul_left_comm, Nat.mul_comm 256 (2 ^ _), show (2 : Nat) ^ 8 = 256 from rfl]
theorem leVal_lt (a : List UInt8) : leVal a < 2 ^ (8 * a.length) := by
  induction a with
  | nil => simp [leVal]
  | cons b r ih =>
    have := b.toNat_lt
    rw [leVal, List.length_cons, show 8 * (r.length + 1) = 8 * r.length + 8 from by omega, Nat.pow_add]
    omega
theorem leVal_le (k n : Nat) (h : n < 2 ^ (8 * k)) : leVal (le k n) = n := by
  induction k generalizing n with
  | zero => simp at h; subst h; rfl
  | succ k ih =>
    rw [le, leVal, ih (n / 256) (by
      rw [show 8 * (k + 1) = 8 * k + 8 from by omega, Nat.pow_add] at h
      exact (Nat.div_lt_iff_lt_mul (by omega)).2 h)]
    simp
    omega
theorem or_high (D z e : Nat) (hD : D < 2 ^ e) (hz : z * 2 ^ e < 18446744073709551616) (h64 : D < 18446744073709551616) :
    bits BinOp.or IntKind.u64 (D : Int) (IntKind.u64.wrap ((z : Int) * 2 ^ e)) = ((D + z * 2 ^ e : Nat) : Int) := by
  have e1 : ((z : Int) * 2 ^ e) = ((z * 2 ^ e : Nat) : Int) := by rw [Int.natCast_mul, Int.natCast_pow]; rfl
  rw [e1, IntKind.wrap_u64, Int.emod_eq_of_lt (by omega) (by omega), u64_or_nat D _ h64 hz, Nat.or_comm, ← Nat.shiftLeft_eq, ← Nat.shiftLeft_add_eq_or_of_lt hD, Nat.add_comm]
theorem take_next (s : List UInt8) (k : Nat) (y : UInt8) (h : s[k]? = some y) : s.take (k + 1) = s.take k ++ [y] := by
  rw [List.take_add_one, h]; rfl
end Go.Proofs.Ytjojhoaienjjeaa
/- Walks. -/
namespace Go.Proofs.Ytjojhoaienjjeaa
open Go.RowKit
set_option linter.unusedVariables false

set_option maxHeartbeats 400000 in
theorem appendWhole_any (v : Value) (l : List UInt8) (lo : Nat) (N : Nat) (m : Int) (w : World) (hv : Sl w lo w.heap.size v l) (hm : 0 ≤ m) (hm2 : m ≤ 8) (hN : N < 18446744073709551616) (hb : (l.length : Int) + m ≤ 100000000) :
    Calls Try.prog 58 #[v, .int .u64 N, .int .i64 m] w fun e w' => ∃ v', e = .returned v' ∧ Ow w' w.heap.size v' (l ++ le m.toNat N) ∧ Below w.heap.size w w' := by
  obtain ⟨m, rfl⟩ := Int.eq_ofNat_of_zero_le hm
  go_enter Try.func58, Try.ntmps58
  go_wp2_with (go_at_call 74; refine (copyWithRoom_any v l lo m _ hv (by omega) (by omega)).mono ?_; rintro e w1 ⟨v1, rfl, o1, b1⟩)
  go_loopw [1, 7, 12] (fun n u i wr => ∃ k D : Nat, k ≤ m ∧ D = N / 256 ^ k ∧ i = .int .i64 k ∧ n = .int .u64 D ∧ Ow wr w.heap.size u (l ++ le k N) ∧ Below w.heap.size w wr) (fun _ _ i _ => m - (intOf i).toNat)
  case atStart => exact ⟨0, N, by omega, by simp, rfl, rfl, by simpa [le] using o1, b1⟩
  case round =>
    obtain ⟨k, D, hk, hD, rfl, rfl, ok, bk⟩ := hrel
    have hDN : D ≤ N := by rw [hD]; exact Nat.div_le_self _ _
    have HD := Lib.hid hD
    clear hD
    by_cases hlt : k < m
    · go_wp2_with (at_builtin; refine wpList_app1 _ rfl _ _ _ rfl w.heap.size Try.underlying52 info8 u7 (l ++ le k N) rfl ok _ (UInt8.ofNat D) (u8_mod D).symm rfl (by simp [le_length]; omega) bk.size ?_; intro v2 w2 o2 g2 _)
      have b2 : Below w.heap.size w w2 := bk.grown g2 bk.size (fun j hj => (ok.lt j hj).1)
      go_roundw
      case rel => exact ⟨k + 1, D / 256, by omega, by rw [HD.out, div_pow_succ], by go_num, by go_num, by rw [le_snoc, ← HD.out, ← List.append_assoc]; exact o2, b2⟩
      case measure => simp [intOf]; omega
    · obtain rfl : k = m := by omega
      go_wp2
      go_ret
      exact ⟨u7, rfl, by simpa using ok, bk⟩

set_option maxHeartbeats 400000 in
theorem appendU32_any (v : Value) (l : List UInt8) (lo : Nat) (N : Nat) (w : World) (hv : Sl w lo w.heap.size v l) (hN : N < 4294967296) (hb : l.length ≤ 1000000) :
    Calls Try.prog 40 #[v, .int .u32 N] w fun e w' => ∃ v', e = .returned v' ∧ Ow w' w.heap.size v' (l ++ le 4 N) ∧ Below w.heap.size w w' := by
  go_enter Try.func40, Try.ntmps40
  go_wp2_with (go_at_call 58; refine (appendWhole_any v l lo N 4 _ hv (by omega) (by omega) (by omega) (by omega)).mono ?_; rintro e w1 ⟨v1, rfl, o1, b1⟩)
  go_ret
  exact ⟨v1, rfl, o1, b1⟩

set_option maxHeartbeats 400000 in
theorem appendU64_any (v : Value) (l : List UInt8) (lo : Nat) (N : Nat) (w : World) (hv : Sl w lo w.heap.size v l) (hN : N < 18446744073709551616) (hb : l.length ≤ 1000000) :
    Calls Try.prog 59 #[v, .int .u64 N] w fun e w' => ∃ v', e = .returned v' ∧ Ow w' w.heap.size v' (l ++ le 8 N) ∧ Below w.heap.size w w' := by
  go_enter Try.func59, Try.ntmps59
  go_wp2_with (go_at_call 58; refine (appendWhole_any v l lo N 8 _ hv (by omega) (by omega) (by omega) (by omega)).mono ?_; rintro e w1 ⟨v1, rfl, o1, b1⟩)
  go_ret
  exact ⟨v1, rfl, o1, b1⟩
end Go.Proofs.Ytjojhoaienjjeaa
/- Walks: how many bytes a short number has. -/
namespace Go.Proofs.Ytjojhoaienjjeaa
open Go.RowKit
set_option linter.unusedVariables false

theorem bl_lib : ∀ n : Fin 256, Lib.bitLen n.val = bl n.val := by decide +kernel
theorem tab_get (i : Nat) (h : i < Lib.len8tab.size) : (Lib.len8tab[i]'h).toNat = bl i := by
  have h8 : i < 256 := by rw [Lib.len8tab_size] at h; exact h
  have h1 := Lib.len8_of (i : Int) (by omega) (by omega)
  rw [Int.toNat_natCast, bl_lib ⟨i, h8⟩] at h1
  unfold Lib.len8 at h1
  rw [Int.toNat_natCast, ByteArray.getElem?_lt' _ _ h] at h1
  exact Int.ofNat.inj h1
theorem tab_close (x X : Int) (k : Nat) (h0 : 0 ≤ x) (h1 : x ≤ 18446744073709551615) (hk : 2 ^ k ≤ x.toNat) (hX : X.toNat = x.toNat / 2 ^ k) (h : X.toNat < Lib.len8tab.size) (hk' : k ≤ 64) :
    wrap64 ((k : Int) + wrap64 ((Lib.len8tab[X.toNat]'h).toNat : Int)) = (bl x.toNat : Int) := by
  rw [tab_get, bl_shift x.toNat k hk, ← hX]
  have := bl_le X.toNat (by rw [Lib.len8tab_size] at h; omega)
  unfold wrap64
  omega
theorem tab_close0 (x : Int) (h : x.toNat < Lib.len8tab.size) :
    wrap64 (wrap64 ((Lib.len8tab[x.toNat]'h).toNat : Int)) = (bl x.toNat : Int) := by
  rw [tab_get]
  have := bl_le x.toNat (by rw [Lib.len8tab_size] at h; omega)
  unfold wrap64
  omega
theorem fold_tab : (⟨(([0, 1, 2, 2, 3, 3, 3, 3, 4, 4, 4, 4, 4, 4, 4, 4, 5, 5, 5, 5, 5, 5, 5, 5, 5, 5, 5, 5, 5, 5, 5, 5, 6, 6, 6, 6, 6, 6, 6, 6, 6, 6, 6, 6, 6, 6, 6, 6, 6, 6, 6, 6, 6, 6, 6, 6, 6, 6, 6, 6, 6, 6, 6, 6].append [7, 7, 7, 7, 7, 7, 7, 7, 7, 7, 7, 7, 7, 7, 7, 7, 7, 7, 7, 7, 7, 7, 7, 7, 7, 7, 7, 7, 7, 7, 7, 7, 7, 7, 7, 7, 7, 7, 7, 7, 7, 7, 7, 7, 7, 7, 7, 7, 7, 7, 7, 7, 7, 7, 7, 7, 7, 7, 7, 7, 7, 7, 7, 7]).append ([8, 8, 8, 8, 8, 8, 8, 8, 8, 8, 8, 8, 8, 8, 8, 8, 8, 8, 8, 8, 8, 8, 8, 8, 8, 8, 8, 8, 8, 8, 8, 8, 8, 8, 8, 8, 8, 8, 8, 8, 8, 8, 8, 8, 8, 8, 8, 8, 8, 8, 8, 8, 8, 8, 8, 8, 8, 8, 8, 8, 8, 8, 8, 8].append [8, 8, 8, 8, 8, 8, 8, 8, 8, 8, 8, 8, 8, 8, 8, 8, 8, 8, 8, 8, 8, 8, 8, 8, 8, 8, 8, 8, 8, 8, 8, 8, 8, 8, 8, 8, 8, 8, 8, 8, 8, 8, 8, 8, 8, 8, 8, 8, 8, 8, 8, 8, 8, 8, 8, 8, 8, 8, 8, 8, 8, 8, 8, 8])).toArray⟩ : ByteArray) = Lib.len8tab := by decide +kernel

set_option maxHeartbeats 2000000 in
set_option maxRecDepth 100000 in
theorem len64_int (x : Int) (w : World) (h0 : 0 ≤ x) (h1 : x ≤ 18446744073709551615) :
    Calls Try.prog 90 #[.int .u64 x] w fun e w' => e = .returned (.int .i64 (bl x.toNat)) ∧ w = w' := by
  go_enter Try.func90, Try.ntmps90
  rw [fold_tab]
  go_wp2
  all_goals first
    | (exfalso; rename_i hh; exact hh ⟨by omega, by rw [Lib.len8tab_size]; omega⟩)
    | (go_ret; refine ⟨congrArg Ending.returned (congrArg (Value.int IntKind.i64) ?_), rfl⟩)
  all_goals first
    | exact tab_close x _ 56 h0 h1 (by omega) (by omega) _ (by omega)
    | exact tab_close x _ 48 h0 h1 (by omega) (by omega) _ (by omega)
    | exact tab_close x _ 40 h0 h1 (by omega) (by omega) _ (by omega)
    | exact tab_close x _ 32 h0 h1 (by omega) (by omega) _ (by omega)
    | exact tab_close x _ 24 h0 h1 (by omega) (by omega) _ (by omega)
    | exact tab_close x _ 16 h0 h1 (by omega) (by omega) _ (by omega)
    | exact tab_close x _ 8 h0 h1 (by omega) (by omega) _ (by omega)
    | exact tab_close0 x _
end Go.Proofs.Ytjojhoaienjjeaa
/- Walks: a short number is written. -/
namespace Go.Proofs.Ytjojhoaienjjeaa
open Go.RowKit
set_option linter.unusedVariables false

set_option maxHeartbeats 400000 in
theorem shortSize_any (x : Int) (w : World) (h0 : 0 ≤ x) (h1 : x ≤ 18446744073709551615) :
    Calls Try.prog 75 #[.int .u64 x] w fun e w' => e = .returned (.int .i64 (short x.toNat).length) ∧ w = w' := by
  have hs := Lib.hid (short_size x.toNat)
  have hb : ((bl x.toNat : Nat) : Int) ≤ 64 := by have := bl_le x.toNat (by omega); omega
  go_enter Try.func75, Try.ntmps75
  go_wp2_with (go_at_call 90; refine (len64_int _ _ h0 h1).mono ?_; rintro e w1 ⟨rfl, rfl⟩)
  all_goals
    go_ret
    refine ⟨congrArg Ending.returned (congrArg (Value.int IntKind.i64) ?_), rfl⟩
    rw [hs.out]
    omega

theorem or128_all : ∀ m : Fin 256, bits BinOp.or IntKind.u8 (m.val : Int) 128 = ((m.val % 128 + 128 : Nat) : Int) := by decide +kernel
theorem or128 (D : Int) (h : 0 ≤ D) : bits BinOp.or IntKind.u8 (D % 256) 128 = ((UInt8.ofNat (D.toNat % 128 + 128)).toNat : Int) := by
  have h1 := or128_all ⟨(D % 256).toNat, by omega⟩
  have e : (((D % 256).toNat : Nat) : Int) = D % 256 := by omega
  simp only [e] at h1
  rw [h1, u8_mod]
  omega

set_option maxHeartbeats 400000 in
theorem appendUint_any (v : Value) (l : List UInt8) (lo : Nat) (x : Int) (w : World) (hv : Sl w lo w.heap.size v l) (h0 : 0 ≤ x) (h1 : x ≤ 18446744073709551615) (hb : l.length ≤ 1000000) :
    Calls Try.prog 60 #[v, .int .u64 x] w fun e w' => ∃ v', e = .returned v' ∧ Ow w' w.heap.size v' (l ++ short x.toNat) ∧ Below w.heap.size w w' := by
  have hsl := short_length_le x.toNat (by omega)
  go_enter Try.func60, Try.ntmps60
  go_wp2_with (first | (go_at_call 75; refine (shortSize_any _ _ h0 h1).mono ?_; rintro e w1 ⟨rfl, rfl⟩) | (go_at_call 74; refine (copyWithRoom_any v l lo _ _ hv (by omega) (by omega)).mono ?_; rintro e w1 ⟨v1, rfl, o1, b1⟩))
  go_loopw [1, 5] (fun n u wr => ∃ (D : Int) (p : List UInt8), 0 ≤ D ∧ D ≤ 18446744073709551615 ∧ short x.toNat = p ++ short D.toNat ∧ n = .int .u64 D ∧ Ow wr w.heap.size u (l ++ p) ∧ Below w.heap.size w wr) (fun n _ _ => (intOf n).toNat)
  case atStart => exact ⟨x, [], h0, h1, rfl, rfl, by simpa using o1, b1⟩
  case round =>
    obtain ⟨D, p, d0, d1, hp, rfl, ok, bk⟩ := hrel
    have hpl : p.length ≤ 10 := by have := congrArg List.length hp; simp at this; omega
    have HP := Lib.hid hp
    clear hp
    by_cases hlt : 128 ≤ D
    · go_wp2_with (at_builtin; refine wpList_app1 _ rfl _ _ _ rfl w.heap.size Try.underlying52 info8 u5 (l ++ p) rfl ok _ (UInt8.ofNat (D.toNat % 128 + 128)) (or128 D d0) rfl (by simp; omega) bk.size ?_; intro v2 w2 o2 g2 _)
      have b2 : Below w.heap.size w w2 := bk.grown g2 bk.size (fun j hj => (ok.lt j hj).1)
      go_roundw
      case rel => exact ⟨D / 128, p ++ [UInt8.ofNat (D.toNat % 128 + 128)], by omega, by omega, by rw [HP.out, short_ge (by omega), show (D / 128).toNat = D.toNat / 128 from by omega]; simp, rfl, by rw [← List.append_assoc]; exact o2, b2⟩
      case measure => simp [intOf]; omega
    · go_wp2_with (at_builtin; refine wpList_app1 _ rfl _ _ _ rfl w.heap.size Try.underlying52 info8 u5 (l ++ p) rfl ok _ (UInt8.ofNat D.toNat) (by rw [u8_mod]; omega) rfl (by simp; omega) bk.size ?_; intro v2 w2 o2 g2 _)
      have b2 : Below w.heap.size w w2 := bk.grown g2 bk.size (fun j hj => (ok.lt j hj).1)
      go_ret
      exact ⟨v2, rfl, by rw [HP.out, short_lt (by omega), ← List.append_assoc]; exact o2, b2⟩
end Go.Proofs.Ytjojhoaienjjeaa
/- Walks: a copy of bytes; a new reader. -/
namespace Go.Proofs.Ytjojhoaienjjeaa
open Go.RowKit
set_option linter.unusedVariables false

theorem Ow.nil_ (w : World) (base : Nat) : Ow w base (.slice none 0 0) [] := World.ownsRow_nil w base _ _
theorem Ow.empty_ (w : World) (base : Nat) (h : base ≤ w.heap.size) : Ow (w.alloc (.cells #[] 5)) base (.slice (some ⟨w.heap.size, 0, none⟩) 0 0) [] :=
  World.ownsRow_lit w #[] 0 h (Nat.zero_le _) rfl

set_option maxHeartbeats 400000 in
theorem clone_any (v : Value) (l : List UInt8) (lo : Nat) (w : World) (hv : Sl w lo w.heap.size v l) (hb : l.length ≤ 100000000) :
    Calls Try.prog 61 #[v] w fun e w' => ∃ v', e = .returned v' ∧ Ow w' w.heap.size v' l ∧ Below w.heap.size w w' := by
  have hv0 := hv
  obtain ⟨A, c, rfl, hc0, -, -, hbt⟩ := hv
  cases A with
  | none =>
    obtain rfl := hc0 rfl
    have hl : l = [] := by
      by_cases h : l = []
      · exact h
      · obtain ⟨b, off, e, _⟩ := hbt h
        cases e
    subst hl
    clear hc0 hbt hv0
    have hq := fun W n c => Lib.run_eql_slice_nil (P := Try.prog) W 52 5 none n c 0 0 Try.underlying52
    simp only [Option.isNone_none] at hq
    go_enter Try.func61, Try.ntmps61
    go_wp2
    go_ret
    exact ⟨_, rfl, Ow.nil_ _ _, Below.refl _ _⟩
  | some ad =>
    clear hc0 hbt
    have hq := fun W n c => Lib.run_eql_slice_nil (P := Try.prog) W 52 5 (some ad) n c 0 0 Try.underlying52
    simp only [Option.isNone_some] at hq
    go_enter Try.func61, Try.ntmps61
    go_wp2_with (at_builtin; refine wpList_app _ rfl _ _ _ rfl w.heap.size Try.underlying52 info8 _ [] rfl (Ow.empty_ _ _ (Nat.le_refl _)) lo w.heap.size _ l rfl (hv0.alloc (Nat.le_refl _) _) (by simp; omega) (by simp) ?_; intro v2 w2 o2 g2 _)
    go_ret
    exact ⟨v2, rfl, by simpa using o2, ((Below.refl _ _).alloc (Nat.le_refl _) _).grown g2 (by simp) (fun k h => by injection h with h; subst h; exact Nat.le_refl _)⟩

/-- Block g is a reader: the bytes v, which are l; the place p; whether it is bad. -/
structure Rd (w : World) (base g : Nat) (v : Value) (l : List UInt8) (p : Nat) (x : Bool) : Prop where
  row : Row w g 97 #[v, .int .i64 p, .bool x]
  own : Ow w base v l
  ge : base ≤ g
  le : p ≤ l.length
  small : l.length ≤ 10000000

section
variable {w w' : World} {base g : Nat} {v : Value} {l : List UInt8} {p : Nat} {x : Bool}
theorem Ow.not_row {t : TypeId} {cs : Array Value} (h : Ow w base v l) (hr : Row w g t cs) (ht : t ≠ 5) : v.ownBlock ≠ some g := by
  rcases h.2 with ⟨rfl, _⟩ | ⟨g', cap, cur, rfl, _, hh, _⟩
  · simp [Value.ownBlock]
  · intro e
    simp only [Value.ownBlock, Option.some.injEq] at e
    subst e
    unfold Row at hr
    rw [hh] at hr
    injection hr with hr
    injection hr with _ h2
    exact ht h2.symm
theorem Rd.c0 (h : Rd w base g v l p x) : w.cell? ⟨g, 0, none⟩ = some v := by rw [h.row.cell]; rfl
theorem Rd.c1 (h : Rd w base g v l p x) : w.cell? ⟨g, 1, none⟩ = some (.int .i64 p) := by rw [h.row.cell]; rfl
theorem Rd.c2 (h : Rd w base g v l p x) : w.cell? ⟨g, 2, none⟩ = some (.bool x) := by rw [h.row.cell]; rfl
theorem Rd.ne (h : Rd w base g v l p x) : v.ownBlock ≠ some g := h.own.not_row h.row (by decide)
theorem Rd.grown {row : Option Nat} (h : Rd w base g v l p x) (hg : w.grownBy w' row) (hr : ∀ k, row = some k → k < base) : Rd w' base g v l p x :=
  ⟨h.row.grown hg (fun e => by have := hr g e; have := h.ge; omega), h.own.kept hg (fun k hk e => by have := hr k e; have := (h.own.lt k hk).1; omega), h.ge, h.le, h.small⟩
theorem Rd.far {row : Nat} (h : Rd w base g v l p x) (hg : w.grownBy w' (some row)) (h1 : row ≠ g) (h2 : v.ownBlock ≠ some row) : Rd w' base g v l p x :=
  ⟨h.row.grown hg (fun e => h1 (Option.some.inj e)), h.own.kept hg (fun k hk e => by injection e with e; subst e; exact h2 hk), h.ge, h.le, h.small⟩
theorem Rd.below {B : Nat} (h : Rd w base g v l p x) (hb : Below B w w') (hB : w.heap.size ≤ B) : Rd w' base g v l p x :=
  ⟨h.row.below hb (Nat.lt_of_lt_of_le h.row.lt hB), h.own.below hb hB, h.ge, h.le, h.small⟩
theorem Rd.alloc (h : Rd w base g v l p x) (o : Obj) : Rd (w.alloc o) base g v l p x := ⟨h.row.alloc o, h.own.alloc o, h.ge, h.le, h.small⟩
theorem Rd.lt (h : Rd w base g v l p x) : g < w.heap.size := h.row.lt
theorem Rd.more (h : Rd w base g v l p x) {base' : Nat} (hb : base' ≤ base) : Rd w base' g v l p x := ⟨h.row, h.own.more hb, Nat.le_trans hb h.ge, h.le, h.small⟩
theorem Rd.drewN (h : Rd w base g v l p x) (n : Nat) : Rd (w.drewN n) base g v l p x := ⟨h.row, h.own, h.ge, h.le, h.small⟩
end

set_option maxHeartbeats 400000 in
theorem new_any (v : Value) (l : List UInt8) (lo : Nat) (w : World) (hv : Sl w lo w.heap.size v l) (hb : l.length ≤ 10000000) :
    Calls Try.prog 46 #[v] w fun e w' => ∃ g v', e = .returned (.pointer (some ⟨g, 0, none⟩)) ∧ Rd w' w.heap.size g v' l 0 false ∧ Below w.heap.size w w' := by
  go_enter Try.func46, Try.ntmps46
  go_wp2_with (go_at_call 61; refine (clone_any v l lo _ hv (by omega)).mono ?_; rintro e w1 ⟨v1, rfl, o1, b1⟩; obtain ⟨A1, c1, rfl, -⟩ := o1.sl)
  go_ret
  exact ⟨w1.heap.size, _, rfl, ⟨Row.new _ _ _, o1.alloc _, b1.size, Nat.zero_le _, hb⟩, b1.alloc b1.size _⟩
end Go.Proofs.Ytjojhoaienjjeaa
/- Walks: a whole number is read. -/
namespace Go.Proofs.Ytjojhoaienjjeaa
open Go.RowKit
set_option linter.unusedVariables false

theorem Ow.form_ {w : World} {base : Nat} {v : Value} {l : List UInt8} (h : Ow w base v l) (hl : l ≠ []) :
    ∃ b c, v = .slice (some ⟨b, 0, none⟩) l.length c ∧ l.length ≤ c ∧ c ≤ maxLen ∧ base ≤ b ∧ b < w.heap.size ∧ ∀ j x, l[j]? = some x → w.cell? ⟨b, j, none⟩ = some (b8 x) := by
  rcases h.2 with ⟨rfl, hn⟩ | ⟨g, cap, cur, rfl, hb, hg, hn, hm, hs, ht⟩
  · exact absurd (List.eq_nil_of_length_eq_zero hn) hl
  · refine ⟨g, cap, rfl, hn, hm, hb, (Array.getElem?_eq_some_iff.1 hg).1, fun j x hx => ?_⟩
    have h1 := World.ownsRow.cells h (g := g) rfl j (b8 x) (by rw [List.getElem?_map, hx]; rfl)
    have h2 : (⟨g, 0, none⟩ : Addr).add j = ⟨g, j, none⟩ := by unfold Addr.add; split <;> simp_all
    rw [← h2]; exact h1

/-- One round of a whole number. -/
theorem whole_step (l : List UInt8) (p k : Nat) (y : UInt8) (z D : Int) (h : l[p + k]? = some y) (hz : z = (y.toNat : Int)) (hD : D = (leVal ((l.drop p).take k) : Nat)) (hk : k ≤ 7) :
    bits BinOp.or IntKind.u64 D (IntKind.u64.wrap (z * 2 ^ (8 * k))) = (leVal ((l.drop p).take (k + 1)) : Nat) ∧ leVal ((l.drop p).take (k + 1)) < 18446744073709551616 := by
  subst hz hD
  have hpk : p + k < l.length := by
    rcases Nat.lt_or_ge (p + k) l.length with h1 | h1
    · exact h1
    · rw [List.getElem?_eq_none h1] at h; cases h
  have hlen : ((l.drop p).take k).length = k := by simp; omega
  have hb := leVal_lt ((l.drop p).take k)
  rw [hlen] at hb
  have hn := take_next (l.drop p) k y (by rw [List.getElem?_drop]; exact h)
  have hlt := leVal_lt ((l.drop p).take (k + 1))
  have hlen1 : ((l.drop p).take (k + 1)).length = k + 1 := by simp; omega
  rw [hlen1] at hlt
  have h64 : 2 ^ (8 * (k + 1)) ≤ 18446744073709551616 := Nat.pow_le_pow_right (n := 2) (by omega) (show 8 * (k + 1) ≤ 64 by omega)
  have hv : leVal ((l.drop p).take (k + 1)) = leVal ((l.drop p).take k) + y.toNat * 2 ^ (8 * k) := by rw [hn, leVal_snoc, hlen]
  refine ⟨?_, by omega⟩
  rw [hv] at hlt ⊢
  exact or_high _ _ _ hb (by omega) (by omega)

theorem ret2_u64 {a a' b b' : Int} (h : a = a') (h' : b = b') : Ending.returned (.tuple #[.int .u64 a, .int .i64 b]) = .returned (.tuple #[.int .u64 a', .int .i64 b']) := by rw [h, h']

set_option maxHeartbeats 400000 in
theorem lookWhole_no {base g : Nat} {v : Value} {l : List UInt8} {p : Nat} (s : Int) (w : World) (h : Rd w base g v l p false) (hs : (l.length : Int) - p < s) :
    Calls Try.prog 92 #[.pointer (some ⟨g, 0, none⟩), .int .i64 s] w fun e w' => e = .returned (.tuple #[.int .u64 0, .int .i64 0]) ∧ ∃ k, w' = w.drewN k := by
  obtain ⟨A, c, rfl, -⟩ := h.own.sl
  have h0 := h.c0
  have h1 := h.c1
  have h2 := h.c2
  have hle := h.le
  have hsm := h.small
  have hs' : ((l.length - p : Nat) : Int) < s := by omega
  clear h
  go_enter Try.func92, Try.ntmps92
  go_wp2_with (go_at_call 49; refine (left_good g A _ c p _ h0 h1 h2 hle (by omega)).mono ?_; rintro e w1 ⟨rfl, k1, rfl⟩)
  go_ret2
  exact ⟨rfl, k1, rfl⟩

set_option maxHeartbeats 400000 in
theorem lookWhole_yes {base g : Nat} {v : Value} {l : List UInt8} {p : Nat} (s : Nat) (w : World) (h : Rd w base g v l p false) (hs : p + s ≤ l.length) (hs1 : 1 ≤ s) (hs8 : s ≤ 8) :
    Calls Try.prog 92 #[.pointer (some ⟨g, 0, none⟩), .int .i64 s] w fun e w' => e = .returned (.tuple #[.int .u64 (leVal ((l.drop p).take s)), .int .i64 s]) ∧ ∃ k, w' = w.drewN k := by
  obtain ⟨b, c, rfl, hlc, hcm, -, -, hcell⟩ := h.own.form_ (by rintro rfl; simp at hs; omega)
  have h0 := h.c0
  have h1 := h.c1
  have h2 := h.c2
  have hle := h.le
  have hsm := h.small
  have hs' : decide (l.length - p < s) = false := by simp; omega
  unfold maxLen at hcm
  have hpc : (p : Int) + s ≤ c := by omega
  have hne : c ≠ p := by omega
  have HC := Lib.hid hcell
  clear h hcell
  go_enter Try.func92, Try.ntmps92
  go_wp2_with (go_at_call 49; refine (left_good g _ _ c p _ h0 h1 h2 hle (by omega)).mono ?_; rintro e w1 ⟨rfl, k1, rfl⟩)
  go_quiet (fail)
  go_wp2
  go_loop [4, 28] (fun n i => ∃ (k : Nat) (D : Int), k ≤ s ∧ i = .int .i64 k ∧ n = .int .u64 D ∧ 0 ≤ D ∧ D ≤ 18446744073709551615 ∧ D = (leVal ((l.drop p).take k) : Nat)) (fun _ i => s - (intOf i).toNat)
  case atStart => exact ⟨0, 0, by omega, rfl, rfl, by omega, by omega, by simp [leVal]⟩
  case round =>
    obtain ⟨k, D, hk, rfl, rfl, d0, d1, hD⟩ := hrel
    have HD := Lib.hid hD
    clear hD
    by_cases hlt : k < s
    · obtain ⟨y, hy⟩ : ∃ y, l[p + k]? = some y := ⟨_, List.getElem?_eq_getElem (by omega)⟩
      have hc := HC.out (p + k) y hy
      unfold b8 at hc
      have HY := Lib.hid hy
      clear hy
      obtain ⟨z, hz⟩ : ∃ z : Int, z = (y.toNat : Int) := ⟨_, rfl⟩
      rw [← hz] at hc
      have z0 : 0 ≤ z := by omega
      have z1 : z ≤ 255 := by have := y.toNat_lt; omega
      have HZ := Lib.hid hz
      clear hz
      go_wp2
      have hst := whole_step l p k y z D HY.out HZ.out HD.out (by omega)
      go_round
      case rel => exact ⟨_, _, _, _, ⟨k + 1, by omega, rfl, _, rfl, by rw [hst.1]; omega, by rw [hst.1]; omega, hst.1⟩, rfl, rfl, rfl, by go_num⟩
      case measure => simp [intOf]; omega
    · have hge : s ≤ k := by omega
      have hks : List.take k (l.drop p) = (l.drop p).take s := by rw [show k = s from by omega]
      have HK := Lib.hid hks
      clear hks
      go_wp2
      go_ret2
      exact ⟨ret2_u64 (by rw [HD.out, HK.out]) rfl, _, rfl⟩
end Go.Proofs.Ytjojhoaienjjeaa
/- Walks: a short number is read. -/
namespace Go.Proofs.Ytjojhoaienjjeaa
open Go.RowKit
set_option linter.unusedVariables false

theorem quiet_left_ {P : Program} {f : FuncId} {args : Array Value} {w : World} {n : Nat} {v : Value}
    (h : Calls P f args (w.drewN n) fun e w' => e = .returned v ∧ w.drewN n = w') : Calls P f args (w.drewN n) fun e w'' => e = .returned v ∧ ∃ m, w'' = w.drewN m :=
  h.mono fun _ _ ⟨he, hm⟩ => ⟨he, n, hm.symm⟩

theorem quiet_two_ {P : Program} {f : FuncId} {args : Array Value} {w : World} {a n : Nat} {v : Value}
    (h : Calls P f args (w.drewN (a + n)) fun e w' => e = .returned v ∧ w.drewN (a + n) = w') : Calls P f args (w.drewN (a + n)) fun e w'' => e = .returned v ∧ ∃ m, w'' = w.drewN (a + m) :=
  h.mono fun _ _ ⟨he, hm⟩ => ⟨he, n, hm.symm⟩

set_option maxHeartbeats 400000 in
theorem lookShort_end {base g : Nat} {v : Value} {l : List UInt8} {p : Nat} (s : Int) (w : World) (h : Rd w base g v l p false) (hs : l.length = p) :
    Calls Try.prog 91 #[.pointer (some ⟨g, 0, none⟩), .int .i64 s] w fun e w' => e = .returned (.tuple #[.int .u64 0, .int .i64 0]) ∧ ∃ k, w' = w.drewN k := by
  obtain ⟨A, c, rfl, -, hlc, hcm, -⟩ := h.own.sl
  have h0 := h.c0
  have h1 := h.c1
  have h2 := h.c2
  have hle := h.le
  have hsm := h.small
  unfold maxLen at hcm
  have H := Lib.hid h
  clear h
  rw [hs] at *
  clear hs hle
  obtain ⟨L, hL⟩ : ∃ L : Int, L = ((short (0 : Int).toNat).length : Int) := ⟨_, rfl⟩
  have hL1 : ((0 : Int) != L) = true := by rw [hL]; decide
  have hsz := fun W => shortSize_any 0 W (by omega) (by omega)
  rw [← hL] at hsz
  have HS := Lib.hid hsz
  clear hsz hL
  by_cases hcp : c = p
  · subst hcp
    go_enter Try.func91, Try.ntmps91
    go_wp2
    go_quiet ((go_at_call 49; exact Calls.quiet_of (left_good g A c c c _ h0 h1 h2 (by omega) (by omega))))
    go_wp2
    go_loop [4, 5, 22] (fun n u i => n = .int .u64 0 ∧ u = .int .i64 0 ∧ i = .int .i64 0) (fun _ _ _ => 0)
    case atStart => exact ⟨rfl, rfl, rfl⟩
    case round =>
      obtain ⟨rfl, rfl, rfl⟩ := hrel
      go_wp2
      go_quiet ((go_at_call 75; first | exact quiet_left_ (HS.out _) | exact quiet_two_ (HS.out _)))
      go_wp2
      go_ret2
      exact ⟨rfl, _, World.drewN_drewN _ _ _⟩
  · go_enter Try.func91, Try.ntmps91
    go_wp2
    go_quiet ((go_at_call 49; exact Calls.quiet_of (left_good g A p c p _ h0 h1 h2 (by omega) (by omega))))
    go_wp2
    go_loop [4, 5, 22] (fun n u i => n = .int .u64 0 ∧ u = .int .i64 0 ∧ i = .int .i64 0) (fun _ _ _ => 0)
    case atStart => exact ⟨rfl, rfl, rfl⟩
    case round =>
      obtain ⟨rfl, rfl, rfl⟩ := hrel
      go_wp2
      go_quiet ((go_at_call 75; first | exact quiet_left_ (HS.out _) | exact quiet_two_ (HS.out _)))
      go_wp2
      go_ret2
      exact ⟨rfl, _, World.drewN_drewN _ _ _⟩

theorem or_bounds (a b : Int) : 0 ≤ bits BinOp.or IntKind.u64 a b ∧ bits BinOp.or IntKind.u64 a b ≤ 18446744073709551615 := by
  show 0 ≤ IntKind.u64.wrap _ ∧ IntKind.u64.wrap _ ≤ 18446744073709551615
  rw [IntKind.wrap_u64]
  omega
/-- How many bytes the short form has, as the code asks it, under a name. -/
theorem size_named (D : Int) (h0 : 0 ≤ D) (h1 : D ≤ 18446744073709551615) :
    ∃ L : Int, L = ((short D.toNat).length : Int) ∧ ∀ W : World, Calls Try.prog 75 #[.int .u64 D] W fun e w' => e = .returned (.int .i64 L) ∧ W = w' :=
  ⟨_, rfl, fun W => shortSize_any D W h0 h1⟩

/-- All bytes looked at say that there are more. -/
theorem lookShort_none_ {base g : Nat} {v : Value} {l : List UInt8} {p : Nat} (s : Int) (w : World) (h : Rd w base g v l p false) (hs : p < l.length) (m : Nat) (hm : m = min (l.length - p) 10)
    (hall : ∀ j y, j < m → l[p + j]? = some y → 128 ≤ y.toNat) :
    Calls Try.prog 91 #[.pointer (some ⟨g, 0, none⟩), .int .i64 s] w fun e w' => e = .returned (.tuple #[.int .u64 0, .int .i64 0]) ∧ ∃ k, w' = w.drewN k := by
  obtain ⟨b, c, rfl, hlc, hcm, -, -, hcell⟩ := h.own.form_ (by rintro rfl; simp at hs)
  have h0 := h.c0
  have h1 := h.c1
  have h2 := h.c2
  have hle := h.le
  have hsm := h.small
  have hne : c ≠ p := by omega
  unfold maxLen at hcm
  have hm10 : m ≤ 10 := by omega
  have hml : m ≤ l.length - p := by omega
  have HM := Lib.hid hm
  clear hm
  have HC := Lib.hid hcell
  have HA := Lib.hid hall
  clear h hcell hall
  go_enter Try.func91, Try.ntmps91
  go_wp2
  by_cases h10 : 10 < l.length - p
  all_goals
    go_quiet ((go_at_call 49; exact Calls.quiet_of (left_good g _ _ c p _ h0 h1 h2 hle (by omega))))
    go_wp2
    have hmx : (¬ 10 < l.length - p → l.length - p ≤ m) ∧ (10 < l.length - p → 10 ≤ m) := by have := HM.out; omega
    have HX := Lib.hid hmx
    clear hmx
    go_loop [4, 5, 22] (fun n u i => ∃ (k : Nat) (D : Int), k ≤ m ∧ u = .int .i64 0 ∧ i = .int .i64 k ∧ n = .int .u64 D ∧ 0 ≤ D ∧ D ≤ 18446744073709551615) (fun _ _ i => m - (intOf i).toNat)
    case atStart => exact ⟨0, 0, by omega, rfl, rfl, rfl, by omega, by omega⟩
    case round =>
      obtain ⟨k, D, hk, rfl, rfl, rfl, d0, d1⟩ := hrel
      by_cases hlt : k < m
      · obtain ⟨y, hy⟩ : ∃ y, l[p + k]? = some y := ⟨_, List.getElem?_eq_getElem (by omega)⟩
        have hc := HC.out (p + k) y hy
        have hz128 := HA.out k y hlt hy
        unfold b8 at hc
        obtain ⟨z, hz⟩ : ∃ z : Int, z = (y.toNat : Int) := ⟨_, rfl⟩
        rw [← hz] at hc
        have z0 : 128 ≤ z := by omega
        have z1 : z ≤ 255 := by have := y.toNat_lt; omega
        clear hy hz hz128
        go_wp2
        go_round
        case rel => exact ⟨k + 1, _, by omega, rfl, by go_num, rfl, (or_bounds _ _).1, (or_bounds _ _).2⟩
        case measure => simp [intOf]; omega
      · obtain ⟨L, hL, hc⟩ := size_named D d0 d1
        have hL1 : ((0 : Int) != L) = true := by have := short_length_pos D.toNat; rw [bne_iff_ne]; omega
        have HS := Lib.hid hc
        clear hL hc
        have hkm : (¬ 10 < l.length - p → l.length - p ≤ k) ∧ (10 < l.length - p → 10 ≤ k) := by have := HX.out; omega
        first
          | (have hge : l.length - p ≤ k := hkm.1 h10
             clear hkm
             go_wp2
             go_quiet ((go_at_call 75; first | exact quiet_left_ (HS.out _) | exact quiet_two_ (HS.out _)))
             go_wp2
             go_ret2
             exact ⟨rfl, _, World.drewN_drewN _ _ _⟩)
          | (have hge : 10 ≤ k := hkm.2 h10
             clear hkm
             go_wp2
             go_quiet ((go_at_call 75; first | exact quiet_left_ (HS.out _) | exact quiet_two_ (HS.out _)))
             go_wp2
             go_ret2
             exact ⟨rfl, _, World.drewN_drewN _ _ _⟩)
end Go.Proofs.Ytjojhoaienjjeaa
namespace Go.Proofs.Ytjojhoaienjjeaa

/-- The number whose sevens of bits these are, the lowest first. -/
def val7 : List UInt8 → Nat
  | [] => 0
  | x :: r => x.toNat % 128 + 128 * val7 r
theorem val7_snoc (a : List UInt8) (y : UInt8) : val7 (a ++ [y]) = val7 a + y.toNat % 128 * 2 ^ (7 * a.length) := by
  induction a with
  | nil => simp [val7]
  | cons b r ih =>
    rw [List.cons_append, val7, val7, ih, List.length_cons, show 7 * (r.length + 1) = 7 * r.length + 7 from by omega, Nat.pow_add]
    rw [Nat.mul_add, ← Nat.add_assoc, Nat.mul_left_comm, Nat.mul_comm 128 (2 ^ _), show (2 : Nat) ^ 7 = 128 from rfl]
theorem val7_lt (a : List UInt8) : val7 a < 2 ^ (7 * a.length) := by
  induction a with
  | nil => simp [val7]
  | cons b r ih =>
    rw [val7, List.length_cons, show 7 * (r.length + 1) = 7 * r.length + 7 from by omega, Nat.pow_add]
    omega

/-- Where the first byte below 128 stands among the first f. -/
def stopAt : Nat → List UInt8 → Option Nat
  | 0, _ => none
  | _ + 1, [] => none
  | f + 1, x :: r => if x.toNat < 128 then some 0 else (stopAt f r).map (· + 1)
theorem stopAt_none (f : Nat) (s : List UInt8) (h : stopAt f s = none) : ∀ j y, j < f → s[j]? = some y → 128 ≤ y.toNat := by
  induction f generalizing s with
  | zero => intro j y hj; omega
  | succ f ih =>
    intro j y hj hy
    cases s with
    | nil => simp at hy
    | cons x r =>
      rw [stopAt] at h
      split at h
      · cases h
      · rename_i hx
        simp at h
        cases j with
        | zero => simp at hy; subst hy; omega
        | succ j => exact ih r h j y (by omega) (by simpa using hy)
theorem stopAt_some (f : Nat) (s : List UInt8) (k : Nat) (h : stopAt f s = some k) : k < f ∧ (∀ j y, j < k → s[j]? = some y → 128 ≤ y.toNat) ∧ ∃ y, s[k]? = some y ∧ y.toNat < 128 := by
  induction f generalizing s k with
  | zero => cases h
  | succ f ih =>
    cases s with
    | nil => cases h
    | cons x r =>
      rw [stopAt] at h
      split at h
      · rename_i hx
        injection h with h
        subst h
        exact ⟨by omega, fun j y hj => by omega, x, rfl, hx⟩
      · rename_i hx
        obtain ⟨k', hk, rfl⟩ := Option.map_eq_some_iff.1 h
        obtain ⟨h1, h2, y, h3, h4⟩ := ih r k' hk
        refine ⟨by omega, fun j y hj hy => ?_, y, by simpa using h3, h4⟩
        cases j with
        | zero => simp at hy; subst hy; omega
        | succ j => exact h2 j y (by omega) (by simpa using hy)

/-- The short number that stands at the head of s, and how many bytes it has: (0, 0), if none does. -/
def rdS (s : List UInt8) : Nat × Nat :=
  match stopAt 10 s with
  | none => (0, 0)
  | some k =>
    let n := val7 (s.take (k + 1)) % 18446744073709551616
    if (short n).length ≠ k + 1 then (0, 0) else if k + 1 = 10 ∧ 1 < (s.getD 9 0).toNat then (0, 0) else (n, k + 1)

theorem rdS_stop {s : List UInt8} {k : Nat} (h : stopAt 10 s = some k) : rdS s = if (short (val7 (s.take (k + 1)) % 18446744073709551616)).length ≠ k + 1 then (0, 0) else if k + 1 = 10 ∧ 1 < (s.getD 9 0).toNat then (0, 0) else (val7 (s.take (k + 1)) % 18446744073709551616, k + 1) := by
  unfold rdS
  rw [h]
theorem rdS_none {s : List UInt8} (h : stopAt 10 s = none) : rdS s = (0, 0) := by
  unfold rdS
  rw [h]

theorem short_val7 (q : List UInt8) (a : List UInt8) (y : UInt8) (hq : q = a ++ [y]) (ha : ∀ x ∈ a, 128 ≤ x.toNat) (hy : y.toNat < 128) (hl : (short (val7 q)).length = q.length) : short (val7 q) = q := by
  induction a generalizing q with
  | nil =>
    subst hq
    simp only [List.nil_append, val7]
    rw [Nat.mod_eq_of_lt hy, show y.toNat + 128 * 0 = y.toNat from by omega, short_lt hy]
    simp
  | cons x r ih =>
    subst hq
    rw [List.cons_append] at hl ⊢
    have hx := ha x List.mem_cons_self
    have hx2 := x.toNat_lt
    rw [val7] at hl ⊢
    by_cases h0 : val7 (r ++ [y]) = 0
    · rw [h0, short_lt (by omega)] at hl
      simp at hl
    · rw [short_ge (by omega), show (x.toNat % 128 + 128 * val7 (r ++ [y])) / 128 = val7 (r ++ [y]) from by omega, show (x.toNat % 128 + 128 * val7 (r ++ [y])) % 128 + 128 = x.toNat from by omega] at hl ⊢
      rw [ih (r ++ [y]) rfl (fun z hz => ha z (List.mem_cons_of_mem _ hz)) (by simpa using hl)]
      simp
theorem val7_short (n : Nat) : val7 (short n) = n := by
  induction n using Nat.strongRecOn with
  | ind n ih =>
    by_cases h : n < 128
    · rw [short_lt h]
      simp only [val7, UInt8.toNat_ofNat']
      omega
    · rw [short_ge (by omega), val7, ih (n / 128) (by omega), UInt8.toNat_ofNat']
      omega
theorem short_shape (n : Nat) : ∃ a y, short n = a ++ [y] ∧ (∀ x ∈ a, 128 ≤ x.toNat) ∧ y.toNat < 128 := by
  induction n using Nat.strongRecOn with
  | ind n ih =>
    by_cases h : n < 128
    · refine ⟨[], UInt8.ofNat n, by rw [short_lt h]; rfl, by simp, ?_⟩
      rw [UInt8.toNat_ofNat']
      omega
    · obtain ⟨a, y, e, h1, h2⟩ := ih (n / 128) (by omega)
      refine ⟨UInt8.ofNat (n % 128 + 128) :: a, y, by rw [short_ge (by omega), e]; rfl, ?_, h2⟩
      intro x hx
      rcases List.mem_cons.1 hx with rfl | hx
      · rw [UInt8.toNat_ofNat']; omega
      · exact h1 x hx

/-- A form that stands at the head of s stops where s does. -/
theorem shape_stop (s a : List UInt8) (y : UInt8) (ha : ∀ x ∈ a, 128 ≤ x.toNat) (hy : y.toNat < 128) (hs : s.take (a ++ [y]).length = a ++ [y]) (f : Nat) (hf : a.length < f) : stopAt f s = some a.length := by
  induction a generalizing s f with
  | nil =>
    obtain ⟨f, rfl⟩ : ∃ f', f = f' + 1 := ⟨f - 1, by simp at hf; omega⟩
    cases s with
    | nil => simp at hs
    | cons z r =>
      simp at hs
      subst hs
      rw [stopAt, if_pos hy]; rfl
  | cons x r ih =>
    obtain ⟨f, rfl⟩ : ∃ f', f = f' + 1 := ⟨f - 1, by simp at hf; omega⟩
    cases s with
    | nil => simp at hs
    | cons z t =>
      simp at hs
      obtain ⟨rfl, hs⟩ := hs
      have hx := ha z List.mem_cons_self
      rw [stopAt, if_neg (by omega), ih t (fun w hw => ha w (List.mem_cons_of_mem _ hw)) (by simpa using hs) f (by simp at hf; omega)]
      rfl

theorem take_stop {s : List UInt8} {k : Nat} {y : UInt8} (h2 : ∀ j y, j < k → s[j]? = some y → 128 ≤ y.toNat) (h3 : s[k]? = some y) : s.take (k + 1) = s.take k ++ [y] ∧ (∀ x ∈ s.take k, 128 ≤ x.toNat) ∧ (s.take k).length = k := by
  have hk : k < s.length := by
    rcases Nat.lt_or_ge k s.length with h | h
    · exact h
    · rw [List.getElem?_eq_none h] at h3; cases h3
  refine ⟨take_next s k y h3, fun x hx => ?_, by simp; omega⟩
  obtain ⟨j, hj, rfl⟩ := List.mem_take_iff_getElem.1 hx
  exact h2 j _ (by omega) (List.getElem?_eq_getElem (by omega))

theorem mod_help (D T E X : Nat) (hD : D < E) (hle : T + E ≤ 18446744073709551616) (hm : X % 18446744073709551616 = T) : D + T = (D + X) % 18446744073709551616 := by omega
theorem or_mod (D z e : Nat) (hD : D < 2 ^ e) (he : e ≤ 63) :
    bits BinOp.or IntKind.u64 (D : Int) (IntKind.u64.wrap ((z : Int) * 2 ^ e)) = (((D + z * 2 ^ e) % 18446744073709551616 : Nat) : Int) := by
  have hp : 2 ^ (64 - e) * 2 ^ e = 18446744073709551616 := by rw [← Nat.pow_add, show 64 - e + e = 64 from by omega]
  have hpe : 0 < 2 ^ e := Nat.two_pow_pos e
  have hm : (z * 2 ^ e) % 18446744073709551616 = (z % 2 ^ (64 - e)) * 2 ^ e := by rw [← hp, Nat.mul_mod_mul_right]
  have hlt : z % 2 ^ (64 - e) < 2 ^ (64 - e) := Nat.mod_lt _ (Nat.two_pow_pos _)
  have hle : (z % 2 ^ (64 - e) + 1) * 2 ^ e ≤ 2 ^ (64 - e) * 2 ^ e := Nat.mul_le_mul_right _ hlt
  rw [hp, Nat.add_mul, Nat.one_mul] at hle
  have h1 := or_high D (z % 2 ^ (64 - e)) e hD (by omega) (by omega)
  have e1 : IntKind.u64.wrap ((z : Int) * 2 ^ e) = IntKind.u64.wrap (((z % 2 ^ (64 - e) : Nat) : Int) * 2 ^ e) := by
    have e2 : ((z : Int) * 2 ^ e) = ((z * 2 ^ e : Nat) : Int) := by rw [Int.natCast_mul, Int.natCast_pow]; rfl
    have e3 : (((z % 2 ^ (64 - e) : Nat) : Int) * 2 ^ e) = ((z % 2 ^ (64 - e) * 2 ^ e : Nat) : Int) := by rw [Int.natCast_mul, Int.natCast_pow]; rfl
    rw [IntKind.wrap_u64, IntKind.wrap_u64, e2, e3, ← hm]
    omega
  rw [e1, h1]
  exact congrArg Nat.cast (mod_help D (z % 2 ^ (64 - e) * 2 ^ e) (2 ^ e) (z * 2 ^ e) hD hle hm)
theorem and127_all : ∀ m : Fin 256, IntKind.u64.wrap (bits BinOp.and IntKind.u8 (m.val : Int) 127) = ((m.val % 128 : Nat) : Int) := by decide +kernel
/-- One round of a short number, as the code has it. -/
theorem short_step (s : List UInt8) (k : Nat) (y : UInt8) (z D : Int) (h : s[k]? = some y) (hz : z = (y.toNat : Int)) (hD : D = (val7 (s.take k) : Nat)) (hk : k ≤ 9) :
    bits BinOp.or IntKind.u64 D (IntKind.u64.wrap (IntKind.u64.wrap (bits BinOp.and IntKind.u8 z 127) * 2 ^ (7 * k))) = ((val7 (s.take (k + 1)) % 18446744073709551616 : Nat) : Int) := by
  subst hz hD
  have hkl : k < s.length := by
    rcases Nat.lt_or_ge k s.length with h1 | h1
    · exact h1
    · rw [List.getElem?_eq_none h1] at h; cases h
  have hlen : (s.take k).length = k := by simp; omega
  have hb := val7_lt (s.take k)
  rw [hlen] at hb
  rw [and127_all ⟨y.toNat, y.toNat_lt⟩, take_next s k y h, val7_snoc, hlen]
  exact or_mod _ _ _ hb (by omega)
theorem val7_small (s : List UInt8) (k : Nat) (hk : k ≤ 9) : val7 (s.take k) < 9223372036854775808 := by
  have h := val7_lt (s.take k)
  have h2 : (s.take k).length ≤ k := List.length_take_le _ _
  have : 2 ^ (7 * (s.take k).length) ≤ 2 ^ 63 := Nat.pow_le_pow_right (n := 2) (by omega) (by omega)
  omega

/-- What rdS says: the number whose form stands there, or that none does. -/
theorem rdS_form (s : List UInt8) : ((rdS s).2 ≠ 0 → (rdS s).1 < 18446744073709551616 ∧ (rdS s).2 = (short (rdS s).1).length ∧ s.take (rdS s).2 = short (rdS s).1) ∧
    ((rdS s).2 = 0 → (rdS s).1 = 0 ∧ ∀ m, m < 18446744073709551616 → s.take (short m).length ≠ short m) := by
  have hno : ∀ m, m < 18446744073709551616 → s.take (short m).length = short m → stopAt 10 s = some ((short m).length - 1) ∧ s.take ((short m).length - 1 + 1) = short m := by
    intro m hm h
    obtain ⟨a, y, e, h1, h2⟩ := short_shape m
    have hl := short_length_le m hm
    have hal : (short m).length = a.length + 1 := by rw [e]; simp
    rw [show (short m).length - 1 = a.length from by omega]
    exact ⟨shape_stop s a y h1 h2 (by rw [← e]; exact h) 10 (by omega), by rw [← hal]; exact h⟩
  unfold rdS
  cases hst : stopAt 10 s with
  | none =>
    refine ⟨fun h => absurd rfl h, fun _ => ⟨rfl, fun m hm h => ?_⟩⟩
    have := (hno m hm h).1
    rw [hst] at this
    cases this
  | some k =>
    obtain ⟨hk, h2, y, h3, h4⟩ := stopAt_some 10 s k hst
    obtain ⟨e1, e2, e3⟩ := take_stop h2 h3
    have hno' : ∀ m, m < 18446744073709551616 → s.take (short m).length = short m → s.take (k + 1) = short m ∧ k + 1 = (short m).length ∧ val7 (s.take (k + 1)) = m := by
      intro m hm h
      obtain ⟨g1, g2⟩ := hno m hm h
      rw [hst] at g1
      injection g1 with g1
      rw [← g1] at g2
      have := short_length_pos m
      exact ⟨g2, by omega, by rw [g2, val7_short]⟩
    by_cases c1 : (short (val7 (s.take (k + 1)) % 18446744073709551616)).length ≠ k + 1
    · simp only [if_pos c1]
      refine ⟨fun h => absurd rfl h, fun _ => ⟨trivial, fun m hm h => ?_⟩⟩
      obtain ⟨g2, g3, g4⟩ := hno' m hm h
      rw [g4, Nat.mod_eq_of_lt hm] at c1
      omega
    · simp only [if_neg c1]
      by_cases c2 : k + 1 = 10 ∧ 1 < (s.getD 9 0).toNat
      · simp only [if_pos c2]
        refine ⟨fun h => absurd rfl h, fun _ => ⟨trivial, fun m hm h => ?_⟩⟩
        obtain ⟨g2, g3, g4⟩ := hno' m hm h
        obtain ⟨c3, c4⟩ := c2
        obtain rfl : k = 9 := by omega
        have hy : s.getD 9 0 = y := by simp [List.getD, h3]
        rw [hy] at c4
        rw [e1, val7_snoc, e3] at g4
        omega
      · simp only [if_neg c2]
        have hv : val7 (s.take (k + 1)) < 18446744073709551616 := by
          by_cases h9 : k = 9
          · subst h9
            have hy : s.getD 9 0 = y := by simp [List.getD, h3]
            rw [hy] at c2
            have := val7_lt (s.take 9)
            rw [e3] at this
            rw [e1, val7_snoc, e3]
            omega
          · have hlt := val7_lt (s.take (k + 1))
            have hlen : (s.take (k + 1)).length = k + 1 := by rw [e1, List.length_append, e3]; rfl
            rw [hlen] at hlt
            have : 2 ^ (7 * (k + 1)) ≤ 18446744073709551616 := Nat.pow_le_pow_right (n := 2) (by omega) (show 7 * (k + 1) ≤ 64 by omega)
            omega
        rw [Nat.mod_eq_of_lt hv] at c1 ⊢
        have hlen : (s.take (k + 1)).length = k + 1 := by rw [e1, List.length_append, e3]; rfl
        have hf := short_val7 (s.take (k + 1)) (s.take k) y e1 e2 h4 (by rw [hlen]; omega)
        refine ⟨fun _ => ⟨hv, by rw [hf, hlen], hf.symm⟩, fun h => by simp at h⟩

/-- Where a form stands, it is what is read. -/
theorem rdS_of (s : List UInt8) (m : Nat) (hm : m < 18446744073709551616) (h : s.take (short m).length = short m) : rdS s = (m, (short m).length) := by
  have hf := rdS_form s
  by_cases h0 : (rdS s).2 = 0
  · exact absurd h ((hf.2 h0).2 m hm)
  · obtain ⟨g1, g2, g3⟩ := hf.1 h0
    obtain ⟨a, y, e, h1, h2⟩ := short_shape m
    obtain ⟨a', y', e', h1', h2'⟩ := short_shape (rdS s).1
    have s1 := shape_stop s a y h1 h2 (by rw [← e]; exact h) (a.length + a'.length + 1) (by omega)
    have s2 := shape_stop s a' y' h1' h2' (by rw [← e', ← g2]; exact g3) (a.length + a'.length + 1) (by omega)
    rw [s1] at s2
    injection s2 with s2
    have l1 : (short m).length = a.length + 1 := by rw [e]; simp
    have l2 : (short (rdS s).1).length = a'.length + 1 := by rw [e']; simp
    have l3 : (rdS s).2 = (short m).length := by omega
    rw [l3, h] at g3
    have : (rdS s).1 = m := by rw [← val7_short (rdS s).1, ← g3, val7_short]
    rw [← this] at l3 ⊢
    exact Prod.ext rfl l3
theorem rdS_lt (s : List UInt8) : (rdS s).1 < 18446744073709551616 := by
  have hf := rdS_form s
  by_cases h0 : (rdS s).2 = 0
  · rw [(hf.2 h0).1]; omega
  · exact (hf.1 h0).1
theorem rdS_le (s : List UInt8) : (rdS s).2 ≤ s.length := by
  have hf := rdS_form s
  by_cases h0 : (rdS s).2 = 0
  · omega
  · obtain ⟨g1, g2, g3⟩ := hf.1 h0
    have := congrArg List.length g3
    simp at this
    omega
end Go.Proofs.Ytjojhoaienjjeaa
