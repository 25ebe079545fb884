/- Walks: the answer of Great; the law DictAsks over any dictionary that keeps its contracts. -/
import Derived.Test.YtjojhoaienjjeaaMa5
import Derived.Test.YtjojhoaienjjeaaMa2
import Derived.Deep.RegionWith
import Derived.Test.YtjojhoaienjjeaaMa0
import Derived.Laws.ResultCell
import Derived.Test.YtjojhoaienjjeaaMa4
/- Mathematics: the interval of a rising row of values. -/
namespace Go.Proofs.Ytjojhoaienjjeaa
open Go.RowKit
set_option linter.unusedVariables false

theorem hiV_take (p : VV → Bool) (l : List VV) : ∀ n, n ≤ l.length → hiV p (l.take n) ≤ n ∧ (∀ j x, l[j]? = some x → hiV p (l.take n) ≤ j → j < n → p x = false) ∧ (hiV p (l.take n) ≠ 0 → ∃ x, l[hiV p (l.take n) - 1]? = some x ∧ p x = true)
  | 0, _ => ⟨by simp [hiV], fun _ _ _ _ h => by omega, fun h => absurd (by simp [hiV]) h⟩
  | n + 1, h => by
    obtain ⟨a, b, c⟩ := hiV_take p l n (by omega)
    obtain ⟨y, hy⟩ : ∃ y, l[n]? = some y := ⟨_, List.getElem?_eq_getElem (by omega)⟩
    have e : l.take (n + 1) = l.take n ++ [y] := by rw [List.take_add_one, hy]; rfl
    rw [e, hiV_snoc, List.length_take, Nat.min_eq_left (by omega)]
    cases hp : p y with
    | true =>
      simp only [if_true]
      exact ⟨Nat.le_refl _, fun j x _ h1 h2 => by omega, fun _ => ⟨y, by simpa using hy, hp⟩⟩
    | false =>
      simp only [Bool.false_eq_true, if_false]
      refine ⟨by omega, fun j x hx h1 h2 => ?_, c⟩
      by_cases e : j = n
      · subst e
        rw [hx] at hy
        injection hy with hy
        rw [hy]; exact hp
      · exact b j x hx h1 (by omega)
theorem hiV_spec (p : VV → Bool) (l : List VV) : hiV p l ≤ l.length ∧ (∀ j x, l[j]? = some x → hiV p l ≤ j → p x = false) ∧ (hiV p l ≠ 0 → ∃ x, l[hiV p l - 1]? = some x ∧ p x = true) := by
  have h := hiV_take p l l.length (Nat.le_refl _)
  rw [List.take_length] at h
  exact ⟨h.1, fun j x hx hj => h.2.1 j x hx hj (List.getElem?_eq_some_iff.1 hx).1, h.2.2⟩
theorem loV_take (p : VV → Bool) (l : List VV) : ∀ n, n ≤ l.length → (loV p (l.take n) = -1 ∧ ∀ j x, l[j]? = some x → j < n → p x = false) ∨ ∃ k : Nat, loV p (l.take n) = k ∧ k < n ∧ (∃ x, l[k]? = some x ∧ p x = true) ∧ ∀ j x, l[j]? = some x → j < k → p x = false
  | 0, _ => Or.inl ⟨by simp [loV], fun _ _ _ h => by omega⟩
  | n + 1, h => by
    have ih := loV_take p l n (by omega)
    obtain ⟨y, hy⟩ : ∃ y, l[n]? = some y := ⟨_, List.getElem?_eq_getElem (by omega)⟩
    have e : l.take (n + 1) = l.take n ++ [y] := by rw [List.take_add_one, hy]; rfl
    rw [e, loV_snoc, List.length_take, Nat.min_eq_left (by omega)]
    rcases ih with ⟨a, b⟩ | ⟨k, a, b, c, d⟩
    · rw [a]
      cases hp : p y with
      | true =>
        rw [if_pos ⟨by omega, rfl⟩]
        exact Or.inr ⟨n, rfl, by omega, ⟨y, hy, hp⟩, b⟩
      | false =>
        rw [if_neg (by simp)]
        refine Or.inl ⟨rfl, fun j x hx hj => ?_⟩
        by_cases e : j = n
        · subst e
          rw [hx] at hy
          injection hy with hy
          rw [hy]; exact hp
        · exact b j x hx (by omega)
    · rw [a, if_neg (by omega)]
      exact Or.inr ⟨k, rfl, by omega, c, d⟩
theorem loV_spec (p : VV → Bool) (l : List VV) : (loV p l = -1 ∧ ∀ (j : Nat) (x : VV), l[j]? = some x → p x = false) ∨ ∃ k : Nat, loV p l = k ∧ (∃ x, l[k]? = some x ∧ p x = true) ∧ ∀ (j : Nat) (x : VV), l[j]? = some x → j < k → p x = false := by
  have h := loV_take p l l.length (Nat.le_refl _)
  rw [List.take_length] at h
  rcases h with ⟨a, b⟩ | ⟨k, a, b, c, d⟩
  · exact Or.inl ⟨a, fun j x hx => b j x hx (List.getElem?_eq_some_iff.1 hx).1⟩
  · exact Or.inr ⟨k, a, c, d⟩
/-- Where those that are so lie side by side. -/
theorem span_of {p : VV → Bool} {l : List VV} {s t : Nat} (hst : s ≤ t) (ht : t ≤ l.length) (h : ∀ j x, l[j]? = some x → (p x = true ↔ s ≤ j ∧ j < t)) :
    (s = t ∧ loV p l < 0) ∨ (s < t ∧ loV p l = s ∧ hiV p l = t) := by
  have at_ : ∀ j, j < l.length → ∃ x, l[j]? = some x := fun j hj => ⟨_, List.getElem?_eq_getElem hj⟩
  rcases loV_spec p l with ⟨a, b⟩ | ⟨k, a, ⟨x, hx, hpx⟩, d⟩
  · left
    refine ⟨?_, by omega⟩
    by_cases e : s = t
    · exact e
    · obtain ⟨x, hx⟩ := at_ s (by omega)
      have h1 := b s x hx
      have h2 := (h s x hx).2 (by omega)
      rw [h1] at h2; cases h2
  · right
    have hk := (h k x hx).1 hpx
    have e1 : k = s := by
      by_cases e : k = s
      · exact e
      · obtain ⟨y, hy⟩ := at_ s (by omega)
        have h1 := d s y hy (by omega)
        have h2 := (h s y hy).2 (by omega)
        rw [h1] at h2; cases h2
    subst e1
    refine ⟨by omega, a, ?_⟩
    obtain ⟨g1, g2, g3⟩ := hiV_spec p l
    have e0 : hiV p l ≠ 0 := fun e => by
      have := g2 k x hx (by omega)
      rw [this] at hpx; cases hpx
    obtain ⟨y, hy, hpy⟩ := g3 e0
    have h3 := (h _ y hy).1 hpy
    by_cases e : hiV p l = t
    · exact e
    · obtain ⟨z, hz⟩ := at_ (t - 1) (by omega)
      have h1 := g2 (t - 1) z hz (by omega)
      have h2 := (h _ z hz).2 (by omega)
      rw [h1] at h2; cases h2

theorem rise_at {l : List VV} (hr : rise l) {i j : Nat} {x y : VV} (hx : l[i]? = some x) (hy : l[j]? = some y) (hij : i < j) : cmpW x y < 0 := by
  obtain ⟨h1, rfl⟩ := List.getElem?_eq_some_iff.1 hx
  obtain ⟨h2, rfl⟩ := List.getElem?_eq_some_iff.1 hy
  exact List.pairwise_iff_getElem.1 hr i j h1 h2 hij
/-- How many are less; how many are not more. -/
def ltV (X : VV) (l : List VV) : Nat := hiV (soW 3 X) l
def leV (X : VV) (l : List VV) : Nat := hiV (soW 4 X) l
theorem so3 (X x : VV) : soW 3 X x = true ↔ cmpW x X < 0 := by unfold soW soI; simp
theorem so4 (X x : VV) : soW 4 X x = true ↔ cmpW x X ≤ 0 := by unfold soW soI; simp
theorem so1 (X x : VV) : soW 1 X x = true ↔ cmpW x X = 0 := by unfold soW soI; simp
theorem so5 (X x : VV) : soW 5 X x = true ↔ 0 < cmpW x X := by unfold soW soI; simp
theorem so6 (X x : VV) : soW 6 X x = true ↔ 0 ≤ cmpW x X := by unfold soW soI; simp
theorem ltV_iff {l : List VV} (hr : rise l) (X : VV) {j : Nat} {x : VV} (hx : l[j]? = some x) : j < ltV X l ↔ cmpW x X < 0 := by
  obtain ⟨g1, g2, g3⟩ := hiV_spec (soW 3 X) l
  constructor
  · intro h
    unfold ltV at h
    obtain ⟨y, hy, hp⟩ := g3 (by omega)
    rw [so3] at hp
    by_cases e : j = hiV (soW 3 X) l - 1
    · rw [← e, hx] at hy
      injection hy with hy
      rw [hy]; exact hp
    · exact cmpW_lt (rise_at hr hx hy (by omega)) (by omega)
  · intro h
    by_cases e : j < ltV X l
    · exact e
    · have := g2 j x hx (by unfold ltV at e; omega)
      rw [← Bool.not_eq_true, so3] at this
      exact absurd h this
theorem leV_iff {l : List VV} (hr : rise l) (X : VV) {j : Nat} {x : VV} (hx : l[j]? = some x) : j < leV X l ↔ cmpW x X ≤ 0 := by
  obtain ⟨g1, g2, g3⟩ := hiV_spec (soW 4 X) l
  constructor
  · intro h
    unfold leV at h
    obtain ⟨y, hy, hp⟩ := g3 (by omega)
    rw [so4] at hp
    by_cases e : j = hiV (soW 4 X) l - 1
    · rw [← e, hx] at hy
      injection hy with hy
      rw [hy]; exact hp
    · have := cmpW_lt (rise_at hr hx hy (by omega)) hp
      omega
  · intro h
    by_cases e : j < leV X l
    · exact e
    · have := g2 j x hx (by unfold leV at e; omega)
      rw [← Bool.not_eq_true, so4] at this
      exact absurd h this
theorem ltV_le (X : VV) (l : List VV) : ltV X l ≤ l.length := (hiV_spec _ l).1
theorem leV_le (X : VV) (l : List VV) : leV X l ≤ l.length := (hiV_spec _ l).1
theorem lt_leV {l : List VV} (hr : rise l) (X : VV) : ltV X l ≤ leV X l ∧ leV X l ≤ ltV X l + 1 := by
  have b1 := ltV_le X l
  have b2 := leV_le X l
  constructor
  · by_cases e : ltV X l = 0
    · omega
    · obtain ⟨x, hx⟩ : ∃ x, l[ltV X l - 1]? = some x := ⟨_, List.getElem?_eq_getElem (by omega)⟩
      have h1 := (ltV_iff hr X hx).1 (by omega)
      have h2 := (leV_iff hr X hx).2 (by omega)
      omega
  · by_cases e : leV X l ≤ ltV X l + 1
    · exact e
    · obtain ⟨x, hx⟩ : ∃ x, l[ltV X l]? = some x := ⟨_, List.getElem?_eq_getElem (by omega)⟩
      obtain ⟨y, hy⟩ : ∃ y, l[ltV X l + 1]? = some y := ⟨_, List.getElem?_eq_getElem (by omega)⟩
      have h1 := rise_at hr hx hy (by omega)
      have h2 := (leV_iff hr X hy).1 (by omega)
      have h3 : ¬ cmpW x X < 0 := fun h => by have := (ltV_iff hr X hx).2 h; omega
      exact absurd (cmpW_lt h1 h2) h3
/-- A value is in a rising row where the two numbers differ: there. -/
theorem there_iff {l : List VV} (hr : rise l) (X : VV) : X ∈ l ↔ leV X l = ltV X l + 1 := by
  have b := lt_leV hr X
  have b2 := leV_le X l
  constructor
  · intro h
    obtain ⟨j, hj⟩ := List.getElem?_of_mem h
    have h1 := (leV_iff hr X hj).2 (by rw [cmpW_self]; omega)
    have h2 : ¬ j < ltV X l := fun h => by
      have := (ltV_iff hr X hj).1 h
      rw [cmpW_self] at this; omega
    omega
  · intro h
    obtain ⟨x, hx⟩ : ∃ x, l[ltV X l]? = some x := ⟨_, List.getElem?_eq_getElem (by omega)⟩
    have h1 := (leV_iff hr X hx).1 (by omega)
    have h2 : ¬ cmpW x X < 0 := fun h => by have := (ltV_iff hr X hx).2 h; omega
    have h3 : x = X := cmpW_zero.1 (by omega)
    rw [← h3]
    exact List.mem_of_getElem? hx
theorem there_at {l : List VV} (hr : rise l) {X : VV} {j : Nat} (h : l[j]? = some X) : j = ltV X l := by
  have h1 := (leV_iff hr X h).2 (by rw [cmpW_self]; omega)
  have h2 : ¬ j < ltV X l := fun g => by
    have := (ltV_iff hr X h).1 g
    rw [cmpW_self] at this; omega
  have := lt_leV hr X
  omega
/-- The document's interval, by the two numbers. -/
theorem intA_rise {l : List VV} (hr : rise l) {kind cmp : Int} {X : VV} (hm : mayW X = true) (hk : X.k = kind) (h1 : ¬ cmp < 1) (h2 : cmp ≠ 2) (h6 : ¬ 6 < cmp) :
    intA kind l cmp X = if cmp = 1 then ((ltV X l : Int), (leV X l : Int), 0) else if cmp = 3 then (0, (ltV X l : Int), 0) else if cmp = 4 then (0, (leV X l : Int), 0) else if cmp = 5 then ((leV X l : Int), (l.length : Int), 0) else ((ltV X l : Int), (l.length : Int), 0) := by
  have b := lt_leV hr X
  have b1 := ltV_le X l
  have b2 := leV_le X l
  unfold intA
  rw [if_neg (by rw [hm]; simp; omega), if_neg (by simp [hk])]
  have jl : ∀ {j : Nat} {x : VV}, l[j]? = some x → j < l.length := fun h => (List.getElem?_eq_some_iff.1 h).1
  change (if loV (soW cmp X) l < 0 then (if cmp = 3 ∨ cmp = 4 then (0, 0, 0) else if cmp = 5 then ((leV X l : Int), (leV X l : Int), 0) else ((ltV X l : Int), (ltV X l : Int), 0)) else (loV (soW cmp X) l, (hiV (soW cmp X) l : Int), 0)) = _
  have hcase : cmp = 1 ∨ cmp = 3 ∨ cmp = 4 ∨ cmp = 5 ∨ cmp = 6 := by omega
  rcases hcase with rfl | rfl | rfl | rfl | rfl
  · rcases span_of (p := soW 1 X) (l := l) (s := ltV X l) (t := leV X l) b.1 b2 (fun j x hx => by
      rw [so1, leV_iff hr X hx]
      have := ltV_iff hr X hx
      constructor
      · intro h; exact ⟨by have : ¬ j < ltV X l := fun g => by have := this.1 g; omega
                           omega, by omega⟩
      · intro ⟨g1, g2⟩
        have : ¬ cmpW x X < 0 := fun g => by have := this.2 g; omega
        omega) with ⟨e, h⟩ | ⟨e, h, g⟩
    · rw [if_pos h]; simp [e]
    · rw [if_neg (by omega), h, g]; simp
  · rcases span_of (p := soW 3 X) (l := l) (s := 0) (t := ltV X l) (by omega) b1 (fun j x hx => by
      rw [so3, ltV_iff hr X hx]; simp) with ⟨e, h⟩ | ⟨e, h, g⟩
    · rw [if_pos h]; simp [← e]
    · rw [if_neg (by omega), h, g]; simp
  · rcases span_of (p := soW 4 X) (l := l) (s := 0) (t := leV X l) (by omega) b2 (fun j x hx => by
      rw [so4, leV_iff hr X hx]; simp) with ⟨e, h⟩ | ⟨e, h, g⟩
    · rw [if_pos h]; simp [← e]
    · rw [if_neg (by omega), h, g]; simp
  · rcases span_of (p := soW 5 X) (l := l) (s := leV X l) (t := l.length) b2 (Nat.le_refl _) (fun j x hx => by
      have h1 := leV_iff hr X hx
      have h2 := jl hx
      rw [so5]
      constructor
      · intro h; exact ⟨by have : ¬ j < leV X l := fun g => by have := h1.1 g; omega
                           omega, h2⟩
      · intro ⟨g1, g2⟩
        have : ¬ cmpW x X ≤ 0 := fun g => by have := h1.2 g; omega
        omega) with ⟨e, h⟩ | ⟨e, h, g⟩
    · rw [if_pos h]; simp [e]
    · rw [if_neg (by omega), h, g]; simp
  · rcases span_of (p := soW 6 X) (l := l) (s := ltV X l) (t := l.length) b1 (Nat.le_refl _) (fun j x hx => by
      have h1 := ltV_iff hr X hx
      have h2 := jl hx
      rw [so6]
      constructor
      · intro h; exact ⟨by have : ¬ j < ltV X l := fun g => by have := h1.1 g; omega
                           omega, h2⟩
      · intro ⟨g1, g2⟩
        have : ¬ cmpW x X < 0 := fun g => by have := h1.2 g; omega
        omega) with ⟨e, h⟩ | ⟨e, h, g⟩
    · rw [if_pos h]; simp [e]
    · rw [if_neg (by omega), h, g]; simp
end Go.Proofs.Ytjojhoaienjjeaa
/- Walks: bytes are read. -/
namespace Go.Proofs.Ytjojhoaienjjeaa
open Go.RowKit
set_option linter.unusedVariables false

/-- What a reader at p of l answers where it is asked for n bytes: the bytes, the place and whether it is bad behind it. -/
def rb (l : List UInt8) (p : Nat) (x : Bool) (n : Int) : List UInt8 × Nat × Bool :=
  if x then ([], p, true) else if n < 0 ∨ (l.length : Int) - p < n then ([], p, true) else ((l.drop p).take n.toNat, p + n.toNat, false)

theorem sl_cut {w : World} {lo hi : Nat} {A : Option Addr} {n c p m : Nat} {l : List UInt8} (h : Sl w lo hi (.slice A n c) l) (hp : p + m ≤ l.length) :
    Sl w lo hi (.slice (if c = p then A else A.map (·.add p)) m (c - p)) ((l.drop p).take m) := by
  obtain ⟨A', c', e, h0, h1, h2, hb⟩ := h
  injection e with e1 e2 e3
  subst e1 e2 e3
  have hl : ((l.drop p).take m).length = m := by simp; omega
  refine ⟨_, c - p, by rw [hl], fun e => ?_, by omega, by omega, fun hne => ?_⟩
  · split at e
    · omega
    · rename_i hcp
      cases A with
      | none => have := h0 rfl; omega
      | some a => simp at e
  · have hm : 0 < m := by
      rcases Nat.eq_zero_or_pos m with h | h
      · subst h; simp at hne
      · exact h
    obtain ⟨b, off, rfl, g1, g2, hc⟩ := hb (by rintro rfl; simp at hp; omega)
    rw [if_neg (by omega)]
    refine ⟨b, off + p, ?_, g1, g2, fun j x hx => ?_⟩
    · simp [Addr.add]
    · rw [List.getElem?_take] at hx
      split at hx
      · rw [List.getElem?_drop] at hx
        rw [Nat.add_assoc]
        exact hc _ _ hx
      · cases hx

theorem Rd.marked {w : World} {base g : Nat} {v : Value} {l : List UInt8} {p : Nat} {x y : Bool} (h : Rd w base g v l p x) : Rd (w.setCell ⟨g, 2, none⟩ (.bool y)) base g v l p y := by
  have h1 := h.row.set_ 2 (.bool y)
  have hne := h.ne
  exact ⟨h1, h.own.kept (grown_set w g 2 (.bool y)) (fun k hk e => by injection e with e; subst e; exact hne hk), h.ge, h.le, h.small⟩
theorem Rd.placed {w : World} {base g : Nat} {v : Value} {l : List UInt8} {p q : Nat} {x : Bool} (h : Rd w base g v l p x) (hq : q ≤ l.length) : Rd (w.setCell ⟨g, 1, none⟩ (.int .i64 q)) base g v l q x := by
  have h1 := h.row.set_ 1 (.int .i64 q)
  have hne := h.ne
  exact ⟨h1, h.own.kept (grown_set w g 1 _) (fun k hk e => by injection e with e; subst e; exact hne hk), h.ge, hq, h.small⟩

set_option maxHeartbeats 400000 in
theorem Bytes_bad {base g : Nat} {v : Value} {l : List UInt8} {p : Nat} (n : Int) (w : World) (h : Rd w base g v l p true) :
    Calls Try.prog 97 #[.pointer (some ⟨g, 0, none⟩), .int .i64 n] w fun e w' => e = .returned (.slice none 0 0) ∧ w = w' := by
  have H := Lib.hid h
  clear h
  go_enter Try.func97, Try.ntmps97
  go_wp2_with (go_at_call 66; refine (Bad_any _ H.out).mono ?_; rintro e w1 ⟨rfl, rfl⟩)
  go_ret
  exact ⟨rfl, rfl⟩

set_option maxHeartbeats 400000 in
theorem Bytes_neg {base g : Nat} {v : Value} {l : List UInt8} {p : Nat} (n : Int) (w : World) (h : Rd w base g v l p false) (hn : n < 0) :
    Calls Try.prog 97 #[.pointer (some ⟨g, 0, none⟩), .int .i64 n] w fun e w' => e = .returned (.slice none 0 0) ∧ Rd w' base g v l p true ∧ w.grownBy w' (some g) := by
  have c2 := h.c2
  have f2 := h.row.frozen 2
  have H := Lib.hid h
  clear h
  go_enter Try.func97, Try.ntmps97
  go_wp2_with (go_at_call 66; refine (Bad_any _ H.out).mono ?_; rintro e w1 ⟨rfl, rfl⟩)
  go_ret
  exact ⟨rfl, H.out.marked, grown_set _ _ _ _⟩

set_option maxHeartbeats 400000 in
theorem Bytes_more {base g : Nat} {v : Value} {l : List UInt8} {p : Nat} (n : Int) (w : World) (h : Rd w base g v l p false) (hn : 0 ≤ n) (hm : (l.length : Int) - p < n) :
    Calls Try.prog 97 #[.pointer (some ⟨g, 0, none⟩), .int .i64 n] w fun e w' => e = .returned (.slice none 0 0) ∧ Rd w' base g v l p true ∧ w.grownBy w' (some g) := by
  have hle := h.le
  have hlf : ((lf l p false : Nat) : Int) < n := by simp [lf]; omega
  generalize hq : lf l p false = q at *
  have H := Lib.hid h
  have HQ := Lib.hid hq
  clear h hq
  go_enter Try.func97, Try.ntmps97
  go_wp2_with (first | (go_at_call 66; refine (Bad_any _ H.out).mono ?_; rintro e w1 ⟨rfl, rfl⟩) | (go_at_call 49; refine (Left_any _ H.out).mono ?_; rintro e W1 ⟨rfl, k1, hW⟩; have hR : Rd W1 base g v l p false := (by rw [hW]; exact H.out.drewN k1); have hG : w.grownBy W1 (some g) := (by rw [hW]; exact grown_drewN (World.grownBy.refl _ _) k1); clear hW; have c2 := hR.c2; have f2 := hR.row.frozen 2; rw [HQ.out]; have HR := Lib.hid hR; have HG := Lib.hid hG; clear hR hG))
  go_ret
  exact ⟨rfl, HR.out.marked, HG.out.trans (grown_set _ _ _ _)⟩

theorem grown_below {a b c : World} {row : Option Nat} (h : a.grownBy b row) (hb : Below b.heap.size b c) : a.grownBy c row :=
  ⟨hb.os.trans h.os, hb.tape.trans h.tape, hb.output.trans h.output, Nat.le_trans h.size hb.size, fun i hi hn => (hb.block i (Nat.lt_of_lt_of_le hi h.size)).trans (h.block i hi hn)⟩
theorem good_end {base g : Nat} {v v3 : Value} {l : List UInt8} {p m : Nat} {w W1 w3 : World} (hR : Rd W1 base g v l p false) (hG : w.grownBy W1 (some g)) (hm : p + m ≤ l.length)
    (o3 : Ow w3 ((W1.setCell ⟨g, 1, none⟩ (.int .i64 ((p : Int) + m))).drew).heap.size v3 ((l.drop p).take m))
    (b3 : Below ((W1.setCell ⟨g, 1, none⟩ (.int .i64 ((p : Int) + m))).drew).heap.size ((W1.setCell ⟨g, 1, none⟩ (.int .i64 ((p : Int) + m))).drew) w3) :
    ∃ v', Ending.returned v3 = Ending.returned v' ∧ Ow w3 w.heap.size v' ((l.drop p).take m) ∧ Rd w3 base g v l (p + m) false ∧ w.grownBy w3 (some g) := by
  have h1 : Rd (W1.setCell ⟨g, 1, none⟩ (.int .i64 ((p : Int) + m))) base g v l (p + m) false := hR.placed (q := p + m) hm
  have hs : ((W1.setCell ⟨g, 1, none⟩ (.int .i64 ((p : Int) + m))).drew).heap.size = W1.heap.size := by simp [World.setCell, World.drew]
  have b4 : Below (W1.setCell ⟨g, 1, none⟩ (.int .i64 ((p : Int) + m))).heap.size (W1.setCell ⟨g, 1, none⟩ (.int .i64 ((p : Int) + m))) w3 := (Below.refl _ _).drew.trans b3
  refine ⟨v3, rfl, o3.more (by rw [hs]; exact hG.size), h1.below b4 (Nat.le_refl _), grown_below (hG.trans (grown_set _ _ _ _)) b4⟩

set_option maxHeartbeats 1000000 in
theorem Bytes_good {base g : Nat} {v : Value} {l : List UInt8} {p : Nat} (m : Nat) (w : World) (h : Rd w base g v l p false) (hm : p + m ≤ l.length) :
    Calls Try.prog 97 #[.pointer (some ⟨g, 0, none⟩), .int .i64 m] w fun e w' => ∃ v', e = .returned v' ∧ Ow w' w.heap.size v' ((l.drop p).take m) ∧ Rd w' base g v l (p + m) false ∧ w.grownBy w' (some g) := by
  have hsm := h.small
  have hlf : (m : Int) ≤ ((lf l p false : Nat) : Int) := by simp [lf]; omega
  generalize hq : lf l p false = q at *
  obtain ⟨A, c, rfl, -, hlc, hcm, -⟩ := h.own.sl
  unfold maxLen at hcm
  have hpc : (p : Int) + m ≤ c := by omega
  have hcut : ∀ W1, Rd W1 base g (.slice A l.length c) l p false → Sl ((W1.setCell ⟨g, 1, none⟩ (.int .i64 ((p : Int) + m))).drew) base ((W1.setCell ⟨g, 1, none⟩ (.int .i64 ((p : Int) + m))).drew).heap.size (.slice (if c = p then A else A.map (·.add p)) m (c - p)) ((l.drop p).take m) := by
    intro W1 hR
    exact sl_cut (hR.placed (q := p + m) hm).own.sl hm
  have H := Lib.hid h
  have HQ := Lib.hid hq
  clear h hq
  by_cases hcp : c = p
  · have e0 : Value.slice A m (c - p) = .slice A 0 0 := by rw [show m = 0 from by omega, show c - p = 0 from by omega]
    simp only [if_pos hcp, e0] at hcut
    clear e0
    have HCUT := Lib.hid hcut
    clear hcut
    go_enter Try.func97, Try.ntmps97
    go_wp2_with (first | (go_at_call 66; refine (Bad_any _ H.out).mono ?_; rintro e w1 ⟨rfl, rfl⟩) | (go_at_call 49; refine (Left_any _ H.out).mono ?_; rintro e W1 ⟨rfl, k1, hW⟩; have hR : Rd W1 base g _ l p false := (by rw [hW]; exact H.out.drewN k1); have hG : w.grownBy W1 (some g) := (by rw [hW]; exact grown_drewN (World.grownBy.refl _ _) k1); clear hW; have c0 := hR.c0; have c1 := hR.c1; have f1 := hR.row.frozen 1; rw [HQ.out]; have HR := Lib.hid hR; have HG := Lib.hid hG; clear hR hG))
    go_region_with (first | (go_at_call 61; refine (clone_any _ ((l.drop p).take m) base _ (HCUT.out _ HR.out) (by simp; omega)).mono ?_; rintro e w3 ⟨v3, rfl, o3, b3⟩))
    all_goals
      go_wp2
      go_ret
      exact good_end HR.out HG.out hm o3 b3
  · simp only [if_neg hcp] at hcut
    have HCUT := Lib.hid hcut
    clear hcut
    go_enter Try.func97, Try.ntmps97
    go_wp2_with (first | (go_at_call 66; refine (Bad_any _ H.out).mono ?_; rintro e w1 ⟨rfl, rfl⟩) | (go_at_call 49; refine (Left_any _ H.out).mono ?_; rintro e W1 ⟨rfl, k1, hW⟩; have hR : Rd W1 base g _ l p false := (by rw [hW]; exact H.out.drewN k1); have hG : w.grownBy W1 (some g) := (by rw [hW]; exact grown_drewN (World.grownBy.refl _ _) k1); clear hW; have c0 := hR.c0; have c1 := hR.c1; have f1 := hR.row.frozen 1; rw [HQ.out]; have HR := Lib.hid hR; have HG := Lib.hid hG; clear hR hG))
    go_region_with (first | (go_at_call 61; refine (clone_any _ ((l.drop p).take m) base _ (HCUT.out _ HR.out) (by simp; omega)).mono ?_; rintro e w3 ⟨v3, rfl, o3, b3⟩))
    all_goals
      go_wp2
      go_ret
      exact good_end HR.out HG.out hm o3 b3

theorem Bytes_any {base g : Nat} {v : Value} {l : List UInt8} {p : Nat} {x : Bool} (n : Int) (w : World) (h : Rd w base g v l p x) :
    Calls Try.prog 97 #[.pointer (some ⟨g, 0, none⟩), .int .i64 n] w fun e w' => ∃ v', e = .returned v' ∧ Ow w' w.heap.size v' (rb l p x n).1 ∧ Rd w' base g v l (rb l p x n).2.1 (rb l p x n).2.2 ∧ w.grownBy w' (some g) := by
  have hle := h.le
  cases x with
  | true =>
    refine (Bytes_bad n w h).mono ?_
    rintro e w' ⟨rfl, rfl⟩
    exact ⟨_, rfl, Ow.nil_ _ _, h, World.grownBy.refl _ _⟩
  | false =>
    by_cases h0 : n < 0
    · refine (Bytes_neg n w h h0).mono ?_
      rintro e w' ⟨rfl, hr, hg⟩
      have e1 : rb l p false n = ([], p, true) := by simp [rb, h0]
      rw [e1]
      exact ⟨_, rfl, Ow.nil_ _ _, hr, hg⟩
    · by_cases h1 : (l.length : Int) - p < n
      · refine (Bytes_more n w h (by omega) h1).mono ?_
        rintro e w' ⟨rfl, hr, hg⟩
        have e1 : rb l p false n = ([], p, true) := by simp [rb, h1]
        rw [e1]
        exact ⟨_, rfl, Ow.nil_ _ _, hr, hg⟩
      · obtain ⟨m, rfl⟩ := Int.eq_ofNat_of_zero_le (show 0 ≤ n by omega)
        have e1 : rb l p false (m : Int) = ((l.drop p).take m, p + m, false) := by
          unfold rb
          rw [if_neg (by simp), if_neg (by omega)]
          rfl
        rw [e1]
        exact Bytes_good m w h (by omega)
end Go.Proofs.Ytjojhoaienjjeaa
/- Walks: the document's reader: numbers, what is left. -/
namespace Go.Proofs.Ytjojhoaienjjeaa
open Go.RowKit
set_option linter.unusedVariables false

section
variable {w w' : World} {hi g : Nat} {v : Value} {l : List UInt8} {p : Nat} {x : Bool}
end

/-- One round, from the last byte back. -/
theorem back_step (l : List UInt8) (p s t : Nat) (y : UInt8) (hy : l[p + t]? = some y) (ht : t < s) (hs : p + s ≤ l.length) (hs8 : s ≤ 8) :
    leVal (((l.drop p).take s).drop t) = y.toNat + 256 * leVal (((l.drop p).take s).drop (t + 1)) ∧ leVal (((l.drop p).take s).drop (t + 1)) < 72057594037927936 := by
  have hlen : ((l.drop p).take s).length = s := by simp; omega
  have hg : ((l.drop p).take s)[t]? = some y := by rw [List.getElem?_take, if_pos ht, List.getElem?_drop]; exact hy
  have hlt : t < ((l.drop p).take s).length := by omega
  have e : ((l.drop p).take s).drop t = y :: ((l.drop p).take s).drop (t + 1) := by
    rw [List.drop_eq_getElem_cons hlt]
    rw [List.getElem?_eq_getElem hlt] at hg
    injection hg with hg
    rw [hg]
  refine ⟨by rw [e, leVal], ?_⟩
  have h1 := leVal_lt (((l.drop p).take s).drop (t + 1))
  have h2 : (((l.drop p).take s).drop (t + 1)).length ≤ 7 := by rw [List.length_drop, hlen]; omega
  have : 2 ^ (8 * (((l.drop p).take s).drop (t + 1)).length) ≤ 2 ^ 56 := Nat.pow_le_pow_right (n := 2) (by omega) (by omega)
  omega

end Go.Proofs.Ytjojhoaienjjeaa
/- Walks: the document's reader reads a short number. -/
namespace Go.Proofs.Ytjojhoaienjjeaa
open Go.RowKit
set_option linter.unusedVariables false

/-- What is read at a stop: the number, if its form is what stands there. -/
theorem rdS_cmp {s : List UInt8} {k : Nat} (h : stopAt 10 s = some k) : rdS s = if short (val7 (s.take (k + 1)) % 18446744073709551616) = s.take (k + 1) then (val7 (s.take (k + 1)) % 18446744073709551616, k + 1) else (0, 0) := by
  obtain ⟨hk, h2, y, h3, h4⟩ := stopAt_some 10 s k h
  obtain ⟨e1, e2, e3⟩ := take_stop h2 h3
  have hlen : (s.take (k + 1)).length = k + 1 := by rw [e1, List.length_append, e3]; rfl
  by_cases hc : short (val7 (s.take (k + 1)) % 18446744073709551616) = s.take (k + 1)
  · rw [if_pos hc]
    have hl : (short (val7 (s.take (k + 1)) % 18446744073709551616)).length = k + 1 := by rw [hc, hlen]
    have := rdS_of s (val7 (s.take (k + 1)) % 18446744073709551616) (Nat.mod_lt _ (by omega)) (by rw [hl]; exact hc.symm)
    rw [this, hl]
  · rw [if_neg hc]
    have hf := rdS_form s
    by_cases h0 : (rdS s).2 = 0
    · exact Prod.ext (hf.2 h0).1 h0
    · exfalso
      obtain ⟨g1, g2, g3⟩ := hf.1 h0
      obtain ⟨a, y', e, q1, q2⟩ := short_shape (rdS s).1
      have s1 := shape_stop s a y' q1 q2 (by rw [← e, ← g2]; exact g3) 10 (by have := short_length_le _ g1; rw [e] at this; simp at this; omega)
      rw [h] at s1
      injection s1 with s1
      have l2 : (short (rdS s).1).length = a.length + 1 := by rw [e]; simp
      have l3 : (rdS s).2 = k + 1 := by omega
      rw [l3] at g3
      rw [g3, val7_short, Nat.mod_eq_of_lt g1] at hc
      exact hc rfl

theorem wrap_bounds (n : Int) : 0 ≤ IntKind.u64.wrap n ∧ IntKind.u64.wrap n ≤ 18446744073709551615 := by
  rw [IntKind.wrap_u64]; omega
theorem ref_step (s : List UInt8) (k : Nat) (y : UInt8) (z D : Int) (h : s[k]? = some y) (hz : z = (y.toNat : Int)) (hD : D = (val7 (s.take k) : Nat)) :
    IntKind.u64.wrap (D + IntKind.u64.wrap (z % 128 * 2 ^ (7 * k))) = ((val7 (s.take (k + 1)) % 18446744073709551616 : Nat) : Int) := by
  subst hz hD
  have hkl : k < s.length := by
    rcases Nat.lt_or_ge k s.length with h1 | h1
    · exact h1
    · rw [List.getElem?_eq_none h1] at h; cases h
  have hlen : (s.take k).length = k := by simp; omega
  have e1 : ((y.toNat : Int) % 128 * 2 ^ (7 * k)) = ((y.toNat % 128 * 2 ^ (7 * k) : Nat) : Int) := by
    rw [Int.natCast_mul, Int.natCast_pow, Int.natCast_emod]; rfl
  rw [take_next s k y h, val7_snoc, hlen, e1, IntKind.wrap_u64, IntKind.wrap_u64]
  omega

end Go.Proofs.Ytjojhoaienjjeaa
/- Walks: the document's reader reads bytes. -/
namespace Go.Proofs.Ytjojhoaienjjeaa
open Go.RowKit
set_option linter.unusedVariables false

/-- append onto a slice of bytes of the call's own, at one operation. -/
theorem wp_app {P : Program} (w : World) {o : Oper} {a : Act} {K : Act → World → Prop} {Q : Exit → Act → World → Prop} (s x : Operand) (t : TypeId)
    (ho : o.op = .call { callee := .builtin .append, args := #[s, x], argTypes := #[t, t] }) (base : Nat) (ht : P.underlying t = some (.slice 5))
    (hinf : (P.info? 5).map (fun i => (i.zero, i.size, i.bytes)) = some (some (.int .u8 0), 1, 1))
    (v : Value) (l : List UInt8) (hs : a.eval s = v) (hown : Ow w base v l) (lo hi : Nat) (u : Value) (m : List UInt8) (hx : a.eval x = u) (hu : Sl w lo hi u m)
    (hb : l.length + m.length ≤ 1000000000) (hbase : base ≤ w.heap.size)
    (h : ∀ v' w', Ow w' base v' (l ++ m) → w.grownBy w' v.ownBlock → K (a.put o.dst v') w') : o.wp P a w K Q :=
  wp_gapp e8 w s x t ho base ht hinf v l hs hown lo hi u m hx hu hb hbase h

theorem grown_alloc_ (w : World) (o : Obj) : w.grownBy (w.alloc o) none := ⟨rfl, rfl, rfl, by simp, fun k hk _ => Below.heap_alloc w o k hk⟩
theorem grown_new {w : World} {o : Obj} {w2 : World} {p : Nat} {u : Option Addr} (hg : (w.alloc o).grownBy w2 (some w.heap.size)) : w.grownBy w2 none :=
  ⟨hg.os, hg.tape, hg.output, Nat.le_trans (by simp) hg.size, fun k hk _ => (hg.block k (by simp; omega) (by simp; omega)).trans (Below.heap_alloc w o k hk)⟩
theorem grown_none {a b c : World} {row : Option Nat} (h : a.grownBy b row) (hb : b.grownBy c none) : a.grownBy c row :=
  ⟨hb.os.trans h.os, hb.tape.trans h.tape, hb.output.trans h.output, Nat.le_trans h.size hb.size, fun i hi hn => (hb.block i (Nat.lt_of_lt_of_le hi h.size) (by simp)).trans (h.block i hi hn)⟩

end Go.Proofs.Ytjojhoaienjjeaa
/- Walks: values are read. -/
namespace Go.Proofs.Ytjojhoaienjjeaa
open Go.RowKit
set_option linter.unusedVariables false

/-- Three cells of a row are written. -/
theorem set3 {W : World} {b : Nat} {t : TypeId} {x y z x' y' z' : Value} (h : Row W b t #[x, y, z]) :
    Row (((W.setCell ⟨b, 0, none⟩ x').setCell ⟨b, 1, none⟩ y').setCell ⟨b, 2, none⟩ z') b t #[x', y', z'] ∧ W.grownBy (((W.setCell ⟨b, 0, none⟩ x').setCell ⟨b, 1, none⟩ y').setCell ⟨b, 2, none⟩ z') (some b) :=
  ⟨by simpa using ((h.set_ 0 x').set_ 1 y').set_ 2 z', ((grown_set _ _ _ _).trans (grown_set _ _ _ _)).trans (grown_set _ _ _ _)⟩
/-- A result that lies in a block, and one beside it. -/
theorem res_cell {fn : Func} {p u : Tmp} {ty : TypeId} (h : fn.results = #[.cell p ty, .tmp u]) (tmps : Array Value) (P : Program) (w : World) (g : Nat) (t : TypeId) (cs : Array Value) (fs : Array Field) (y : Value) (hy : tmps.getD u undef = y)
    (hp : tmps.getD p undef = .pointer (some ⟨g, 0, none⟩)) (hg : Row w g t cs)
    (hu : P.underlying ty = some (.struct fs)) (hi : (P.info? ty).map (·.size) = some cs.size) :
    (results fn tmps).run P w = .ok (.tuple #[.agg cs, y]) w := by
  subst hy
  rw [results_cell_tmp h]
  simp only [hp, asAddr, Sem.run_pure, Result.andThen_ok, run_loadVar_row w g t ty cs (0, 0) (.struct fs) hg hu rfl hi]
theorem szV3 : (Try.prog.info? 38).map (·.size) = some 3 := by kernel_rfl
theorem grown_box {w w1 w2 : World} {o : Obj} {g : Nat} (h1 : (w.alloc o).grownBy w1 (some g)) (h2 : w1.grownBy w2 (some w.heap.size)) : w.grownBy w2 (some g) :=
  ⟨h2.os.trans h1.os, h2.tape.trans h1.tape, h2.output.trans h1.output, Nat.le_trans (by have := h1.size; simp at this; omega) h2.size, fun k hk hne =>
    (h2.block k (by have := h1.size; simp at this; omega) (fun e => by injection e with e; omega)).trans ((h1.block k (by simp; omega) hne).trans (Below.heap_alloc w _ k hk))⟩
/-- While a value is read: the reader, and the block of the result. -/
structure Rx (w W : World) (base g : Nat) (v : Value) (l : List UInt8) (q : Nat) (y : Bool) (c0 c1 c2 : Value) : Prop where
  rd : Rd W base g v l q y
  own : ∀ j, v.ownBlock = some j → j < w.heap.size
  gw : g < w.heap.size
  row : Row W w.heap.size 38 #[c0, c1, c2]
  gr : ∃ o, (w.alloc o).grownBy W (some g)
section
variable {w W W' : World} {base g : Nat} {v : Value} {l : List UInt8} {p q : Nat} {x y : Bool} {c0 c1 c2 : Value}
theorem Rx.new (h : Rd w base g v l p x) : Rx w (w.alloc (.cells #[.int .u8 0, .int .i64 0, .string ⟨#[]⟩] 38)) base g v l p x (.int .u8 0) (.int .i64 0) (.string ⟨#[]⟩) :=
  ⟨h.alloc _, fun j hj => (h.own.lt j hj).2, h.lt, Row.new _ _ _, _, World.grownBy.refl _ _⟩
theorem Rx.read (h : Rx w W base g v l q y c0 c1 c2) {p' : Nat} {x' : Bool} (r : Rd W' base g v l p' x') (hg : W.grownBy W' (some g)) : Rx w W' base g v l p' x' c0 c1 c2 :=
  ⟨r, h.own, h.gw, h.row.grown hg (fun e => by injection e with e; have := h.gw; omega), let ⟨o, ho⟩ := h.gr; ⟨o, ho.trans hg⟩⟩
theorem Rx.step (h : Rx w W base g v l q y c0 c1 c2) (b : Below W.heap.size W W') : Rx w W' base g v l q y c0 c1 c2 :=
  ⟨h.rd.below b (Nat.le_refl _), h.own, h.gw, h.row.below b h.row.lt, let ⟨o, ho⟩ := h.gr; ⟨o, grown_below ho b⟩⟩
theorem Rx.d0 (h : Rx w W base g v l q y c0 c1 c2) : W.cell? ⟨w.heap.size, 0, none⟩ = some c0 := by rw [h.row.cell]; rfl
theorem Rx.d1 (h : Rx w W base g v l q y c0 c1 c2) : W.cell? ⟨w.heap.size, 1, none⟩ = some c1 := by rw [h.row.cell]; rfl
theorem Rx.d2 (h : Rx w W base g v l q y c0 c1 c2) : W.cell? ⟨w.heap.size, 2, none⟩ = some c2 := by rw [h.row.cell]; rfl
theorem Rx.put (h : Rx w W base g v l q y c0 c1 c2) (x' y' z' : Value) :
    Row (((W.setCell ⟨w.heap.size, 0, none⟩ x').setCell ⟨w.heap.size, 1, none⟩ y').setCell ⟨w.heap.size, 2, none⟩ z') w.heap.size 38 #[x', y', z'] ∧
    Rd (((W.setCell ⟨w.heap.size, 0, none⟩ x').setCell ⟨w.heap.size, 1, none⟩ y').setCell ⟨w.heap.size, 2, none⟩ z') base g v l q y ∧
    w.grownBy (((W.setCell ⟨w.heap.size, 0, none⟩ x').setCell ⟨w.heap.size, 1, none⟩ y').setCell ⟨w.heap.size, 2, none⟩ z') (some g) := by
  have s := set3 (x' := x') (y' := y') (z' := z') h.row
  obtain ⟨o, ho⟩ := h.gr
  exact ⟨s.1, h.rd.far s.2 (by have := h.gw; omega) (fun e => by have := h.own _ e; omega), grown_box ho s.2⟩
end

/-- What is read as a value of the kind k at p of l: kind, number, text, whether there is one, the place and whether the reader is bad behind it. -/
def rV (l : List UInt8) (p : Nat) (x : Bool) (k : Int) : Int × Int × List UInt8 × Bool × Nat × Bool :=
  if k = 1 then
    if (rd l p x 8).2.2 then (0, 0, [], false, (rd l p x 8).2.1, true) else (1, wrap64 ((rd l p x 8).1 : Int), [], true, (rd l p x 8).2.1, false)
  else if k = 2 then
    if (rd l p x 0).2.2 then (0, 0, [], false, (rd l p x 0).2.1, true)
    else if 65535 < (rd l p x 0).1 then (0, 0, [], false, (rd l p x 0).2.1, false)
    else if (rb l (rd l p x 0).2.1 false (rd l p x 0).1).2.2 then (0, 0, [], false, (rb l (rd l p x 0).2.1 false (rd l p x 0).1).2.1, true)
    else (2, 0, (rb l (rd l p x 0).2.1 false (rd l p x 0).1).1, true, (rb l (rd l p x 0).2.1 false (rd l p x 0).1).2.1, false)
  else (0, 0, [], false, p, x)

section
variable {base g : Nat} {v : Value} {l : List UInt8} {p : Nat} {x : Bool} {N q : Nat} {y : Bool}
set_option maxHeartbeats 400000 in
theorem ask64_c (hr : rd l p x 8 = (N, q, y)) (w : World) (h : Rd w base g v l p x) :
    Calls Try.prog 93 #[.pointer (some ⟨g, 0, none⟩), .func (.func 94) #[] #[]] w fun e w' => e = .returned (.tuple #[.int .u64 N, .bool (!y)]) ∧ Rd w' base g v l q y ∧ w.grownBy w' (some g) := by
  have h1 := U64_any w h
  rw [hr] at h1
  have H1 := Lib.hid h1
  clear h1 h hr
  go_enter Try.func93, Try.ntmps93
  go_wp2_with (first | (go_at_call 94; refine H1.out.mono ?_; rintro e w1 ⟨rfl, r1, g1⟩; have R1 := Lib.hid r1; have G1 := Lib.hid g1; clear r1 g1) | (go_at_call 66; refine (Bad_any _ R1.out).mono ?_; rintro e w2 ⟨rfl, rfl⟩))
  go_ret2
  exact ⟨rfl, R1.out, G1.out⟩
set_option maxHeartbeats 400000 in
theorem askS_c (hr : rd l p x 0 = (N, q, y)) (w : World) (h : Rd w base g v l p x) :
    Calls Try.prog 93 #[.pointer (some ⟨g, 0, none⟩), .func (.func 96) #[] #[]] w fun e w' => e = .returned (.tuple #[.int .u64 N, .bool (!y)]) ∧ Rd w' base g v l q y ∧ w.grownBy w' (some g) := by
  have h1 := Uint_any w h
  rw [hr] at h1
  have H1 := Lib.hid h1
  clear h1 h hr
  go_enter Try.func93, Try.ntmps93
  go_wp2_with (first | (go_at_call 96; refine H1.out.mono ?_; rintro e w1 ⟨rfl, r1, g1⟩; have R1 := Lib.hid r1; have G1 := Lib.hid g1; clear r1 g1) | (go_at_call 66; refine (Bad_any _ R1.out).mono ?_; rintro e w2 ⟨rfl, rfl⟩))
  go_ret2
  exact ⟨rfl, R1.out, G1.out⟩

set_option maxHeartbeats 400000 in
theorem readInt_no (hr : rd l p x 8 = (N, q, true)) (w : World) (h : Rd w base g v l p x) :
    Calls Try.prog 78 #[.pointer (some ⟨g, 0, none⟩)] w fun e w' => e = .returned (.tuple #[vV 0 0 ⟨#[]⟩, .bool false]) ∧ Rd w' base g v l q true ∧ w.grownBy w' (some g) := by
  have H := Lib.hid h
  have HR := Lib.hid hr
  clear h hr
  go_enter Try.func78, Try.ntmps78
  go_wp2_with (first | (go_at_call 93; refine (ask64_c HR.out _ (H.out.alloc _)).mono ?_; rintro e w1 ⟨rfl, r1, g1⟩; have hX := (Rx.new H.out).read r1 g1; have d0 := hX.d0; have d1 := hX.d1; have d2 := hX.d2; have f0 := hX.row.frozen 0; have f1 := hX.row.frozen 1; have f2 := hX.row.frozen 2; have HX := Lib.hid hX; clear hX r1 g1))
  have S := HX.out.put (.int .u8 0) (.int .i64 0) (.string ⟨#[]⟩)
  refine bodyPost_ret (v := .tuple #[vV 0 0 ⟨#[]⟩, .bool false]) ?_ rfl ⟨rfl, S.2.1, S.2.2⟩
  exact res_cell rfl _ _ _ _ _ _ _ _ (by rfl) (by rfl) S.1 Try.underlying38 szV3
set_option maxHeartbeats 400000 in
theorem readInt_yes (hr : rd l p x 8 = (N, q, false)) (M : Int) (hM : wrap64 (N : Int) = M) (w : World) (h : Rd w base g v l p x) :
    Calls Try.prog 78 #[.pointer (some ⟨g, 0, none⟩)] w fun e w' => e = .returned (.tuple #[vV 1 M ⟨#[]⟩, .bool true]) ∧ Rd w' base g v l q false ∧ w.grownBy w' (some g) := by
  have H := Lib.hid h
  have HR := Lib.hid hr
  clear h hr
  go_enter Try.func78, Try.ntmps78
  go_wp2_with (first | (go_at_call 93; refine (ask64_c HR.out _ (H.out.alloc _)).mono ?_; rintro e w1 ⟨rfl, r1, g1⟩; have hX := (Rx.new H.out).read r1 g1; have d0 := hX.d0; have d1 := hX.d1; have d2 := hX.d2; have f0 := hX.row.frozen 0; have f1 := hX.row.frozen 1; have f2 := hX.row.frozen 2; have HX := Lib.hid hX; clear hX r1 g1) | (go_at_call 95; refine (int_any _ _).mono ?_; rintro e w2 ⟨rfl, b2⟩; have hX := HX.out.step b2; clear HX d0 d1 d2 f0 f1 f2; have d0 := hX.d0; have d1 := hX.d1; have d2 := hX.d2; have f0 := hX.row.frozen 0; have f1 := hX.row.frozen 1; have f2 := hX.row.frozen 2; have HX := Lib.hid hX; clear hX b2))
  have S := HX.out.put (.int .u8 1) (.int .i64 M) (.string ⟨#[]⟩)
  refine bodyPost_ret (v := .tuple #[vV 1 M ⟨#[]⟩, .bool true]) ?_ rfl ⟨rfl, S.2.1, S.2.2⟩
  exact res_cell rfl _ _ _ _ _ _ _ _ (by rfl) (by rfl) S.1 Try.underlying38 szV3
set_option maxHeartbeats 400000 in
theorem readText_no (hr : rd l p x 0 = (N, q, true)) (w : World) (h : Rd w base g v l p x) :
    Calls Try.prog 79 #[.pointer (some ⟨g, 0, none⟩)] w fun e w' => e = .returned (.tuple #[vV 0 0 ⟨#[]⟩, .bool false]) ∧ Rd w' base g v l q true ∧ w.grownBy w' (some g) := by
  have H := Lib.hid h
  have HR := Lib.hid hr
  clear h hr
  go_enter Try.func79, Try.ntmps79
  go_wp2_with (first | (go_at_call 93; refine (askS_c HR.out _ (H.out.alloc _)).mono ?_; rintro e w1 ⟨rfl, r1, g1⟩; have hX := (Rx.new H.out).read r1 g1; have d0 := hX.d0; have d1 := hX.d1; have d2 := hX.d2; have f0 := hX.row.frozen 0; have f1 := hX.row.frozen 1; have f2 := hX.row.frozen 2; have HX := Lib.hid hX; clear hX r1 g1))
  have S := HX.out.put (.int .u8 0) (.int .i64 0) (.string ⟨#[]⟩)
  refine bodyPost_ret (v := .tuple #[vV 0 0 ⟨#[]⟩, .bool false]) ?_ rfl ⟨rfl, S.2.1, S.2.2⟩
  exact res_cell rfl _ _ _ _ _ _ _ _ (by rfl) (by rfl) S.1 Try.underlying38 szV3
set_option maxHeartbeats 400000 in
theorem readText_long (hr : rd l p x 0 = (N, q, false)) (hN : 65535 < N) (w : World) (h : Rd w base g v l p x) :
    Calls Try.prog 79 #[.pointer (some ⟨g, 0, none⟩)] w fun e w' => e = .returned (.tuple #[vV 0 0 ⟨#[]⟩, .bool false]) ∧ Rd w' base g v l q false ∧ w.grownBy w' (some g) := by
  have H := Lib.hid h
  have HR := Lib.hid hr
  have hd : decide ((65535 : Int) < (N : Int)) = true := decide_eq_true (by omega)
  clear hN
  clear h hr
  go_enter Try.func79, Try.ntmps79
  go_wp2_with (first | (go_at_call 93; refine (askS_c HR.out _ (H.out.alloc _)).mono ?_; rintro e w1 ⟨rfl, r1, g1⟩; have hX := (Rx.new H.out).read r1 g1; have d0 := hX.d0; have d1 := hX.d1; have d2 := hX.d2; have f0 := hX.row.frozen 0; have f1 := hX.row.frozen 1; have f2 := hX.row.frozen 2; have HX := Lib.hid hX; clear hX r1 g1))
  have S := HX.out.put (.int .u8 0) (.int .i64 0) (.string ⟨#[]⟩)
  refine bodyPost_ret (v := .tuple #[vV 0 0 ⟨#[]⟩, .bool false]) ?_ rfl ⟨rfl, S.2.1, S.2.2⟩
  exact res_cell rfl _ _ _ _ _ _ _ _ (by rfl) (by rfl) S.1 Try.underlying38 szV3
set_option maxHeartbeats 400000 in
theorem readText_cut (hr : rd l p x 0 = (N, q, false)) (hN : N ≤ 65535) {L : List UInt8} {q2 : Nat} (hb : rb l q false (N : Int) = (L, q2, true)) (w : World) (h : Rd w base g v l p x) :
    Calls Try.prog 79 #[.pointer (some ⟨g, 0, none⟩)] w fun e w' => e = .returned (.tuple #[vV 0 0 ⟨#[]⟩, .bool false]) ∧ Rd w' base g v l q2 true ∧ w.grownBy w' (some g) := by
  have H := Lib.hid h
  have HR := Lib.hid hr
  have hd : decide ((65535 : Int) < (N : Int)) = false := decide_eq_false (by omega)
  have hw : wrap64 (N : Int) = (N : Int) := by unfold wrap64; omega
  have HB := Lib.hid hb
  clear hN hb
  clear h hr
  go_enter Try.func79, Try.ntmps79
  go_wp2_with (first | (go_at_call 93; refine (askS_c HR.out _ (H.out.alloc _)).mono ?_; rintro e w1 ⟨rfl, r1, g1⟩; have hX := (Rx.new H.out).read r1 g1; have d0 := hX.d0; have d1 := hX.d1; have d2 := hX.d2; have f0 := hX.row.frozen 0; have f1 := hX.row.frozen 1; have f2 := hX.row.frozen 2; have HX := Lib.hid hX; clear hX r1 g1) | (go_at_call 97; refine (Bytes_any _ _ HX.out.rd).mono ?_; rintro e w3 ⟨v3, rfl, o3, r3, g3⟩; rw [HB.out] at o3 r3; obtain ⟨A3, e3, rfl, -⟩ := o3.sl; have hX := HX.out.read r3 g3; clear HX d0 d1 d2 f0 f1 f2; have d0 := hX.d0; have d1 := hX.d1; have d2 := hX.d2; have f0 := hX.row.frozen 0; have f1 := hX.row.frozen 1; have f2 := hX.row.frozen 2; have HX := Lib.hid hX; have cv := str8 o3.sl; clear hX r3 g3) | (go_at_call 66; refine (Bad_any _ HX.out.rd).mono ?_; rintro e w4 ⟨rfl, rfl⟩))
  have S := HX.out.put (.int .u8 0) (.int .i64 0) (.string ⟨#[]⟩)
  refine bodyPost_ret (v := .tuple #[vV 0 0 ⟨#[]⟩, .bool false]) ?_ rfl ⟨rfl, S.2.1, S.2.2⟩
  exact res_cell rfl _ _ _ _ _ _ _ _ (by rfl) (by rfl) S.1 Try.underlying38 szV3
set_option maxHeartbeats 400000 in
theorem readText_yes (hr : rd l p x 0 = (N, q, false)) (hN : N ≤ 65535) {L : List UInt8} {q2 : Nat} (hb : rb l q false (N : Int) = (L, q2, false)) (w : World) (h : Rd w base g v l p x) :
    Calls Try.prog 79 #[.pointer (some ⟨g, 0, none⟩)] w fun e w' => e = .returned (.tuple #[vV 2 0 ⟨L.toArray⟩, .bool true]) ∧ Rd w' base g v l q2 false ∧ w.grownBy w' (some g) := by
  have H := Lib.hid h
  have HR := Lib.hid hr
  have hd : decide ((65535 : Int) < (N : Int)) = false := decide_eq_false (by omega)
  have hw : wrap64 (N : Int) = (N : Int) := by unfold wrap64; omega
  have HB := Lib.hid hb
  clear hN hb
  clear h hr
  go_enter Try.func79, Try.ntmps79
  go_wp2_with (first | (go_at_call 93; refine (askS_c HR.out _ (H.out.alloc _)).mono ?_; rintro e w1 ⟨rfl, r1, g1⟩; have hX := (Rx.new H.out).read r1 g1; have d0 := hX.d0; have d1 := hX.d1; have d2 := hX.d2; have f0 := hX.row.frozen 0; have f1 := hX.row.frozen 1; have f2 := hX.row.frozen 2; have HX := Lib.hid hX; clear hX r1 g1) | (go_at_call 97; refine (Bytes_any _ _ HX.out.rd).mono ?_; rintro e w3 ⟨v3, rfl, o3, r3, g3⟩; rw [HB.out] at o3 r3; obtain ⟨A3, e3, rfl, -⟩ := o3.sl; have hX := HX.out.read r3 g3; clear HX d0 d1 d2 f0 f1 f2; have d0 := hX.d0; have d1 := hX.d1; have d2 := hX.d2; have f0 := hX.row.frozen 0; have f1 := hX.row.frozen 1; have f2 := hX.row.frozen 2; have HX := Lib.hid hX; have cv := str8 o3.sl; clear hX r3 g3) | (go_at_call 66; refine (Bad_any _ HX.out.rd).mono ?_; rintro e w4 ⟨rfl, rfl⟩) | (go_at_call 98; refine (text_any _ _).mono ?_; rintro e w2 ⟨rfl, b2⟩; have hX := HX.out.step b2; clear HX d0 d1 d2 f0 f1 f2; have d0 := hX.d0; have d1 := hX.d1; have d2 := hX.d2; have f0 := hX.row.frozen 0; have f1 := hX.row.frozen 1; have f2 := hX.row.frozen 2; have HX := Lib.hid hX; clear hX b2))
  have S := HX.out.put (.int .u8 2) (.int .i64 0) (.string ⟨L.toArray⟩)
  refine bodyPost_ret (v := .tuple #[vV 2 0 ⟨L.toArray⟩, .bool true]) ?_ rfl ⟨rfl, S.2.1, S.2.2⟩
  exact res_cell rfl _ _ _ _ _ _ _ _ (by rfl) (by rfl) S.1 Try.underlying38 szV3
end
end Go.Proofs.Ytjojhoaienjjeaa
/- Walks: values.Append behind many bytes. Mathematics: what is written is read again. -/
namespace Go.Proofs.Ytjojhoaienjjeaa
open Go.RowKit
set_option linter.unusedVariables false

set_option maxHeartbeats 400000 in
theorem appendUint_big (v : Value) (l : List UInt8) (lo : Nat) (x : Int) (w : World) (hv : Sl w lo w.heap.size v l) (h0 : 0 ≤ x) (h1 : x ≤ 18446744073709551615) (hb : l.length ≤ 10000000) :
    Calls Try.prog 60 #[v, .int .u64 x] w fun e w' => ∃ v', e = .returned v' ∧ Ow w' w.heap.size v' (l ++ short x.toNat) ∧ Below w.heap.size w w' := by
  have hsl := short_length_le x.toNat (by omega)
  go_enter Try.func60, Try.ntmps60
  go_wp2_with (first | (go_at_call 75; refine (shortSize_any _ _ h0 h1).mono ?_; rintro e w1 ⟨rfl, rfl⟩) | (go_at_call 74; refine (copyWithRoom_any v l lo _ _ hv (by omega) (by omega)).mono ?_; rintro e w1 ⟨v1, rfl, o1, b1⟩))
  go_loopw [1, 5] (fun n u wr => ∃ (D : Int) (p : List UInt8), 0 ≤ D ∧ D ≤ 18446744073709551615 ∧ short x.toNat = p ++ short D.toNat ∧ n = .int .u64 D ∧ Ow wr w.heap.size u (l ++ p) ∧ Below w.heap.size w wr) (fun n _ _ => (intOf n).toNat)
  case atStart => exact ⟨x, [], h0, h1, rfl, rfl, by simpa using o1, b1⟩
  case round =>
    obtain ⟨D, p, d0, d1, hp, rfl, ok, bk⟩ := hrel
    have hpl : p.length ≤ 10 := by have := congrArg List.length hp; simp at this; omega
    have HP := Lib.hid hp
    clear hp
    by_cases hlt : 128 ≤ D
    · go_wp2_with (at_builtin; refine wpList_app1 _ rfl _ _ _ rfl w.heap.size Try.underlying52 info8 u5 (l ++ p) rfl ok _ (UInt8.ofNat (D.toNat % 128 + 128)) (or128 D d0) rfl (by simp; omega) bk.size ?_; intro v2 w2 o2 g2 _)
      have b2 : Below w.heap.size w w2 := bk.grown g2 bk.size (fun j hj => (ok.lt j hj).1)
      go_roundw
      case rel => exact ⟨D / 128, p ++ [UInt8.ofNat (D.toNat % 128 + 128)], by omega, by omega, by rw [HP.out, short_ge (by omega), show (D / 128).toNat = D.toNat / 128 from by omega]; simp, rfl, by rw [← List.append_assoc]; exact o2, b2⟩
      case measure => simp [intOf]; omega
    · go_wp2_with (at_builtin; refine wpList_app1 _ rfl _ _ _ rfl w.heap.size Try.underlying52 info8 u5 (l ++ p) rfl ok _ (UInt8.ofNat D.toNat) (by rw [u8_mod]; omega) rfl (by simp; omega) bk.size ?_; intro v2 w2 o2 g2 _)
      have b2 : Below w.heap.size w w2 := bk.grown g2 bk.size (fun j hj => (ok.lt j hj).1)
      go_ret
      exact ⟨v2, rfl, by rw [HP.out, short_lt (by omega), ← List.append_assoc]; exact o2, b2⟩
set_option maxHeartbeats 400000 in
theorem appendU64_big (v : Value) (l : List UInt8) (lo : Nat) (N : Nat) (w : World) (hv : Sl w lo w.heap.size v l) (hN : N < 18446744073709551616) (hb : l.length ≤ 10000000) :
    Calls Try.prog 59 #[v, .int .u64 N] w fun e w' => ∃ v', e = .returned v' ∧ Ow w' w.heap.size v' (l ++ le 8 N) ∧ Below w.heap.size w w' := by
  go_enter Try.func59, Try.ntmps59
  go_wp2_with (go_at_call 58; refine (appendWhole_any v l lo N 8 _ hv (by omega) (by omega) (by omega) (by omega)).mono ?_; rintro e w1 ⟨v1, rfl, o1, b1⟩)
  go_ret
  exact ⟨v1, rfl, o1, b1⟩
set_option maxHeartbeats 400000 in
set_option maxRecDepth 100000 in
theorem append_big (v : Value) (l : List UInt8) (lo : Nat) (k n : Int) (s : ByteArray) (w : World) (hv : Sl w lo w.heap.size v l) (hl : l.length ≤ 10000000) (hs : s.size ≤ 1000000) :
    Calls Try.prog 41 #[v, vV k n s] w fun e w' => ∃ v', e = .returned v' ∧ Ow w' w.heap.size v' (l ++ byV k (u64 n) (bls s)) ∧ Below w.heap.size w w' := by
  have HV := Lib.hid hv
  by_cases h1 : k = 1
  · subst h1
    have hw := u64_wrap n
    have hlt := u64_lt n
    rw [bytes_one]
    generalize u64 n = N at *
    have HL := Lib.hid hlt
    clear hlt hv
    go_enter Try.func41, Try.ntmps41
    go_wp2_with (go_at_call 59; refine (appendU64_big v l lo N _ (HV.out.alloc (Nat.le_refl _) _ |>.more (Nat.le_refl _) (by simp)) HL.out hl).mono ?_; rintro e w1 ⟨v1, rfl, o1, b1⟩)
    go_ret
    exact ⟨v1, rfl, o1.more (by simp), ((Bx1.new w 1 n s).step b1).below⟩
  · by_cases h2 : k = 2
    · subst h2
      rw [bytes_two]
      clear hv
      obtain ⟨k, hk⟩ : ∃ k : Int, k = 2 := ⟨_, rfl⟩
      rw [← hk]
      have hk1 : (k == 1) = false := by rw [hk]; rfl
      have hk2 : (k == 2) = true := by rw [hk]; rfl
      have HK := Lib.hid hk
      clear hk
      have hw : IntKind.u64.wrap (s.size : Int) = (s.size : Int) := by rw [IntKind.wrap_u64]; omega
      go_enter Try.func41, Try.ntmps41
      go_wp2_with fail
      have hSc := (Bx1.new w k n s).drew
      refine wp_region_all (S := fun W => Bx1 w W k n s) (by kernel_rfl) hSc (fun W0 hSc => ?_)
      refine held_take 0 ?_ rfl (by kernel_rfl) (by kernel_rfl) (by kernel_rfl) (fun _ _ _ h => h) (by rfl) ?_ hSc ?_
      rotate_left
      · (intro W hSW; have a0 := hSW.a0; have a1 := hSW.a1; have a2 := hSW.a2; go_simp; try rfl)
      try simp only [Act.put, List.setIfInBounds_toArray, List.set_cons_zero, List.set_cons_succ]
      refine held_take 1 ?_ rfl (by kernel_rfl) (by kernel_rfl) (by kernel_rfl) (fun _ _ _ h => h) (by rfl) ?_ hSc ?_
      rotate_left
      · (intro W hSW; have a0 := hSW.a0; have a1 := hSW.a1; have a2 := hSW.a2; go_simp; try rfl)
      try simp only [Act.put, List.setIfInBounds_toArray, List.set_cons_zero, List.set_cons_succ]
      refine held_take 2 ?_ rfl (by kernel_rfl) (by kernel_rfl) (by kernel_rfl) (fun _ _ _ h => h) (by rfl) ?_ hSc ?_
      rotate_left
      · (intro W hSW; have a0 := hSW.a0; have a1 := hSW.a1; have a2 := hSW.a2; go_simp; try rfl)
      try simp only [Act.put, List.setIfInBounds_toArray, List.set_cons_zero, List.set_cons_succ]
      refine held_take 3 ?_ rfl (by kernel_rfl) (by kernel_rfl) (by kernel_rfl) (fun _ _ _ h => h) (by rfl) ?_ hSc ?_
      rotate_left
      · (intro W hSW; have a0 := hSW.a0; have a1 := hSW.a1; have a2 := hSW.a2; go_simp; try rfl)
      try simp only [Act.put, List.setIfInBounds_toArray, List.set_cons_zero, List.set_cons_succ]
      refine held_take 4 ?_ rfl (by kernel_rfl) (by kernel_rfl) (by kernel_rfl) (fun _ _ _ h => h) (by rfl) ?_ hSc ?_
      rotate_left
      · (intro W hSW; have a0 := hSW.a0; have a1 := hSW.a1; have a2 := hSW.a2; go_simp; try rfl)
      try simp only [Act.put, List.setIfInBounds_toArray, List.set_cons_zero, List.set_cons_succ]
      refine held_take 6 ?_ rfl (by kernel_rfl) (by kernel_rfl) (by kernel_rfl) (fun _ _ _ h => h) (by rfl) ?_ hSc ?_
      rotate_left
      · (intro W hSW; have a0 := hSW.a0; have a1 := hSW.a1; have a2 := hSW.a2; go_simp; try rfl)
      try simp only [Act.put, List.setIfInBounds_toArray, List.set_cons_zero, List.set_cons_succ]
      refine held_take 7 ?_ rfl (by kernel_rfl) (by kernel_rfl) (by kernel_rfl) (fun _ _ _ h => h) (by rfl) ?_ hSc ?_
      rotate_left
      · (intro W hSW; have a0 := hSW.a0; have a1 := hSW.a1; have a2 := hSW.a2; go_simp; try rfl)
      try simp only [Act.put, List.setIfInBounds_toArray, List.set_cons_zero, List.set_cons_succ]
      refine held_next 5 rfl (by kernel_rfl) (by rfl) ?_
      go_simp
      refine (appendUint_big v l lo (s.size : Int) _ ((HV.out.below hSc.below).more (Nat.le_refl _) hSc.below.size) (by omega) (by omega) (by omega)).mono ?_
      rintro e w1 ⟨v1, rfl, o1, b1⟩
      rw [Int.toNat_natCast] at o1
      have hSd : (fun W => Bx1 w W k n s) w1 := hSc.step b1
      refine ⟨fun W => Bx1 w W k n s, fun W hW => hW, hSd, ?_⟩
      try simp only [Act.put, List.setIfInBounds_toArray, List.set_cons_zero, List.set_cons_succ]
      refine held_next 8 rfl (by kernel_rfl) (by rfl) ?_
      refine wp_appS _ _ _ _ _ rfl w.heap.size sli8 inf8 rfl v1 (l ++ short s.size) rfl (o1.more hSc.below.size) s rfl (by have := short_length_le s.size (by omega); simp; omega) hSd.below.size ?_
      intro v2 w2 o2 g2
      have hSe : (fun W => Bx1 w W k n s) w2 := hSd.grown g2 (fun x hx => by have := (o1.lt x hx).1; have := hSc.lt; omega)
      refine ⟨fun W => Bx1 w W k n s, fun W hW => hW, hSe, ?_⟩
      try simp only [Act.put, List.setIfInBounds_toArray, List.set_cons_zero, List.set_cons_succ]
      clear hSc
      have hSc := hSe
      refine held_next 9 rfl (by kernel_rfl) (by rfl) ?_
      go_simp
      refine ⟨fun W => Bx1 w W k n s, fun W hW => hW, hSc, ?_⟩
      refine wpAnyH_done (by kernel_rfl) ?_ _
      go_wp2
      go_ret
      exact ⟨v2, rfl, by simpa [bls_len] using o2, hSe.below⟩
    · have e1 : (k == 1) = false := by simp [h1]
      have e2 : (k == 2) = false := by simp [h2]
      rw [bytes_none h1 h2, List.append_nil]
      clear hv
      go_enter Try.func41, Try.ntmps41
      go_wp2_with (go_at_call 61; refine (clone_any v l lo _ (HV.out.alloc (Nat.le_refl _) _ |>.more (Nat.le_refl _) (by simp)) (by omega)).mono ?_; rintro e w1 ⟨v1, rfl, o1, b1⟩)
      go_ret
      exact ⟨v1, rfl, o1.more (by simp), ((Bx1.new w k n s).step b1).below⟩


/-- Whether a value may be. -/
def VV.may (x : VV) : Bool := mayV x.k x.n (bls x.s)
/-- Its bytes. -/
def VV.by (x : VV) : List UInt8 := byV x.k (u64 x.n) (bls x.s)
/-- The bytes of all. -/
def catV (l : List VV) : List UInt8 := (l.map VV.by).flatten
theorem catV_snoc (l : List VV) (x : VV) : catV (l ++ [x]) = catV l ++ x.by := by simp [catV]
theorem catV_take {l : List VV} {j : Nat} {x : VV} (h : l[j]? = some x) : catV (l.take (j + 1)) = catV (l.take j) ++ x.by := by
  rw [List.take_add_one, h]; exact catV_snoc _ _
theorem catV_cut {l : List VV} {j : Nat} {x : VV} (h : l[j]? = some x) : catV l = catV (l.take j) ++ (x.by ++ catV (l.drop (j + 1))) := by
  have hj := (List.getElem?_eq_some_iff.1 h).1
  have e : l = l.take j ++ (x :: l.drop (j + 1)) := by
    have h2 : l[j] = x := (List.getElem?_eq_some_iff.1 h).2
    rw [← h2, ← List.drop_eq_getElem_cons hj, List.take_append_drop]
  have e2 : catV l = catV (l.take j ++ (x :: l.drop (j + 1))) := congrArg catV e
  rw [e2]
  simp only [catV, List.map_append, List.map_cons, List.flatten_append, List.flatten_cons]
theorem by_small {x : VV} (h : x.may = true) : x.by.length ≤ 65545 := by
  unfold VV.may mayV at h
  unfold VV.by byV
  split
  · rw [le_length]; omega
  · rename_i h1
    rw [if_neg h1] at h
    split
    · rename_i h2
      rw [if_pos h2] at h
      have h3 : (bls x.s).length ≤ 65535 := by simp only [Bool.and_eq_true, decide_eq_true_eq] at h; exact h.2
      rw [List.length_append]
      have := short_length_le (bls x.s).length (by omega)
      omega
    · simp
theorem cat_small : ∀ l : List VV, (∀ x ∈ l, x.may = true) → (catV l).length ≤ l.length * 65545
  | [], _ => by simp [catV]
  | x :: l, h => by
    have h1 := by_small (h x (by simp))
    have h2 := cat_small l (fun y hy => h y (by simp [hy]))
    have e : catV (x :: l) = x.by ++ catV l := by simp [catV]
    rw [e, List.length_append, List.length_cons, Nat.succ_mul]
    omega
theorem wrap_u64 {n : Int} (h : (Lit.int .i64 n).wf = true) : wrap64 (u64 n : Int) = n := by
  simp [Lit.wf, IntKind.min, IntKind.max, IntKind.bits, IntKind.signed] at h
  unfold u64 wrap64
  omega
/-- What may be, and is written at p, is read again. -/
theorem read_back (x : VV) (hx : x.may = true) (ho : x.ok) (bs a c : List UInt8) (hb : bs = a ++ (x.by ++ c)) :
    rV bs a.length false x.k = (x.k, x.n, bls x.s, true, a.length + x.by.length, false) := by
  have hd : bs.drop a.length = x.by ++ c := by rw [hb, List.drop_left]
  have hlb : bs.length = a.length + (x.by.length + c.length) := by rw [hb]; simp
  obtain ⟨k, n, s⟩ := x
  unfold VV.may mayV at hx
  simp only at hx hd hlb ⊢
  unfold rV
  by_cases h1 : k = 1
  · subst h1
    rw [if_pos rfl] at hx
    have hs : bls s = [] := by simpa using hx
    have hby : VV.by ⟨1, n, s⟩ = le 8 (u64 n) := rfl
    rw [hby] at hd hlb ⊢
    have hr : rd bs a.length false 8 = (u64 n, a.length + 8, false) := by
      unfold rd
      rw [if_neg (by simp)]
      simp only [if_neg (show (8 : Nat) ≠ 0 by omega)]
      have h2 : rdW (bs.drop a.length) 8 = (u64 n, 8) := by
        rw [hd, rdW, if_neg (by rw [List.length_append, le_length]; omega)]
        have h3 : (le 8 (u64 n) ++ c).take 8 = le 8 (u64 n) := by rw [List.take_append_of_le_length (by rw [le_length]; omega)]; exact List.take_of_length_le (by rw [le_length]; omega)
        rw [h3, leVal_le 8 _ (by have := u64_lt n; omega)]
      rw [h2]
      rfl
    rw [if_pos rfl, hr]
    simp only [Bool.false_eq_true, if_false, le_length, hs, wrap_u64 ho.2.1]
  · rw [if_neg h1] at hx
    by_cases h2 : k = 2
    · subst h2
      rw [if_pos rfl] at hx
      simp only [Bool.and_eq_true, decide_eq_true_eq] at hx
      obtain ⟨rfl, hs⟩ := hx
      have hby : VV.by ⟨2, 0, s⟩ = short (bls s).length ++ bls s := rfl
      rw [hby] at hd hlb ⊢
      rw [List.append_assoc] at hd
      have hsl := short_length_le (bls s).length (by omega)
      have hr : rd bs a.length false 0 = ((bls s).length, a.length + (short (bls s).length).length, false) := by
        unfold rd
        rw [if_neg (by simp)]
        simp only [if_true]
        rw [rdS_of (bs.drop a.length) (bls s).length (by omega) (by rw [hd, List.take_left])]
        have h3 : ((short (bls s).length).length == 0) = false := by
          rw [beq_eq_false_iff_ne]
          obtain ⟨u, y, e, -⟩ := short_shape (bls s).length
          rw [e]; simp
        simp only [h3]
      have hb2 : rb bs (a.length + (short (bls s).length).length) false ((bls s).length : Int) = (bls s, a.length + (short (bls s).length).length + (bls s).length, false) := by
        unfold rb
        rw [if_neg (by simp), if_neg (by rw [hlb]; simp; omega)]
        have h4 : bs.drop (a.length + (short (bls s).length).length) = bls s ++ c := by rw [← List.drop_drop, hd, List.drop_left]
        rw [h4, Int.toNat_natCast, List.take_left]
      rw [if_neg (by decide), if_pos rfl, hr]
      simp only [Bool.false_eq_true, if_false]
      rw [if_neg (by omega), hb2]
      simp only [Bool.false_eq_true, if_false, List.length_append, Nat.add_assoc]
    · rw [if_neg h2] at hx
      cases hx
theorem string_of (s : ByteArray) : ByteArray.mk (bls s).toArray = s := by
  apply ByteArray.ext
  simp [bls]
end Go.Proofs.Ytjojhoaienjjeaa
/- Walks: the document's bytes of a dictionary. -/
namespace Go.Proofs.Ytjojhoaienjjeaa
open Go.RowKit
set_option linter.unusedVariables false

/-- The bytes of a dictionary. -/
def dB (K : UInt8) (l : List VV) : List UInt8 := ([K] ++ le 4 l.length) ++ catV l
theorem dB_nil (K : UInt8) (l : List VV) : [K] ++ le 4 l.length = ([K] ++ le 4 l.length) ++ catV (l.take 0) := by simp [catV]
theorem cat_le (l : List VV) (j : Nat) : (catV (l.take j)).length ≤ (catV l).length := by
  have : catV l = catV (l.take j) ++ catV (l.drop j) := by
    unfold catV
    rw [← List.flatten_append, ← List.map_append, List.take_append_drop]
  rw [this, List.length_append]; omega
set_option maxHeartbeats 1000000 in
set_option maxRecDepth 100000 in
theorem dbytes_c (K : UInt8) (A : Option Addr) (d : Nat) (l : List VV) (w : World) (hG : GsV eV w 0 w.heap.size (.slice A l.length d) l) (hn : l.length ≤ 100000) (hs : ∀ x ∈ l, x.s.size ≤ 1000000) (hc : (catV l).length ≤ 500000000) :
    Calls Try.prog 35 #[.int .u8 (K.toNat : Int), .slice A l.length d] w fun e w' => ∃ v', e = .returned v' ∧ Gw e8 w' w.heap.size v' (dB K l) ∧ Below w.heap.size w w' := by
  have hw : IntKind.u64.wrap (l.length : Int) = (l.length : Int) := by rw [IntKind.wrap_u64]; omega
  have HG := Lib.hid hG
  have HS := Lib.hid hs
  have HC := Lib.hid hc
  have HN := Lib.hid hn
  clear hG hs hc
  go_enter Try.func35, Try.ntmps35
  go_wp2_with (first
    | (go_at_call 54; refine (little_any l.length 4 _ (by omega) (by omega) (by have := HN.out; omega)).mono ?_; rintro e w1 ⟨v1, rfl, o1, b1⟩; have L1 := Lib.hid ((Gw.lit (k := e8) w w.heap.size (Nat.le_refl _) [K] #[.int .u8 (K.toNat : Int)] 1 (by rfl) rfl (by omega)).below b1 (Nat.le_refl _)); have O1 := Lib.hid o1; have B1 := Lib.hid (((Below.refl w.heap.size w).alloc (Nat.le_refl _) _).trans (b1.mono (by simp))); clear o1 b1)
    | (at_builtin; refine wpList_gapp e8 _ rfl _ _ _ rfl w.heap.size sli8 inf8 _ [K] rfl L1.out _ _ _ (le 4 l.length) rfl O1.out.sl (by rw [le_length]; simp) B1.out.size ?_; intro v2 w2 o2 g2 _; have O2 := Lib.hid o2; have B2 := Lib.hid (B1.out.grown g2 B1.out.size (fun k h => (L1.out.lt k h).1)); clear o2 g2 L1 O1 B1))
  go_loopw [5, 6] (fun v i wr => ∃ j : Nat, i = .int .i64 j ∧ j ≤ l.length ∧ Gw e8 wr w.heap.size v (([K] ++ le 4 l.length) ++ catV (l.take j)) ∧ Below w.heap.size w wr) (fun _ i _ => l.length - (intOf i).toNat)
  case atStart => exact ⟨0, rfl, Nat.zero_le _, by rw [← dB_nil]; exact O2.out, B2.out⟩
  case round =>
    obtain ⟨j, rfl, hj, ho, hB⟩ := hrel
    have HO := Lib.hid ho
    have HB := Lib.hid hB
    clear ho hB
    by_cases hlt : j < l.length
    · skip
      have hG := HG.out.below HB.out
      obtain ⟨b, boff, bc', e, -, -, -, bw, hc⟩ := hG.form (fun e => by have h := congrArg List.length e; simp only [List.length_nil] at h; omega)
      injection e with e1 e2 e3
      clear e2
      subst e1 e3
      obtain ⟨Y, hY⟩ : ∃ Y, l[j]? = some Y := ⟨_, List.getElem?_eq_getElem (by omega)⟩
      have q0 := vcell0 (hc j Y hY)
      have q1 := vcell1 (hc j Y hY)
      have q2 := vcell2 (hc j Y hY)
      have HY := Lib.hid hY
      clear hc hG hY
      have hys := HS.out Y (List.mem_of_getElem? HY.out)
      have HYS := Lib.hid hys
      have hlen : (([K] ++ le 4 l.length) ++ catV (l.take j)).length + Y.by.length ≤ 1000000000 := by
        have h1 := cat_le l (j + 1)
        rw [catV_take HY.out, List.length_append] at h1
        have := HC.out
        rw [List.length_append, List.length_append, le_length]
        simp only [List.length_cons, List.length_nil]
        omega
      have HLEN := Lib.hid hlen
      clear hys hlen
      go_wp2_with (first
        | (go_at_call 55; refine (refbytes_any Y.k Y.n Y.s _ HYS.out).mono ?_; rintro e w3 ⟨v3, rfl, o3, b3⟩; have O3 := Lib.hid o3; have P3 := Lib.hid (HO.out.below b3 (Nat.le_refl _)); have B3 := Lib.hid (HB.out.trans (b3.mono HB.out.size)); clear o3 b3)
        | (at_builtin; refine wpList_gapp e8 _ rfl _ _ _ rfl w.heap.size sli8 inf8 _ (([K] ++ le 4 l.length) ++ catV (l.take j)) rfl P3.out _ _ _ Y.by rfl O3.out.sl HLEN.out B3.out.size ?_; intro v4 w4 o4 g4 _; have O4 := Lib.hid o4; have B4 := Lib.hid (B3.out.grown g4 B3.out.size (fun k h => (P3.out.lt k h).1)); clear o4 g4))
      go_roundw
      case rel => exact ⟨j + 1, by go_num, by omega, by rw [catV_take HY.out, ← List.append_assoc]; exact O4.out, B4.out⟩
      case measure => simp [intOf]; omega
    · have ej : j = l.length := by omega
      have ho := HO.out
      rw [ej, List.take_length] at ho
      have HO2 := Lib.hid ho
      clear ho ej hj HO
      go_wp2
      go_ret
      exact ⟨_, rfl, HO2.out, HB.out⟩
end Go.Proofs.Ytjojhoaienjjeaa
namespace Go.Proofs.Ytjojhoaienjjeaa
open Go.RowKit
set_option linter.unusedVariables false

/-- The length of all texts, as it is summed. -/
def totW (l : List VV) : Int := l.foldl (fun n x => wrap64 (n + (x.s.size : Int))) 0
theorem totW_snoc (l : List VV) (x : VV) : totW (l ++ [x]) = wrap64 (totW l + (x.s.size : Int)) := by simp [totW]
/-- What Great tells. -/
def grtV (l : List VV) (many : Int) : Bool := decide (many < (l.length : Int)) || decide ((200000 : Int) < totW l)
theorem grtV_len {l : List VV} {many : Int} (h : grtV l many = false) : (l.length : Int) ≤ many := by
  unfold grtV at h
  rw [Bool.or_eq_false_iff] at h
  have := of_decide_eq_false h.1
  omega
set_option maxHeartbeats 400000 in
theorem great_v (A : Option Addr) (d : Nat) (l : List VV) (many : Int) (w : World) (hG : GsV eV w 0 w.heap.size (.slice A l.length d) l) :
    Calls Try.prog 9 #[.slice A l.length d, .int .i64 many] w fun e w' => e = .returned (.bool (grtV l many)) ∧ w' = w := by
  have HG := Lib.hid hG
  have hl1 := hG.len
  clear hG
  go_enter Try.func9, Try.ntmps9
  go_wp2_with fail
  go_loopw [5, 6] (fun s i wr => ∃ j : Nat, s = .int .i64 (totW (l.take j)) ∧ i = .int .i64 j ∧ j ≤ l.length ∧ wr = w) (fun _ i _ => l.length - (intOf i).toNat)
  case atStart => exact ⟨0, rfl, rfl, Nat.zero_le _, by trivial⟩
  case round =>
    obtain ⟨j, rfl, rfl, hj, hw⟩ := hrel
    have hw := hw.symm
    subst hw
    by_cases hlt : j < l.length
    · skip
      have hG := HG.out
      obtain ⟨b, boff, bc', e, -, -, -, bw, hc⟩ := hG.form (fun e => by have h := congrArg List.length e; simp only [List.length_nil] at h; omega)
      injection e with e1 e2 e3
      clear e2
      subst e1 e3
      obtain ⟨Y, hY⟩ : ∃ Y, l[j]? = some Y := ⟨_, List.getElem?_eq_getElem (by omega)⟩
      have q0 := vcell0 (hc j Y hY)
      have q1 := vcell1 (hc j Y hY)
      have q2 := vcell2 (hc j Y hY)
      have HY := Lib.hid hY
      clear hc hG hY
      have HSN := Lib.hid (show l.take (j + 1) = l.take j ++ [Y] by rw [List.take_add_one, HY.out]; rfl)
      go_wp2
      go_roundw
      case rel => exact ⟨j + 1, by rw [HSN.out, totW_snoc], by go_num, by omega, by trivial⟩
      case measure => simp [intOf]; omega
    · have ej : j = l.length := by omega
      subst ej
      cases h1 : decide (many < (l.length : Int)) with
      | true =>
        have HA := Lib.hid (show grtV l many = true by unfold grtV; rw [h1]; rfl)
        go_wp2
        go_ret
        exact ⟨by rw [HA.out]; rfl, rfl⟩
      | false =>
        obtain ⟨N, hN⟩ : ∃ N, totW (l.take l.length) = N := ⟨_, rfl⟩
        have hN2 : totW l = N := by rw [← hN, List.take_length]
        rw [hN]
        have hA : grtV l many = decide ((200000 : Int) < N) := by unfold grtV; rw [h1, hN2]; rfl
        have HA := Lib.hid hA
        clear hA hN hN2
        cases h3 : decide ((200000 : Int) < N) with
        | true =>
          have HA3 := Lib.hid h3
          go_wp2
          go_ret
          exact ⟨by rw [HA.out, HA3.out]; rfl, rfl⟩
        | false =>
          have HA3 := Lib.hid h3
          go_wp2
          go_ret
          exact ⟨by rw [HA.out, HA3.out]; rfl, rfl⟩

/-- '==' of two values. -/
theorem eql_V (x y : VV) : ∀ W : World, (binOp .eql 38 (Value.agg #[.int .u8 x.k, .int .i64 x.n, .string x.s]) (Value.agg #[.int .u8 y.k, .int .i64 y.n, .string y.s])).run Try.prog W = Result.ok (Value.bool (eqW x y)) W := by
  intro W
  rcases eqW_cases x y with ⟨h1, e⟩ | ⟨h1, h2, e⟩ | ⟨h1, h2, h3, e⟩ | ⟨h, e⟩
  · rw [e]; go_simp
  · rw [e, h1]; go_simp
  · have h4 : ¬ x.s.toList = y.s.toList := by rw [bls_list, bls_list]; exact h3
    rw [e, h1, h2]; go_simp
  · rw [e, h]; go_simp

theorem ofE_may {kind : Int} {l : List VV} (h : ofE kind l = 0) : ∀ x ∈ l, mayW x = true := by
  unfold ofE at h
  split at h
  · omega
  · split at h
    · omega
    · rename_i h2
      intro x hx
      rw [Bool.not_eq_false, List.all_eq_true] at h2
      exact h2 x hx
/-- Where a value is, and whether it is there. -/
def fAt (X : VV) (l : List VV) : Nat := hiV (fun x => eqW x X) l - 1
def fHas (X : VV) (l : List VV) : Bool := hiV (fun x => eqW x X) l != 0
theorem fAt_snoc (X : VV) (l : List VV) (x : VV) : fAt X (l ++ [x]) = if eqW x X = true then l.length else fAt X l := by
  unfold fAt; rw [hiV_snoc]; split <;> simp
theorem fHas_snoc (X : VV) (l : List VV) (x : VV) : fHas X (l ++ [x]) = (eqW x X || fHas X l) := by
  unfold fHas; rw [hiV_snoc]; cases h : eqW x X <;> simp
/-- What a dictionary's calls owe. -/
structure DictC (Dc : World → Value → Int → List VV → Prop) : Prop where
  step : ∀ {W W' p k l}, Dc W p k l → Below W.heap.size W W' → Dc W' p k l
  of : ∀ kind A d l W, GsV eV W 0 W.heap.size (.slice A l.length d) l → l.length ≤ 200 → Calls Try.prog 11 #[.int .u8 kind, .slice A l.length d] W fun e w' => ∃ p, e = .returned (.tuple #[p, .int .i64 (ofE kind l)]) ∧ (ofE kind l = 0 → Dc w' p kind (dicV l)) ∧ (ofE kind l ≠ 0 → p = .pointer none) ∧ Below W.heap.size W w'
  interval : ∀ W p k l cmp (X : VV), Dc W p k l → X.s.size ≤ 70000 → Calls Try.prog 16 #[p, .int .u8 cmp, vV X.k X.n X.s] W fun e w' => e = .returned (.tuple #[.int .i64 (intA k l cmp X).1, .int .i64 (intA k l cmp X).2.1, .int .i64 (intA k l cmp X).2.2]) ∧ Below W.heap.size W w'
  find : ∀ W p k l (X : VV), Dc W p k l → X.s.size ≤ 70000 → Calls Try.prog 18 #[p, vV X.k X.n X.s] W fun e w' => e = .returned (.tuple #[.int .i64 (fAt X l : Int), .bool (fHas X l)]) ∧ Below W.heap.size W w'
  known : ∀ W, Calls Try.prog 10 #[] W fun e w' => e = .returned (.bool true) ∧ Below W.heap.size W w'

set_option maxHeartbeats 2000000 in
set_option maxRecDepth 100000 in
theorem asks_any {Dc : World → Value → Int → List VV → Prop} (D : DictC Dc) (kind : Int) (A : Option Addr) (d : Nat) (l : List VV) (cmp : Int) (X : VV) (w : World) (hG : GsV eV w 0 w.heap.size (.slice A l.length d) l) :
    Calls Try.prog 4 #[.int .u8 kind, .slice A l.length d, .int .u8 cmp, vV X.k X.n X.s] w fun e w' => e = .returned (.bool true) ∧ Below w.heap.size w w' := by
  have HD := Lib.hid D
  have HG := Lib.hid hG
  clear D hG
  have hgc := fun W h => great_v A d l 200 W h
  have HW := Lib.hid (Bx1.new w X.k X.n X.s)
  cases hg : grtV l 200 with
  | true =>
    rw [hg] at hgc
    go_enter Try.func4, Try.ntmps4
    go_wp2_with (first
      | (go_at_call 9; refine (hgc _ ((HG.out.below HW.out.below).more (Nat.le_refl _) HW.out.below.size)).mono ?_; rintro e w1 ⟨rfl, hz⟩; have hz := hz.symm; subst hz)
      | (go_at_call 10; refine (HD.out.known _).mono ?_; rintro e w9 ⟨rfl, b9⟩; have B9 := Lib.hid (HW.out.step b9); clear b9))
    go_ret
    exact ⟨rfl, B9.out.below⟩
  | false =>
    rw [hg] at hgc
    have hn : l.length ≤ 200 := by have := grtV_len hg; omega
    have HN := Lib.hid hn
    have a2 := HW.out.a2
    by_cases hs : X.s.size ≤ 70000
    · have d1 : decide ((70000 : Int) < (X.s.size : Int)) = false := decide_eq_false (by omega)
      have HS := Lib.hid hs
      clear hg hn hs
      obtain ⟨E, hE⟩ : ∃ E, ofE kind l = E := ⟨_, rfl⟩
      have hof := fun W h => HD.out.of kind A d l W h HN.out
      have hrf := fun W h => refof_c kind A d l W h (by have := HN.out; omega)
      rw [hE] at hof hrf
      by_cases h0 : E = 0
      · subst h0
        have hL : ofL kind l = dicV l := by unfold ofL; rw [if_pos hE]
        have hmay := ofE_may hE
        have hms : ∀ x ∈ dicV l, x.s.size ≤ 1000000000 := fun x hx => mayW_size (hmay x ((dicV_mem _ _).1 hx))
        have HMS := Lib.hid hms
        rw [hL] at hrf
        clear hE hL hmay hms
        generalize dicV l = m at hof hrf HMS
        obtain ⟨⟨a, z, f⟩, hA⟩ : ∃ t, intA kind m cmp X = t := ⟨_, rfl⟩
        have hIv := fun W p h => HD.out.interval W p kind m cmp X h HS.out
        have hRI := fun A2 d2 W h => interval_c kind A2 d2 m cmp X W h HMS.out (by have := HS.out; omega)
        rw [hA] at hIv hRI
        clear hA
        go_enter Try.func4, Try.ntmps4
        go_wp2_with (first
          | (go_at_call 9; refine (hgc _ (HG.out.step HW.out.below)).mono ?_; rintro e w1 ⟨rfl, hz⟩; have hz := hz.symm; subst hz)
          | (go_at_call 11; refine (hof _ (HG.out.step HW.out.below)).mono ?_; rintro e w1 ⟨p, rfl, hdc, -, b1⟩; have HB1 := Lib.hid (HW.out.step b1); have HD1 := Lib.hid (hdc (by simp)); clear hdc b1 a2)
          | (go_at_call 12; refine (hrf _ (HG.out.step HB1.out.below)).mono ?_; rintro e w2 ⟨A2, d2, rfl, o2, b2⟩; have HB2 := Lib.hid (HB1.out.step b2); have HD2 := Lib.hid (HD.out.step HD1.out b2); have O2 := Lib.hid o2; have a0 := HB2.out.a0; have a1 := HB2.out.a1; have a2 := HB2.out.a2; clear o2 b2)
          | (go_at_call 16; refine (hIv _ p HD2.out).mono ?_; rintro e w3 ⟨rfl, b3⟩; have HB3 := Lib.hid (HB2.out.step b3); have HD3 := Lib.hid (HD.out.step HD2.out b3); have O3 := Lib.hid (O2.out.step b3); clear b3 a0 a1 a2; have a0 := HB3.out.a0; have a1 := HB3.out.a1; have a2 := HB3.out.a2)
          | (go_at_call 17; refine (hRI A2 d2 _ O3.out).mono ?_; rintro e w4 ⟨rfl, b4⟩; have HB4 := Lib.hid (HB3.out.step b4); have HD4 := Lib.hid (HD.out.step HD3.out b4); have O4 := Lib.hid (O3.out.step b4); clear b4 a0 a1 a2; have a0 := HB4.out.a0; have a1 := HB4.out.a1; have a2 := HB4.out.a2))
        have hml := O4.out.len
        go_loopw [19, 20, 21, 70] (fun c h i t wr => ∃ j kk : Nat, t = .int .i64 j ∧ j ≤ m.length ∧ c = .int .i64 (fAt X (m.take j) : Int) ∧ h = .bool (fHas X (m.take j)) ∧ wr = w4.drewN kk) (fun _ _ _ t _ => m.length - (intOf t).toNat)
        case atStart => exact ⟨0, 0, rfl, Nat.zero_le _, rfl, rfl, rfl⟩
        case round =>
          obtain ⟨j, kk, rfl, hj, rfl, rfl, rfl⟩ := hrel
          by_cases hlt : j < m.length
          · skip
            have hG := O4.out
            obtain ⟨b, boff, bc', e, -, -, -, bw, hc⟩ := hG.form (fun e => by have h := congrArg List.length e; simp only [List.length_nil] at h; omega)
            injection e with e1 e2 e3
            clear e2
            subst e1 e3
            obtain ⟨Y, hY⟩ : ∃ Y, m[j]? = some Y := ⟨_, List.getElem?_eq_getElem (by omega)⟩
            have q0 := vcell0 (hc j Y hY)
            have q1 := vcell1 (hc j Y hY)
            have q2 := vcell2 (hc j Y hY)
            have HY := Lib.hid hY
            clear hc hG hY
            have HSN := Lib.hid (show m.take (j + 1) = m.take j ++ [Y] by rw [List.take_add_one, HY.out]; rfl)
            have hjl : (m.take j).length = j := by rw [List.length_take]; omega
            have tt := eql_V Y X
            cases hq : eqW Y X with
            | true =>
              rw [hq] at tt
              have HQ := Lib.hid hq
              clear hq
              go_wp2
              go_region
              go_wp2
              go_roundw
              case rel => exact ⟨j + 1, _, by go_num, by omega, by rw [HSN.out, fAt_snoc, HQ.out]; simp [hjl], by rw [HSN.out, fHas_snoc, HQ.out]; rfl, rfl⟩
              case measure => simp [intOf]; omega
            | false =>
              rw [hq] at tt
              have HQ := Lib.hid hq
              clear hq
              go_wp2
              go_region
              go_wp2
              go_roundw
              case rel => exact ⟨j + 1, _, by go_num, by omega, by rw [HSN.out, fAt_snoc, HQ.out]; simp, by rw [HSN.out, fHas_snoc, HQ.out]; simp, rfl⟩
              case measure => simp [intOf]; omega
          · have ej : j = m.length := by omega
            subst ej
            have BD := Lib.hid (below_drewN (Below.refl w4.heap.size w4) kk)
            have hfi := fun W h => HD.out.find W p kind m X h HS.out
            obtain ⟨F, hF⟩ : ∃ F, fAt X m = F := ⟨_, rfl⟩
            obtain ⟨H, hH⟩ : ∃ H, fHas X m = H := ⟨_, rfl⟩
            rw [List.take_length, hF, hH]
            rw [hF, hH] at hfi
            clear hF hH
            go_wp2_with (first
              | (go_at_call 18; refine (hfi _ (HD.out.step HD4.out BD.out)).mono ?_; rintro e w5 ⟨rfl, b5⟩; have HB5 := Lib.hid (HB4.out.step (BD.out.trans (b5.mono (by simp)))); clear b5)
              | (go_at_call 10; refine (HD.out.known _).mono ?_; rintro e w9 ⟨rfl, b9⟩; have B9 := Lib.hid (HB5.out.step b9); clear b9))
            go_ret
            exact ⟨rfl, B9.out.below⟩
      · have e2 : (E != 0) = true := by simp [h0]
        clear hE h0
        go_enter Try.func4, Try.ntmps4
        go_wp2_with (first
          | (go_at_call 9; refine (hgc _ (HG.out.step HW.out.below)).mono ?_; rintro e w1 ⟨rfl, hz⟩; have hz := hz.symm; subst hz)
          | (go_at_call 11; refine (hof _ (HG.out.step HW.out.below)).mono ?_; rintro e w1 ⟨p, rfl, -, -, b1⟩; have HB1 := Lib.hid (HW.out.step b1); clear b1 a2)
          | (go_at_call 12; refine (hrf _ (HG.out.step HB1.out.below)).mono ?_; rintro e w2 ⟨A2, d2, rfl, -, b2⟩; have HB2 := Lib.hid (HB1.out.step b2); clear b2)
          | (go_at_call 10; refine (HD.out.known _).mono ?_; rintro e w9 ⟨rfl, b9⟩; have B9 := Lib.hid (HB2.out.step b9); clear b9))
        go_ret
        exact ⟨rfl, B9.out.below⟩
    · have d1 : decide ((70000 : Int) < (X.s.size : Int)) = true := decide_eq_true (by omega)
      clear hg hn hs
      go_enter Try.func4, Try.ntmps4
      go_wp2_with (first
        | (go_at_call 9; refine (hgc _ ((HG.out.below HW.out.below).more (Nat.le_refl _) HW.out.below.size)).mono ?_; rintro e w1 ⟨rfl, hz⟩; have hz := hz.symm; subst hz)
        | (go_at_call 10; refine (HD.out.known _).mono ?_; rintro e w9 ⟨rfl, b9⟩; have B9 := Lib.hid (HW.out.step b9); clear b9))
      go_ret
      exact ⟨rfl, B9.out.below⟩
end Go.Proofs.Ytjojhoaienjjeaa
