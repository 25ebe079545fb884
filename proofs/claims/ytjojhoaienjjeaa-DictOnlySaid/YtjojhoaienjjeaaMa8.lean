/- Walks: dict's Bytes. -/
import Derived.Test.YtjojhoaienjjeaaMa7
import Derived.Test.YtjojhoaienjjeaaMa6
/- Walks: dict's Interval; Find in the document's words. -/
namespace Go.Proofs.Ytjojhoaienjjeaa
open Go.RowKit
set_option linter.unusedVariables false

theorem has_mem {l : List VV} (hr : rise l) {X : VV} (h : hasV X l = true) : X ∈ l := by
  have := lt_leV hr X
  have h2 := of_decide_eq_true h
  exact (there_iff hr X).2 (by omega)
theorem mem_has {l : List VV} (hr : rise l) {X : VV} (h : X ∈ l) : hasV X l = true := by
  have := (there_iff hr X).1 h
  exact decide_eq_true (by omega)
theorem fAt_eq {l : List VV} (hr : rise l) (X : VV) : fHas X l = hasV X l ∧ fAt X l = (if hasV X l = true then ltV X l else 0) := by
  obtain ⟨s1, s2, s3⟩ := hiV_spec (fun x => eqW x X) l
  unfold fHas fAt
  by_cases h : hiV (fun x => eqW x X) l = 0
  · rw [h]
    have hm : ¬ X ∈ l := by
      intro hX
      obtain ⟨j, hj⟩ := List.mem_iff_getElem?.1 hX
      have := s2 j X hj (by omega)
      rw [eqW_iff.2 rfl] at this
      cases this
    have hh : hasV X l = false := by
      cases hc : hasV X l
      · rfl
      · exact absurd (has_mem hr hc) hm
    rw [hh]
    exact ⟨rfl, rfl⟩
  · obtain ⟨x, hx, he⟩ := s3 h
    have he2 : x = X := eqW_iff.1 he
    subst he2
    have hh := mem_has hr (List.mem_of_getElem? hx)
    rw [hh, if_pos rfl]
    exact ⟨by simp [h], there_at hr hx⟩
set_option maxHeartbeats 4000000 in
set_option maxRecDepth 100000 in
theorem interval_none (p : Value) (k : Int) (A : Option Addr) (d : Nat) (l : List VV) (cmp : Int) (X : VV) (w : World) (hD : DictAt w p k (.slice A l.length d)) (hG : GsV eV w 0 w.heap.size (.slice A l.length d) l) (hr : rise l) (hn : l.length ≤ 1000000000) (hk : k = 0) :
    Calls Try.prog 16 #[p, .int .u8 cmp, vV X.k X.n X.s] w fun e w' => e = .returned (.tuple #[.int .i64 0, .int .i64 0, .int .i64 1]) ∧ Below w.heap.size w w' := by
  subst hk
  have HW := Lib.hid (Bx1.new w X.k X.n X.s)
  have HC := Lib.hid (fun W (b : Below w.heap.size w W) => span_any p 0 A d l cmp X W (hD.step b) (hG.step b) hr hn)
  have HK := Lib.hid (fun W (b : Below w.heap.size w W) => kind_any p 0 _ W (hD.step b))
  have HM := Lib.hid (fun W => may_any X.k X.n X.s W)
  have a0 := HW.out.a0
  have a1 := HW.out.a1
  have a2 := HW.out.a2
  clear hD hG hr hn
  obtain ⟨⟨a, b, o⟩, hS⟩ : ∃ t, spanI l cmp X = t := ⟨_, rfl⟩
  rw [hS] at HC
  clear hS
  go_enter Try.func16, Try.ntmps16
  go_wp2_with (first
    | (go_at_call 36; refine (HC.out _ HW.out.below).mono ?_; rintro e w1 ⟨rfl, b1⟩; have B1 := Lib.hid (HW.out.step b1); clear b1 a0 a1 a2; have a0 := B1.out.a0; have a1 := B1.out.a1; have a2 := B1.out.a2)
    | (go_at_call 21; refine (HK.out _ B1.out.below).mono ?_; rintro e w2 ⟨rfl, hz⟩; have hz := hz.symm; subst hz))
  go_ret3
  exact ⟨rfl, B1.out.below⟩
set_option maxHeartbeats 4000000 in
set_option maxRecDepth 100000 in
theorem interval_any (p : Value) (k : Int) (A : Option Addr) (d : Nat) (l : List VV) (cmp : Int) (X : VV) (w : World) (hD : DictAt w p k (.slice A l.length d)) (hG : GsV eV w 0 w.heap.size (.slice A l.length d) l) (hr : rise l) (hn : l.length ≤ 1000000000) (hk : k ≠ 0) :
    Calls Try.prog 16 #[p, .int .u8 cmp, vV X.k X.n X.s] w fun e w' => e = .returned (.tuple #[.int .i64 (intA k l cmp X).1, .int .i64 (intA k l cmp X).2.1, .int .i64 (intA k l cmp X).2.2]) ∧ Below w.heap.size w w' := by
  have e0 : (k == 0) = false := by simp [hk]
  have HW := Lib.hid (Bx1.new w X.k X.n X.s)
  have HC := Lib.hid (fun W (b : Below w.heap.size w W) => span_any p k A d l cmp X W (hD.step b) (hG.step b) hr hn)
  have HK := Lib.hid (fun W (b : Below w.heap.size w W) => kind_any p k _ W (hD.step b))
  have HM := Lib.hid (fun W => may_any X.k X.n X.s W)
  have a0 := HW.out.a0
  have a1 := HW.out.a1
  have a2 := HW.out.a2
  obtain ⟨⟨a, b, o⟩, hS⟩ : ∃ t, spanI l cmp X = t := ⟨_, rfl⟩
  obtain ⟨M, hM⟩ : ∃ M, mayW X = M := ⟨_, rfl⟩
  have hM2 : mayV X.k X.n (bls X.s) = M := hM
  obtain ⟨⟨x, y, z⟩, hA⟩ : ∃ t, intA k l cmp X = t := ⟨_, rfl⟩
  rw [hS] at HC
  rw [hM2] at HM
  rw [hA]
  clear hM2
  have HR := Lib.hid hr
  clear hD hG hn hr
  cases o with
  | false =>
    have hc : cmp < 1 ∨ cmp = 2 ∨ 6 < cmp := by
      unfold spanI at hS
      by_cases c1 : cmp = 1
      · simp [c1] at hS
      by_cases c3 : cmp = 3
      · simp [c3] at hS
      by_cases c4 : cmp = 4
      · simp [c4] at hS
      by_cases c5 : cmp = 5
      · simp [c5] at hS
      by_cases c6 : cmp = 6
      · simp [c6] at hS
      omega
    have hA2 : intA k l cmp X = (0, 0, 2) := by unfold intA; rw [if_pos (.inr hc)]
    rw [hA2] at hA
    injection hA with h1 h2
    injection h2 with h2 h3
    subst h1 h2 h3
    clear hA2 hS hM hc hk
    go_enter Try.func16, Try.ntmps16
    go_wp2_with (first
      | (go_at_call 36; refine (HC.out _ HW.out.below).mono ?_; rintro e w1 ⟨rfl, b1⟩; have B1 := Lib.hid (HW.out.step b1); clear b1 a0 a1 a2; have a0 := B1.out.a0; have a1 := B1.out.a1; have a2 := B1.out.a2)
      | (go_at_call 21; refine (HK.out _ B1.out.below).mono ?_; rintro e w2 ⟨rfl, hz⟩; have hz := hz.symm; subst hz))
    go_ret3
    exact ⟨rfl, B1.out.below⟩
  | true =>
    have hc : ¬ cmp < 1 ∧ cmp ≠ 2 ∧ ¬ 6 < cmp := by
      unfold spanI at hS
      by_cases c1 : cmp = 1
      · omega
      by_cases c3 : cmp = 3
      · omega
      by_cases c4 : cmp = 4
      · omega
      by_cases c5 : cmp = 5
      · omega
      by_cases c6 : cmp = 6
      · omega
      simp [c1, c3, c4, c5, c6] at hS
    cases M with
    | false =>
      have hA2 : intA k l cmp X = (0, 0, 2) := by unfold intA; rw [if_pos (.inl hM)]
      rw [hA2] at hA
      injection hA with h1 h2
      injection h2 with h2 h3
      subst h1 h2 h3
      clear hA2 hS hM hc hk
      go_enter Try.func16, Try.ntmps16
      go_wp2_with (first
        | (go_at_call 36; refine (HC.out _ HW.out.below).mono ?_; rintro e w1 ⟨rfl, b1⟩; have B1 := Lib.hid (HW.out.step b1); clear b1 a0 a1 a2; have a0 := B1.out.a0; have a1 := B1.out.a1; have a2 := B1.out.a2)
        | (go_at_call 21; refine (HK.out _ B1.out.below).mono ?_; rintro e w2 ⟨rfl, hz⟩; have hz := hz.symm; subst hz)
        | (go_at_call 37; refine (HM.out _).mono ?_; rintro e w3 ⟨rfl, b3⟩; have B3 := Lib.hid (B1.out.step b3); clear b3 a0 a1 a2; have a0 := B3.out.a0; have a1 := B3.out.a1; have a2 := B3.out.a2))
      go_ret3
      exact ⟨rfl, B3.out.below⟩
    | true =>
      have hq : ∀ W1 : World, Below w.heap.size w W1 → Bx1 w W1 X.k X.n X.s → True := fun _ _ _ => trivial
      by_cases he : X.k = k
      · have hA2 := intA_rise HR.out hM he hc.1 hc.2.1 hc.2.2
        have hA3 : a = x ∧ b = y ∧ 0 = z := by
          rw [hA] at hA2
          unfold spanI at hS
          by_cases c1 : cmp = 1
          · rw [if_pos c1] at hS hA2; injection hS with h1 h2; injection h2 with h2 h3; injection hA2 with g1 g2; injection g2 with g2 g3; exact ⟨h1.symm.trans g1.symm, h2.symm.trans g2.symm, g3.symm⟩
          rw [if_neg c1] at hS hA2
          by_cases c3 : cmp = 3
          · rw [if_pos c3] at hS hA2; injection hS with h1 h2; injection h2 with h2 h3; injection hA2 with g1 g2; injection g2 with g2 g3; exact ⟨h1.symm.trans g1.symm, h2.symm.trans g2.symm, g3.symm⟩
          rw [if_neg c3] at hS hA2
          by_cases c4 : cmp = 4
          · rw [if_pos c4] at hS hA2; injection hS with h1 h2; injection h2 with h2 h3; injection hA2 with g1 g2; injection g2 with g2 g3; exact ⟨h1.symm.trans g1.symm, h2.symm.trans g2.symm, g3.symm⟩
          rw [if_neg c4] at hS hA2
          by_cases c5 : cmp = 5
          · rw [if_pos c5] at hS hA2; injection hS with h1 h2; injection h2 with h2 h3; injection hA2 with g1 g2; injection g2 with g2 g3; exact ⟨h1.symm.trans g1.symm, h2.symm.trans g2.symm, g3.symm⟩
          rw [if_neg c5] at hS hA2
          by_cases c6 : cmp = 6
          · rw [if_pos c6] at hS; injection hS with h1 h2; injection h2 with h2 h3; injection hA2 with g1 g2; injection g2 with g2 g3; exact ⟨h1.symm.trans g1.symm, h2.symm.trans g2.symm, g3.symm⟩
          omega
        obtain ⟨h1, h2, h3⟩ := hA3
        subst h1 h2 h3
        have ne : (k != X.k) = false := by simp [he]
        clear hA2 hS hM hc hk hA he hq
        go_enter Try.func16, Try.ntmps16
        go_wp2_with (first
          | (go_at_call 36; refine (HC.out _ HW.out.below).mono ?_; rintro e w1 ⟨rfl, b1⟩; have B1 := Lib.hid (HW.out.step b1); clear b1 a0 a1 a2; have a0 := B1.out.a0; have a1 := B1.out.a1; have a2 := B1.out.a2)
          | (go_at_call 21; refine (HK.out _ B1.out.below).mono ?_; rintro e w2 ⟨rfl, hz⟩; have hz := hz.symm; subst hz)
          | (go_at_call 37; refine (HM.out _).mono ?_; rintro e w3 ⟨rfl, b3⟩; have B3 := Lib.hid (B1.out.step b3); clear b3 a0 a1 a2; have a0 := B3.out.a0; have a1 := B3.out.a1; have a2 := B3.out.a2))
        have HK3 := Lib.hid (fun x : Inw w3 => Calls.in_same x (HK.out x.W (B3.out.step x.b).below))
        have c0 := fun x : Inw w3 => (B3.out.step x.b).a0
        refine wp_region_in (by kernel_rfl) (by kernel_rfl) ?_
        repeat (quiet_step (first | (go_at_call 21; exact HK3.out _)))
        refine wpQuiet_nil ?_
        rintro _ ⟨x9, rfl⟩
        have HX9 := Lib.hid (B3.out.step x9.b)
        go_wp2
        go_ret3
        exact ⟨rfl, HX9.out.below⟩
      · have hA2 : intA k l cmp X = (0, 0, 9) := by unfold intA; rw [if_neg (by rw [hM]; simp; omega), if_pos he]
        rw [hA2] at hA
        injection hA with h1 h2
        injection h2 with h2 h3
        subst h1 h2 h3
        have ne : (k != X.k) = true := by simp; exact fun h => he h.symm
        clear hA2 hS hM hc hk he hq
        go_enter Try.func16, Try.ntmps16
        go_wp2_with (first
          | (go_at_call 36; refine (HC.out _ HW.out.below).mono ?_; rintro e w1 ⟨rfl, b1⟩; have B1 := Lib.hid (HW.out.step b1); clear b1 a0 a1 a2; have a0 := B1.out.a0; have a1 := B1.out.a1; have a2 := B1.out.a2)
          | (go_at_call 21; refine (HK.out _ B1.out.below).mono ?_; rintro e w2 ⟨rfl, hz⟩; have hz := hz.symm; subst hz)
          | (go_at_call 37; refine (HM.out _).mono ?_; rintro e w3 ⟨rfl, b3⟩; have B3 := Lib.hid (B1.out.step b3); clear b3 a0 a1 a2; have a0 := B3.out.a0; have a1 := B3.out.a1; have a2 := B3.out.a2))
        have HK3 := Lib.hid (fun x : Inw w3 => Calls.in_same x (HK.out x.W (B3.out.step x.b).below))
        have c0 := fun x : Inw w3 => (B3.out.step x.b).a0
        refine wp_region_in (by kernel_rfl) (by kernel_rfl) ?_
        repeat (quiet_step (first | (go_at_call 21; exact HK3.out _)))
        refine wpQuiet_nil ?_
        rintro _ ⟨x9, rfl⟩
        have HX9 := Lib.hid (B3.out.step x9.b)
        go_wp2
        go_ret3
        exact ⟨rfl, HX9.out.below⟩
end Go.Proofs.Ytjojhoaienjjeaa
/- Mathematics: rows with the same values make the same dictionary; the parts of an interval. -/
namespace Go.Proofs.Ytjojhoaienjjeaa
open Go.RowKit
set_option linter.unusedVariables false

theorem all_same {l m : List VV} (h : ∀ x, x ∈ l ↔ x ∈ m) (p : VV → Bool) : l.all p = m.all p := by
  rw [Bool.eq_iff_iff, List.all_eq_true, List.all_eq_true]
  exact ⟨fun g x hx => g x ((h x).2 hx), fun g x hx => g x ((h x).1 hx)⟩
theorem ofE_same {l m : List VV} (h : ∀ x, x ∈ l ↔ x ∈ m) (kind : Int) : ofE kind l = ofE kind m := by
  unfold ofE
  rw [all_same h, all_same h]
theorem dicV_same {l m : List VV} (h : ∀ x, x ∈ l ↔ x ∈ m) : dicV l = dicV m :=
  rise_ext _ _ (dicV_rise l) (dicV_rise m) (fun x => by rw [dicV_mem, dicV_mem, h])
theorem ofL_same {l m : List VV} (h : ∀ x, x ∈ l ↔ x ∈ m) (kind : Int) : ofL kind l = ofL kind m := by
  unfold ofL
  rw [ofE_same h, dicV_same h]
/-- A row turned round, twice, has the same values. -/
theorem back_same (l : List VV) (x : VV) : x ∈ l ↔ x ∈ l.reverse ++ l.reverse := by simp
/-- The order of a rising row: what comes later is more. -/
theorem rise_more {l : List VV} (hr : rise l) {j : Nat} {x y : VV} (hx : l[j]? = some x) (hy : l[j + 1]? = some y) : cmpW x y < 0 := rise_at hr hx hy (by omega)
theorem may_off (kind : Int) (l : List VV) {cmp : Int} (X : VV) (h : cmp < 1 ∨ cmp = 2 ∨ 6 < cmp) : intA kind l cmp X = (0, 0, 2) := by
  unfold intA
  rw [if_pos (Or.inr h)]
/-- The parts of a rising row. -/
theorem parts_of {l : List VV} (hr : rise l) {kind : Int} {X : VV} (hm : mayW X = true) (hk : X.k = kind) :
    intA kind l 1 X = ((ltV X l : Int), (leV X l : Int), 0) ∧ intA kind l 3 X = (0, (ltV X l : Int), 0) ∧ intA kind l 4 X = (0, (leV X l : Int), 0) ∧ intA kind l 5 X = ((leV X l : Int), (l.length : Int), 0) ∧ intA kind l 6 X = ((ltV X l : Int), (l.length : Int), 0) := by
  refine ⟨?_, ?_, ?_, ?_, ?_⟩ <;> rw [intA_rise hr hm hk (by omega) (by omega) (by omega)] <;> rfl
/-- What is told of any comparison, where none of its own is wrong. -/
theorem told_of {l : List VV} {kind cmp : Int} {X : VV} (h1 : ¬ cmp < 1) (h2 : cmp ≠ 2) (h6 : ¬ 6 < cmp) : (intA kind l cmp X).2.2 = if mayW X = false then 2 else if X.k ≠ kind then 9 else 0 := by
  unfold intA
  by_cases hm : mayW X = false
  · rw [if_pos (Or.inl hm), if_pos hm]
  · rw [if_neg (by simp [hm]; omega), if_neg hm]
    by_cases hk : X.k ≠ kind
    · rw [if_pos hk, if_pos hk]
    · rw [if_neg hk, if_neg hk]
      split
      · split
        · rfl
        · split <;> rfl
      · rfl
end Go.Proofs.Ytjojhoaienjjeaa
/- Walks: the law DictParts over any dictionary that keeps its contracts. -/
namespace Go.Proofs.Ytjojhoaienjjeaa
open Go.RowKit
set_option linter.unusedVariables false

/-- An array of seven, as far as it is filled. -/
def pr (c : Nat) (f : Nat → Int) : Array Value := #[.int .i64 (if 0 < c then f 0 else 0), .int .i64 (if 1 < c then f 1 else 0), .int .i64 (if 2 < c then f 2 else 0), .int .i64 (if 3 < c then f 3 else 0), .int .i64 (if 4 < c then f 4 else 0), .int .i64 (if 5 < c then f 5 else 0), .int .i64 (if 6 < c then f 6 else 0)]
theorem pr_at {c : Nat} (h : c < 7) (f : Nat → Int) : (pr c f)[c]? = some (.int .i64 0) := by
  have : c = 0 ∨ c = 1 ∨ c = 2 ∨ c = 3 ∨ c = 4 ∨ c = 5 ∨ c = 6 := by omega
  rcases this with rfl | rfl | rfl | rfl | rfl | rfl | rfl <;> rfl
theorem pr_set {c : Nat} (h : c < 7) {f : Nat → Int} {a : Int} (ha : a = f c) : (pr c f).setIfInBounds c (.int .i64 a) = pr (c + 1) f := by
  subst ha
  have : c = 0 ∨ c = 1 ∨ c = 2 ∨ c = 3 ∨ c = 4 ∨ c = 5 ∨ c = 6 := by omega
  rcases this with rfl | rfl | rfl | rfl | rfl | rfl | rfl <;> rfl
/-- The two arrays, behind a world. -/
structure Pa (w1 W : World) (LO HI : Array Value) : Prop where
  below : Below w1.heap.size w1 W
  r2 : Row W w1.heap.size 57 LO
  r3 : Row W (w1.heap.size + 1) 57 HI
section
variable {w1 W W' : World} {LO HI : Array Value}
theorem Pa.new (w1 : World) (f f' : Nat → Int) : Pa w1 ((w1.alloc (.cells (pr 0 f) 57)).alloc (.cells (pr 0 f') 57)) (pr 0 f) (pr 0 f') :=
  ⟨((Below.refl _ _).alloc (Nat.le_refl _) _).alloc (by simp) _, (Row.new _ _ _).alloc _, by have := Row.new (w1.alloc (.cells (pr 0 f) 57)) 57 (pr 0 f'); simpa using this⟩
theorem Pa.step (h : Pa w1 W LO HI) (b : Below W.heap.size W W') : Pa w1 W' LO HI := ⟨h.below.trans (b.mono h.below.size), h.r2.below b h.r2.lt, h.r3.below b h.r3.lt⟩
theorem Pa.drew (h : Pa w1 W LO HI) : Pa w1 W.drew LO HI := ⟨h.below.drew, h.r2, h.r3⟩
theorem Pa.next {c : Nat} {f f' : Nat → Int} {a z : Int} (h : Pa w1 W (pr c f) (pr c f')) (hc : c < 7) (ha : a = f c) (hz : z = f' c) :
    Pa w1 ((W.setCell ⟨w1.heap.size, c, none⟩ (.int .i64 a)).setCell ⟨w1.heap.size + 1, c, none⟩ (.int .i64 z)) (pr (c + 1) f) (pr (c + 1) f') := by
  have g1 := grown_set W w1.heap.size c (.int .i64 a)
  have g2 := grown_set (W.setCell ⟨w1.heap.size, c, none⟩ (.int .i64 a)) (w1.heap.size + 1) c (.int .i64 z)
  have b1 := h.below.grown g1 h.below.size (fun x hx => by injection hx with hx; omega)
  have b2 := b1.grown g2 b1.size (fun x hx => by injection hx with hx; omega)
  refine ⟨b2, ?_, ?_⟩
  · have := (h.r2.set_ c (.int .i64 a)).grown g2 (by intro e; injection e with e; omega)
    rwa [pr_set hc ha] at this
  · have := (h.r3.grown g1 (by intro e; injection e with e; omega)).set_ c (.int .i64 z)
    rwa [pr_set hc hz] at this
end
/-- What else a dictionary's calls owe. -/
structure DictL (Dc : World → Value → Int → List VV → Prop) : Prop where
  there : ∀ {W p k l}, Dc W p k l → ∃ a, p = .pointer (some a)
  small : ∀ {W p k l}, Dc W p k l → l.length ≤ 9223372036854775807
  len : ∀ W p k l, Dc W p k l → Calls Try.prog 20 #[p] W fun e w' => e = .returned (.int .i64 (l.length : Int)) ∧ Below W.heap.size W w'

set_option maxHeartbeats 2000000 in
set_option maxRecDepth 100000 in
theorem parts_any {Dc : World → Value → Int → List VV → Prop} (D : DictC Dc) (DL : DictL Dc) (kind : Int) (A : Option Addr) (d : Nat) (l : List VV) (X : VV) (w : World) (hG : GsV eV w 0 w.heap.size (.slice A l.length d) l) :
    Calls Try.prog 7 #[.int .u8 kind, .slice A l.length d, vV X.k X.n X.s] w fun e w' => e = .returned (.bool true) ∧ Below w.heap.size w w' := by
  have HD := Lib.hid D
  have HDL := Lib.hid DL
  have HG := Lib.hid hG
  clear D DL hG
  have hgc := fun W h => great_v A d l 200 W h
  have HW := Lib.hid (Bx1.new w X.k X.n X.s)
  cases hg : grtV l 200 with
  | true =>
    rw [hg] at hgc
    go_enter Try.func7, Try.ntmps7
    go_wp2_with (first | (go_at_call 9; refine (hgc _ (HG.out.step HW.out.below)).mono ?_; rintro e w1 ⟨rfl, hz⟩; have hz := hz.symm; subst hz) | (go_at_call 10; refine (HD.out.known _).mono ?_; rintro e w9 ⟨rfl, b9⟩; have B9 := Lib.hid (HW.out.step b9); clear b9))
    go_ret
    exact ⟨rfl, B9.out.below⟩
  | false =>
    rw [hg] at hgc
    have hn : l.length ≤ 200 := by have := grtV_len hg; omega
    have HN := Lib.hid hn
    have a2 := HW.out.a2
    by_cases hs : X.s.size ≤ 70000
    · have d1 : decide ((70000 : Int) < (X.s.size : Int)) = false := decide_eq_false (by omega)
      have HS := Lib.hid hs
      clear hg hn hs
      obtain ⟨E, hE⟩ : ∃ E, ofE kind l = E := ⟨_, rfl⟩
      have hof := fun W h => HD.out.of kind A d l W h HN.out
      rw [hE] at hof
      by_cases h0 : E = 0
      · subst h0
        have HMR := Lib.hid (dicV_rise l)
        clear hE
        generalize dicV l = m at hof HMR
        go_enter Try.func7, Try.ntmps7
        go_wp2_with (first
          | (go_at_call 9; refine (hgc _ (HG.out.step HW.out.below)).mono ?_; rintro e w1 ⟨rfl, hz⟩; have hz := hz.symm; subst hz)
          | (go_at_call 11; refine (hof _ (HG.out.step HW.out.below)).mono ?_; rintro e w1 ⟨p, rfl, hdc, -, b1⟩; have HB1 := Lib.hid (HW.out.step b1); have HD1 := Lib.hid (hdc (by simp)); obtain ⟨pa, rfl⟩ := HDL.out.there HD1.out; clear hdc b1 a2))
        have ne1 : ¬ (w1.heap.size = w1.heap.size + 1) := by omega
        have ne2 : ¬ (w1.heap.size + 1 = w1.heap.size) := by omega
        go_loopw [11, 12, 13, 14, 37] (fun _ _ _ _ t wr => ∃ c : Nat, t = .int .u8 c ∧ c ≤ 7 ∧ (2 ≤ c → mayW X = true ∧ X.k = kind) ∧ Pa w1 wr (pr c fun i => (intA kind m (i : Int) X).1) (pr c fun i => (intA kind m (i : Int) X).2.1)) (fun _ _ _ _ t _ => 7 - (intOf t).toNat)
        case atStart => exact ⟨0, rfl, by omega, fun h => by omega, Pa.new w1 _ _⟩
        case round =>
          obtain ⟨c, rfl, hc, hok, hP⟩ := hrel
          have HP := Lib.hid hP
          clear hP
          have a0 := (HB1.out.step HP.out.below).a0
          have a1 := (HB1.out.step HP.out.below).a1
          have a2 := (HB1.out.step HP.out.below).a2
          have hcc : c = 0 ∨ c = 1 ∨ c = 2 ∨ c = 3 ∨ c = 4 ∨ c = 5 ∨ c = 6 ∨ c = 7 := by omega
          rcases hcc with rfl | rfl | rfl | rfl | rfl | rfl | rfl | rfl
          · skip
            have hIv := fun W h => HD.out.interval W (.pointer (some pa)) kind m 0 X h HS.out
            rw [may_off kind m X (by omega)] at hIv
            go_wp2_with (go_at_call 16; refine (hIv _ (HD.out.step HD1.out HP.out.below)).mono ?_; rintro e w3 ⟨rfl, b3⟩; have HP3 := Lib.hid (HP.out.step b3); have l0 := (HP3.out.r2.cell 0).trans (pr_at (by omega) _); have h0 := (HP3.out.r3.cell 0).trans (pr_at (by omega) _); have l1 := HP3.out.r2.frozen 0; have h1 := HP3.out.r3.frozen 0; clear b3 a0 a1 a2)
            go_roundw
            case rel => exact ⟨1, rfl, by omega, fun h => by omega, HP3.out.next (by omega) (by show (0 : Int) = (intA kind m (0 : Int) X).1; rw [may_off kind m X (by omega)]) (by show (0 : Int) = (intA kind m (0 : Int) X).2.1; rw [may_off kind m X (by omega)])⟩
            case measure => simp [intOf]
          · skip
            by_cases hno : mayW X = true ∧ X.k = kind
            · have HOK := Lib.hid hno
              clear hno hok
              have hIv := fun W h => HD.out.interval W (.pointer (some pa)) kind m 1 X h HS.out
              obtain ⟨⟨fa, fz, ff⟩, hA⟩ : ∃ t, intA kind m 1 X = t := ⟨_, rfl⟩
              rw [hA] at hIv
              have h1 := told_of (l := m) (kind := kind) (cmp := 1) (X := X) (by omega) (by omega) (by omega)
              rw [hA] at h1
              simp only at h1
              rw [if_neg (by rw [HOK.out.1]; simp), if_neg (by simp [HOK.out.2])] at h1
              subst h1
              have HA := Lib.hid hA
              clear hA
              go_wp2_with (go_at_call 16; refine (hIv _ (HD.out.step HD1.out HP.out.below)).mono ?_; rintro e w3 ⟨rfl, b3⟩; have HP3 := Lib.hid (HP.out.step b3); have l0 := (HP3.out.r2.cell 1).trans (pr_at (by omega) _); have h0 := (HP3.out.r3.cell 1).trans (pr_at (by omega) _); have l1 := HP3.out.r2.frozen 1; have h1 := HP3.out.r3.frozen 1; clear b3 a0 a1 a2)
              go_roundw
              case rel => exact ⟨2, rfl, by omega, fun _ => HOK.out, HP3.out.next (by omega) (by show fa = (intA kind m (1 : Int) X).1; rw [HA.out]) (by show fz = (intA kind m (1 : Int) X).2.1; rw [HA.out])⟩
              case measure => simp [intOf]
            · have HNO := Lib.hid hno
              clear hno hok
              have hIv := fun W h => HD.out.interval W (.pointer (some pa)) kind m 1 X h HS.out
              obtain ⟨⟨fa, fz, ff⟩, hA⟩ : ∃ t, intA kind m 1 X = t := ⟨_, rfl⟩
              rw [hA] at hIv
              have h1 := told_of (l := m) (kind := kind) (cmp := 1) (X := X) (by omega) (by omega) (by omega)
              rw [hA] at h1
              simp only at h1
              have hff : (ff != 0) = true := by
                rw [h1]
                by_cases g : mayW X = false
                · rw [if_pos g]; rfl
                · rw [if_neg g, if_pos (fun e => HNO.out ⟨by simpa using g, e⟩)]; rfl
              clear hA h1
              go_wp2_with (first | (go_at_call 16; refine (hIv _ (HD.out.step HD1.out HP.out.below)).mono ?_; rintro e w3 ⟨rfl, b3⟩; have HP3 := Lib.hid (HP.out.step b3); clear b3 a0 a1 a2) | (go_at_call 10; refine (HD.out.known _).mono ?_; rintro e w9 ⟨rfl, b9⟩; have B9 := Lib.hid (HB1.out.step ((HP3.out.step b9).below)); clear b9))
              go_ret
              exact ⟨rfl, B9.out.below⟩
          · skip
            have HOK := Lib.hid (hok (by omega))
            clear hok
            have hIv := fun W h => HD.out.interval W (.pointer (some pa)) kind m 2 X h HS.out
            rw [may_off kind m X (by omega)] at hIv
            go_wp2_with (go_at_call 16; refine (hIv _ (HD.out.step HD1.out HP.out.below)).mono ?_; rintro e w3 ⟨rfl, b3⟩; have HP3 := Lib.hid (HP.out.step b3); have l0 := (HP3.out.r2.cell 2).trans (pr_at (by omega) _); have h0 := (HP3.out.r3.cell 2).trans (pr_at (by omega) _); have l1 := HP3.out.r2.frozen 2; have h1 := HP3.out.r3.frozen 2; clear b3 a0 a1 a2)
            go_roundw
            case rel => exact ⟨3, rfl, by omega, fun _ => HOK.out, HP3.out.next (by omega) (by show (0 : Int) = (intA kind m (2 : Int) X).1; rw [may_off kind m X (by omega)]) (by show (0 : Int) = (intA kind m (2 : Int) X).2.1; rw [may_off kind m X (by omega)])⟩
            case measure => simp [intOf]
          · skip
            have HOK := Lib.hid (hok (by omega))
            clear hok
            have hIv := fun W h => HD.out.interval W (.pointer (some pa)) kind m 3 X h HS.out
            obtain ⟨⟨fa, fz, ff⟩, hA⟩ : ∃ t, intA kind m 3 X = t := ⟨_, rfl⟩
            rw [hA] at hIv
            have h1 := told_of (l := m) (kind := kind) (cmp := 3) (X := X) (by omega) (by omega) (by omega)
            rw [hA] at h1
            simp only at h1
            rw [if_neg (by rw [HOK.out.1]; simp), if_neg (by simp [HOK.out.2])] at h1
            subst h1
            have HA := Lib.hid hA
            clear hA
            go_wp2_with (go_at_call 16; refine (hIv _ (HD.out.step HD1.out HP.out.below)).mono ?_; rintro e w3 ⟨rfl, b3⟩; have HP3 := Lib.hid (HP.out.step b3); have l0 := (HP3.out.r2.cell 3).trans (pr_at (by omega) _); have h0 := (HP3.out.r3.cell 3).trans (pr_at (by omega) _); have l1 := HP3.out.r2.frozen 3; have h1 := HP3.out.r3.frozen 3; clear b3 a0 a1 a2)
            go_roundw
            case rel => exact ⟨4, rfl, by omega, fun _ => HOK.out, HP3.out.next (by omega) (by show fa = (intA kind m (3 : Int) X).1; rw [HA.out]) (by show fz = (intA kind m (3 : Int) X).2.1; rw [HA.out])⟩
            case measure => simp [intOf]
          · skip
            have HOK := Lib.hid (hok (by omega))
            clear hok
            have hIv := fun W h => HD.out.interval W (.pointer (some pa)) kind m 4 X h HS.out
            obtain ⟨⟨fa, fz, ff⟩, hA⟩ : ∃ t, intA kind m 4 X = t := ⟨_, rfl⟩
            rw [hA] at hIv
            have h1 := told_of (l := m) (kind := kind) (cmp := 4) (X := X) (by omega) (by omega) (by omega)
            rw [hA] at h1
            simp only at h1
            rw [if_neg (by rw [HOK.out.1]; simp), if_neg (by simp [HOK.out.2])] at h1
            subst h1
            have HA := Lib.hid hA
            clear hA
            go_wp2_with (go_at_call 16; refine (hIv _ (HD.out.step HD1.out HP.out.below)).mono ?_; rintro e w3 ⟨rfl, b3⟩; have HP3 := Lib.hid (HP.out.step b3); have l0 := (HP3.out.r2.cell 4).trans (pr_at (by omega) _); have h0 := (HP3.out.r3.cell 4).trans (pr_at (by omega) _); have l1 := HP3.out.r2.frozen 4; have h1 := HP3.out.r3.frozen 4; clear b3 a0 a1 a2)
            go_roundw
            case rel => exact ⟨5, rfl, by omega, fun _ => HOK.out, HP3.out.next (by omega) (by show fa = (intA kind m (4 : Int) X).1; rw [HA.out]) (by show fz = (intA kind m (4 : Int) X).2.1; rw [HA.out])⟩
            case measure => simp [intOf]
          · skip
            have HOK := Lib.hid (hok (by omega))
            clear hok
            have hIv := fun W h => HD.out.interval W (.pointer (some pa)) kind m 5 X h HS.out
            obtain ⟨⟨fa, fz, ff⟩, hA⟩ : ∃ t, intA kind m 5 X = t := ⟨_, rfl⟩
            rw [hA] at hIv
            have h1 := told_of (l := m) (kind := kind) (cmp := 5) (X := X) (by omega) (by omega) (by omega)
            rw [hA] at h1
            simp only at h1
            rw [if_neg (by rw [HOK.out.1]; simp), if_neg (by simp [HOK.out.2])] at h1
            subst h1
            have HA := Lib.hid hA
            clear hA
            go_wp2_with (go_at_call 16; refine (hIv _ (HD.out.step HD1.out HP.out.below)).mono ?_; rintro e w3 ⟨rfl, b3⟩; have HP3 := Lib.hid (HP.out.step b3); have l0 := (HP3.out.r2.cell 5).trans (pr_at (by omega) _); have h0 := (HP3.out.r3.cell 5).trans (pr_at (by omega) _); have l1 := HP3.out.r2.frozen 5; have h1 := HP3.out.r3.frozen 5; clear b3 a0 a1 a2)
            go_roundw
            case rel => exact ⟨6, rfl, by omega, fun _ => HOK.out, HP3.out.next (by omega) (by show fa = (intA kind m (5 : Int) X).1; rw [HA.out]) (by show fz = (intA kind m (5 : Int) X).2.1; rw [HA.out])⟩
            case measure => simp [intOf]
          · skip
            have HOK := Lib.hid (hok (by omega))
            clear hok
            have hIv := fun W h => HD.out.interval W (.pointer (some pa)) kind m 6 X h HS.out
            obtain ⟨⟨fa, fz, ff⟩, hA⟩ : ∃ t, intA kind m 6 X = t := ⟨_, rfl⟩
            rw [hA] at hIv
            have h1 := told_of (l := m) (kind := kind) (cmp := 6) (X := X) (by omega) (by omega) (by omega)
            rw [hA] at h1
            simp only at h1
            rw [if_neg (by rw [HOK.out.1]; simp), if_neg (by simp [HOK.out.2])] at h1
            subst h1
            have HA := Lib.hid hA
            clear hA
            go_wp2_with (go_at_call 16; refine (hIv _ (HD.out.step HD1.out HP.out.below)).mono ?_; rintro e w3 ⟨rfl, b3⟩; have HP3 := Lib.hid (HP.out.step b3); have l0 := (HP3.out.r2.cell 6).trans (pr_at (by omega) _); have h0 := (HP3.out.r3.cell 6).trans (pr_at (by omega) _); have l1 := HP3.out.r2.frozen 6; have h1 := HP3.out.r3.frozen 6; clear b3 a0 a1 a2)
            go_roundw
            case rel => exact ⟨7, rfl, by omega, fun _ => HOK.out, HP3.out.next (by omega) (by show fa = (intA kind m (6 : Int) X).1; rw [HA.out]) (by show fz = (intA kind m (6 : Int) X).2.1; rw [HA.out])⟩
            case measure => simp [intOf]
          · have HOK := Lib.hid (hok (by omega))
            clear hok
            obtain ⟨p1, p3, p4, p5, p6⟩ := parts_of HMR.out HOK.out.1 HOK.out.2
            have b1 := lt_leV HMR.out X
            have b2 := leV_le X m
            have hml : m.length ≤ 9223372036854775807 := HDL.out.small HD1.out
            have hLO : (pr 7 fun i => (intA kind m (i : Int) X).1) = #[.int .i64 0, .int .i64 (ltV X m : Int), .int .i64 0, .int .i64 0, .int .i64 0, .int .i64 (leV X m : Int), .int .i64 (ltV X m : Int)] := by
              show #[Value.int .i64 (intA kind m (0 : Int) X).1, .int .i64 (intA kind m (1 : Int) X).1, .int .i64 (intA kind m (2 : Int) X).1, .int .i64 (intA kind m (3 : Int) X).1, .int .i64 (intA kind m (4 : Int) X).1, .int .i64 (intA kind m (5 : Int) X).1, .int .i64 (intA kind m (6 : Int) X).1] = _
              rw [may_off kind m X (cmp := 0) (by omega), p1, may_off kind m X (cmp := 2) (by omega), p3, p4, p5, p6]
            have hHI : (pr 7 fun i => (intA kind m (i : Int) X).2.1) = #[.int .i64 0, .int .i64 (leV X m : Int), .int .i64 0, .int .i64 (ltV X m : Int), .int .i64 (leV X m : Int), .int .i64 (m.length : Int), .int .i64 (m.length : Int)] := by
              show #[Value.int .i64 (intA kind m (0 : Int) X).2.1, .int .i64 (intA kind m (1 : Int) X).2.1, .int .i64 (intA kind m (2 : Int) X).2.1, .int .i64 (intA kind m (3 : Int) X).2.1, .int .i64 (intA kind m (4 : Int) X).2.1, .int .i64 (intA kind m (5 : Int) X).2.1, .int .i64 (intA kind m (6 : Int) X).2.1] = _
              rw [may_off kind m X (cmp := 0) (by omega), p1, may_off kind m X (cmp := 2) (by omega), p3, p4, p5, p6]
            have hF := HP.out
            rw [hLO, hHI] at hF
            have hwr : wrap64 ((leV X m : Int) - (ltV X m : Int)) = (leV X m : Int) - (ltV X m : Int) := by unfold wrap64; omega
            have hwr2 : IntKind.i64.wrap ((leV X m : Int) - (ltV X m : Int)) = (leV X m : Int) - (ltV X m : Int) := by first | exact hwr | (rw [IntKind.wrap_i64]; omega) | (rw [IntKind.wrap_i64]; exact hwr) | (simp [IntKind.wrap]; omega)
            have hle : decide ((leV X m : Int) - (ltV X m : Int) ≤ 1) = true := decide_eq_true (by omega)
            have hlen := fun W h => HDL.out.len W (.pointer (some pa)) kind m h
            clear p1 p3 p4 p5 p6 b1 b2 hml hLO hHI HP
            generalize (ltV X m : Int) = a at hF hwr hwr2 hle
            generalize (leV X m : Int) = b at hF hwr hwr2 hle
            generalize (m.length : Int) = n at hF hlen
            have HF := Lib.hid hF
            clear hF a0 a1 a2
            go_wp2_with fail
            have hSc := HF.out.drew
            refine wp_region_all (S := fun W => Pa w1 W #[.int .i64 0, .int .i64 a, .int .i64 0, .int .i64 0, .int .i64 0, .int .i64 b, .int .i64 a] #[.int .i64 0, .int .i64 b, .int .i64 0, .int .i64 a, .int .i64 b, .int .i64 n, .int .i64 n]) (by kernel_rfl) hSc (fun W0 hSc => ?_)
            refine held_take 0 ?_ rfl (by kernel_rfl) (by kernel_rfl) (by kernel_rfl) (fun _ _ _ h => h) (by rfl) ?_ hSc ?_
            rotate_left
            · (intro W hSW; have l1 := hSW.r2.cell 1; have l3 := hSW.r2.cell 3; have l4 := hSW.r2.cell 4; have l5 := hSW.r2.cell 5; have l6 := hSW.r2.cell 6; have h1 := hSW.r3.cell 1; have h3 := hSW.r3.cell 3; have h4 := hSW.r3.cell 4; have h5 := hSW.r3.cell 5; have h6 := hSW.r3.cell 6; go_simp; try rfl)
            try simp only [Act.put, List.setIfInBounds_toArray, List.set_cons_zero, List.set_cons_succ]
            refine held_take 1 ?_ rfl (by kernel_rfl) (by kernel_rfl) (by kernel_rfl) (fun _ _ _ h => h) (by rfl) ?_ hSc ?_
            rotate_left
            · (intro W hSW; have l1 := hSW.r2.cell 1; have l3 := hSW.r2.cell 3; have l4 := hSW.r2.cell 4; have l5 := hSW.r2.cell 5; have l6 := hSW.r2.cell 6; have h1 := hSW.r3.cell 1; have h3 := hSW.r3.cell 3; have h4 := hSW.r3.cell 4; have h5 := hSW.r3.cell 5; have h6 := hSW.r3.cell 6; go_simp; try rfl)
            try simp only [Act.put, List.setIfInBounds_toArray, List.set_cons_zero, List.set_cons_succ]
            refine held_take 2 ?_ rfl (by kernel_rfl) (by kernel_rfl) (by kernel_rfl) (fun _ _ _ h => h) (by rfl) ?_ hSc ?_
            rotate_left
            · (intro W hSW; have l1 := hSW.r2.cell 1; have l3 := hSW.r2.cell 3; have l4 := hSW.r2.cell 4; have l5 := hSW.r2.cell 5; have l6 := hSW.r2.cell 6; have h1 := hSW.r3.cell 1; have h3 := hSW.r3.cell 3; have h4 := hSW.r3.cell 4; have h5 := hSW.r3.cell 5; have h6 := hSW.r3.cell 6; go_simp; try rfl)
            try simp only [Act.put, List.setIfInBounds_toArray, List.set_cons_zero, List.set_cons_succ]
            refine held_take 3 ?_ rfl (by kernel_rfl) (by kernel_rfl) (by kernel_rfl) (fun _ _ _ h => h) (by rfl) ?_ hSc ?_
            rotate_left
            · (intro W hSW; have l1 := hSW.r2.cell 1; have l3 := hSW.r2.cell 3; have l4 := hSW.r2.cell 4; have l5 := hSW.r2.cell 5; have l6 := hSW.r2.cell 6; have h1 := hSW.r3.cell 1; have h3 := hSW.r3.cell 3; have h4 := hSW.r3.cell 4; have h5 := hSW.r3.cell 5; have h6 := hSW.r3.cell 6; go_simp; try rfl)
            try simp only [Act.put, List.setIfInBounds_toArray, List.set_cons_zero, List.set_cons_succ]
            refine held_take 4 ?_ rfl (by kernel_rfl) (by kernel_rfl) (by kernel_rfl) (fun _ _ _ h => h) (by rfl) ?_ hSc ?_
            rotate_left
            · (intro W hSW; have l1 := hSW.r2.cell 1; have l3 := hSW.r2.cell 3; have l4 := hSW.r2.cell 4; have l5 := hSW.r2.cell 5; have l6 := hSW.r2.cell 6; have h1 := hSW.r3.cell 1; have h3 := hSW.r3.cell 3; have h4 := hSW.r3.cell 4; have h5 := hSW.r3.cell 5; have h6 := hSW.r3.cell 6; go_simp; try rfl)
            try simp only [Act.put, List.setIfInBounds_toArray, List.set_cons_zero, List.set_cons_succ]
            refine held_take 5 ?_ rfl (by kernel_rfl) (by kernel_rfl) (by kernel_rfl) (fun _ _ _ h => h) (by rfl) ?_ hSc ?_
            rotate_left
            · (intro W hSW; have l1 := hSW.r2.cell 1; have l3 := hSW.r2.cell 3; have l4 := hSW.r2.cell 4; have l5 := hSW.r2.cell 5; have l6 := hSW.r2.cell 6; have h1 := hSW.r3.cell 1; have h3 := hSW.r3.cell 3; have h4 := hSW.r3.cell 4; have h5 := hSW.r3.cell 5; have h6 := hSW.r3.cell 6; go_simp; try rfl)
            try simp only [Act.put, List.setIfInBounds_toArray, List.set_cons_zero, List.set_cons_succ]
            refine held_take 6 ?_ rfl (by kernel_rfl) (by kernel_rfl) (by kernel_rfl) (fun _ _ _ h => h) (by rfl) ?_ hSc ?_
            rotate_left
            · (intro W hSW; have l1 := hSW.r2.cell 1; have l3 := hSW.r2.cell 3; have l4 := hSW.r2.cell 4; have l5 := hSW.r2.cell 5; have l6 := hSW.r2.cell 6; have h1 := hSW.r3.cell 1; have h3 := hSW.r3.cell 3; have h4 := hSW.r3.cell 4; have h5 := hSW.r3.cell 5; have h6 := hSW.r3.cell 6; go_simp; try rfl)
            try simp only [Act.put, List.setIfInBounds_toArray, List.set_cons_zero, List.set_cons_succ]
            refine held_take 7 ?_ rfl (by kernel_rfl) (by kernel_rfl) (by kernel_rfl) (fun _ _ _ h => h) (by rfl) ?_ hSc ?_
            rotate_left
            · (intro W hSW; have l1 := hSW.r2.cell 1; have l3 := hSW.r2.cell 3; have l4 := hSW.r2.cell 4; have l5 := hSW.r2.cell 5; have l6 := hSW.r2.cell 6; have h1 := hSW.r3.cell 1; have h3 := hSW.r3.cell 3; have h4 := hSW.r3.cell 4; have h5 := hSW.r3.cell 5; have h6 := hSW.r3.cell 6; go_simp; try rfl)
            try simp only [Act.put, List.setIfInBounds_toArray, List.set_cons_zero, List.set_cons_succ]
            refine held_take 8 ?_ rfl (by kernel_rfl) (by kernel_rfl) (by kernel_rfl) (fun _ _ _ h => h) (by rfl) ?_ hSc ?_
            rotate_left
            · (intro W hSW; have l1 := hSW.r2.cell 1; have l3 := hSW.r2.cell 3; have l4 := hSW.r2.cell 4; have l5 := hSW.r2.cell 5; have l6 := hSW.r2.cell 6; have h1 := hSW.r3.cell 1; have h3 := hSW.r3.cell 3; have h4 := hSW.r3.cell 4; have h5 := hSW.r3.cell 5; have h6 := hSW.r3.cell 6; go_simp; try rfl)
            try simp only [Act.put, List.setIfInBounds_toArray, List.set_cons_zero, List.set_cons_succ]
            refine held_take 9 ?_ rfl (by kernel_rfl) (by kernel_rfl) (by kernel_rfl) (fun _ _ _ h => h) (by rfl) ?_ hSc ?_
            rotate_left
            · (intro W hSW; have l1 := hSW.r2.cell 1; have l3 := hSW.r2.cell 3; have l4 := hSW.r2.cell 4; have l5 := hSW.r2.cell 5; have l6 := hSW.r2.cell 6; have h1 := hSW.r3.cell 1; have h3 := hSW.r3.cell 3; have h4 := hSW.r3.cell 4; have h5 := hSW.r3.cell 5; have h6 := hSW.r3.cell 6; go_simp; try rfl)
            try simp only [Act.put, List.setIfInBounds_toArray, List.set_cons_zero, List.set_cons_succ]
            refine held_take 10 ?_ rfl (by kernel_rfl) (by kernel_rfl) (by kernel_rfl) (fun _ _ _ h => h) (by rfl) ?_ hSc ?_
            rotate_left
            · (intro W hSW; have l1 := hSW.r2.cell 1; have l3 := hSW.r2.cell 3; have l4 := hSW.r2.cell 4; have l5 := hSW.r2.cell 5; have l6 := hSW.r2.cell 6; have h1 := hSW.r3.cell 1; have h3 := hSW.r3.cell 3; have h4 := hSW.r3.cell 4; have h5 := hSW.r3.cell 5; have h6 := hSW.r3.cell 6; go_simp; try rfl)
            try simp only [Act.put, List.setIfInBounds_toArray, List.set_cons_zero, List.set_cons_succ]
            refine held_take 11 ?_ rfl (by kernel_rfl) (by kernel_rfl) (by kernel_rfl) (fun _ _ _ h => h) (by rfl) ?_ hSc ?_
            rotate_left
            · (intro W hSW; have l1 := hSW.r2.cell 1; have l3 := hSW.r2.cell 3; have l4 := hSW.r2.cell 4; have l5 := hSW.r2.cell 5; have l6 := hSW.r2.cell 6; have h1 := hSW.r3.cell 1; have h3 := hSW.r3.cell 3; have h4 := hSW.r3.cell 4; have h5 := hSW.r3.cell 5; have h6 := hSW.r3.cell 6; go_simp; try rfl)
            try simp only [Act.put, List.setIfInBounds_toArray, List.set_cons_zero, List.set_cons_succ]
            refine held_take 12 ?_ rfl (by kernel_rfl) (by kernel_rfl) (by kernel_rfl) (fun _ _ _ h => h) (by rfl) ?_ hSc ?_
            rotate_left
            · (intro W hSW; have l1 := hSW.r2.cell 1; have l3 := hSW.r2.cell 3; have l4 := hSW.r2.cell 4; have l5 := hSW.r2.cell 5; have l6 := hSW.r2.cell 6; have h1 := hSW.r3.cell 1; have h3 := hSW.r3.cell 3; have h4 := hSW.r3.cell 4; have h5 := hSW.r3.cell 5; have h6 := hSW.r3.cell 6; go_simp; try rfl)
            try simp only [Act.put, List.setIfInBounds_toArray, List.set_cons_zero, List.set_cons_succ]
            refine held_take 13 ?_ rfl (by kernel_rfl) (by kernel_rfl) (by kernel_rfl) (fun _ _ _ h => h) (by rfl) ?_ hSc ?_
            rotate_left
            · (intro W hSW; have l1 := hSW.r2.cell 1; have l3 := hSW.r2.cell 3; have l4 := hSW.r2.cell 4; have l5 := hSW.r2.cell 5; have l6 := hSW.r2.cell 6; have h1 := hSW.r3.cell 1; have h3 := hSW.r3.cell 3; have h4 := hSW.r3.cell 4; have h5 := hSW.r3.cell 5; have h6 := hSW.r3.cell 6; go_simp; try rfl)
            try simp only [Act.put, List.setIfInBounds_toArray, List.set_cons_zero, List.set_cons_succ]
            refine held_take 14 ?_ rfl (by kernel_rfl) (by kernel_rfl) (by kernel_rfl) (fun _ _ _ h => h) (by rfl) ?_ hSc ?_
            rotate_left
            · (intro W hSW; have l1 := hSW.r2.cell 1; have l3 := hSW.r2.cell 3; have l4 := hSW.r2.cell 4; have l5 := hSW.r2.cell 5; have l6 := hSW.r2.cell 6; have h1 := hSW.r3.cell 1; have h3 := hSW.r3.cell 3; have h4 := hSW.r3.cell 4; have h5 := hSW.r3.cell 5; have h6 := hSW.r3.cell 6; go_simp; try rfl)
            try simp only [Act.put, List.setIfInBounds_toArray, List.set_cons_zero, List.set_cons_succ]
            refine held_take 15 ?_ rfl (by kernel_rfl) (by kernel_rfl) (by kernel_rfl) (fun _ _ _ h => h) (by rfl) ?_ hSc ?_
            rotate_left
            · (intro W hSW; have l1 := hSW.r2.cell 1; have l3 := hSW.r2.cell 3; have l4 := hSW.r2.cell 4; have l5 := hSW.r2.cell 5; have l6 := hSW.r2.cell 6; have h1 := hSW.r3.cell 1; have h3 := hSW.r3.cell 3; have h4 := hSW.r3.cell 4; have h5 := hSW.r3.cell 5; have h6 := hSW.r3.cell 6; go_simp; try rfl)
            try simp only [Act.put, List.setIfInBounds_toArray, List.set_cons_zero, List.set_cons_succ]
            refine held_take 16 ?_ rfl (by kernel_rfl) (by kernel_rfl) (by kernel_rfl) (fun _ _ _ h => h) (by rfl) ?_ hSc ?_
            rotate_left
            · (intro W hSW; have l1 := hSW.r2.cell 1; have l3 := hSW.r2.cell 3; have l4 := hSW.r2.cell 4; have l5 := hSW.r2.cell 5; have l6 := hSW.r2.cell 6; have h1 := hSW.r3.cell 1; have h3 := hSW.r3.cell 3; have h4 := hSW.r3.cell 4; have h5 := hSW.r3.cell 5; have h6 := hSW.r3.cell 6; go_simp; try rfl)
            try simp only [Act.put, List.setIfInBounds_toArray, List.set_cons_zero, List.set_cons_succ]
            refine held_take 17 ?_ rfl (by kernel_rfl) (by kernel_rfl) (by kernel_rfl) (fun _ _ _ h => h) (by rfl) ?_ hSc ?_
            rotate_left
            · (intro W hSW; have l1 := hSW.r2.cell 1; have l3 := hSW.r2.cell 3; have l4 := hSW.r2.cell 4; have l5 := hSW.r2.cell 5; have l6 := hSW.r2.cell 6; have h1 := hSW.r3.cell 1; have h3 := hSW.r3.cell 3; have h4 := hSW.r3.cell 4; have h5 := hSW.r3.cell 5; have h6 := hSW.r3.cell 6; go_simp; try rfl)
            try simp only [Act.put, List.setIfInBounds_toArray, List.set_cons_zero, List.set_cons_succ]
            refine held_take 18 ?_ rfl (by kernel_rfl) (by kernel_rfl) (by kernel_rfl) (fun _ _ _ h => h) (by rfl) ?_ hSc ?_
            rotate_left
            · (intro W hSW; have l1 := hSW.r2.cell 1; have l3 := hSW.r2.cell 3; have l4 := hSW.r2.cell 4; have l5 := hSW.r2.cell 5; have l6 := hSW.r2.cell 6; have h1 := hSW.r3.cell 1; have h3 := hSW.r3.cell 3; have h4 := hSW.r3.cell 4; have h5 := hSW.r3.cell 5; have h6 := hSW.r3.cell 6; go_simp; try rfl)
            try simp only [Act.put, List.setIfInBounds_toArray, List.set_cons_zero, List.set_cons_succ]
            refine held_take 19 ?_ rfl (by kernel_rfl) (by kernel_rfl) (by kernel_rfl) (fun _ _ _ h => h) (by rfl) ?_ hSc ?_
            rotate_left
            · (intro W hSW; have l1 := hSW.r2.cell 1; have l3 := hSW.r2.cell 3; have l4 := hSW.r2.cell 4; have l5 := hSW.r2.cell 5; have l6 := hSW.r2.cell 6; have h1 := hSW.r3.cell 1; have h3 := hSW.r3.cell 3; have h4 := hSW.r3.cell 4; have h5 := hSW.r3.cell 5; have h6 := hSW.r3.cell 6; go_simp; try rfl)
            try simp only [Act.put, List.setIfInBounds_toArray, List.set_cons_zero, List.set_cons_succ]
            refine held_take 20 ?_ rfl (by kernel_rfl) (by kernel_rfl) (by kernel_rfl) (fun _ _ _ h => h) (by rfl) ?_ hSc ?_
            rotate_left
            · (intro W hSW; have l1 := hSW.r2.cell 1; have l3 := hSW.r2.cell 3; have l4 := hSW.r2.cell 4; have l5 := hSW.r2.cell 5; have l6 := hSW.r2.cell 6; have h1 := hSW.r3.cell 1; have h3 := hSW.r3.cell 3; have h4 := hSW.r3.cell 4; have h5 := hSW.r3.cell 5; have h6 := hSW.r3.cell 6; go_simp; try rfl)
            try simp only [Act.put, List.setIfInBounds_toArray, List.set_cons_zero, List.set_cons_succ]
            refine held_next 21 rfl (by kernel_rfl) (by rfl) ?_
            go_simp
            refine (hlen _ (HD.out.step HD1.out hSc.below)).mono ?_
            rintro e wq1 ⟨rfl, bz⟩
            have hSd : (fun W => Pa w1 W #[.int .i64 0, .int .i64 a, .int .i64 0, .int .i64 0, .int .i64 0, .int .i64 b, .int .i64 a] #[.int .i64 0, .int .i64 b, .int .i64 0, .int .i64 a, .int .i64 b, .int .i64 n, .int .i64 n]) wq1 := hSc.step bz
            refine ⟨fun W => Pa w1 W #[.int .i64 0, .int .i64 a, .int .i64 0, .int .i64 0, .int .i64 0, .int .i64 b, .int .i64 a] #[.int .i64 0, .int .i64 b, .int .i64 0, .int .i64 a, .int .i64 b, .int .i64 n, .int .i64 n], fun W hW => hW, hSd, ?_⟩
            clear hSc bz
            have hSc := hSd
            clear hSd
            try simp only [Act.put, List.setIfInBounds_toArray, List.set_cons_zero, List.set_cons_succ]
            refine held_take 22 ?_ rfl (by kernel_rfl) (by kernel_rfl) (by kernel_rfl) (fun _ _ _ h => h) (by rfl) ?_ hSc ?_
            rotate_left
            · (intro W hSW; have l1 := hSW.r2.cell 1; have l3 := hSW.r2.cell 3; have l4 := hSW.r2.cell 4; have l5 := hSW.r2.cell 5; have l6 := hSW.r2.cell 6; have h1 := hSW.r3.cell 1; have h3 := hSW.r3.cell 3; have h4 := hSW.r3.cell 4; have h5 := hSW.r3.cell 5; have h6 := hSW.r3.cell 6; go_simp; try rfl)
            try simp only [Act.put, List.setIfInBounds_toArray, List.set_cons_zero, List.set_cons_succ]
            refine held_take 23 ?_ rfl (by kernel_rfl) (by kernel_rfl) (by kernel_rfl) (fun _ _ _ h => h) (by rfl) ?_ hSc ?_
            rotate_left
            · (intro W hSW; have l1 := hSW.r2.cell 1; have l3 := hSW.r2.cell 3; have l4 := hSW.r2.cell 4; have l5 := hSW.r2.cell 5; have l6 := hSW.r2.cell 6; have h1 := hSW.r3.cell 1; have h3 := hSW.r3.cell 3; have h4 := hSW.r3.cell 4; have h5 := hSW.r3.cell 5; have h6 := hSW.r3.cell 6; go_simp; try rfl)
            try simp only [Act.put, List.setIfInBounds_toArray, List.set_cons_zero, List.set_cons_succ]
            refine held_take 24 ?_ rfl (by kernel_rfl) (by kernel_rfl) (by kernel_rfl) (fun _ _ _ h => h) (by rfl) ?_ hSc ?_
            rotate_left
            · (intro W hSW; have l1 := hSW.r2.cell 1; have l3 := hSW.r2.cell 3; have l4 := hSW.r2.cell 4; have l5 := hSW.r2.cell 5; have l6 := hSW.r2.cell 6; have h1 := hSW.r3.cell 1; have h3 := hSW.r3.cell 3; have h4 := hSW.r3.cell 4; have h5 := hSW.r3.cell 5; have h6 := hSW.r3.cell 6; go_simp; try rfl)
            try simp only [Act.put, List.setIfInBounds_toArray, List.set_cons_zero, List.set_cons_succ]
            refine held_take 25 ?_ rfl (by kernel_rfl) (by kernel_rfl) (by kernel_rfl) (fun _ _ _ h => h) (by rfl) ?_ hSc ?_
            rotate_left
            · (intro W hSW; have l1 := hSW.r2.cell 1; have l3 := hSW.r2.cell 3; have l4 := hSW.r2.cell 4; have l5 := hSW.r2.cell 5; have l6 := hSW.r2.cell 6; have h1 := hSW.r3.cell 1; have h3 := hSW.r3.cell 3; have h4 := hSW.r3.cell 4; have h5 := hSW.r3.cell 5; have h6 := hSW.r3.cell 6; go_simp; try rfl)
            try simp only [Act.put, List.setIfInBounds_toArray, List.set_cons_zero, List.set_cons_succ]
            refine held_take 26 ?_ rfl (by kernel_rfl) (by kernel_rfl) (by kernel_rfl) (fun _ _ _ h => h) (by rfl) ?_ hSc ?_
            rotate_left
            · (intro W hSW; have l1 := hSW.r2.cell 1; have l3 := hSW.r2.cell 3; have l4 := hSW.r2.cell 4; have l5 := hSW.r2.cell 5; have l6 := hSW.r2.cell 6; have h1 := hSW.r3.cell 1; have h3 := hSW.r3.cell 3; have h4 := hSW.r3.cell 4; have h5 := hSW.r3.cell 5; have h6 := hSW.r3.cell 6; go_simp; try rfl)
            try simp only [Act.put, List.setIfInBounds_toArray, List.set_cons_zero, List.set_cons_succ]
            refine held_take 27 ?_ rfl (by kernel_rfl) (by kernel_rfl) (by kernel_rfl) (fun _ _ _ h => h) (by rfl) ?_ hSc ?_
            rotate_left
            · (intro W hSW; have l1 := hSW.r2.cell 1; have l3 := hSW.r2.cell 3; have l4 := hSW.r2.cell 4; have l5 := hSW.r2.cell 5; have l6 := hSW.r2.cell 6; have h1 := hSW.r3.cell 1; have h3 := hSW.r3.cell 3; have h4 := hSW.r3.cell 4; have h5 := hSW.r3.cell 5; have h6 := hSW.r3.cell 6; go_simp; try rfl)
            try simp only [Act.put, List.setIfInBounds_toArray, List.set_cons_zero, List.set_cons_succ]
            refine held_take 28 ?_ rfl (by kernel_rfl) (by kernel_rfl) (by kernel_rfl) (fun _ _ _ h => h) (by rfl) ?_ hSc ?_
            rotate_left
            · (intro W hSW; have l1 := hSW.r2.cell 1; have l3 := hSW.r2.cell 3; have l4 := hSW.r2.cell 4; have l5 := hSW.r2.cell 5; have l6 := hSW.r2.cell 6; have h1 := hSW.r3.cell 1; have h3 := hSW.r3.cell 3; have h4 := hSW.r3.cell 4; have h5 := hSW.r3.cell 5; have h6 := hSW.r3.cell 6; go_simp; try rfl)
            try simp only [Act.put, List.setIfInBounds_toArray, List.set_cons_zero, List.set_cons_succ]
            refine held_take 29 ?_ rfl (by kernel_rfl) (by kernel_rfl) (by kernel_rfl) (fun _ _ _ h => h) (by rfl) ?_ hSc ?_
            rotate_left
            · (intro W hSW; have l1 := hSW.r2.cell 1; have l3 := hSW.r2.cell 3; have l4 := hSW.r2.cell 4; have l5 := hSW.r2.cell 5; have l6 := hSW.r2.cell 6; have h1 := hSW.r3.cell 1; have h3 := hSW.r3.cell 3; have h4 := hSW.r3.cell 4; have h5 := hSW.r3.cell 5; have h6 := hSW.r3.cell 6; go_simp; try rfl)
            try simp only [Act.put, List.setIfInBounds_toArray, List.set_cons_zero, List.set_cons_succ]
            refine held_take 30 ?_ rfl (by kernel_rfl) (by kernel_rfl) (by kernel_rfl) (fun _ _ _ h => h) (by rfl) ?_ hSc ?_
            rotate_left
            · (intro W hSW; have l1 := hSW.r2.cell 1; have l3 := hSW.r2.cell 3; have l4 := hSW.r2.cell 4; have l5 := hSW.r2.cell 5; have l6 := hSW.r2.cell 6; have h1 := hSW.r3.cell 1; have h3 := hSW.r3.cell 3; have h4 := hSW.r3.cell 4; have h5 := hSW.r3.cell 5; have h6 := hSW.r3.cell 6; go_simp; try rfl)
            try simp only [Act.put, List.setIfInBounds_toArray, List.set_cons_zero, List.set_cons_succ]
            refine held_take 31 ?_ rfl (by kernel_rfl) (by kernel_rfl) (by kernel_rfl) (fun _ _ _ h => h) (by rfl) ?_ hSc ?_
            rotate_left
            · (intro W hSW; have l1 := hSW.r2.cell 1; have l3 := hSW.r2.cell 3; have l4 := hSW.r2.cell 4; have l5 := hSW.r2.cell 5; have l6 := hSW.r2.cell 6; have h1 := hSW.r3.cell 1; have h3 := hSW.r3.cell 3; have h4 := hSW.r3.cell 4; have h5 := hSW.r3.cell 5; have h6 := hSW.r3.cell 6; go_simp; try rfl)
            try simp only [Act.put, List.setIfInBounds_toArray, List.set_cons_zero, List.set_cons_succ]
            refine held_take 32 ?_ rfl (by kernel_rfl) (by kernel_rfl) (by kernel_rfl) (fun _ _ _ h => h) (by rfl) ?_ hSc ?_
            rotate_left
            · (intro W hSW; have l1 := hSW.r2.cell 1; have l3 := hSW.r2.cell 3; have l4 := hSW.r2.cell 4; have l5 := hSW.r2.cell 5; have l6 := hSW.r2.cell 6; have h1 := hSW.r3.cell 1; have h3 := hSW.r3.cell 3; have h4 := hSW.r3.cell 4; have h5 := hSW.r3.cell 5; have h6 := hSW.r3.cell 6; go_simp; try rfl)
            try simp only [Act.put, List.setIfInBounds_toArray, List.set_cons_zero, List.set_cons_succ]
            refine held_take 33 ?_ rfl (by kernel_rfl) (by kernel_rfl) (by kernel_rfl) (fun _ _ _ h => h) (by rfl) ?_ hSc ?_
            rotate_left
            · (intro W hSW; have l1 := hSW.r2.cell 1; have l3 := hSW.r2.cell 3; have l4 := hSW.r2.cell 4; have l5 := hSW.r2.cell 5; have l6 := hSW.r2.cell 6; have h1 := hSW.r3.cell 1; have h3 := hSW.r3.cell 3; have h4 := hSW.r3.cell 4; have h5 := hSW.r3.cell 5; have h6 := hSW.r3.cell 6; go_simp; try rfl)
            try simp only [Act.put, List.setIfInBounds_toArray, List.set_cons_zero, List.set_cons_succ]
            refine held_take 34 ?_ rfl (by kernel_rfl) (by kernel_rfl) (by kernel_rfl) (fun _ _ _ h => h) (by rfl) ?_ hSc ?_
            rotate_left
            · (intro W hSW; have l1 := hSW.r2.cell 1; have l3 := hSW.r2.cell 3; have l4 := hSW.r2.cell 4; have l5 := hSW.r2.cell 5; have l6 := hSW.r2.cell 6; have h1 := hSW.r3.cell 1; have h3 := hSW.r3.cell 3; have h4 := hSW.r3.cell 4; have h5 := hSW.r3.cell 5; have h6 := hSW.r3.cell 6; go_simp; try rfl)
            try simp only [Act.put, List.setIfInBounds_toArray, List.set_cons_zero, List.set_cons_succ]
            refine held_take 35 ?_ rfl (by kernel_rfl) (by kernel_rfl) (by kernel_rfl) (fun _ _ _ h => h) (by rfl) ?_ hSc ?_
            rotate_left
            · (intro W hSW; have l1 := hSW.r2.cell 1; have l3 := hSW.r2.cell 3; have l4 := hSW.r2.cell 4; have l5 := hSW.r2.cell 5; have l6 := hSW.r2.cell 6; have h1 := hSW.r3.cell 1; have h3 := hSW.r3.cell 3; have h4 := hSW.r3.cell 4; have h5 := hSW.r3.cell 5; have h6 := hSW.r3.cell 6; go_simp; try rfl)
            try simp only [Act.put, List.setIfInBounds_toArray, List.set_cons_zero, List.set_cons_succ]
            refine held_take 36 ?_ rfl (by kernel_rfl) (by kernel_rfl) (by kernel_rfl) (fun _ _ _ h => h) (by rfl) ?_ hSc ?_
            rotate_left
            · (intro W hSW; have l1 := hSW.r2.cell 1; have l3 := hSW.r2.cell 3; have l4 := hSW.r2.cell 4; have l5 := hSW.r2.cell 5; have l6 := hSW.r2.cell 6; have h1 := hSW.r3.cell 1; have h3 := hSW.r3.cell 3; have h4 := hSW.r3.cell 4; have h5 := hSW.r3.cell 5; have h6 := hSW.r3.cell 6; go_simp; try rfl)
            try simp only [Act.put, List.setIfInBounds_toArray, List.set_cons_zero, List.set_cons_succ]
            refine held_take 37 ?_ rfl (by kernel_rfl) (by kernel_rfl) (by kernel_rfl) (fun _ _ _ h => h) (by rfl) ?_ hSc ?_
            rotate_left
            · (intro W hSW; have l1 := hSW.r2.cell 1; have l3 := hSW.r2.cell 3; have l4 := hSW.r2.cell 4; have l5 := hSW.r2.cell 5; have l6 := hSW.r2.cell 6; have h1 := hSW.r3.cell 1; have h3 := hSW.r3.cell 3; have h4 := hSW.r3.cell 4; have h5 := hSW.r3.cell 5; have h6 := hSW.r3.cell 6; go_simp; try rfl)
            try simp only [Act.put, List.setIfInBounds_toArray, List.set_cons_zero, List.set_cons_succ]
            refine held_take 38 ?_ rfl (by kernel_rfl) (by kernel_rfl) (by kernel_rfl) (fun _ _ _ h => h) (by rfl) ?_ hSc ?_
            rotate_left
            · (intro W hSW; have l1 := hSW.r2.cell 1; have l3 := hSW.r2.cell 3; have l4 := hSW.r2.cell 4; have l5 := hSW.r2.cell 5; have l6 := hSW.r2.cell 6; have h1 := hSW.r3.cell 1; have h3 := hSW.r3.cell 3; have h4 := hSW.r3.cell 4; have h5 := hSW.r3.cell 5; have h6 := hSW.r3.cell 6; go_simp; try rfl)
            try simp only [Act.put, List.setIfInBounds_toArray, List.set_cons_zero, List.set_cons_succ]
            refine held_take 39 ?_ rfl (by kernel_rfl) (by kernel_rfl) (by kernel_rfl) (fun _ _ _ h => h) (by rfl) ?_ hSc ?_
            rotate_left
            · (intro W hSW; have l1 := hSW.r2.cell 1; have l3 := hSW.r2.cell 3; have l4 := hSW.r2.cell 4; have l5 := hSW.r2.cell 5; have l6 := hSW.r2.cell 6; have h1 := hSW.r3.cell 1; have h3 := hSW.r3.cell 3; have h4 := hSW.r3.cell 4; have h5 := hSW.r3.cell 5; have h6 := hSW.r3.cell 6; go_simp; try rfl)
            try simp only [Act.put, List.setIfInBounds_toArray, List.set_cons_zero, List.set_cons_succ]
            refine held_take 40 ?_ rfl (by kernel_rfl) (by kernel_rfl) (by kernel_rfl) (fun _ _ _ h => h) (by rfl) ?_ hSc ?_
            rotate_left
            · (intro W hSW; have l1 := hSW.r2.cell 1; have l3 := hSW.r2.cell 3; have l4 := hSW.r2.cell 4; have l5 := hSW.r2.cell 5; have l6 := hSW.r2.cell 6; have h1 := hSW.r3.cell 1; have h3 := hSW.r3.cell 3; have h4 := hSW.r3.cell 4; have h5 := hSW.r3.cell 5; have h6 := hSW.r3.cell 6; go_simp; try rfl)
            try simp only [Act.put, List.setIfInBounds_toArray, List.set_cons_zero, List.set_cons_succ]
            refine held_take 41 ?_ rfl (by kernel_rfl) (by kernel_rfl) (by kernel_rfl) (fun _ _ _ h => h) (by rfl) ?_ hSc ?_
            rotate_left
            · (intro W hSW; have l1 := hSW.r2.cell 1; have l3 := hSW.r2.cell 3; have l4 := hSW.r2.cell 4; have l5 := hSW.r2.cell 5; have l6 := hSW.r2.cell 6; have h1 := hSW.r3.cell 1; have h3 := hSW.r3.cell 3; have h4 := hSW.r3.cell 4; have h5 := hSW.r3.cell 5; have h6 := hSW.r3.cell 6; go_simp; try rfl)
            try simp only [Act.put, List.setIfInBounds_toArray, List.set_cons_zero, List.set_cons_succ]
            refine held_take 42 ?_ rfl (by kernel_rfl) (by kernel_rfl) (by kernel_rfl) (fun _ _ _ h => h) (by rfl) ?_ hSc ?_
            rotate_left
            · (intro W hSW; have l1 := hSW.r2.cell 1; have l3 := hSW.r2.cell 3; have l4 := hSW.r2.cell 4; have l5 := hSW.r2.cell 5; have l6 := hSW.r2.cell 6; have h1 := hSW.r3.cell 1; have h3 := hSW.r3.cell 3; have h4 := hSW.r3.cell 4; have h5 := hSW.r3.cell 5; have h6 := hSW.r3.cell 6; go_simp; try rfl)
            try simp only [Act.put, List.setIfInBounds_toArray, List.set_cons_zero, List.set_cons_succ]
            refine held_take 43 ?_ rfl (by kernel_rfl) (by kernel_rfl) (by kernel_rfl) (fun _ _ _ h => h) (by rfl) ?_ hSc ?_
            rotate_left
            · (intro W hSW; have l1 := hSW.r2.cell 1; have l3 := hSW.r2.cell 3; have l4 := hSW.r2.cell 4; have l5 := hSW.r2.cell 5; have l6 := hSW.r2.cell 6; have h1 := hSW.r3.cell 1; have h3 := hSW.r3.cell 3; have h4 := hSW.r3.cell 4; have h5 := hSW.r3.cell 5; have h6 := hSW.r3.cell 6; go_simp; try rfl)
            try simp only [Act.put, List.setIfInBounds_toArray, List.set_cons_zero, List.set_cons_succ]
            refine held_take 44 ?_ rfl (by kernel_rfl) (by kernel_rfl) (by kernel_rfl) (fun _ _ _ h => h) (by rfl) ?_ hSc ?_
            rotate_left
            · (intro W hSW; have l1 := hSW.r2.cell 1; have l3 := hSW.r2.cell 3; have l4 := hSW.r2.cell 4; have l5 := hSW.r2.cell 5; have l6 := hSW.r2.cell 6; have h1 := hSW.r3.cell 1; have h3 := hSW.r3.cell 3; have h4 := hSW.r3.cell 4; have h5 := hSW.r3.cell 5; have h6 := hSW.r3.cell 6; go_simp; try rfl)
            try simp only [Act.put, List.setIfInBounds_toArray, List.set_cons_zero, List.set_cons_succ]
            refine held_take 45 ?_ rfl (by kernel_rfl) (by kernel_rfl) (by kernel_rfl) (fun _ _ _ h => h) (by rfl) ?_ hSc ?_
            rotate_left
            · (intro W hSW; have l1 := hSW.r2.cell 1; have l3 := hSW.r2.cell 3; have l4 := hSW.r2.cell 4; have l5 := hSW.r2.cell 5; have l6 := hSW.r2.cell 6; have h1 := hSW.r3.cell 1; have h3 := hSW.r3.cell 3; have h4 := hSW.r3.cell 4; have h5 := hSW.r3.cell 5; have h6 := hSW.r3.cell 6; go_simp; try rfl)
            try simp only [Act.put, List.setIfInBounds_toArray, List.set_cons_zero, List.set_cons_succ]
            refine held_take 46 ?_ rfl (by kernel_rfl) (by kernel_rfl) (by kernel_rfl) (fun _ _ _ h => h) (by rfl) ?_ hSc ?_
            rotate_left
            · (intro W hSW; have l1 := hSW.r2.cell 1; have l3 := hSW.r2.cell 3; have l4 := hSW.r2.cell 4; have l5 := hSW.r2.cell 5; have l6 := hSW.r2.cell 6; have h1 := hSW.r3.cell 1; have h3 := hSW.r3.cell 3; have h4 := hSW.r3.cell 4; have h5 := hSW.r3.cell 5; have h6 := hSW.r3.cell 6; go_simp; try rfl)
            try simp only [Act.put, List.setIfInBounds_toArray, List.set_cons_zero, List.set_cons_succ]
            refine held_next 47 rfl (by kernel_rfl) (by rfl) ?_
            go_simp
            refine (hlen _ (HD.out.step HD1.out hSc.below)).mono ?_
            rintro e wq2 ⟨rfl, bz⟩
            have hSd : (fun W => Pa w1 W #[.int .i64 0, .int .i64 a, .int .i64 0, .int .i64 0, .int .i64 0, .int .i64 b, .int .i64 a] #[.int .i64 0, .int .i64 b, .int .i64 0, .int .i64 a, .int .i64 b, .int .i64 n, .int .i64 n]) wq2 := hSc.step bz
            refine ⟨fun W => Pa w1 W #[.int .i64 0, .int .i64 a, .int .i64 0, .int .i64 0, .int .i64 0, .int .i64 b, .int .i64 a] #[.int .i64 0, .int .i64 b, .int .i64 0, .int .i64 a, .int .i64 b, .int .i64 n, .int .i64 n], fun W hW => hW, hSd, ?_⟩
            clear hSc bz
            have hSc := hSd
            clear hSd
            try simp only [Act.put, List.setIfInBounds_toArray, List.set_cons_zero, List.set_cons_succ]
            refine held_take 48 ?_ rfl (by kernel_rfl) (by kernel_rfl) (by kernel_rfl) (fun _ _ _ h => h) (by rfl) ?_ hSc ?_
            rotate_left
            · (intro W hSW; have l1 := hSW.r2.cell 1; have l3 := hSW.r2.cell 3; have l4 := hSW.r2.cell 4; have l5 := hSW.r2.cell 5; have l6 := hSW.r2.cell 6; have h1 := hSW.r3.cell 1; have h3 := hSW.r3.cell 3; have h4 := hSW.r3.cell 4; have h5 := hSW.r3.cell 5; have h6 := hSW.r3.cell 6; go_simp; try rfl)
            try simp only [Act.put, List.setIfInBounds_toArray, List.set_cons_zero, List.set_cons_succ]
            refine held_take 49 ?_ rfl (by kernel_rfl) (by kernel_rfl) (by kernel_rfl) (fun _ _ _ h => h) (by rfl) ?_ hSc ?_
            rotate_left
            · (intro W hSW; have l1 := hSW.r2.cell 1; have l3 := hSW.r2.cell 3; have l4 := hSW.r2.cell 4; have l5 := hSW.r2.cell 5; have l6 := hSW.r2.cell 6; have h1 := hSW.r3.cell 1; have h3 := hSW.r3.cell 3; have h4 := hSW.r3.cell 4; have h5 := hSW.r3.cell 5; have h6 := hSW.r3.cell 6; go_simp; try rfl)
            try simp only [Act.put, List.setIfInBounds_toArray, List.set_cons_zero, List.set_cons_succ]
            refine held_take 50 ?_ rfl (by kernel_rfl) (by kernel_rfl) (by kernel_rfl) (fun _ _ _ h => h) (by rfl) ?_ hSc ?_
            rotate_left
            · (intro W hSW; have l1 := hSW.r2.cell 1; have l3 := hSW.r2.cell 3; have l4 := hSW.r2.cell 4; have l5 := hSW.r2.cell 5; have l6 := hSW.r2.cell 6; have h1 := hSW.r3.cell 1; have h3 := hSW.r3.cell 3; have h4 := hSW.r3.cell 4; have h5 := hSW.r3.cell 5; have h6 := hSW.r3.cell 6; go_simp; try rfl)
            try simp only [Act.put, List.setIfInBounds_toArray, List.set_cons_zero, List.set_cons_succ]
            refine held_take 51 ?_ rfl (by kernel_rfl) (by kernel_rfl) (by kernel_rfl) (fun _ _ _ h => h) (by rfl) ?_ hSc ?_
            rotate_left
            · (intro W hSW; have l1 := hSW.r2.cell 1; have l3 := hSW.r2.cell 3; have l4 := hSW.r2.cell 4; have l5 := hSW.r2.cell 5; have l6 := hSW.r2.cell 6; have h1 := hSW.r3.cell 1; have h3 := hSW.r3.cell 3; have h4 := hSW.r3.cell 4; have h5 := hSW.r3.cell 5; have h6 := hSW.r3.cell 6; go_simp; try rfl)
            try simp only [Act.put, List.setIfInBounds_toArray, List.set_cons_zero, List.set_cons_succ]
            refine held_take 52 ?_ rfl (by kernel_rfl) (by kernel_rfl) (by kernel_rfl) (fun _ _ _ h => h) (by rfl) ?_ hSc ?_
            rotate_left
            · (intro W hSW; have l1 := hSW.r2.cell 1; have l3 := hSW.r2.cell 3; have l4 := hSW.r2.cell 4; have l5 := hSW.r2.cell 5; have l6 := hSW.r2.cell 6; have h1 := hSW.r3.cell 1; have h3 := hSW.r3.cell 3; have h4 := hSW.r3.cell 4; have h5 := hSW.r3.cell 5; have h6 := hSW.r3.cell 6; go_simp; try rfl)
            try simp only [Act.put, List.setIfInBounds_toArray, List.set_cons_zero, List.set_cons_succ]
            refine held_take 53 ?_ rfl (by kernel_rfl) (by kernel_rfl) (by kernel_rfl) (fun _ _ _ h => h) (by rfl) ?_ hSc ?_
            rotate_left
            · (intro W hSW; have l1 := hSW.r2.cell 1; have l3 := hSW.r2.cell 3; have l4 := hSW.r2.cell 4; have l5 := hSW.r2.cell 5; have l6 := hSW.r2.cell 6; have h1 := hSW.r3.cell 1; have h3 := hSW.r3.cell 3; have h4 := hSW.r3.cell 4; have h5 := hSW.r3.cell 5; have h6 := hSW.r3.cell 6; go_simp; try rfl)
            try simp only [Act.put, List.setIfInBounds_toArray, List.set_cons_zero, List.set_cons_succ]
            refine held_take 54 ?_ rfl (by kernel_rfl) (by kernel_rfl) (by kernel_rfl) (fun _ _ _ h => h) (by rfl) ?_ hSc ?_
            rotate_left
            · (intro W hSW; have l1 := hSW.r2.cell 1; have l3 := hSW.r2.cell 3; have l4 := hSW.r2.cell 4; have l5 := hSW.r2.cell 5; have l6 := hSW.r2.cell 6; have h1 := hSW.r3.cell 1; have h3 := hSW.r3.cell 3; have h4 := hSW.r3.cell 4; have h5 := hSW.r3.cell 5; have h6 := hSW.r3.cell 6; go_simp; try rfl)
            try simp only [Act.put, List.setIfInBounds_toArray, List.set_cons_zero, List.set_cons_succ]
            refine held_take 55 ?_ rfl (by kernel_rfl) (by kernel_rfl) (by kernel_rfl) (fun _ _ _ h => h) (by rfl) ?_ hSc ?_
            rotate_left
            · (intro W hSW; have l1 := hSW.r2.cell 1; have l3 := hSW.r2.cell 3; have l4 := hSW.r2.cell 4; have l5 := hSW.r2.cell 5; have l6 := hSW.r2.cell 6; have h1 := hSW.r3.cell 1; have h3 := hSW.r3.cell 3; have h4 := hSW.r3.cell 4; have h5 := hSW.r3.cell 5; have h6 := hSW.r3.cell 6; go_simp; try rfl)
            try simp only [Act.put, List.setIfInBounds_toArray, List.set_cons_zero, List.set_cons_succ]
            refine held_take 56 ?_ rfl (by kernel_rfl) (by kernel_rfl) (by kernel_rfl) (fun _ _ _ h => h) (by rfl) ?_ hSc ?_
            rotate_left
            · (intro W hSW; have l1 := hSW.r2.cell 1; have l3 := hSW.r2.cell 3; have l4 := hSW.r2.cell 4; have l5 := hSW.r2.cell 5; have l6 := hSW.r2.cell 6; have h1 := hSW.r3.cell 1; have h3 := hSW.r3.cell 3; have h4 := hSW.r3.cell 4; have h5 := hSW.r3.cell 5; have h6 := hSW.r3.cell 6; go_simp; try rfl)
            try simp only [Act.put, List.setIfInBounds_toArray, List.set_cons_zero, List.set_cons_succ]
            refine held_take 57 ?_ rfl (by kernel_rfl) (by kernel_rfl) (by kernel_rfl) (fun _ _ _ h => h) (by rfl) ?_ hSc ?_
            rotate_left
            · (intro W hSW; have l1 := hSW.r2.cell 1; have l3 := hSW.r2.cell 3; have l4 := hSW.r2.cell 4; have l5 := hSW.r2.cell 5; have l6 := hSW.r2.cell 6; have h1 := hSW.r3.cell 1; have h3 := hSW.r3.cell 3; have h4 := hSW.r3.cell 4; have h5 := hSW.r3.cell 5; have h6 := hSW.r3.cell 6; go_simp; try rfl)
            try simp only [Act.put, List.setIfInBounds_toArray, List.set_cons_zero, List.set_cons_succ]
            refine held_take 58 ?_ rfl (by kernel_rfl) (by kernel_rfl) (by kernel_rfl) (fun _ _ _ h => h) (by rfl) ?_ hSc ?_
            rotate_left
            · (intro W hSW; have l1 := hSW.r2.cell 1; have l3 := hSW.r2.cell 3; have l4 := hSW.r2.cell 4; have l5 := hSW.r2.cell 5; have l6 := hSW.r2.cell 6; have h1 := hSW.r3.cell 1; have h3 := hSW.r3.cell 3; have h4 := hSW.r3.cell 4; have h5 := hSW.r3.cell 5; have h6 := hSW.r3.cell 6; go_simp; try rfl)
            try simp only [Act.put, List.setIfInBounds_toArray, List.set_cons_zero, List.set_cons_succ]
            refine held_next 59 rfl (by kernel_rfl) (by rfl) ?_
            go_simp
            refine (HD.out.known _).mono ?_
            rintro e wq3 ⟨rfl, bz⟩
            have hSd : (fun W => Pa w1 W #[.int .i64 0, .int .i64 a, .int .i64 0, .int .i64 0, .int .i64 0, .int .i64 b, .int .i64 a] #[.int .i64 0, .int .i64 b, .int .i64 0, .int .i64 a, .int .i64 b, .int .i64 n, .int .i64 n]) wq3 := hSc.step bz
            refine ⟨fun W => Pa w1 W #[.int .i64 0, .int .i64 a, .int .i64 0, .int .i64 0, .int .i64 0, .int .i64 b, .int .i64 a] #[.int .i64 0, .int .i64 b, .int .i64 0, .int .i64 a, .int .i64 b, .int .i64 n, .int .i64 n], fun W hW => hW, hSd, ?_⟩
            clear hSc bz
            have hSc := hSd
            clear hSd
            try simp only [Act.put, List.setIfInBounds_toArray, List.set_cons_zero, List.set_cons_succ]
            refine held_take 60 ?_ rfl (by kernel_rfl) (by kernel_rfl) (by kernel_rfl) (fun _ _ _ h => h) (by rfl) ?_ hSc ?_
            rotate_left
            · (intro W hSW; have l1 := hSW.r2.cell 1; have l3 := hSW.r2.cell 3; have l4 := hSW.r2.cell 4; have l5 := hSW.r2.cell 5; have l6 := hSW.r2.cell 6; have h1 := hSW.r3.cell 1; have h3 := hSW.r3.cell 3; have h4 := hSW.r3.cell 4; have h5 := hSW.r3.cell 5; have h6 := hSW.r3.cell 6; go_simp; try rfl)
            try simp only [Act.put, List.setIfInBounds_toArray, List.set_cons_zero, List.set_cons_succ]
            refine held_take 61 ?_ rfl (by kernel_rfl) (by kernel_rfl) (by kernel_rfl) (fun _ _ _ h => h) (by rfl) ?_ hSc ?_
            rotate_left
            · (intro W hSW; have l1 := hSW.r2.cell 1; have l3 := hSW.r2.cell 3; have l4 := hSW.r2.cell 4; have l5 := hSW.r2.cell 5; have l6 := hSW.r2.cell 6; have h1 := hSW.r3.cell 1; have h3 := hSW.r3.cell 3; have h4 := hSW.r3.cell 4; have h5 := hSW.r3.cell 5; have h6 := hSW.r3.cell 6; go_simp; try rfl)
            try simp only [Act.put, List.setIfInBounds_toArray, List.set_cons_zero, List.set_cons_succ]
            refine wpAnyH_done (by kernel_rfl) ?_ _
            have HZ := Lib.hid hSc
            clear hSc
            go_wp2
            go_ret
            exact ⟨rfl, (HB1.out.step HZ.out.below).below⟩
      · have e2 : (E != 0) = true := by simp [h0]
        clear hE h0
        go_enter Try.func7, Try.ntmps7
        go_wp2_with (first
          | (go_at_call 9; refine (hgc _ (HG.out.step HW.out.below)).mono ?_; rintro e w1 ⟨rfl, hz⟩; have hz := hz.symm; subst hz)
          | (go_at_call 11; refine (hof _ (HG.out.step HW.out.below)).mono ?_; rintro e w1 ⟨p, rfl, -, -, b1⟩; have HB1 := Lib.hid (HW.out.step b1); clear b1 a2)
          | (go_at_call 10; refine (HD.out.known _).mono ?_; rintro e w9 ⟨rfl, b9⟩; have B9 := Lib.hid (HB1.out.step b9); clear b9))
        go_ret
        exact ⟨rfl, B9.out.below⟩
    · have d1 : decide ((70000 : Int) < (X.s.size : Int)) = true := decide_eq_true (by omega)
      clear hg hn hs
      go_enter Try.func7, Try.ntmps7
      go_wp2_with (first | (go_at_call 9; refine (hgc _ (HG.out.step HW.out.below)).mono ?_; rintro e w1 ⟨rfl, hz⟩; have hz := hz.symm; subst hz) | (go_at_call 10; refine (HD.out.known _).mono ?_; rintro e w9 ⟨rfl, b9⟩; have B9 := Lib.hid (HW.out.step b9); clear b9))
      go_ret
      exact ⟨rfl, B9.out.below⟩
end Go.Proofs.Ytjojhoaienjjeaa
/- Walks: dict.Of; a dictionary in memory. -/
namespace Go.Proofs.Ytjojhoaienjjeaa
open Go.RowKit
set_option linter.unusedVariables false

/-- A dictionary at a pointer: its kind, its rising values that may be. -/
structure DcM (W : World) (g : Nat) (A : Option Addr) (d : Nat) (k : Int) (l : List VV) : Prop where
  row : Row W g 46 #[.int .u8 k, .slice A l.length d]
  vals : GsV eV W 0 W.heap.size (.slice A l.length d) l
  up : rise l
  small : l.length ≤ 1000000000
  kind : k = 1 ∨ k = 2
  may : ∀ x ∈ l, mayW x = true ∧ x.k = k
def Dc (W : World) (p : Value) (k : Int) (l : List VV) : Prop := ∃ g A d, p = .pointer (some ⟨g, 0, none⟩) ∧ DcM W g A d k l
theorem DcM.step {W W' : World} {g : Nat} {A : Option Addr} {d : Nat} {k : Int} {l : List VV} (h : DcM W g A d k l) (b : Below W.heap.size W W') : DcM W' g A d k l :=
  ⟨h.row.below b h.row.lt, h.vals.step b, h.up, h.small, h.kind, h.may⟩
theorem DcM.at_ {W : World} {g : Nat} {A : Option Addr} {d : Nat} {k : Int} {l : List VV} (h : DcM W g A d k l) : DictAt W (.pointer (some ⟨g, 0, none⟩)) k (.slice A l.length d) := .inr ⟨g, rfl, h.row⟩
theorem Dc.step {W W' : World} {p : Value} {k : Int} {l : List VV} (h : Dc W p k l) (b : Below W.heap.size W W') : Dc W' p k l := by
  obtain ⟨g, A, d, e, m⟩ := h
  exact ⟨g, A, d, e, m.step b⟩
theorem any_all (l : List VV) : l.any (fun x => !mayW x) = !l.all mayW := by
  induction l with
  | nil => rfl
  | cons x r ih => rw [List.any_cons, List.all_cons, ih]; cases mayW x <;> simp
theorem any_kind (kind : Int) (l : List VV) : (dicV l).any (fun x => x.k != kind) = !l.all (fun x => decide (x.k = kind)) := by
  rw [Bool.eq_iff_iff, List.any_eq_true]
  simp only [Bool.not_eq_true', List.all_eq_false, bne_iff_ne, ne_eq, decide_eq_true_eq, dicV_mem]
theorem of_kind {kind : Int} {l : List VV} (h : kindI kind = false) : ofE kind l = 2 := by
  have := of_decide_eq_false h
  unfold ofE
  rw [if_pos (by omega)]
theorem of_may {kind : Int} {l : List VV} (h : l.all mayW = false) : ofE kind l = 2 := by
  unfold ofE
  split
  · rfl
  · rfl
theorem of_else {kind : Int} {l : List VV} (h : kindI kind = true) (hm : l.all mayW = true) : ofE kind l = if l.all (fun x => decide (x.k = kind)) = false then 9 else 0 := by
  have := of_decide_eq_true h
  unfold ofE
  rw [if_neg (by omega), if_neg (by rw [hm]; simp)]
set_option maxHeartbeats 4000000 in
set_option maxRecDepth 100000 in
theorem of_any (kind : Int) (A : Option Addr) (d : Nat) (l : List VV) (w : World) (hG : GsV eV w 0 w.heap.size (.slice A l.length d) l) (hn : l.length ≤ 1000) :
    Calls Try.prog 11 #[.int .u8 kind, .slice A l.length d] w fun e w' => ∃ p, e = .returned (.tuple #[p, .int .i64 (ofE kind l)]) ∧ (ofE kind l = 0 → Dc w' p kind (dicV l)) ∧ (ofE kind l ≠ 0 → p = .pointer none) ∧ Below w.heap.size w w' := by
  obtain ⟨W0, hW0⟩ : ∃ W0, W0 = w.alloc (.cells #[.int .u8 kind] 5) := ⟨_, rfl⟩
  have R0 := Lib.hid (show Row W0 w.heap.size 5 #[.int .u8 kind] by rw [hW0]; exact Row.new _ _ _)
  have B0 := Lib.hid (show Below w.heap.size w W0 by rw [hW0]; exact (Below.refl _ _).alloc (Nat.le_refl _) _)
  have G0 := Lib.hid (hG.step B0.out)
  have HN := Lib.hid hn
  have c0 := R0.out.cell 0
  have HK := Lib.hid (fun W => iskind_any kind W)
  have HM := Lib.hid (fun W (b : Below W0.heap.size W0 W) => anyV_any 27 #[] (fun x => !mayW x) A d l W (G0.out.step b) (enters_of Try.func27 (by kernel_rfl) rfl) (fun W X _ => maynot_any X W))
  have HD := Lib.hid (fun W (b : Below W0.heap.size W0 W) => distinct_any A d l W (G0.out.step b) (by omega))
  rw [any_all] at HM
  clear hG hn
  cases hk : kindI kind with
  | false =>
    have HE := Lib.hid (of_kind (l := l) hk)
    rw [hk] at HK
    clear hk
    generalize ofE kind l = E at HE ⊢
    go_enter Try.func11, Try.ntmps11
    go_wp2_with fail
    rw [← hW0]
    clear hW0
    go_wp2_with (go_at_call 25; refine (HK.out _).mono ?_; rintro e w1 ⟨rfl, b1⟩; have B1 := Lib.hid (B0.out.trans (b1.mono B0.out.size)); clear b1)
    go_ret2
    exact ⟨_, by rw [HE.out]; rfl, fun h => absurd (HE.out.symm.trans h) (by decide), fun _ => rfl, B1.out⟩
  | true =>
    rw [hk] at HK
    cases hm : l.all mayW with
    | false =>
      have HE := Lib.hid (of_may (kind := kind) hm)
      rw [hm] at HM
      clear hm hk
      generalize ofE kind l = E at HE ⊢
      go_enter Try.func11, Try.ntmps11
      go_wp2_with fail
      rw [← hW0]
      clear hW0
      go_wp2_with (first
        | (go_at_call 25; refine (HK.out _).mono ?_; rintro e w1 ⟨rfl, b1⟩; have B1 := Lib.hid b1; clear b1)
        | (go_at_call 26; refine (HM.out _ B1.out).mono ?_; rintro e w2 ⟨rfl, b2⟩; have B2 := Lib.hid (B0.out.trans ((B1.out.trans (b2.mono B1.out.size)).mono B0.out.size)); clear b2))
      go_ret2
      exact ⟨_, by rw [HE.out]; rfl, fun h => absurd (HE.out.symm.trans h) (by decide), fun _ => rfl, B2.out⟩
    | true =>
      have hE := of_else hk hm
      rw [hm] at HM
      have HMA := Lib.hid (show ∀ x ∈ dicV l, mayW x = true from fun x hx => List.all_eq_true.1 hm x ((dicV_mem l x).1 hx))
      have HKI := Lib.hid (show kind = 1 ∨ kind = 2 from of_decide_eq_true hk)
      have HML := Lib.hid (Nat.le_trans (dicV_len l) HN.out)
      have HMR := Lib.hid (dicV_rise l)
      have hak := any_kind kind l
      obtain ⟨Q, hQ⟩ : ∃ Q, l.all (fun x => decide (x.k = kind)) = Q := ⟨_, rfl⟩
      rw [hQ] at hE hak
      have HQ := Lib.hid hak
      obtain ⟨E, hEE⟩ : ∃ E, ofE kind l = E := ⟨_, rfl⟩
      rw [hEE] at hE ⊢
      have HE := Lib.hid hE
      clear hE hEE hk hm hQ hak
      generalize dicV l = m at *
      have gm : decide ((m.length : Int) > 16777216) = false := decide_eq_false (by have := HML.out; omega)
      cases Q with
      | false =>
        go_enter Try.func11, Try.ntmps11
        go_wp2_with fail
        rw [← hW0]
        clear hW0
        go_wp2_with (first
          | (go_at_call 25; refine (HK.out _).mono ?_; rintro e w1 ⟨rfl, b1⟩; have B1 := Lib.hid b1; clear b1)
          | (go_at_call 26; refine (HM.out _ B1.out).mono ?_; clear HM; rintro e w2 ⟨rfl, b2⟩; have B2 := Lib.hid (B1.out.trans (b2.mono B1.out.size)); clear b2)
          | (go_at_call 28; refine (HD.out _ B2.out).mono ?_; rintro e w3 ⟨A3, d3, rfl, g3, b3⟩; have B3 := Lib.hid (B2.out.trans (b3.mono B2.out.size)); have G3 := Lib.hid (g3.more (Nat.zero_le _) (Nat.le_refl _)); clear g3 b3; have R3 := Lib.hid (R0.out.below B3.out R0.out.lt); have HQC := Lib.hid (anyV_any 29 #[.pointer (some ⟨w.heap.size, 0, none⟩)] (fun x => x.k != kind) A3 d3 m w3 G3.out (enters_of Try.func29 (by kernel_rfl) rfl) (fun W X b => other_any X w.heap.size kind W ((b.cell (p := ⟨w.heap.size, 0, none⟩) R3.out.lt).trans (R3.out.cell 0)) (Nat.lt_of_lt_of_le R3.out.lt b.size))); rw [HQ.out] at HQC)
          | (go_at_call 26; refine HQC.out.mono ?_; rintro e w4 ⟨rfl, b4⟩; have B4 := Lib.hid (B3.out.trans (b4.mono B3.out.size)); clear b4))
        go_ret2
        exact ⟨_, by rw [HE.out]; rfl, fun h => absurd (HE.out.symm.trans h) (by decide), fun _ => rfl, B0.out.trans (B4.out.mono B0.out.size)⟩
      | true =>
        have HKK := Lib.hid (show ∀ x ∈ m, x.k = kind from fun x hx => by
          have h := HQ.out
          have h2 : m.any (fun x => x.k != kind) = false := h
          rw [List.any_eq_false] at h2
          have := h2 x hx
          simpa using this)
        go_enter Try.func11, Try.ntmps11
        go_wp2_with fail
        rw [← hW0]
        clear hW0
        go_wp2_with (first
          | (go_at_call 25; refine (HK.out _).mono ?_; rintro e w1 ⟨rfl, b1⟩; have B1 := Lib.hid b1; clear b1)
          | (go_at_call 26; refine (HM.out _ B1.out).mono ?_; clear HM; rintro e w2 ⟨rfl, b2⟩; have B2 := Lib.hid (B1.out.trans (b2.mono B1.out.size)); clear b2)
          | (go_at_call 28; refine (HD.out _ B2.out).mono ?_; rintro e w3 ⟨A3, d3, rfl, g3, b3⟩; have B3 := Lib.hid (B2.out.trans (b3.mono B2.out.size)); have G3 := Lib.hid (g3.more (Nat.zero_le _) (Nat.le_refl _)); clear g3 b3; have R3 := Lib.hid (R0.out.below B3.out R0.out.lt); have HQC := Lib.hid (anyV_any 29 #[.pointer (some ⟨w.heap.size, 0, none⟩)] (fun x => x.k != kind) A3 d3 m w3 G3.out (enters_of Try.func29 (by kernel_rfl) rfl) (fun W X b => other_any X w.heap.size kind W ((b.cell (p := ⟨w.heap.size, 0, none⟩) R3.out.lt).trans (R3.out.cell 0)) (Nat.lt_of_lt_of_le R3.out.lt b.size))); rw [HQ.out] at HQC)
          | (go_at_call 26; refine HQC.out.mono ?_; rintro e w4 ⟨rfl, b4⟩; have B4 := Lib.hid (B3.out.trans (b4.mono B3.out.size)); have G4 := Lib.hid (G3.out.step b4); clear b4))
        have HC := Lib.hid (fun W (b : Below w4.heap.size w4 W) => cloneV_any _ m 0 W (G4.out.step b) (by have := HML.out; omega))
        refine wp_region_all (S := fun W => Below w4.heap.size w4 W) (by kernel_rfl) (Below.refl _ _).drew (fun W5 hSc => ?_)
        refine held_take 0 ?_ rfl (by kernel_rfl) (by kernel_rfl) (by kernel_rfl) (fun _ _ _ h => h) (by rfl) ?_ hSc ?_
        rotate_left
        · (intro W hSW; have c5 := (R0.out.below (B4.out.trans (hSW.mono B4.out.size)) R0.out.lt).cell 0; go_simp; try rfl)
        try simp only [Act.put, List.setIfInBounds_toArray, List.set_cons_zero, List.set_cons_succ]
        refine held_take 1 ?_ rfl (by kernel_rfl) (by kernel_rfl) (by kernel_rfl) (fun _ _ _ h => h) (by rfl) ?_ hSc ?_
        rotate_left
        · (intro W hSW; go_simp; try rfl)
        try simp only [Act.put, List.setIfInBounds_toArray, List.set_cons_zero, List.set_cons_succ]
        refine held_next 2 rfl (by kernel_rfl) (by rfl) ?_
        go_simp
        refine (HC.out _ hSc).mono ?_
        rintro e w6 ⟨v6, rfl, o6, b6⟩
        have hSd : Below w4.heap.size w4 w6 := hSc.trans (b6.mono hSc.size)
        refine ⟨fun W => Below w4.heap.size w4 W, fun W hW => hW, hSd, ?_⟩
        have B6 := Lib.hid hSd
        have O6 := Lib.hid (o6.sl.more (Nat.zero_le _) (Nat.le_refl _))
        obtain ⟨A6, d6, rfl, -⟩ := o6.sl
        clear hSc b6 o6
        try simp only [Act.put, List.setIfInBounds_toArray, List.set_cons_zero, List.set_cons_succ]
        refine held_next 3 rfl (by kernel_rfl) (by rfl) ?_
        go_simp
        refine ⟨fun W => Below w4.heap.size w4 W, fun W hW => hW, hSd, ?_⟩
        try simp only [Act.put, List.setIfInBounds_toArray, List.set_cons_zero, List.set_cons_succ]
        refine held_next 4 rfl (by kernel_rfl) (by rfl) ?_
        go_simp
        refine ⟨fun W => Below w4.heap.size w4 W, fun W hW => hW, hSd.alloc hSd.size _, ?_⟩
        try simp only [Act.put, List.setIfInBounds_toArray, List.set_cons_zero, List.set_cons_succ]
        refine held_next 5 rfl (by kernel_rfl) (by rfl) ?_
        go_simp
        refine ⟨fun W => Below w4.heap.size w4 W, fun W hW => hW, hSd.alloc hSd.size _, ?_⟩
        try simp only [Act.put, List.setIfInBounds_toArray, List.set_cons_zero, List.set_cons_succ]
        refine held_next 6 rfl (by kernel_rfl) (by rfl) ?_
        go_simp
        refine ⟨fun W => Below w4.heap.size w4 W, fun W hW => hW, hSd.alloc hSd.size _, ?_⟩
        refine wpAnyH_done (by kernel_rfl) ?_ _
        go_wp2
        go_ret2
        refine ⟨_, by rw [HE.out]; rfl, fun _ => ⟨w6.heap.size, A6, d6, rfl, ⟨Row.new _ _ _, O6.out.step ((Below.refl _ _).alloc (Nat.le_refl _) _), HMR.out, by have := HML.out; omega, HKI.out, fun x hx => ⟨HMA.out x hx, HKK.out x hx⟩⟩⟩, fun h => absurd (HE.out.trans rfl) h, ?_⟩
        have bw := B0.out.trans (B4.out.mono B0.out.size)
        have bw6 := bw.trans (B6.out.mono bw.size)
        exact bw6.alloc bw6.size _
end Go.Proofs.Ytjojhoaienjjeaa
/- Walks: what is known of dictionaries; what the laws ask of the calls, for the landed ones. -/
namespace Go.Proofs.Ytjojhoaienjjeaa
open Go.RowKit
set_option linter.unusedVariables false

theorem dc_interval (W : World) (p : Value) (k : Int) (l : List VV) (cmp : Int) (X : VV) (h : Dc W p k l) : Calls Try.prog 16 #[p, .int .u8 cmp, vV X.k X.n X.s] W fun e w' => e = .returned (.tuple #[.int .i64 (intA k l cmp X).1, .int .i64 (intA k l cmp X).2.1, .int .i64 (intA k l cmp X).2.2]) ∧ Below W.heap.size W w' := by
  obtain ⟨g, A, d, rfl, m⟩ := h
  exact interval_any _ k A d l cmp X W m.at_ m.vals m.up m.small (by have := m.kind; omega)
theorem dc_find (W : World) (p : Value) (k : Int) (l : List VV) (X : VV) (h : Dc W p k l) : Calls Try.prog 18 #[p, vV X.k X.n X.s] W fun e w' => e = .returned (.tuple #[.int .i64 (fAt X l : Int), .bool (fHas X l)]) ∧ Below W.heap.size W w' := by
  obtain ⟨g, A, d, rfl, m⟩ := h
  have e := fAt_eq m.up X
  rw [e.1, e.2]
  exact find_any _ k A d l X W m.at_ m.vals m.up m.small
theorem dc_len (W : World) (p : Value) (k : Int) (l : List VV) (h : Dc W p k l) : Calls Try.prog 20 #[p] W fun e w' => e = .returned (.int .i64 (l.length : Int)) ∧ w' = W := by
  obtain ⟨g, A, d, rfl, m⟩ := h
  exact len_any _ k A _ d W m.at_
theorem dc_kind (W : World) (p : Value) (k : Int) (l : List VV) (h : Dc W p k l) : Calls Try.prog 21 #[p] W fun e w' => e = .returned (.int .u8 k) ∧ w' = W := by
  obtain ⟨g, A, d, rfl, m⟩ := h
  exact kind_any _ k _ W m.at_
/-- The values that are known, and what is made of them. -/
def kn : List VV := [⟨2, 0, ⟨#[98]⟩⟩, ⟨2, 0, ⟨#[97]⟩⟩, ⟨2, 0, ⟨#[98]⟩⟩]
def kd : List VV := [⟨2, 0, ⟨#[97]⟩⟩, ⟨2, 0, ⟨#[98]⟩⟩]
theorem kn_of : ofE 2 kn = 0 := by decide +kernel
theorem kn_dic : dicV kn = kd := by
  have h : (dicV kn).map (fun x => (x.k, x.n, bls x.s)) = kd.map (fun x => (x.k, x.n, bls x.s)) := by decide +kernel
  have inj : ∀ a b : List VV, a.map (fun x => (x.k, x.n, bls x.s)) = b.map (fun x => (x.k, x.n, bls x.s)) → a = b := by
    intro a
    induction a with
    | nil => intro b h; cases b with
      | nil => rfl
      | cons y r => simp at h
    | cons x r ih => intro b h; cases b with
      | nil => simp at h
      | cons y t =>
        simp only [List.map_cons, List.cons.injEq, Prod.mk.injEq] at h
        obtain ⟨⟨h1, h2, h3⟩, h4⟩ := h
        obtain ⟨k, n, s⟩ := x
        obtain ⟨k', n', s'⟩ := y
        simp only at h1 h2 h3
        rw [h1, h2, bls_inj h3, ih t h4]
  exact inj _ _ h
theorem kd_at : fAt ⟨2, 0, ⟨#[98]⟩⟩ kd = 1 ∧ fHas ⟨2, 0, ⟨#[98]⟩⟩ kd = true := by decide +kernel
theorem kd_int : intA 2 kd 6 ⟨2, 0, ⟨#[99]⟩⟩ = (2, 2, 0) := by decide +kernel
set_option maxHeartbeats 2000000 in
set_option maxRecDepth 100000 in
theorem known11_any (w : World) : Calls Try.prog 10 #[] w fun e w' => e = .returned (.bool true) ∧ Below w.heap.size w w' := by
  have hof := fun W h => of_any 2 (some ⟨w.heap.size, 0, none⟩) 3 kn W h (by decide)
  rw [kn_of, kn_dic] at hof
  have HO := Lib.hid hof
  clear hof
  have hi := fun W p h => dc_interval W p 2 kd 6 ⟨2, 0, ⟨#[99]⟩⟩ h
  rw [kd_int] at hi
  have hf := fun W p h => dc_find W p 2 kd ⟨2, 0, ⟨#[98]⟩⟩ h
  rw [kd_at.1, kd_at.2] at hf
  have hl := fun W p h => dc_len W p 2 kd h
  have HI := Lib.hid hi
  have HF := Lib.hid hf
  have HL := Lib.hid hl
  clear hi hf hl
  have G := Lib.hid (GwV.lit (k := eV) w w.heap.size (Nat.le_refl _) kn #[.int .u8 2, .int .i64 0, .string ⟨#[98]⟩, .int .u8 2, .int .i64 0, .string ⟨#[97]⟩, .int .u8 2, .int .i64 0, .string ⟨#[98]⟩] 3 (by rfl) rfl (by omega))
  go_enter Try.func10, Try.ntmps10
  go_wp2_with (first
    | (go_at_call 11; refine (HO.out _ (G.out.sl.more (Nat.zero_le _) (Nat.le_refl _))).mono ?_; rintro e w1 ⟨p, rfl, hd, -, b1⟩; have D1 := Lib.hid (hd rfl); have B1 := Lib.hid (((Below.refl w.heap.size w).alloc (Nat.le_refl _) _).trans (b1.mono (by simp))); clear b1 hd; obtain ⟨g, A, d, hp, -⟩ := D1.out; subst hp)
    | (go_at_call 20; refine (HL.out _ _ D1.out).mono ?_; rintro e w2 ⟨rfl, hz⟩; have hz := hz.symm; subst hz)
    | (go_at_call 18; refine (HF.out _ _ D1.out).mono ?_; rintro e w3 ⟨rfl, b3⟩; have D3 := Lib.hid (D1.out.step b3); have B3 := Lib.hid (B1.out.trans (b3.mono B1.out.size)); clear b3)
    | (go_at_call 16; refine (HI.out _ _ D3.out).mono ?_; rintro e w4 ⟨rfl, b4⟩; have B4 := Lib.hid (B3.out.trans (b4.mono B3.out.size)); clear b4))
  go_ret
  exact ⟨rfl, B4.out⟩
theorem dictC : DictC Dc where
  step h b := h.step b
  of kind A d l W hG hn := of_any kind A d l W hG (by omega)
  interval W p k l cmp X h _ := dc_interval W p k l cmp X h
  find W p k l X h _ := dc_find W p k l X h
  known W := known11_any W
theorem dictL : DictL Dc where
  there h := by obtain ⟨g, A, d, e, -⟩ := h; exact ⟨_, e⟩
  small h := by obtain ⟨g, A, d, -, m⟩ := h; have := m.small; omega
  len W p k l h := (dc_len W p k l h).mono fun _ w' ⟨he, hw⟩ => ⟨he, hw ▸ Below.refl _ _⟩
end Go.Proofs.Ytjojhoaienjjeaa
namespace Go.Proofs.Ytjojhoaienjjeaa
open Go.RowKit
set_option linter.unusedVariables false

theorem mayW_small {x : VV} (h : mayW x = true) : x.s.size ≤ 1000000 := by
  unfold mayW mayV at h
  split at h
  · have h2 := bls_len x.s
    cases hb : bls x.s with
    | nil => rw [hb] at h2; simp at h2; omega
    | cons a r => rw [hb] at h; simp at h
  · split at h
    · rw [Bool.and_eq_true, decide_eq_true_eq, decide_eq_true_eq, bls_len] at h; omega
    · cases h
set_option maxHeartbeats 4000000 in
set_option maxRecDepth 100000 in
theorem bytes_at (K : UInt8) (k : Int) (hk : (K.toNat : Int) = k) (g : Nat) (A : Option Addr) (d : Nat) (l : List VV) (w : World) (hD : DcM w g A d k l) (hn : l.length ≤ 100000) (hc : (catV l).length ≤ 500000000) :
    Calls Try.prog 22 #[.pointer (some ⟨g, 0, none⟩)] w fun e w' => ∃ v', e = .returned v' ∧ Gw e8 w' w.heap.size v' (dB K l) ∧ Below w.heap.size w w' := by
  have hw : IntKind.u32.wrap (l.length : Int) = (l.length : Int) := by rw [IntKind.wrap_u32]; omega
  have HD := Lib.hid hD
  have HM := Lib.hid (show ∀ x ∈ l, mayW x = true from fun x hx => (hD.may x hx).1)
  have HC := Lib.hid hc
  have HN := Lib.hid hn
  have HK := Lib.hid (fun W (b : Below w.heap.size w W) => kind_any _ k _ W (hD.step b).at_)
  have e0 : (k == 0) = false := by have := hD.kind; simp; omega
  subst hk
  clear hD hc
  go_enter Try.func22, Try.ntmps22
  go_wp2_with (go_at_call 21; refine (HK.out _ (Below.refl _ _)).mono ?_; rintro e w1 ⟨rfl, hz⟩; have hz := hz.symm; subst hz)
  have hSc := (Below.refl w.heap.size w).drew
  refine wp_region_all (S := fun W => Below w.heap.size w W) (by kernel_rfl) hSc (fun W0 hSc => ?_)
  refine held_take 0 ?_ rfl (by kernel_rfl) (by kernel_rfl) (by kernel_rfl) (fun _ _ _ h => h) (by rfl) ?_ hSc ?_
  rotate_left
  · (intro W hSW; have c0 := (HD.out.row.below hSW HD.out.row.lt).cell 0; go_simp; try rfl)
  try simp only [Act.put, List.setIfInBounds_toArray, List.set_cons_zero, List.set_cons_succ]
  refine held_take 1 ?_ rfl (by kernel_rfl) (by kernel_rfl) (by kernel_rfl) (fun _ _ _ h => h) (by rfl) ?_ hSc ?_
  rotate_left
  · (intro W hSW; have c0 := (HD.out.row.below hSW HD.out.row.lt).cell 0; go_simp; try rfl)
  try simp only [Act.put, List.setIfInBounds_toArray, List.set_cons_zero, List.set_cons_succ]
  refine held_take 2 ?_ rfl (by kernel_rfl) (by kernel_rfl) (by kernel_rfl) (fun _ _ _ h => h) (by rfl) ?_ hSc ?_
  rotate_left
  · (intro W hSW; have c0 := (HD.out.row.below hSW HD.out.row.lt).cell 0; go_simp; try rfl)
  try simp only [Act.put, List.setIfInBounds_toArray, List.set_cons_zero, List.set_cons_succ]
  refine held_take 3 ?_ rfl (by kernel_rfl) (by kernel_rfl) (by kernel_rfl) (fun _ _ _ h => h) (by rfl) ?_ hSc ?_
  rotate_left
  · (intro W hSW; have c0 := (HD.out.row.below hSW HD.out.row.lt).cell 0; go_simp; try rfl)
  try simp only [Act.put, List.setIfInBounds_toArray, List.set_cons_zero, List.set_cons_succ]
  refine held_take 5 ?_ rfl (by kernel_rfl) (by kernel_rfl) (by kernel_rfl) (fun _ _ _ h => h) (by rfl) ?_ hSc ?_
  rotate_left
  · (intro W hSW; have c0 := (HD.out.row.below hSW HD.out.row.lt).cell 0; go_simp; try rfl)
  try simp only [Act.put, List.setIfInBounds_toArray, List.set_cons_zero, List.set_cons_succ]
  refine held_two 4 6 rfl rfl (by kernel_rfl) (by rfl) (by rfl) ?_ ?_
  · go_simp
    refine ⟨fun W => Below w.heap.size w W, fun W hW => hW, hSc.alloc hSc.size _, ?_⟩
    try simp only [Act.put, List.setIfInBounds_toArray, List.set_cons_zero, List.set_cons_succ]
    refine held_next 6 rfl (by kernel_rfl) (by rfl) ?_
    go_simp
    refine (len_any _ _ A l.length d _ ((HD.out.step (hSc.alloc hSc.size _)).at_)).mono ?_
    rintro e _ ⟨rfl, rfl⟩
    refine ⟨fun W => Below w.heap.size w W, fun W hW => hW, hSc.alloc hSc.size _, ?_⟩
    try simp only [Act.put, List.setIfInBounds_toArray, List.set_cons_zero, List.set_cons_succ]
    have hSa := hSc.alloc hSc.size (.cells #[.int .u8 (K.toNat : Int)] e8.E)
    refine held_next 7 rfl (by kernel_rfl) (by rfl) ?_
    go_simp
    refine ⟨fun W => Below w.heap.size w W, fun W hW => hW, hSa, ?_⟩
    try simp only [Act.put, List.setIfInBounds_toArray, List.set_cons_zero, List.set_cons_succ]
    refine held_next 8 rfl (by kernel_rfl) (by rfl) ?_
    go_simp
    have O1 := Lib.hid (Gw.lit (k := e8) W0 w.heap.size hSc.size [K] #[.int .u8 (K.toNat : Int)] 1 (by rfl) rfl (by omega))
    refine (appendU32_any _ [K] w.heap.size l.length _ O1.out.sl (by have := HN.out; omega) (by simp)).mono ?_
    rintro e w2 ⟨v2, rfl, o2, b2⟩
    have hSe : Below w.heap.size w w2 := hSa.trans (b2.mono hSa.size)
    refine ⟨fun W => Below w.heap.size w W, fun W hW => hW, hSe, ?_⟩
    try simp only [Act.put, List.setIfInBounds_toArray, List.set_cons_zero, List.set_cons_succ]
    refine held_next 9 rfl (by kernel_rfl) (by rfl) ?_
    go_simp
    refine ⟨fun W => Below w.heap.size w W, fun W hW => hW, hSe, ?_⟩
    refine wpAnyH_done (by kernel_rfl) ?_ _
    have B2 := Lib.hid hSe
    have D2 := Lib.hid (HD.out.step hSe)
    have O2 := Lib.hid (o2.more hSa.size)
    have c1 := D2.out.row.cell 1
    clear hSc hSa hSe o2 b2 O1
    go_wp2
    go_loopw [3, 23] (fun v i wr => ∃ j : Nat, i = .int .i64 j ∧ j ≤ l.length ∧ Gw e8 wr w.heap.size v (([K] ++ le 4 l.length) ++ catV (l.take j)) ∧ Below w.heap.size w wr) (fun _ i _ => l.length - (intOf i).toNat)
    case atStart => exact ⟨0, rfl, Nat.zero_le _, by rw [← dB_nil]; exact O2.out, B2.out⟩
    case round =>
      obtain ⟨j, rfl, hj, ho, hB⟩ := hrel
      have HO := Lib.hid ho
      have HB := Lib.hid hB
      clear ho hB
      by_cases hlt : j < l.length
      · skip
        have hG := HD.out.vals.below HB.out
        obtain ⟨b, boff, bc', e, -, -, -, bw, hc⟩ := hG.form (fun e => by have h := congrArg List.length e; simp only [List.length_nil] at h; omega)
        injection e with e1 e2 e3
        clear e2
        subst e1 e3
        obtain ⟨Y, hY⟩ : ∃ Y, l[j]? = some Y := ⟨_, List.getElem?_eq_getElem (by omega)⟩
        have q0 := vcell0 (hc j Y hY)
        have q1 := vcell1 (hc j Y hY)
        have q2 := vcell2 (hc j Y hY)
        have HY := Lib.hid hY
        clear hc hG hY c1
        have hlen : (([K] ++ le 4 l.length) ++ catV (l.take j)).length + Y.by.length ≤ 1000000000 := by
          have h1 := cat_le l (j + 1)
          rw [catV_take HY.out, List.length_append] at h1
          have := HC.out
          rw [List.length_append, List.length_append, le_length]
          simp only [List.length_cons, List.length_nil]
          omega
        have HLEN := Lib.hid hlen
        have HYS := Lib.hid (mayW_small (HM.out Y (List.mem_of_getElem? HY.out)))
        clear hlen
        have hBw := HB.out
        go_wp2_with (first
          | (go_at_call 41; refine (append_any _ [] 0 Y.k Y.n Y.s _ (Sl.nil_ _ _ _) (by simp) HYS.out).mono ?_; rintro e w3 ⟨v3, rfl, o3, b3⟩; have O3 := Lib.hid o3; have A3 := Lib.hid (((Below.refl wr.heap.size wr).alloc (Nat.le_refl _) _).trans (b3.mono (by simp))); have P3 := Lib.hid (HO.out.below A3.out (Nat.le_refl _)); clear o3 b3)
          | (at_builtin; refine wpList_gapp e8 _ rfl _ _ _ rfl w.heap.size sli8 inf8 _ (([K] ++ le 4 l.length) ++ catV (l.take j)) rfl P3.out _ _ _ Y.by rfl O3.out.sl HLEN.out (Nat.le_trans HB.out.size A3.out.size) ?_; intro v4 w4 o4 g4 _; have O4 := Lib.hid o4; have B4 := Lib.hid (HB.out.trans ((A3.out.mono HB.out.size).grown g4 (Nat.le_trans HB.out.size A3.out.size) (fun k h => (P3.out.lt k h).1))); clear o4 g4))
        go_roundw
        case rel => exact ⟨j + 1, by go_num, by omega, by rw [catV_take HY.out, ← List.append_assoc]; exact O4.out, B4.out⟩
        case measure => simp [intOf]; omega
      · have ej : j = l.length := by omega
        have ho := HO.out
        rw [ej, List.take_length] at ho
        have HO2 := Lib.hid ho
        clear ho ej hj HO
        go_wp2
        go_ret
        exact ⟨_, rfl, HO2.out, HB.out⟩

  · go_simp
    refine (len_any _ _ A l.length d _ ((HD.out.step hSc).at_)).mono ?_
    rintro e w9 ⟨rfl, hz⟩
    have hz := hz.symm
    subst hz
    refine ⟨fun W => Below w.heap.size w W, fun W hW => hW, hSc, ?_⟩
    try simp only [Act.put, List.setIfInBounds_toArray, List.set_cons_zero, List.set_cons_succ]
    refine held_take 7 ?_ rfl (by kernel_rfl) (by kernel_rfl) (by kernel_rfl) (fun _ _ _ h => h) (by rfl) ?_ hSc ?_
    rotate_left
    · (intro W hSW; go_simp; try rfl)
    try simp only [Act.put, List.setIfInBounds_toArray, List.set_cons_zero, List.set_cons_succ]
    refine held_next 4 rfl (by kernel_rfl) (by rfl) ?_
    go_simp
    refine ⟨fun W => Below w.heap.size w W, fun W hW => hW, hSc.alloc hSc.size _, ?_⟩
    try simp only [Act.put, List.setIfInBounds_toArray, List.set_cons_zero, List.set_cons_succ]
    have hSa := hSc.alloc hSc.size (.cells #[.int .u8 (K.toNat : Int)] e8.E)
    try simp only [Act.put, List.setIfInBounds_toArray, List.set_cons_zero, List.set_cons_succ]
    refine held_next 8 rfl (by kernel_rfl) (by rfl) ?_
    go_simp
    have O1 := Lib.hid (Gw.lit (k := e8) W0 w.heap.size hSc.size [K] #[.int .u8 (K.toNat : Int)] 1 (by rfl) rfl (by omega))
    refine (appendU32_any _ [K] w.heap.size l.length _ O1.out.sl (by have := HN.out; omega) (by simp)).mono ?_
    rintro e w2 ⟨v2, rfl, o2, b2⟩
    have hSe : Below w.heap.size w w2 := hSa.trans (b2.mono hSa.size)
    refine ⟨fun W => Below w.heap.size w W, fun W hW => hW, hSe, ?_⟩
    try simp only [Act.put, List.setIfInBounds_toArray, List.set_cons_zero, List.set_cons_succ]
    refine held_next 9 rfl (by kernel_rfl) (by rfl) ?_
    go_simp
    refine ⟨fun W => Below w.heap.size w W, fun W hW => hW, hSe, ?_⟩
    refine wpAnyH_done (by kernel_rfl) ?_ _
    have B2 := Lib.hid hSe
    have D2 := Lib.hid (HD.out.step hSe)
    have O2 := Lib.hid (o2.more hSa.size)
    have c1 := D2.out.row.cell 1
    clear hSc hSa hSe o2 b2 O1
    go_wp2
    go_loopw [3, 23] (fun v i wr => ∃ j : Nat, i = .int .i64 j ∧ j ≤ l.length ∧ Gw e8 wr w.heap.size v (([K] ++ le 4 l.length) ++ catV (l.take j)) ∧ Below w.heap.size w wr) (fun _ i _ => l.length - (intOf i).toNat)
    case atStart => exact ⟨0, rfl, Nat.zero_le _, by rw [← dB_nil]; exact O2.out, B2.out⟩
    case round =>
      obtain ⟨j, rfl, hj, ho, hB⟩ := hrel
      have HO := Lib.hid ho
      have HB := Lib.hid hB
      clear ho hB
      by_cases hlt : j < l.length
      · skip
        have hG := HD.out.vals.below HB.out
        obtain ⟨b, boff, bc', e, -, -, -, bw, hc⟩ := hG.form (fun e => by have h := congrArg List.length e; simp only [List.length_nil] at h; omega)
        injection e with e1 e2 e3
        clear e2
        subst e1 e3
        obtain ⟨Y, hY⟩ : ∃ Y, l[j]? = some Y := ⟨_, List.getElem?_eq_getElem (by omega)⟩
        have q0 := vcell0 (hc j Y hY)
        have q1 := vcell1 (hc j Y hY)
        have q2 := vcell2 (hc j Y hY)
        have HY := Lib.hid hY
        clear hc hG hY c1
        have hlen : (([K] ++ le 4 l.length) ++ catV (l.take j)).length + Y.by.length ≤ 1000000000 := by
          have h1 := cat_le l (j + 1)
          rw [catV_take HY.out, List.length_append] at h1
          have := HC.out
          rw [List.length_append, List.length_append, le_length]
          simp only [List.length_cons, List.length_nil]
          omega
        have HLEN := Lib.hid hlen
        have HYS := Lib.hid (mayW_small (HM.out Y (List.mem_of_getElem? HY.out)))
        clear hlen
        have hBw := HB.out
        go_wp2_with (first
          | (go_at_call 41; refine (append_any _ [] 0 Y.k Y.n Y.s _ (Sl.nil_ _ _ _) (by simp) HYS.out).mono ?_; rintro e w3 ⟨v3, rfl, o3, b3⟩; have O3 := Lib.hid o3; have A3 := Lib.hid (((Below.refl wr.heap.size wr).alloc (Nat.le_refl _) _).trans (b3.mono (by simp))); have P3 := Lib.hid (HO.out.below A3.out (Nat.le_refl _)); clear o3 b3)
          | (at_builtin; refine wpList_gapp e8 _ rfl _ _ _ rfl w.heap.size sli8 inf8 _ (([K] ++ le 4 l.length) ++ catV (l.take j)) rfl P3.out _ _ _ Y.by rfl O3.out.sl HLEN.out (Nat.le_trans HB.out.size A3.out.size) ?_; intro v4 w4 o4 g4 _; have O4 := Lib.hid o4; have B4 := Lib.hid (HB.out.trans ((A3.out.mono HB.out.size).grown g4 (Nat.le_trans HB.out.size A3.out.size) (fun k h => (P3.out.lt k h).1))); clear o4 g4))
        go_roundw
        case rel => exact ⟨j + 1, by go_num, by omega, by rw [catV_take HY.out, ← List.append_assoc]; exact O4.out, B4.out⟩
        case measure => simp [intOf]; omega
      · have ej : j = l.length := by omega
        have ho := HO.out
        rw [ej, List.take_length] at ho
        have HO2 := Lib.hid ho
        clear ho ej hj HO
        go_wp2
        go_ret
        exact ⟨_, rfl, HO2.out, HB.out⟩


end Go.Proofs.Ytjojhoaienjjeaa
