/- Proved of WordsAlgebra: whatever its arguments. -/
import Derived.Test.YtgegpbchjkfdkaaDoorE8
import Derived.Test.YtgegpbchjkfdkaaDoorRg
namespace Go.Proofs.YtgegpbchjkfdkaaDoor
open Go.RowKit
set_option linter.unusedVariables false

/-- Both, either, the first one alone, just one. -/
def fs : Nat → Bool → Bool → Bool
  | 0 => fAnd
  | 1 => fOr
  | 2 => fNot
  | _ => fXor
theorem both_all (k : Nat) (hk : k < 4) (ga gb : Nat) (p q : Nat → Bool) (w : World) (ha : Row w ga 55 (mA 65536 p)) (hb : Row w gb 55 (mA 65536 q)) :
    Calls Tryd.prog 29 #[.pointer (some ⟨ga, 0, none⟩), .pointer (some ⟨gb, 0, none⟩), .int .i64 ((k : Int) + 1)] w fun e w' => e = .returned (.pointer (some ⟨w.heap.size, 0, none⟩)) ∧ Row w' w.heap.size 55 (mA 65536 fun i => fs k (p i) (q i)) ∧ Below w.heap.size w w' := by
  match k, hk with
  | 0, _ => exact both_and ga gb p q w ha hb
  | 1, _ => exact both_or ga gb p q w ha hb
  | 2, _ => exact both_not ga gb p q w ha hb
  | 3, _ => exact both_xor ga gb p q w ha hb
/-- Six numbers in a row, the last one for ever. -/
def f6 (a b c d e f : Nat) : Nat → Nat
  | 0 => a
  | 1 => b
  | 2 => c
  | 3 => d
  | 4 => e
  | _ => f
theorem f6_mono {a b c d e f : Nat} (h1 : a ≤ b) (h2 : b ≤ c) (h3 : c ≤ d) (h4 : d ≤ e) (h5 : e ≤ f) : ∀ i j, i ≤ j → f6 a b c d e f i ≤ f6 a b c d e f j := by
  have st : ∀ i, f6 a b c d e f i ≤ f6 a b c d e f (i + 1) := by
    intro i
    match i with
    | 0 => exact h1
    | 1 => exact h2
    | 2 => exact h3
    | 3 => exact h4
    | 4 => exact h5
    | n + 5 => exact Nat.le_refl _
  intro i j hij
  obtain ⟨n, rfl⟩ := Nat.le.dest hij
  clear hij
  induction n with
  | zero => exact Nat.le_refl _
  | succ n ih => exact Nat.le_trans ih (st _)
/-- Five values. -/
def v5 (a b c d e : Value) : Nat → Value
  | 0 => a
  | 1 => b
  | 2 => c
  | 3 => d
  | _ => e
theorem arr5 (a b c d e : Value) {k : Nat} (hk : k < 5) : (#[a, b, c, d, e] : Array Value)[k]? = some (v5 a b c d e k) := by
  match k, hk with
  | 0, _ => rfl
  | 1, _ => rfl
  | 2, _ => rfl
  | 3, _ => rfl
  | 4, _ => rfl
/-- What the five calls tell. -/
def q5 (p r : Nat → Bool) (lo hi : Int) (i x : Nat) : Bool := if i < 4 then fs i (p x) (r x) else flp p lo hi x
def Rem5 (bs : Nat → Nat) (sl : Nat → Value) (q : Nat → Nat → Bool) (k : Nat) (wr : World) : Prop := ∀ i, k ≤ i → i < 5 → Gw e64 wr (bs i) (sl i) (wm (q i))
theorem Rem5.below {bs : Nat → Nat} {sl : Nat → Value} {q : Nat → Nat → Bool} {k : Nat} {wr wr' : World} (h : Rem5 bs sl q k wr) (hb : Below wr.heap.size wr wr') : Rem5 bs sl q k wr' := fun i h1 h2 => (h i h1 h2).below hb (Nat.le_refl _)
theorem Rem5.grown {bs : Nat → Nat} {sl : Nat → Value} {q : Nat → Nat → Bool} {k : Nat} {wr wr' : World} {row : Option Nat} (h : Rem5 bs sl q k wr) (hg : wr.grownBy wr' row) (hr : ∀ j, row = some j → j < bs (k + 1)) (hm : ∀ i j, i ≤ j → bs i ≤ bs j) : Rem5 bs sl q (k + 1) wr' :=
  fun i h1 h2 => (h i (by omega) h2).kept hg fun j hj e => by
    have := hr j e
    have := ((h i (by omega) h2).lt j hj).1
    have := hm (k + 1) i h1
    omega
theorem gw_form {w : World} {base : Nat} {v : Value} {p : Nat → Bool} (h : Gw e64 w base v (wm p)) : ∃ b c, v = .slice (some ⟨b, 0, none⟩) 1024 c := by
  have hne : wm p ≠ [] := by
    intro e
    have h2 := congrArg List.length e
    rw [wm_length, List.length_nil] at h2
    omega
  obtain ⟨b, c, e, -⟩ := h.form hne
  exact ⟨b, c, by rw [e, wm_length]⟩
theorem told_g {f : FuncId} {args : Array Value} {W : World} {p : Nat → Bool} (h : Calls Tryd.prog f args W fun e w' => ∃ v', e = .returned v' ∧ Gw e64 w' W.heap.size v' (wm p) ∧ Below W.heap.size W w') :
    Calls Tryd.prog f args W fun e w' => ∃ b c, e = .returned (.slice (some ⟨b, 0, none⟩) 1024 c) ∧ Gw e64 w' W.heap.size (.slice (some ⟨b, 0, none⟩) 1024 c) (wm p) ∧ Below W.heap.size W w' :=
  h.mono fun e w' ⟨v', h1, h2, h3⟩ => by
    obtain ⟨b, c, rfl⟩ := gw_form h2
    exact ⟨b, c, h1, h2, h3⟩
theorem wand_g (v u : Value) (p q : Nat → Bool) (w : World) (hv : Gs e64 w 0 w.heap.size v (wm p)) (hu : Gs e64 w 0 w.heap.size u (wm q)) :
    Calls Tryd.prog 24 #[v, u] w fun e w' => ∃ b c, e = .returned (.slice (some ⟨b, 0, none⟩) 1024 c) ∧ Gw e64 w' w.heap.size (.slice (some ⟨b, 0, none⟩) 1024 c) (wm fun x => fAnd (p x) (q x)) ∧ Below w.heap.size w w' := by
  have h := wand_any v u _ _ 0 w hv hu
  rw [mix_wb fAnd p q] at h
  exact told_g h
theorem wor_g (v u : Value) (p q : Nat → Bool) (w : World) (hv : Gs e64 w 0 w.heap.size v (wm p)) (hu : Gs e64 w 0 w.heap.size u (wm q)) :
    Calls Tryd.prog 26 #[v, u] w fun e w' => ∃ b c, e = .returned (.slice (some ⟨b, 0, none⟩) 1024 c) ∧ Gw e64 w' w.heap.size (.slice (some ⟨b, 0, none⟩) 1024 c) (wm fun x => fOr (p x) (q x)) ∧ Below w.heap.size w w' := by
  have h := wor_any v u _ _ 0 w hv hu
  rw [mix_wb fOr p q] at h
  exact told_g h
theorem wnot_g (v u : Value) (p q : Nat → Bool) (w : World) (hv : Gs e64 w 0 w.heap.size v (wm p)) (hu : Gs e64 w 0 w.heap.size u (wm q)) :
    Calls Tryd.prog 27 #[v, u] w fun e w' => ∃ b c, e = .returned (.slice (some ⟨b, 0, none⟩) 1024 c) ∧ Gw e64 w' w.heap.size (.slice (some ⟨b, 0, none⟩) 1024 c) (wm fun x => fNot (p x) (q x)) ∧ Below w.heap.size w w' := by
  have h := wnot_any v u _ _ 0 w hv hu
  rw [mix_wb fNot p q] at h
  exact told_g h
theorem wxor_g (v u : Value) (p q : Nat → Bool) (w : World) (hv : Gs e64 w 0 w.heap.size v (wm p)) (hu : Gs e64 w 0 w.heap.size u (wm q)) :
    Calls Tryd.prog 25 #[v, u] w fun e w' => ∃ b c, e = .returned (.slice (some ⟨b, 0, none⟩) 1024 c) ∧ Gw e64 w' w.heap.size (.slice (some ⟨b, 0, none⟩) 1024 c) (wm fun x => fXor (p x) (q x)) ∧ Below w.heap.size w w' := by
  have h := wxor_any v u _ _ 0 w hv hu
  rw [mix_wb fXor p q] at h
  exact told_g h
theorem wflip_g (v : Value) (p : Nat → Bool) (lo hi : Int) (w : World) (hv : Gs e64 w 0 w.heap.size v (wm p)) :
    Calls Tryd.prog 23 #[v, .int .i64 lo, .int .i64 hi] w fun e w' => ∃ b c, e = .returned (.slice (some ⟨b, 0, none⟩) 1024 c) ∧ Gw e64 w' w.heap.size (.slice (some ⟨b, 0, none⟩) 1024 c) (wm (flp p lo hi)) ∧ Below w.heap.size w w' := by
  have h := wflip_any v _ 0 lo hi w hv
  rw [flp_wb] at h
  exact told_g h
theorem mof_p (v : Value) (l : List UInt16) (w : World) (hv : Gs e16 w 0 w.heap.size v l) (hb : l.length ≤ 3000) :
    Calls Tryd.prog 10 #[v] w fun e w' => ∃ g, e = .returned (.pointer (some ⟨g, 0, none⟩)) ∧ Row w' g 55 (mA 65536 (mk l)) ∧ Below w.heap.size w w' :=
  (of_any v l 0 w hv (by omega)).mono fun e w' ⟨h1, h2, h3⟩ => ⟨_, h1, h2, h3⟩
theorem mflip_p (g : Nat) (p : Nat → Bool) (lo hi : Int) (w : World) (h : Row w g 55 (mA 65536 p)) :
    Calls Tryd.prog 28 #[.pointer (some ⟨g, 0, none⟩), .int .i64 lo, .int .i64 hi] w fun e w' => ∃ g', e = .returned (.pointer (some ⟨g', 0, none⟩)) ∧ Row w' g' 55 (mA 65536 (flp p lo hi)) ∧ Below w.heap.size w w' :=
  (refFlip_any g p lo hi w h).mono fun e w' ⟨h1, h2, h3⟩ => ⟨_, h1, h2, h3⟩
theorem mboth_p (k : Nat) (hk : k < 4) (ga gb : Nat) (p q : Nat → Bool) (w : World) (ha : Row w ga 55 (mA 65536 p)) (hb : Row w gb 55 (mA 65536 q)) :
    Calls Tryd.prog 29 #[.pointer (some ⟨ga, 0, none⟩), .pointer (some ⟨gb, 0, none⟩), .int .i64 ((k : Int) + 1)] w fun e w' => ∃ g', e = .returned (.pointer (some ⟨g', 0, none⟩)) ∧ Row w' g' 55 (mA 65536 fun i => fs k (p i) (q i)) ∧ Below w.heap.size w w' :=
  (both_all k hk ga gb p q w ha hb).mono fun e w' ⟨h1, h2, h3⟩ => ⟨_, h1, h2, h3⟩
theorem mwords_p (g : Nat) (p : Nat → Bool) (w : World) (h : Row w g 55 (mA 65536 p)) :
    Calls Tryd.prog 13 #[.pointer (some ⟨g, 0, none⟩)] w fun e w' => ∃ A c, e = .returned (.slice A 1024 c) ∧ Gs e64 w' 0 w'.heap.size (.slice A 1024 c) (wm p) ∧ Below w.heap.size w w' := by
  refine (refWords_any g p w h).mono ?_
  rintro e w' ⟨v', rfl, o, b⟩
  obtain ⟨A, c, rfl⟩ := gw_wm o
  exact ⟨A, c, rfl, o.sl.more (Nat.zero_le _) (Nat.le_refl _), b⟩
theorem Row.step {w w' : World} {g : Nat} {t : TypeId} {cs : Array Value} (h : Row w g t cs) (b : Below w.heap.size w w') : Row w' g t cs := h.below b h.lt

set_option maxHeartbeats 400000 in
theorem wg_long (a0 a1 : Option Addr) (len0 cap0 len1 cap1 : Nat) (lo hi : Int) (w : World) (hT : Tb w) (h : 3000 < len0) (h2 : len0 ≤ 9223372036854775807) :
    Calls Tryd.prog 4 #[.slice a0 len0 cap0, .slice a1 len1 cap1, .int .i64 lo, .int .i64 hi] w fun e w' => e = .returned (.bool true) ∧ Below w.heap.size w w' := by
  have hi' : (3000 : Int) < len0 := by omega
  clear h
  go_enter Tryd.func4, Tryd.ntmps4
  go_wp2_with (go_at_call 8; refine (known_p _ hT).mono ?_; rintro e w1 ⟨rfl, b1⟩)
  go_ret
  exact ⟨rfl, b1⟩
set_option maxHeartbeats 400000 in
theorem wg_long2 (a0 a1 : Option Addr) (len0 cap0 len1 cap1 : Nat) (lo hi : Int) (w : World) (hT : Tb w) (h0 : len0 ≤ 3000) (h : 3000 < len1) (h2 : len1 ≤ 9223372036854775807) :
    Calls Tryd.prog 4 #[.slice a0 len0 cap0, .slice a1 len1 cap1, .int .i64 lo, .int .i64 hi] w fun e w' => e = .returned (.bool true) ∧ Below w.heap.size w w' := by
  have hi' : (3000 : Int) < len1 := by omega
  have hi0 : (len0 : Int) ≤ 3000 := by omega
  clear h h0
  go_enter Tryd.func4, Tryd.ntmps4
  go_wp2_with (go_at_call 8; refine (known_p _ hT).mono ?_; rintro e w1 ⟨rfl, b1⟩)
  go_ret
  exact ⟨rfl, b1⟩

set_option maxHeartbeats 8000000 in
set_option maxRecDepth 100000 in
theorem wg_good (v u : Value) (l m : List UInt16) (lo hi : Int) (w : World) (hv : Gs e16 w 0 w.heap.size v l) (hu : Gs e16 w 0 w.heap.size u m) (hT : Tb w) (hl : l.length ≤ 3000) (hm' : m.length ≤ 3000) :
    Calls Tryd.prog 4 #[v, u, .int .i64 lo, .int .i64 hi] w fun e w' => e = .returned (.bool true) ∧ Below w.heap.size w w' := by
  have HV := Lib.hid hv
  have HU := Lib.hid hu
  have HT := Lib.hid hT
  have HL := Lib.hid hl
  have HML := Lib.hid hm'
  have B0 := Lib.hid (Below.refl w.heap.size w)
  obtain ⟨A, c, rfl, -⟩ := hv
  obtain ⟨A', c', rfl, -⟩ := hu
  have hli : (l.length : Int) ≤ 3000 := by omega
  have hmi : (m.length : Int) ≤ 3000 := by omega
  have hq1 : decide ((3000 : Int) < l.length) = false := decide_eq_false (by omega)
  have hq2 : decide ((3000 : Int) < m.length) = false := decide_eq_false (by omega)
  obtain ⟨p, hp⟩ : ∃ p, p = mk l := ⟨_, rfl⟩
  obtain ⟨q, hq⟩ : ∃ q, q = mk m := ⟨_, rfl⟩
  have HP := Lib.hid hp
  have HQ := Lib.hid hq
  clear hT hl hm' hp hq
  go_enter Tryd.func4, Tryd.ntmps4
  go_wp2_with fail
  refine (wof_p _ l _ HV.out).mono ?_
  rw [← HP.out]
  rintro e w1 ⟨A1, c1, rfl, g1, b1⟩
  have HV := Lib.hid (HV.out.step b1)
  have HU := Lib.hid (HU.out.step b1)
  have T1 := Lib.hid (HT.out.step b1)
  have B1 := Lib.hid (B0.out.trans (b1.mono B0.out.size))
  have Z1 := Lib.hid b1.size
  have X := Lib.hid g1
  clear g1 b1
  go_wp2_with fail
  refine (wof_p _ m _ HU.out).mono ?_
  rw [← HQ.out]
  rintro e w2 ⟨A2, c2, rfl, g2, b2⟩
  have HV := Lib.hid (HV.out.step b2)
  have HU := Lib.hid (HU.out.step b2)
  have X := Lib.hid (X.out.step b2)
  have T2 := Lib.hid (T1.out.step b2)
  have B2 := Lib.hid (B1.out.trans (b2.mono B1.out.size))
  have Z2 := Lib.hid b2.size
  have Y := Lib.hid g2
  clear g2 b2
  go_wp2_with fail
  refine (mof_p _ l _ HV.out HL.out).mono ?_
  rw [← HP.out]
  rintro e w3 ⟨gm, rfl, g3, b3⟩
  have HV := Lib.hid (HV.out.step b3)
  have HU := Lib.hid (HU.out.step b3)
  have X := Lib.hid (X.out.step b3)
  have Y := Lib.hid (Y.out.step b3)
  have T3 := Lib.hid (T2.out.step b3)
  have B3 := Lib.hid (B2.out.trans (b3.mono B2.out.size))
  have Z3 := Lib.hid b3.size
  have MA := Lib.hid g3
  clear g3 b3
  go_wp2_with fail
  refine (mof_p _ m _ HU.out HML.out).mono ?_
  rw [← HQ.out]
  rintro e w4 ⟨gn, rfl, g4, b4⟩
  have HV := Lib.hid (HV.out.step b4)
  have HU := Lib.hid (HU.out.step b4)
  have X := Lib.hid (X.out.step b4)
  have Y := Lib.hid (Y.out.step b4)
  have MA := Lib.hid (MA.out.step b4)
  have T4 := Lib.hid (T3.out.step b4)
  have B4 := Lib.hid (B3.out.trans (b4.mono B3.out.size))
  have Z4 := Lib.hid b4.size
  have MB := Lib.hid g4
  clear g4 b4
  have XS := X
  have YS := Y
  have MAS := MA
  have MBS := MB
  have TS := T4
  go_wp2_with fail
  refine (wand_g _ _ p q _ X.out Y.out).mono ?_
  rintro e w5 ⟨b0', d0, rfl, g5, b5⟩
  have HV := Lib.hid (HV.out.step b5)
  have HU := Lib.hid (HU.out.step b5)
  have X := Lib.hid (X.out.step b5)
  have Y := Lib.hid (Y.out.step b5)
  have MA := Lib.hid (MA.out.step b5)
  have MB := Lib.hid (MB.out.step b5)
  have T5 := Lib.hid (T4.out.step b5)
  have B5 := Lib.hid (B4.out.trans (b5.mono B4.out.size))
  have Z5 := Lib.hid b5.size
  have ZB5 := Lib.hid b5
  have G0 := Lib.hid g5
  have SG0 := Lib.hid (g5.lt _ rfl).2
  clear g5 b5
  go_wp2_with fail
  refine (wor_g _ _ p q _ X.out Y.out).mono ?_
  rintro e w6 ⟨b1', d1, rfl, g6, b6⟩
  have HV := Lib.hid (HV.out.step b6)
  have HU := Lib.hid (HU.out.step b6)
  have X := Lib.hid (X.out.step b6)
  have Y := Lib.hid (Y.out.step b6)
  have MA := Lib.hid (MA.out.step b6)
  have MB := Lib.hid (MB.out.step b6)
  have G0 := Lib.hid (G0.out.below b6 (Nat.le_refl _))
  have T6 := Lib.hid (T5.out.step b6)
  have B6 := Lib.hid (B5.out.trans (b6.mono B5.out.size))
  have Z6 := Lib.hid b6.size
  have ZB6 := Lib.hid b6
  have G1 := Lib.hid g6
  have SG1 := Lib.hid (g6.lt _ rfl).2
  clear g6 b6
  go_wp2_with fail
  refine (wnot_g _ _ p q _ X.out Y.out).mono ?_
  rintro e w7 ⟨b2', d2, rfl, g7, b7⟩
  have HV := Lib.hid (HV.out.step b7)
  have HU := Lib.hid (HU.out.step b7)
  have X := Lib.hid (X.out.step b7)
  have Y := Lib.hid (Y.out.step b7)
  have MA := Lib.hid (MA.out.step b7)
  have MB := Lib.hid (MB.out.step b7)
  have G0 := Lib.hid (G0.out.below b7 (Nat.le_refl _))
  have G1 := Lib.hid (G1.out.below b7 (Nat.le_refl _))
  have T7 := Lib.hid (T6.out.step b7)
  have B7 := Lib.hid (B6.out.trans (b7.mono B6.out.size))
  have Z7 := Lib.hid b7.size
  have ZB7 := Lib.hid b7
  have G2 := Lib.hid g7
  have SG2 := Lib.hid (g7.lt _ rfl).2
  clear g7 b7
  go_wp2_with fail
  refine (wxor_g _ _ p q _ X.out Y.out).mono ?_
  rintro e w8 ⟨b3', d3, rfl, g8, b8⟩
  have HV := Lib.hid (HV.out.step b8)
  have HU := Lib.hid (HU.out.step b8)
  have X := Lib.hid (X.out.step b8)
  have Y := Lib.hid (Y.out.step b8)
  have MA := Lib.hid (MA.out.step b8)
  have MB := Lib.hid (MB.out.step b8)
  have G0 := Lib.hid (G0.out.below b8 (Nat.le_refl _))
  have G1 := Lib.hid (G1.out.below b8 (Nat.le_refl _))
  have G2 := Lib.hid (G2.out.below b8 (Nat.le_refl _))
  have T8 := Lib.hid (T7.out.step b8)
  have B8 := Lib.hid (B7.out.trans (b8.mono B7.out.size))
  have Z8 := Lib.hid b8.size
  have ZB8 := Lib.hid b8
  have G3 := Lib.hid g8
  have SG3 := Lib.hid (g8.lt _ rfl).2
  clear g8 b8
  go_wp2_with fail
  refine (wflip_g _ p lo hi _ X.out).mono ?_
  rintro e w9 ⟨b4', d4, rfl, g9, b9⟩
  have HV := Lib.hid (HV.out.step b9)
  have HU := Lib.hid (HU.out.step b9)
  have X := Lib.hid (X.out.step b9)
  have Y := Lib.hid (Y.out.step b9)
  have MA := Lib.hid (MA.out.step b9)
  have MB := Lib.hid (MB.out.step b9)
  have G0 := Lib.hid (G0.out.below b9 (Nat.le_refl _))
  have G1 := Lib.hid (G1.out.below b9 (Nat.le_refl _))
  have G2 := Lib.hid (G2.out.below b9 (Nat.le_refl _))
  have G3 := Lib.hid (G3.out.below b9 (Nat.le_refl _))
  have T9 := Lib.hid (T8.out.step b9)
  have B9 := Lib.hid (B8.out.trans (b9.mono B8.out.size))
  have Z9 := Lib.hid b9.size
  have ZB9 := Lib.hid b9
  have G4 := Lib.hid g9
  have SG4 := Lib.hid (g9.lt _ rfl).2
  clear g9 b9
  go_wp2_with fail
  have r10 := Row.new w9 44 #[.slice (some ⟨b0', 0, none⟩) 1024 d0, .slice (some ⟨b1', 0, none⟩) 1024 d1, .slice (some ⟨b2', 0, none⟩) 1024 d2, .slice (some ⟨b3', 0, none⟩) 1024 d3, .slice (some ⟨b4', 0, none⟩) 1024 d4]
  have b10 : Below w9.heap.size w9 (w9.alloc (.cells #[.slice (some ⟨b0', 0, none⟩) 1024 d0, .slice (some ⟨b1', 0, none⟩) 1024 d1, .slice (some ⟨b2', 0, none⟩) 1024 d2, .slice (some ⟨b3', 0, none⟩) 1024 d3, .slice (some ⟨b4', 0, none⟩) 1024 d4] 44)) := (Below.refl _ _).alloc (Nat.le_refl _) _
  have zs : (w9.alloc (.cells #[.slice (some ⟨b0', 0, none⟩) 1024 d0, .slice (some ⟨b1', 0, none⟩) 1024 d1, .slice (some ⟨b2', 0, none⟩) 1024 d2, .slice (some ⟨b3', 0, none⟩) 1024 d3, .slice (some ⟨b4', 0, none⟩) 1024 d4] 44)).heap.size = w9.heap.size + 1 := by simp
  generalize w9.alloc (.cells #[.slice (some ⟨b0', 0, none⟩) 1024 d0, .slice (some ⟨b1', 0, none⟩) 1024 d1, .slice (some ⟨b2', 0, none⟩) 1024 d2, .slice (some ⟨b3', 0, none⟩) 1024 d3, .slice (some ⟨b4', 0, none⟩) 1024 d4] 44) = w10 at *
  have HV := Lib.hid (HV.out.step b10)
  have HU := Lib.hid (HU.out.step b10)
  have X := Lib.hid (X.out.step b10)
  have Y := Lib.hid (Y.out.step b10)
  have MA := Lib.hid (MA.out.step b10)
  have MB := Lib.hid (MB.out.step b10)
  have G0 := Lib.hid (G0.out.below b10 (Nat.le_refl _))
  have G1 := Lib.hid (G1.out.below b10 (Nat.le_refl _))
  have G2 := Lib.hid (G2.out.below b10 (Nat.le_refl _))
  have G3 := Lib.hid (G3.out.below b10 (Nat.le_refl _))
  have G4 := Lib.hid (G4.out.below b10 (Nat.le_refl _))
  have T10 := Lib.hid (T9.out.step b10)
  have B10 := Lib.hid (B9.out.trans (b10.mono B9.out.size))
  have RX := Lib.hid r10
  obtain ⟨gx, hgx⟩ : ∃ g, g = w9.heap.size := ⟨_, rfl⟩
  rw [← hgx] at RX ⊢
  obtain ⟨bs, hbs⟩ : ∃ bs, bs = (f6 w4.heap.size w5.heap.size w6.heap.size w7.heap.size w8.heap.size w9.heap.size) := ⟨_, rfl⟩
  obtain ⟨sl, hsl⟩ : ∃ sl, sl = (v5 (.slice (some ⟨b0', 0, none⟩) 1024 d0) (.slice (some ⟨b1', 0, none⟩) 1024 d1) (.slice (some ⟨b2', 0, none⟩) 1024 d2) (.slice (some ⟨b3', 0, none⟩) 1024 d3) (.slice (some ⟨b4', 0, none⟩) 1024 d4)) := ⟨_, rfl⟩
  have hmono : ∀ i j, i ≤ j → bs i ≤ bs j := by rw [hbs]; exact f6_mono Z5.out Z6.out Z7.out Z8.out Z9.out
  have hfar : ∀ j, j < 5 → ∃ b d, sl j = .slice (some ⟨b, 0, none⟩) 1024 d ∧ b < bs (j + 1) ∧ b < gx := by
    have z1 := Z5.out
    have z2 := Z6.out
    have z3 := Z7.out
    have z4 := Z8.out
    have z5 := Z9.out
    have y0 := SG0.out
    have y1 := SG1.out
    have y2 := SG2.out
    have y3 := SG3.out
    have y4 := SG4.out
    intro j hj
    rw [hsl, hbs, hgx]
    match j, hj with
    | 0, _ => exact ⟨b0', d0, rfl, y0, by omega⟩
    | 1, _ => exact ⟨b1', d1, rfl, y1, by omega⟩
    | 2, _ => exact ⟨b2', d2, rfl, y2, by omega⟩
    | 3, _ => exact ⟨b3', d3, rfl, y3, by omega⟩
    | 4, _ => exact ⟨b4', d4, rfl, y4, by omega⟩
  have hrem : Rem5 bs sl (q5 p q lo hi) 0 w10 := by
    intro j _ hj
    rw [hsl, hbs]
    match j, hj with
    | 0, _ => exact G0.out
    | 1, _ => exact G1.out
    | 2, _ => exact G2.out
    | 3, _ => exact G3.out
    | 4, _ => exact G4.out
  have hcell : ∀ j, j < 5 → #[.slice (some ⟨b0', 0, none⟩) 1024 d0, .slice (some ⟨b1', 0, none⟩) 1024 d1, .slice (some ⟨b2', 0, none⟩) 1024 d2, .slice (some ⟨b3', 0, none⟩) 1024 d3, .slice (some ⟨b4', 0, none⟩) 1024 d4][j]? = some (sl j) := fun j hj => by rw [hsl]; exact arr5 _ _ _ _ _ hj
  have hb0 : w4.heap.size ≤ bs 0 := by rw [hbs]; exact Nat.le_refl _
  have hbg : bs 5 = gx := by rw [hbs, hgx]; rfl
  have STAY := Lib.hid (show Below w4.heap.size w4 w10 from by
    have z1 := Z5.out
    have z2 := Z6.out
    have z3 := Z7.out
    have z4 := Z8.out
    have z5 := Z9.out
    exact ((((((Below.refl _ _).trans (ZB5.out.mono (Nat.le_refl _))).trans (ZB6.out.mono (by omega))).trans (ZB7.out.mono (by omega))).trans (ZB8.out.mono (by omega))).trans (ZB9.out.mono (by omega))).trans (b10.mono (by omega)))
  have MONO := Lib.hid hmono
  have FAR := Lib.hid hfar
  have REM := Lib.hid hrem
  have CELL := Lib.hid hcell
  have HB0 := Lib.hid hb0
  have HBG := Lib.hid hbg
  clear hbs hsl hmono hfar hrem hcell hb0 hbg hgx zs r10 b10 G0 G1 G2 G3 G4 SG0 SG1 SG2 SG3 SG4
  obtain ⟨cells, hcells⟩ : ∃ cells : Array Value, cells = #[.slice (some ⟨b0', 0, none⟩) 1024 d0, .slice (some ⟨b1', 0, none⟩) 1024 d1, .slice (some ⟨b2', 0, none⟩) 1024 d2, .slice (some ⟨b3', 0, none⟩) 1024 d3, .slice (some ⟨b4', 0, none⟩) 1024 d4] := ⟨_, rfl⟩
  rw [← hcells] at RX CELL
  clear hcells
  clear X Y MA MB HV HU
  go_loopw [59] (fun s wr => ∃ i : Nat, i ≤ 5 ∧ s = .int .i64 i ∧ Rem5 bs sl (q5 p q lo hi) i wr ∧ Row wr gx 44 cells ∧ Below w4.heap.size w4 wr) (fun i _ => ((5 : Int) - intOf i).toNat)
  case atStart => exact ⟨0, by omega, rfl, REM.out, RX.out, STAY.out⟩
  case round =>
    obtain ⟨i, hi5, rfl, hrem, hrx, hst⟩ := hrel
    by_cases hlt : i < 5
    · obtain ⟨b, d, hsi, hb1, hb2⟩ := FAR.out i hlt
      have ho := hrem i (Nat.le_refl _) hlt
      have hcl := CELL.out i hlt
      rw [hsi] at ho hcl
      have OW := Lib.hid ho
      have CL := Lib.hid hcl
      have RM := Lib.hid hrem
      have RXr := Lib.hid hrx
      have SR := Lib.hid hst
      have MAr := Lib.hid (MAS.out.step hst)
      have MBr := Lib.hid (MBS.out.step hst)
      have HI := Lib.hid hlt
      have HB1 := Lib.hid hb1
      have HB2 := Lib.hid hb2
      have hii : (i : Int) < 5 := by omega
      clear hsi ho hcl hrem hrx hst hlt hb1 hb2 hi5
      go_wp2_with fail
      refine (mflip_p gm p lo hi _ MAr.out).mono ?_
      rintro e wa ⟨gw, rfl, ga, ba⟩
      have OWa := Lib.hid (OW.out.below ba (Nat.le_refl _))
      have RMa := Lib.hid (RM.out.below ba)
      have RXa := Lib.hid (RXr.out.step ba)
      have SRa := Lib.hid (SR.out.trans (ba.mono SR.out.size))
      have MAa := Lib.hid (MAr.out.step ba)
      have MBa := Lib.hid (MBr.out.step ba)
      have GWa := Lib.hid ga
      clear ga ba OW RM RXr SR MAr MBr
      by_cases hi4 : i < 4
      · have hii4 : (i : Int) < 4 := by omega
        have ww : IntKind.i64.wrap ((i : Int) + 1) = (i : Int) + 1 := by rw [IntKind.wrap_i64]; omega
        have HI4 := Lib.hid hi4
        clear hi4
        go_wp2_with fail
        refine (mboth_p i HI4.out gm gn p q _ MAa.out MBa.out).mono ?_
        rw [show (fun x => fs i (p x) (q x)) = q5 p q lo hi i from by funext x; unfold q5; rw [if_pos HI4.out]]
        rintro e wk ⟨gv, rfl, gk, bk⟩
        have OWk := Lib.hid (OWa.out.below bk (Nat.le_refl _))
        have RMk := Lib.hid (RMa.out.below bk)
        have RXk := Lib.hid (RXa.out.step bk)
        have SRk := Lib.hid (SRa.out.trans (bk.mono SRa.out.size))
        have GWk := Lib.hid gk
        clear gk bk OWa RMa RXa SRa MAa MBa GWa
        have KK := Lib.hid (show ∀ W, Below wk.heap.size wk W → W.cell? ⟨gx, i, none⟩ = some (.slice (some ⟨b, 0, none⟩) 1024 d) from fun W hW => ((RXk.out.step hW).cell i).trans CL.out)
        have hSc : Below wk.heap.size wk wk.drew := (Below.refl wk.heap.size wk).drew
        go_wp2_with fail
        refine wp_region_held_drew (S := fun W => Below wk.heap.size wk W) (by kernel_rfl) hSc (fun _ => ?_)
        refine held_take 0 ?_ rfl (by kernel_rfl) (by kernel_rfl) (by kernel_rfl) (fun _ _ _ h => h) (by rfl) ?_ hSc ?_
        rotate_left
        · (intro W hSW; go_simp; try rfl)
        try simp only [Act.put, List.setIfInBounds_toArray, List.set_cons_zero, List.set_cons_succ]
        refine held_take 1 ?_ rfl (by kernel_rfl) (by kernel_rfl) (by kernel_rfl) (fun _ _ _ h => h) (by rfl) ?_ hSc ?_
        rotate_left
        · (intro W hSW; go_simp; try rfl)
        try simp only [Act.put, List.setIfInBounds_toArray, List.set_cons_zero, List.set_cons_succ]
        refine held_take 2 ?_ rfl (by kernel_rfl) (by kernel_rfl) (by kernel_rfl) (fun _ _ _ h => h) (by rfl) ?_ hSc ?_
        rotate_left
        · (intro W hSW; have k1 := KK.out W hSW; go_simp; try rfl)
        try simp only [Act.put, List.setIfInBounds_toArray, List.set_cons_zero, List.set_cons_succ]
        refine held_take 3 ?_ rfl (by kernel_rfl) (by kernel_rfl) (by kernel_rfl) (fun _ _ _ h => h) (by rfl) ?_ hSc ?_
        rotate_left
        · (intro W hSW; go_simp; try rfl)
        try simp only [Act.put, List.setIfInBounds_toArray, List.set_cons_zero, List.set_cons_succ]
        refine held_next 4 rfl (by kernel_rfl) (by rfl) ?_
        go_simp
        refine (mwords_p gv _ _ (GWk.out.step hSc)).mono ?_
        rintro e wq1 ⟨Aq, cq, rfl, gq, bq⟩
        have hbq : Below wk.heap.size wk wq1 := hSc.trans (bq.mono hSc.size)
        refine ⟨fun W => Below wk.heap.size wk W, fun W hW => hW, hbq, ?_⟩
        have GR := Lib.hid gq
        clear gq
        clear hSc bq
        have hSc : Below wk.heap.size wk wq1 := hbq
        clear hbq
        try simp only [Act.put, List.setIfInBounds_toArray, List.set_cons_zero, List.set_cons_succ]
        refine held_next 5 rfl (by kernel_rfl) (by rfl) ?_
        go_simp
        refine (same64_p _ _ _ _ _ (((OWk.out.below hSc (Nat.le_refl _)).sl).more (Nat.zero_le _) (Nat.le_refl _)) GR.out rfl).mono ?_
        rintro e wq2 ⟨rfl, bq⟩
        have hbq : Below wk.heap.size wk wq2 := hSc.trans (bq.mono hSc.size)
        refine ⟨fun W => Below wk.heap.size wk W, fun W hW => hW, hbq, ?_⟩
        clear GR
        clear hSc bq
        have hSc : Below wk.heap.size wk wq2 := hbq
        clear hbq
        try simp only [Act.put, List.setIfInBounds_toArray, List.set_cons_zero, List.set_cons_succ]
        refine held_next 6 rfl (by kernel_rfl) (by rfl) ?_
        go_simp
        refine ⟨fun W => Below wk.heap.size wk W, fun W hW => hW, hSc, ?_⟩
        refine wpAnyH_done (by kernel_rfl) ?_ _
        have OWz := Lib.hid (OWk.out.below hSc (Nat.le_refl _))
        have RMz := Lib.hid (RMk.out.below hSc)
        have RXz := Lib.hid (RXk.out.step hSc)
        have kz := KK.out _ hSc
        have SRz := Lib.hid (SRk.out.trans (hSc.mono SRk.out.size))
        clear hSc KK OWk RMk RXk SRk GWk
        generalize hwz : (wq2 : World) = wz at *
        clear hwz
        go_wp2_with fail
        clear kz
        go_loopw [84] (fun s ws' => ∃ k : Nat, k ≤ 1024 ∧ s = .int .i64 k ∧ wz.grownBy ws' (some b) ∧ ∃ L : List UInt64, L.length = 1024 ∧ Gw e64 ws' (bs i) (.slice (some ⟨b, 0, none⟩) 1024 d) L) (fun k _ => ((1024 : Int) - intOf k).toNat)
        case atStart => exact ⟨0, by omega, rfl, World.grownBy.refl _ _, _, wm_length _, OWz.out⟩
        case round =>
          obtain ⟨k, hk, rfl, hg, L, hL, hw⟩ := hrel
          have hrx' := RXz.out.grown hg (fun e => by have := HB2.out; injection e with e; omega)
          by_cases hkl : k < 1024
          · have k1 := (hrx'.cell i).trans CL.out
            obtain ⟨b'', c'', e', -, -, -, -, hcl, hfr⟩ := hw.form (by rintro rfl; simp at hL)
            have e1 : b = b'' := by have := Option.some.inj (Value.slice.inj e').1; exact (Addr.mk.inj this).1
            subst e1
            have k2 := hfr k
            have k3 := hcl k _ (at64_get (by omega))
            simp only [e64, b64] at k3
            have hki : (k : Int) < 1024 := by omega
            have HKL := Lib.hid hkl
            have HLL := Lib.hid hL
            have HG := Lib.hid hg
            have HW := Lib.hid hw
            obtain ⟨z, hz⟩ : ∃ z : Int, z = ((at64 L k).toNat : Int) := ⟨_, rfl⟩
            rw [← hz] at k3
            clear e' hcl hfr hkl hL hg hw hk hz hrx'
            go_wp2
            refine ⟨⟨k + 1, HKL.out, by go_num, HG.out.trans (grown_set _ _ _ _), L.set k 7, by rw [List.length_set]; exact HLL.out, ?_⟩, by simp [intOf]; omega⟩
            have := HW.out.stored k (7 : UInt64)
            exact this
          · obtain rfl : k = 1024 := by omega
            have hbl := (hw.lt b rfl).1
            have RMn := Lib.hid (RMz.out.grown hg (fun j e => by injection e with e; subst e; exact HB1.out) MONO.out)
            have SRn := Lib.hid (SRz.out.grown hg SRz.out.size (fun j e => by injection e with e; subst e; exact Nat.le_trans (Nat.le_trans HB0.out (MONO.out 0 i (Nat.zero_le _))) hbl))
            have RXn := Lib.hid hrx'
            clear hg hL hw hbl hrx' hk
            go_wp2
            refine ⟨⟨i + 1, HI.out, by go_num, RMn.out, RXn.out, SRn.out⟩, by simp [intOf]; omega⟩
      · have hii4 : ¬ (i : Int) < 4 := by omega
        have hq5 : flp p lo hi = q5 p q lo hi i := by funext x; unfold q5; rw [if_neg hi4]
        rw [hq5] at GWa
        clear hi4 hq5
        have KK := Lib.hid (show ∀ W, Below wa.heap.size wa W → W.cell? ⟨gx, i, none⟩ = some (.slice (some ⟨b, 0, none⟩) 1024 d) from fun W hW => ((RXa.out.step hW).cell i).trans CL.out)
        have hSc : Below wa.heap.size wa wa.drew := (Below.refl wa.heap.size wa).drew
        go_wp2_with fail
        refine wp_region_held_drew (S := fun W => Below wa.heap.size wa W) (by kernel_rfl) hSc (fun _ => ?_)
        refine held_take 0 ?_ rfl (by kernel_rfl) (by kernel_rfl) (by kernel_rfl) (fun _ _ _ h => h) (by rfl) ?_ hSc ?_
        rotate_left
        · (intro W hSW; go_simp; try rfl)
        try simp only [Act.put, List.setIfInBounds_toArray, List.set_cons_zero, List.set_cons_succ]
        refine held_take 1 ?_ rfl (by kernel_rfl) (by kernel_rfl) (by kernel_rfl) (fun _ _ _ h => h) (by rfl) ?_ hSc ?_
        rotate_left
        · (intro W hSW; go_simp; try rfl)
        try simp only [Act.put, List.setIfInBounds_toArray, List.set_cons_zero, List.set_cons_succ]
        refine held_take 2 ?_ rfl (by kernel_rfl) (by kernel_rfl) (by kernel_rfl) (fun _ _ _ h => h) (by rfl) ?_ hSc ?_
        rotate_left
        · (intro W hSW; have k1 := KK.out W hSW; go_simp; try rfl)
        try simp only [Act.put, List.setIfInBounds_toArray, List.set_cons_zero, List.set_cons_succ]
        refine held_take 3 ?_ rfl (by kernel_rfl) (by kernel_rfl) (by kernel_rfl) (fun _ _ _ h => h) (by rfl) ?_ hSc ?_
        rotate_left
        · (intro W hSW; go_simp; try rfl)
        try simp only [Act.put, List.setIfInBounds_toArray, List.set_cons_zero, List.set_cons_succ]
        refine held_next 4 rfl (by kernel_rfl) (by rfl) ?_
        go_simp
        refine (mwords_p gw _ _ (GWa.out.step hSc)).mono ?_
        rintro e wq1 ⟨Aq, cq, rfl, gq, bq⟩
        have hbq : Below wa.heap.size wa wq1 := hSc.trans (bq.mono hSc.size)
        refine ⟨fun W => Below wa.heap.size wa W, fun W hW => hW, hbq, ?_⟩
        have GR := Lib.hid gq
        clear gq
        clear hSc bq
        have hSc : Below wa.heap.size wa wq1 := hbq
        clear hbq
        try simp only [Act.put, List.setIfInBounds_toArray, List.set_cons_zero, List.set_cons_succ]
        refine held_next 5 rfl (by kernel_rfl) (by rfl) ?_
        go_simp
        refine (same64_p _ _ _ _ _ (((OWa.out.below hSc (Nat.le_refl _)).sl).more (Nat.zero_le _) (Nat.le_refl _)) GR.out rfl).mono ?_
        rintro e wq2 ⟨rfl, bq⟩
        have hbq : Below wa.heap.size wa wq2 := hSc.trans (bq.mono hSc.size)
        refine ⟨fun W => Below wa.heap.size wa W, fun W hW => hW, hbq, ?_⟩
        clear GR
        clear hSc bq
        have hSc : Below wa.heap.size wa wq2 := hbq
        clear hbq
        try simp only [Act.put, List.setIfInBounds_toArray, List.set_cons_zero, List.set_cons_succ]
        refine held_next 6 rfl (by kernel_rfl) (by rfl) ?_
        go_simp
        refine ⟨fun W => Below wa.heap.size wa W, fun W hW => hW, hSc, ?_⟩
        refine wpAnyH_done (by kernel_rfl) ?_ _
        have OWz := Lib.hid (OWa.out.below hSc (Nat.le_refl _))
        have RMz := Lib.hid (RMa.out.below hSc)
        have RXz := Lib.hid (RXa.out.step hSc)
        have kz := KK.out _ hSc
        have SRz := Lib.hid (SRa.out.trans (hSc.mono SRa.out.size))
        clear hSc KK OWa RMa RXa SRa GWa
        generalize hwz : (wq2 : World) = wz at *
        clear hwz
        go_wp2_with fail
        clear kz
        go_loopw [84] (fun s ws' => ∃ k : Nat, k ≤ 1024 ∧ s = .int .i64 k ∧ wz.grownBy ws' (some b) ∧ ∃ L : List UInt64, L.length = 1024 ∧ Gw e64 ws' (bs i) (.slice (some ⟨b, 0, none⟩) 1024 d) L) (fun k _ => ((1024 : Int) - intOf k).toNat)
        case atStart => exact ⟨0, by omega, rfl, World.grownBy.refl _ _, _, wm_length _, OWz.out⟩
        case round =>
          obtain ⟨k, hk, rfl, hg, L, hL, hw⟩ := hrel
          have hrx' := RXz.out.grown hg (fun e => by have := HB2.out; injection e with e; omega)
          by_cases hkl : k < 1024
          · have k1 := (hrx'.cell i).trans CL.out
            obtain ⟨b'', c'', e', -, -, -, -, hcl, hfr⟩ := hw.form (by rintro rfl; simp at hL)
            have e1 : b = b'' := by have := Option.some.inj (Value.slice.inj e').1; exact (Addr.mk.inj this).1
            subst e1
            have k2 := hfr k
            have k3 := hcl k _ (at64_get (by omega))
            simp only [e64, b64] at k3
            have hki : (k : Int) < 1024 := by omega
            have HKL := Lib.hid hkl
            have HLL := Lib.hid hL
            have HG := Lib.hid hg
            have HW := Lib.hid hw
            obtain ⟨z, hz⟩ : ∃ z : Int, z = ((at64 L k).toNat : Int) := ⟨_, rfl⟩
            rw [← hz] at k3
            clear e' hcl hfr hkl hL hg hw hk hz hrx'
            go_wp2
            refine ⟨⟨k + 1, HKL.out, by go_num, HG.out.trans (grown_set _ _ _ _), L.set k 7, by rw [List.length_set]; exact HLL.out, ?_⟩, by simp [intOf]; omega⟩
            have := HW.out.stored k (7 : UInt64)
            exact this
          · obtain rfl : k = 1024 := by omega
            have hbl := (hw.lt b rfl).1
            have RMn := Lib.hid (RMz.out.grown hg (fun j e => by injection e with e; subst e; exact HB1.out) MONO.out)
            have SRn := Lib.hid (SRz.out.grown hg SRz.out.size (fun j e => by injection e with e; subst e; exact Nat.le_trans (Nat.le_trans HB0.out (MONO.out 0 i (Nat.zero_le _))) hbl))
            have RXn := Lib.hid hrx'
            clear hg hL hw hbl hrx' hk
            go_wp2
            refine ⟨⟨i + 1, HI.out, by go_num, RMn.out, RXn.out, SRn.out⟩, by simp [intOf]; omega⟩
    · obtain rfl : i = 5 := by omega
      have XR := Lib.hid (XS.out.step hst)
      have YR := Lib.hid (YS.out.step hst)
      have MAr := Lib.hid (MAS.out.step hst)
      have MBr := Lib.hid (MBS.out.step hst)
      have TR := Lib.hid (TS.out.step hst)
      have BR := Lib.hid (B4.out.trans (hst.mono B4.out.size))
      clear hrem hrx hst hi5
      go_wp2_with fail
      refine (mwords_p gm p _ MAr.out).mono ?_
      rintro e x1 ⟨A7, c7, rfl, g7, z7⟩
      have P7 := Lib.hid g7
      have X7 := Lib.hid (XR.out.step z7)
      have Y7 := Lib.hid (YR.out.step z7)
      have M7 := Lib.hid (MBr.out.step z7)
      have T7 := Lib.hid (TR.out.step z7)
      have B7' := Lib.hid (BR.out.trans (z7.mono BR.out.size))
      clear g7 z7
      go_wp2_with fail
      refine (same64_p _ _ _ _ _ X7.out P7.out rfl).mono ?_
      rintro e x2 ⟨rfl, z8⟩
      have Y8 := Lib.hid (Y7.out.step z8)
      have M8 := Lib.hid (M7.out.step z8)
      have T8 := Lib.hid (T7.out.step z8)
      have B8' := Lib.hid (B7'.out.trans (z8.mono B7'.out.size))
      clear z8
      go_wp2_with fail
      refine (mwords_p gn q _ M8.out).mono ?_
      rintro e x3 ⟨A9, c9, rfl, g9, z9⟩
      have P9 := Lib.hid g9
      have Y9 := Lib.hid (Y8.out.step z9)
      have T9 := Lib.hid (T8.out.step z9)
      have B9' := Lib.hid (B8'.out.trans (z9.mono B8'.out.size))
      clear g9 z9
      go_wp2_with fail
      refine (same64_p _ _ _ _ _ Y9.out P9.out rfl).mono ?_
      rintro e x4 ⟨rfl, za⟩
      have TA := Lib.hid (T9.out.step za)
      have BA := Lib.hid (B9'.out.trans (za.mono B9'.out.size))
      clear za
      go_wp2_with fail
      refine (known_p _ TA.out).mono ?_
      rintro e x5 ⟨rfl, zb⟩
      have BB := Lib.hid (BA.out.trans (zb.mono BA.out.size))
      clear zb
      go_wp2
      go_ret
      exact ⟨rfl, BB.out⟩
end Go.Proofs.YtgegpbchjkfdkaaDoor
