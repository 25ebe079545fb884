/- Walks: a column in memory; Of, Get, Some. -/
import Derived.Test.YtigjkolhhhmdhaaTb
namespace Go.Proofs.Ytigjkolhhhmdhaa
open Go.RowKit
set_option linter.unusedVariables false

/-- A column at a pointer: its numbers. -/
structure CxM (W : World) (g : Nat) (A : Option Addr) (c : Nat) (zs : List Int) : Prop where
  row : Row W g 37 #[.bool true, .slice A zs.length c, .int .i64 (loI zs), .int .i64 (hiI zs)]
  dat : Gs eL W 0 W.heap.size (.slice A zs.length c) zs
  small : zs.length ≤ 100000
theorem CxM.step {W W' : World} {g : Nat} {A : Option Addr} {c : Nat} {zs : List Int} (h : CxM W g A c zs) (b : Below W.heap.size W W') : CxM W' g A c zs :=
  ⟨h.row.below b h.row.lt, h.dat.step b, h.small⟩
theorem CxM.at_ {W : World} {g : Nat} {A : Option Addr} {c : Nat} {zs : List Int} (h : CxM W g A c zs) : CxAt W (.pointer (some ⟨g, 0, none⟩)) true A zs.length c (loI zs) (hiI zs) := .inr ⟨g, rfl, h.row⟩
/-- A column of which all lies from lo on. -/
structure CxN (W : World) (lo g : Nat) (A : Option Addr) (c : Nat) (zs : List Int) : Prop where
  m : CxM W g A c zs
  ge : lo ≤ g
  dt : Gs eL W lo W.heap.size (.slice A zs.length c) zs
theorem CxN.step {W W' : World} {lo g : Nat} {A : Option Addr} {c : Nat} {zs : List Int} (h : CxN W lo g A c zs) (b : Below W.heap.size W W') : CxN W' lo g A c zs :=
  ⟨h.m.step b, h.ge, (h.dt.below b).more (Nat.le_refl _) b.size⟩
theorem CxN.grown {W W' : World} {lo g : Nat} {A : Option Addr} {c : Nat} {zs : List Int} {row : Option Nat} (h : CxN W lo g A c zs) (hg : W.grownBy W' row) (hr : ∀ k, row = some k → k < lo) : CxN W' lo g A c zs := by
  have hk := (h.dt.grown hg (Nat.le_refl _) (fun k e => .inl (hr k e))).more (Nat.le_refl lo) hg.size
  exact ⟨⟨h.m.row.grown hg (fun e => by have := hr g e; have := h.ge; omega), hk.more (Nat.zero_le _) (Nat.le_refl _), h.m.small⟩, h.ge, hk⟩
/-- What a slice's part is, in the model's words. -/
theorem run_part (A : Option Addr) (n c p q : Nat) (w : World) (hp : p ≤ q) (hq : q ≤ c) : (Instr.slice 22 (.slice A n c) (some (.int .i64 (p : Int))) (some (.int .i64 (q : Int))) none).run Try.prog w = .ok (.slice (if c = p then A else A.map fun x => x.add p) (q - p) (c - p)) w := by
  have hu : Try.prog.underlying 22 = some (.slice (Try.prog.elem 22)) := by kernel_rfl
  have hs : (sizeOf (Try.prog.elem 22)).run Try.prog w = .ok 1 w := by kernel_rfl
  rw [run_slice_lh _ _ _ _ _ hu _ _ _ _ (by omega) (by omega) (by omega), hs]
  simp only [Result.andThen, sliced, Int.toNat_natCast, Nat.mul_one]
set_option maxHeartbeats 1000000 in
set_option maxRecDepth 100000 in
theorem of_any (A : Option Addr) (d : Nat) (zs : List Int) (w : World) (hG : Gs eL w 0 w.heap.size (.slice A zs.length d) zs) (hl : zs.length ≤ 100000) :
    Calls Try.prog 9 #[.slice A zs.length d] w fun e w' => ∃ g A' c, e = .returned (.tuple #[.pointer (some ⟨g, 0, none⟩), .int .i64 0]) ∧ CxN w' w.heap.size g A' c zs ∧ Below w.heap.size w w' := by
  have HC := Lib.hid (cloneL_any _ zs 0 w hG (by omega))
  have gl : decide ((16777216 : Int) < (zs.length : Int)) = false := decide_eq_false (by omega)
  have g2 : decide ((zs.length : Int) > 16777216) = false := decide_eq_false (by omega)
  have HN := Lib.hid hl
  clear hG hl
  go_enter Try.func9, Try.ntmps9
  go_wp2_with (first
    | (go_at_call 21; refine HC.out.mono ?_; rintro e w1 ⟨v1, rfl, o1, b1⟩; have B1 := Lib.hid b1; have O1 := Lib.hid o1; obtain ⟨A1, c1, rfl, -⟩ := o1.sl; clear b1 o1)
    | (go_at_call 20; refine (keep_any A1 c1 zs w1 _ (Nat.le_refl _) (O1.out.sl.more (Nat.zero_le _) (Nat.le_refl _)) HN.out).mono ?_; rintro e w2 ⟨rfl, r2, b2⟩; have B2 := Lib.hid (B1.out.trans (b2.mono B1.out.size)); have R2 := Lib.hid r2; have D2 := Lib.hid ((O1.out.sl.below b2).more (Nat.le_refl _) b2.size); clear b2 r2))
  go_ret2
  exact ⟨_, A1, c1, rfl, ⟨⟨R2.out, D2.out.more (Nat.zero_le _) (Nat.le_refl _), HN.out⟩, B1.out.size, D2.out⟩, B2.out⟩
set_option maxHeartbeats 1000000 in
theorem get_none (p : Value) (A : Option Addr) (n c : Nat) (a z i : Int) (w : World) (h : CxAt w p false A n c a z) :
    Calls Try.prog 14 #[p, .int .i64 i] w fun e w' => e = .returned (.tuple #[.int .i64 0, .int .i64 1]) ∧ Below w.heap.size w w' := by
  have HC := Lib.hid (told_any p false A n c a z w h)
  have hfd := fun W => cxf0 W false A n c a z
  clear h
  go_enter Try.func14, Try.ntmps14
  go_wp2_with (go_at_call 30; refine HC.out.mono ?_; rintro e w1 ⟨rfl, b1⟩; have B1 := Lib.hid b1; clear b1)
  go_ret2
  exact ⟨rfl, B1.out⟩
set_option maxHeartbeats 1000000 in
theorem get_out (g : Nat) (A : Option Addr) (c : Nat) (zs : List Int) (row : Int) (w : World) (h : CxM w g A c zs) (ho : row < 0 ∨ (zs.length : Int) ≤ row) :
    Calls Try.prog 14 #[.pointer (some ⟨g, 0, none⟩), .int .i64 row] w fun e w' => e = .returned (.tuple #[.int .i64 0, .int .i64 7]) ∧ Below w.heap.size w w' := by
  have HM := Lib.hid h
  have HC := Lib.hid (told_any _ _ A _ c _ _ w h.at_)
  have hfd := fun W => cxf0 W true A zs.length c (loI zs) (hiI zs)
  clear h
  by_cases h1 : row < 0
  · have d1 : decide (row < 0) = true := decide_eq_true h1
    clear h1 ho
    go_enter Try.func14, Try.ntmps14
    go_wp2_with (go_at_call 30; refine HC.out.mono ?_; rintro e w1 ⟨rfl, b1⟩; have B1 := Lib.hid b1; clear b1)
    go_ret2
    exact ⟨rfl, B1.out⟩
  · have d1 : decide (row < 0) = false := decide_eq_false h1
    have d2 : decide ((zs.length : Int) ≤ row) = true := decide_eq_true (by omega)
    clear h1 ho
    go_enter Try.func14, Try.ntmps14
    go_wp2_with (first
      | (go_at_call 30; refine HC.out.mono ?_; rintro e w1 ⟨rfl, b1⟩; have B1 := Lib.hid b1; clear b1)
      | (go_at_call 16; refine (len_any _ _ A _ c _ _ _ (HM.out.step B1.out).at_).mono ?_; rintro e w2 ⟨rfl, b2⟩; have B2 := Lib.hid (B1.out.trans (b2.mono B1.out.size)); clear b2))
    go_ret2
    exact ⟨rfl, B2.out⟩
set_option maxHeartbeats 1000000 in
theorem get_in (g : Nat) (A : Option Addr) (c : Nat) (zs : List Int) (i : Nat) (z : Int) (w : World) (h : CxM w g A c zs) (hz : zs[i]? = some z) :
    Calls Try.prog 14 #[.pointer (some ⟨g, 0, none⟩), .int .i64 (i : Int)] w fun e w' => e = .returned (.tuple #[.int .i64 z, .int .i64 0]) ∧ Below w.heap.size w w' := by
  have HM := Lib.hid h
  have HC := Lib.hid (told_any _ _ A _ c _ _ w h.at_)
  have hfd := fun W => cxf0 W true A zs.length c (loI zs) (hiI zs)
  have hil : i < zs.length := (List.getElem?_eq_some_iff.1 hz).1
  have HZ := Lib.hid hz
  have d1 : decide ((i : Int) < 0) = false := decide_eq_false (by omega)
  have d2 : decide ((zs.length : Int) ≤ (i : Int)) = false := decide_eq_false (by omega)
  clear h hz
  go_enter Try.func14, Try.ntmps14
  go_wp2_with (first
    | (go_at_call 30; refine HC.out.mono ?_; rintro e w1 ⟨rfl, b1⟩; have B1 := Lib.hid b1; clear b1)
    | (go_at_call 16; refine (len_any _ _ A _ c _ _ _ (HM.out.step B1.out).at_).mono ?_; rintro e w2 ⟨rfl, b2⟩; have B2 := Lib.hid (B1.out.trans (b2.mono B1.out.size)); clear b2; have hM2 := HM.out.step B2.out; have k1 := hM2.row.cell 1; obtain ⟨b, boff, bc', e, -, -, -, bw, hc⟩ := hM2.dat.form (by rintro h9; rw [h9] at hil; simp at hil); injection e with e4 e5 e6; subst e4; have q0 := hc i z HZ.out; simp only [eL] at q0; clear hM2 hc e5 e6))
  go_ret2
  exact ⟨rfl, B2.out⟩
set_option maxHeartbeats 1000000 in
theorem some_none (p : Value) (A : Option Addr) (n c : Nat) (a z i k : Int) (w : World) (h : CxAt w p false A n c a z) :
    Calls Try.prog 15 #[p, .int .i64 i, .int .i64 k] w fun e w' => e = .returned (.tuple #[.slice none 0 0, .int .i64 1]) ∧ Below w.heap.size w w' := by
  have HC := Lib.hid (told_any p false A n c a z w h)
  have hfd := fun W => cxf0 W false A n c a z
  clear h
  go_enter Try.func15, Try.ntmps15
  go_wp2_with (go_at_call 30; refine HC.out.mono ?_; rintro e w1 ⟨rfl, b1⟩; have B1 := Lib.hid b1; clear b1)
  go_ret2
  exact ⟨rfl, B1.out⟩
set_option maxHeartbeats 1000000 in
theorem some_bad (g : Nat) (A : Option Addr) (c : Nat) (zs : List Int) (i k : Int) (w : World) (h : CxM w g A c zs) (ho : ¬ (0 ≤ i ∧ i ≤ k ∧ k ≤ zs.length)) :
    Calls Try.prog 15 #[.pointer (some ⟨g, 0, none⟩), .int .i64 i, .int .i64 k] w fun e w' => e = .returned (.tuple #[.slice none 0 0, .int .i64 2]) ∧ Below w.heap.size w w' := by
  have HM := Lib.hid h
  have HC := Lib.hid (told_any _ _ A _ c _ _ w h.at_)
  have hfd := fun W => cxf0 W true A zs.length c (loI zs) (hiI zs)
  clear h
  by_cases h1 : i < 0
  · have d1 : decide (i < 0) = true := decide_eq_true h1
    clear h1 ho
    go_enter Try.func15, Try.ntmps15
    go_wp2_with (go_at_call 30; refine HC.out.mono ?_; rintro e w1 ⟨rfl, b1⟩; have B1 := Lib.hid b1; clear b1)
    go_ret2
    exact ⟨rfl, B1.out⟩
  · have d1 : decide (i < 0) = false := decide_eq_false h1
    by_cases h2 : k < i
    · have d2 : decide (k < i) = true := decide_eq_true h2
      clear h1 ho h2
      go_enter Try.func15, Try.ntmps15
      go_wp2_with (go_at_call 30; refine HC.out.mono ?_; rintro e w1 ⟨rfl, b1⟩; have B1 := Lib.hid b1; clear b1)
      go_ret2
      exact ⟨rfl, B1.out⟩
    · have d2 : decide (k < i) = false := decide_eq_false h2
      have d3 : decide ((zs.length : Int) < k) = true := decide_eq_true (by omega)
      clear h1 ho h2
      go_enter Try.func15, Try.ntmps15
      go_wp2_with (first
        | (go_at_call 30; refine HC.out.mono ?_; rintro e w1 ⟨rfl, b1⟩; have B1 := Lib.hid b1; clear b1)
        | (go_at_call 16; refine (len_any _ _ A _ c _ _ _ (HM.out.step B1.out).at_).mono ?_; rintro e w2 ⟨rfl, b2⟩; have B2 := Lib.hid (B1.out.trans (b2.mono B1.out.size)); clear b2))
      go_ret2
      exact ⟨rfl, B2.out⟩
set_option maxHeartbeats 1000000 in
theorem some_yes (g : Nat) (A : Option Addr) (c : Nat) (zs : List Int) (i k : Nat) (w : World) (h : CxM w g A c zs) (h1 : i ≤ k) (h2 : k ≤ zs.length) :
    Calls Try.prog 15 #[.pointer (some ⟨g, 0, none⟩), .int .i64 (i : Int), .int .i64 (k : Int)] w fun e w' => ∃ v', e = .returned (.tuple #[v', .int .i64 0]) ∧ Gw eL w' w.heap.size v' ((zs.take k).drop i) ∧ Below w.heap.size w w' := by
  have HM := Lib.hid h
  have HC := Lib.hid (told_any _ _ A _ c _ _ w h.at_)
  have hfd := fun W => cxf0 W true A zs.length c (loI zs) (hiI zs)
  have d1 : decide ((i : Int) < 0) = false := decide_eq_false (by omega)
  have d2 : decide ((k : Int) < (i : Int)) = false := decide_eq_false (by omega)
  have d3 : decide ((zs.length : Int) < (k : Int)) = false := decide_eq_false (by omega)
  have d2n : decide (k < i) = false := decide_eq_false (by omega)
  have d3n : decide (zs.length < k) = false := decide_eq_false (by omega)
  have hcap : zs.length ≤ c := by obtain ⟨_, _, e, _, h9, _⟩ := h.dat; injection e with _ _ e3; omega
  have hpt := fun W => run_part A zs.length c i k W h1 (by omega)
  obtain ⟨A', hA', -⟩ := h.dat.part h1 h2
  rw [← hA'] at hpt
  have HPT := Lib.hid (fun W (b : Below w.heap.size w W) => (show Gs eL W 0 W.heap.size (.slice A' (k - i) (c - i)) ((zs.take k).drop i) from by
    obtain ⟨A2, h3, h4⟩ := (h.step b).dat.part h1 h2
    rw [← h3] at hA'
    subst hA'
    exact h4))
  have HS := Lib.hid h.small
  clear h h1 h2 hA' hcap
  go_enter Try.func15, Try.ntmps15
  go_wp2_with (first
    | (go_at_call 30; refine HC.out.mono ?_; rintro e w1 ⟨rfl, b1⟩; have B1 := Lib.hid b1; clear b1)
    | (go_at_call 16; refine (len_any _ _ A _ c _ _ _ (HM.out.step B1.out).at_).mono ?_; rintro e w2 ⟨rfl, b2⟩; have B2 := Lib.hid (B1.out.trans (b2.mono B1.out.size)); clear b2; have k1 := (HM.out.step B2.out).row.cell 1)
    | (go_at_call 21; refine (cloneL_any _ _ 0 _ (HPT.out _ B2.out) (by have := HS.out; simp; omega)).mono ?_; rintro e w3 ⟨v3, rfl, o3, b3⟩; have B3 := Lib.hid (B2.out.trans (b3.mono B2.out.size)); have O3 := Lib.hid (o3.more B2.out.size); clear b3 o3))
  go_ret2
  exact ⟨_, rfl, O3.out, B3.out⟩
end Go.Proofs.Ytigjkolhhhmdhaa
