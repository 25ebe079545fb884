/- Walks: the law CrcBack. -/
import Derived.Test.YtdeiphimfpckaaaCm
import Derived.Test.YtdeiphimfpckaaaC9
namespace Go.Proofs.Ytdeiphimfpckaaa
open Go.RowKit
set_option linter.unusedVariables false

/-- Too many bytes: 'known' alone is asked. -/
theorem back_long (A B C : Option Addr) (n c m d p f : Nat) (w : World) (h : 1000 < n ∨ 1000 < m ∨ 1000 < p) (hn : n ≤ 9223372036854775807) (hm : m ≤ 9223372036854775807) (hp : p ≤ 9223372036854775807) :
    Calls Try.prog 5 #[.slice A n c, .slice B m d, .slice C p f] w fun e w' => e = .returned (.bool true) ∧ Below w.heap.size w w' := by
  by_cases h1 : 1000 < n
  · clear h
    go_enter Try.func5, Try.ntmps5
    go_wp2_with (go_at_call 8; refine (known_any _).mono ?_; rintro e w1 ⟨rfl, hb⟩)
    go_ret
    exact ⟨rfl, hb⟩
  · have d1 : decide (1000 < n) = false := by simpa using h1
    have d1' : decide (1000 < (n : Int)) = false := by simp; omega
    by_cases h2 : 1000 < m
    · clear h
      go_enter Try.func5, Try.ntmps5
      go_wp2_with (go_at_call 8; refine (known_any _).mono ?_; rintro e w1 ⟨rfl, hb⟩)
      go_ret
      exact ⟨rfl, hb⟩
    · have d2 : decide (1000 < m) = false := by simpa using h2
      have d2' : decide (1000 < (m : Int)) = false := by simp; omega
      have h3 : 1000 < p := by omega
      clear h
      go_enter Try.func5, Try.ntmps5
      go_wp2_with (go_at_call 8; refine (known_any _).mono ?_; rintro e w1 ⟨rfl, hb⟩)
      go_ret
      exact ⟨rfl, hb⟩

theorem unframe_back (v : Value) (x b y : List UInt8) (lo : Nat) (w : World) (hv : Gs e8 w lo w.heap.size v (x ++ (fr b ++ y))) (hx : x.length ≤ 1000) (hb : b.length ≤ 1000) (hy : y.length ≤ 1000) :
    Calls Try.prog 13 #[v, .int .i64 x.length] w fun e w' => ∃ A c, e = .returned (.tuple #[.slice A b.length c, .int .i64 ((x.length : Int) + 4 + b.length + 4), .int .i64 0]) ∧ Gw e8 w' w.heap.size (.slice A b.length c) b ∧ Below w.heap.size w w' := by
  obtain ⟨h1, h2, h3⟩ := un_back x b y (by omega)
  have := unframe_any v _ lo x.length w hv (by rw [List.length_append, fr_len]; omega)
  rw [h1, h2, h3] at this
  exact this

set_option maxHeartbeats 4000000 in
theorem back_good (A B C : Option Addr) (c d f : Nat) (x b y : List UInt8) (w : World) (hx : Gs e8 w 0 w.heap.size (.slice A x.length c) x) (hb : Gs e8 w 0 w.heap.size (.slice B b.length d) b) (hy : Gs e8 w 0 w.heap.size (.slice C y.length f) y)
    (l1 : x.length ≤ 1000) (l2 : b.length ≤ 1000) (l3 : y.length ≤ 1000) :
    Calls Try.prog 5 #[.slice A x.length c, .slice B b.length d, .slice C y.length f] w fun e w' => e = .returned (.bool true) ∧ Below w.heap.size w w' := by
  have d1 : decide (1000 < x.length) = false := by simp; omega
  have d2 : decide (1000 < b.length) = false := by simp; omega
  have d3 : decide (1000 < y.length) = false := by simp; omega
  have HX := Lib.hid hx
  have HB := Lib.hid hb
  have HY := Lib.hid hy
  have HF := Lib.hid (fr_length b)
  clear hx hb hy
  go_enter Try.func5, Try.ntmps5
  go_wp2_with fail
  refine (frame_any _ b 0 _ HB.out (by omega)).mono ?_
  rintro e w1 ⟨v1, rfl, o1, b1⟩
  obtain ⟨A1, c1, rfl, -⟩ := o1.sl
  rw [HF.out] at o1 ⊢
  have O1 := Lib.hid o1
  have B1 := Lib.hid b1
  clear o1 b1
  go_wp2_with (first
    | (at_builtin; refine wpList_gapp e8 _ rfl _ _ _ rfl w1.heap.size sli8 inf8 _ (x ++ fr b) rfl O3.out 0 w.heap.size _ y rfl ((HY.out.below B1.out).below (B3.out.mono B1.out.size)) (by rw [List.length_append, HF.out]; omega) B3.out.size ?_; intro v4 w4 o4 g4 hh; clear hh; rw [List.append_assoc] at o4; have O4 := Lib.hid o4; have B4 := Lib.hid (B3.out.grown g4 B3.out.size (fun i hi => (O3.out.lt i hi).1)); clear o4 g4 B3 O3)
    | (at_builtin; refine wpList_gapp e8 _ rfl _ _ _ rfl w1.heap.size sli8 inf8 _ x rfl O2.out w.heap.size w1.heap.size _ (fr b) rfl (O1.out.sl.below B2.out) (by rw [HF.out]; omega) B2.out.size ?_; intro v3 w3 o3 g3 hh; clear hh; have O3 := Lib.hid o3; have B3 := Lib.hid (B2.out.grown g3 B2.out.size (fun i hi => (O2.out.lt i hi).1)); clear o3 g3 B2 O2)
    | (at_builtin; refine wpList_gapp e8 _ rfl _ _ _ rfl w1.heap.size sli8 inf8 _ [] rfl (Gw.empty_ _ _ (Nat.le_refl _)) 0 w.heap.size _ x rfl ((HX.out.below B1.out).alloc B1.out.size _) (by simp; omega) (by simp) ?_; intro v2 w2 o2 g2 hh; clear hh; rw [List.nil_append] at o2; have b2 : Below w1.heap.size w1 w2 := ((Below.refl _ _).alloc (Nat.le_refl _) _).grown g2 (by simp) (fun i hi => by injection hi with hi; subst hi; exact Nat.le_refl _); have O2 := Lib.hid o2; have B2 := Lib.hid b2; clear o2 b2 g2))
  refine (unframe_back _ x b y _ _ O4.out.sl l1 l2 l3).mono ?_
  rintro e w5 ⟨A5, c5, rfl, o5, b5⟩
  have B5 := Lib.hid (B1.out.trans (((B4.out.trans (b5.mono B4.out.size))).mono B1.out.size))
  have cv5 := str8 o5.sl
  have cvb := str8 (HB.out.below B5.out)
  clear o5 b5
  go_wp2_with fail
  clear cv5 cvb
  refine (known_any _).mono ?_
  rintro e w6 ⟨rfl, b6⟩
  go_wp2
  go_ret
  exact ⟨rfl, B5.out.trans (b6.mono B5.out.size)⟩
end Go.Proofs.Ytdeiphimfpckaaa
