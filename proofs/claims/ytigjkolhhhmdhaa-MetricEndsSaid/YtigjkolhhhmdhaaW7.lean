/- Walks: a short number is read. -/
import Derived.Test.YtigjkolhhhmdhaaW6
namespace Go.Proofs.Ytigjkolhhhmdhaa
open Go.RowKit
set_option linter.unusedVariables false

theorem quiet_left_ {P : Program} {f : FuncId} {args : Array Value} {w : World} {n : Nat} {v : Value}
    (h : Calls P f args (w.drewN n) fun e w' => e = .returned v ∧ w.drewN n = w') : Calls P f args (w.drewN n) fun e w'' => e = .returned v ∧ ∃ m, w'' = w.drewN m :=
  h.mono fun _ _ ⟨he, hm⟩ => ⟨he, n, hm.symm⟩

theorem quiet_two_ {P : Program} {f : FuncId} {args : Array Value} {w : World} {a n : Nat} {v : Value}
    (h : Calls P f args (w.drewN (a + n)) fun e w' => e = .returned v ∧ w.drewN (a + n) = w') : Calls P f args (w.drewN (a + n)) fun e w'' => e = .returned v ∧ ∃ m, w'' = w.drewN (a + m) :=
  h.mono fun _ _ ⟨he, hm⟩ => ⟨he, n, hm.symm⟩

set_option maxHeartbeats 400000 in
theorem lookShort_end {base g : Nat} {v : Value} {l : List UInt8} {p : Nat} (s : Int) (w : World) (h : Rd w base g v l p false) (hs : l.length = p) :
    Calls Try.prog 40 #[.pointer (some ⟨g, 0, none⟩), .int .i64 s] w fun e w' => e = .returned (.tuple #[.int .u64 0, .int .i64 0]) ∧ ∃ k, w' = w.drewN k := by
  obtain ⟨A, c, rfl, -, hlc, hcm, -⟩ := h.own.sl
  have h0 := h.c0
  have h1 := h.c1
  have h2 := h.c2
  have hle := h.le
  have hsm := h.small
  unfold maxLen at hcm
  have H := Lib.hid h
  clear h
  rw [hs] at *
  clear hs hle
  obtain ⟨L, hL⟩ : ∃ L : Int, L = ((short (0 : Int).toNat).length : Int) := ⟨_, rfl⟩
  have hL1 : ((0 : Int) != L) = true := by rw [hL]; decide
  have hsz := fun W => shortSize_any 0 W (by omega) (by omega)
  rw [← hL] at hsz
  have HS := Lib.hid hsz
  clear hsz hL
  by_cases hcp : c = p
  · subst hcp
    go_enter Try.func40, Try.ntmps40
    go_wp2
    go_quiet ((go_at_call 43; exact Calls.quiet_of (left_good g A c c c _ h0 h1 h2 (by omega) (by omega))))
    go_wp2
    go_loop [4, 5, 22] (fun n u i => n = .int .u64 0 ∧ u = .int .i64 0 ∧ i = .int .i64 0) (fun _ _ _ => 0)
    case atStart => exact ⟨rfl, rfl, rfl⟩
    case round =>
      obtain ⟨rfl, rfl, rfl⟩ := hrel
      go_wp2
      go_quiet ((go_at_call 44; first | exact quiet_left_ (HS.out _) | exact quiet_two_ (HS.out _)))
      go_wp2
      go_ret2
      exact ⟨rfl, _, World.drewN_drewN _ _ _⟩
  · go_enter Try.func40, Try.ntmps40
    go_wp2
    go_quiet ((go_at_call 43; exact Calls.quiet_of (left_good g A p c p _ h0 h1 h2 (by omega) (by omega))))
    go_wp2
    go_loop [4, 5, 22] (fun n u i => n = .int .u64 0 ∧ u = .int .i64 0 ∧ i = .int .i64 0) (fun _ _ _ => 0)
    case atStart => exact ⟨rfl, rfl, rfl⟩
    case round =>
      obtain ⟨rfl, rfl, rfl⟩ := hrel
      go_wp2
      go_quiet ((go_at_call 44; first | exact quiet_left_ (HS.out _) | exact quiet_two_ (HS.out _)))
      go_wp2
      go_ret2
      exact ⟨rfl, _, World.drewN_drewN _ _ _⟩

theorem or_bounds (a b : Int) : 0 ≤ bits BinOp.or IntKind.u64 a b ∧ bits BinOp.or IntKind.u64 a b ≤ 18446744073709551615 := by
  show 0 ≤ IntKind.u64.wrap _ ∧ IntKind.u64.wrap _ ≤ 18446744073709551615
  rw [IntKind.wrap_u64]
  omega
/-- How many bytes the short form has, as the code asks it, under a name. -/
theorem size_named (D : Int) (h0 : 0 ≤ D) (h1 : D ≤ 18446744073709551615) :
    ∃ L : Int, L = ((short D.toNat).length : Int) ∧ ∀ W : World, Calls Try.prog 44 #[.int .u64 D] W fun e w' => e = .returned (.int .i64 L) ∧ W = w' :=
  ⟨_, rfl, fun W => shortSize_any D W h0 h1⟩

/-- All bytes looked at say that there are more. -/
theorem lookShort_none_ {base g : Nat} {v : Value} {l : List UInt8} {p : Nat} (s : Int) (w : World) (h : Rd w base g v l p false) (hs : p < l.length) (m : Nat) (hm : m = min (l.length - p) 10)
    (hall : ∀ j y, j < m → l[p + j]? = some y → 128 ≤ y.toNat) :
    Calls Try.prog 40 #[.pointer (some ⟨g, 0, none⟩), .int .i64 s] w fun e w' => e = .returned (.tuple #[.int .u64 0, .int .i64 0]) ∧ ∃ k, w' = w.drewN k := by
  obtain ⟨b, c, rfl, hlc, hcm, -, -, hcell⟩ := h.own.form_ (by rintro rfl; simp at hs)
  have h0 := h.c0
  have h1 := h.c1
  have h2 := h.c2
  have hle := h.le
  have hsm := h.small
  have hne : c ≠ p := by omega
  unfold maxLen at hcm
  have hm10 : m ≤ 10 := by omega
  have hml : m ≤ l.length - p := by omega
  have HM := Lib.hid hm
  clear hm
  have HC := Lib.hid hcell
  have HA := Lib.hid hall
  clear h hcell hall
  go_enter Try.func40, Try.ntmps40
  go_wp2
  by_cases h10 : 10 < l.length - p
  all_goals
    go_quiet ((go_at_call 43; exact Calls.quiet_of (left_good g _ _ c p _ h0 h1 h2 hle (by omega))))
    go_wp2
    have hmx : (¬ 10 < l.length - p → l.length - p ≤ m) ∧ (10 < l.length - p → 10 ≤ m) := by have := HM.out; omega
    have HX := Lib.hid hmx
    clear hmx
    go_loop [4, 5, 22] (fun n u i => ∃ (k : Nat) (D : Int), k ≤ m ∧ u = .int .i64 0 ∧ i = .int .i64 k ∧ n = .int .u64 D ∧ 0 ≤ D ∧ D ≤ 18446744073709551615) (fun _ _ i => m - (intOf i).toNat)
    case atStart => exact ⟨0, 0, by omega, rfl, rfl, rfl, by omega, by omega⟩
    case round =>
      obtain ⟨k, D, hk, rfl, rfl, rfl, d0, d1⟩ := hrel
      by_cases hlt : k < m
      · obtain ⟨y, hy⟩ : ∃ y, l[p + k]? = some y := ⟨_, List.getElem?_eq_getElem (by omega)⟩
        have hc := HC.out (p + k) y hy
        have hz128 := HA.out k y hlt hy
        unfold b8 at hc
        obtain ⟨z, hz⟩ : ∃ z : Int, z = (y.toNat : Int) := ⟨_, rfl⟩
        rw [← hz] at hc
        have z0 : 128 ≤ z := by omega
        have z1 : z ≤ 255 := by have := y.toNat_lt; omega
        clear hy hz hz128
        go_wp2
        go_round
        case rel => exact ⟨k + 1, _, by omega, rfl, by go_num, rfl, (or_bounds _ _).1, (or_bounds _ _).2⟩
        case measure => simp [intOf]; omega
      · obtain ⟨L, hL, hc⟩ := size_named D d0 d1
        have hL1 : ((0 : Int) != L) = true := by have := short_length_pos D.toNat; rw [bne_iff_ne]; omega
        have HS := Lib.hid hc
        clear hL hc
        have hkm : (¬ 10 < l.length - p → l.length - p ≤ k) ∧ (10 < l.length - p → 10 ≤ k) := by have := HX.out; omega
        first
          | (have hge : l.length - p ≤ k := hkm.1 h10
             clear hkm
             go_wp2
             go_quiet ((go_at_call 44; first | exact quiet_left_ (HS.out _) | exact quiet_two_ (HS.out _)))
             go_wp2
             go_ret2
             exact ⟨rfl, _, World.drewN_drewN _ _ _⟩)
          | (have hge : 10 ≤ k := hkm.2 h10
             clear hkm
             go_wp2
             go_quiet ((go_at_call 44; first | exact quiet_left_ (HS.out _) | exact quiet_two_ (HS.out _)))
             go_wp2
             go_ret2
             exact ⟨rfl, _, World.drewN_drewN _ _ _⟩)
end Go.Proofs.Ytigjkolhhhmdhaa
