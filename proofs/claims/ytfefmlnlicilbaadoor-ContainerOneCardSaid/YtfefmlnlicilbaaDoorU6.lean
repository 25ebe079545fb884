/- Walks: Runs of arrays (cut from stages 4 to 6) -/
import Derived.Test.YtfefmlnlicilbaaDoorU5
namespace Go.Proofs.YtfefmlnlicilbaaDoor
open Go.RowKit
set_option linter.unusedVariables false

theorem rn_some_drop {l : List UInt16} {k : Nat} (h : k + 1 < l.length) : rn (some (at16 l k)) (l.drop (k + 1)) = (if (at16 l (k + 1) - at16 l k).toNat = 1 then 0 else 1) + rn (some (at16 l (k + 1))) (l.drop (k + 1 + 1)) := by
  rw [drop_at h, rn]
theorem sub16 (x p : UInt16) : (((x - p).toNat : Nat) : Int) = IntKind.u16.wrap ((x.toNat : Int) - (p.toNat : Int)) := by
  have := x.toNat_lt
  have := p.toNat_lt
  rw [UInt16.toNat_sub]
  simp [IntKind.wrap, IntKind.bits, IntKind.signed]
  omega
set_option maxHeartbeats 1000000 in
theorem runs_any (v : Value) (l : List UInt16) (lo hi : Nat) (W : World) (hv : Gs e16 W lo hi v l) (hb : l.length ≤ 100000000) :
    Calls Tryd.prog 55 #[v] W fun e w' => e = .returned (.int .i64 (rn none l)) ∧ ∃ n, w' = W.drewN n := by
  have hv0 := hv
  obtain ⟨A, c, rfl, -⟩ := hv
  have HV := Lib.hid hv0
  clear hv0
  go_enter Tryd.func55, Tryd.ntmps55
  go_wp2
  go_loopw [3, 8] (fun s3 s8 wr => ∃ k n m : Nat, k ≤ l.length ∧ n ≤ k ∧ s8 = .int .i64 k ∧ s3 = .int .i64 n ∧ wr = W.drewN m ∧ n + rn (if k = 0 then none else some (at16 l (k - 1))) (l.drop k) = rn none l) (fun _ s8 _ => l.length - (intOf s8).toNat)
  case atStart => exact ⟨0, 0, 0, Nat.zero_le _, Nat.le_refl _, rfl, rfl, rfl, by simp⟩
  case round =>
    obtain ⟨k, n, m, hk, hnk, rfl, rfl, rfl, hr⟩ := hrel
    by_cases hlt : k < l.length
    · obtain ⟨b, o, c, e1, -, -, -, -, hc⟩ := HV.out.form (by rintro rfl; simp at hlt)
      injection e1 with e1 _ e2
      subst e1 e2
      have hn0 : (n : Int) ≤ 100000000 := by omega
      have k2 := hc k _ (at16_get hlt)
      simp only [e16, b16] at k2
      cases k with
      | zero =>
        have hr2 : n + 1 + rn (some (at16 l 0)) (l.drop 1) = rn none l := by rw [if_pos rfl, drop_at hlt, rn, Nat.zero_add] at hr; omega
        have HR := Lib.hid hr2
        obtain ⟨y, hy⟩ : ∃ y : Int, y = ((at16 l 0).toNat : Int) := ⟨_, rfl⟩
        rw [← hy] at k2
        rw [Nat.add_zero] at k2
        clear hc hr hr2 hy
        go_wp2
        go_roundw
        case rel => exact ⟨1, n + 1, _, hlt, by omega, by go_num, by go_num, rfl, by simpa using HR.out⟩
        case measure => simp [intOf]; omega
      | succ k =>
        have k1 := hc k _ (at16_get (by omega))
        simp only [e16, b16] at k1
        rw [if_neg (by omega), Nat.add_sub_cancel, rn_some_drop hlt] at hr
        have hs := sub16 (at16 l (k + 1)) (at16 l k)
        obtain ⟨y, hy⟩ : ∃ y : Int, y = ((at16 l (k + 1)).toNat : Int) := ⟨_, rfl⟩
        obtain ⟨x, hx⟩ : ∃ x : Int, x = ((at16 l k).toNat : Int) := ⟨_, rfl⟩
        rw [← hy] at k2
        rw [← hx] at k1
        rw [← hy, ← hx] at hs
        obtain ⟨z, hz⟩ : ∃ z : Int, z = IntKind.u16.wrap (y - x) := ⟨_, rfl⟩
        rw [← hz] at hs
        have q1 : (((k + 1 : Nat) : Int) == 0) = false := by simp; omega
        have q2 : (((k : Int) + 1) == 0) = false := by simp; omega
        have w1 : IntKind.i64.wrap ((k : Int) + 1 - 1) = (k : Int) := by rw [IntKind.wrap_i64]; omega
        have hz' := hz.symm
        clear hc hx hy hz
        by_cases h1 : z = 1
        · rw [if_pos (by omega)] at hr
          have HR := Lib.hid hr
          have q3 : (z == 1) = true := by simp [h1]
          have q4 : (z != 1) = false := by simp [h1]
          clear hr hs h1
          go_wp2
          go_roundw
          case rel => exact ⟨k + 1 + 1, n, _, hlt, by omega, by go_num, rfl, rfl, by have := HR.out; rw [if_neg (by omega), Nat.add_sub_cancel]; omega⟩
          case measure => simp [intOf]; omega
        · rw [if_neg (by omega)] at hr
          have HR := Lib.hid hr
          have q3 : (z == 1) = false := by simp [h1]
          have q4 : (z != 1) = true := by simp [h1]
          clear hr hs h1
          go_wp2
          go_roundw
          case rel => exact ⟨k + 1 + 1, n + 1, _, hlt, by omega, by go_num, by go_num, rfl, by have := HR.out; rw [if_neg (by omega), Nat.add_sub_cancel]; omega⟩
          case measure => simp [intOf]; omega
    · obtain rfl : k = l.length := by omega
      have hr2 : rn none l = n := by
        rw [List.drop_of_length_le (Nat.le_refl _)] at hr
        rw [← hr]
        cases (if l.length = 0 then none else some (at16 l (l.length - 1))) <;> rfl
      have HR := Lib.hid hr2
      clear hr hr2
      go_wp2
      go_ret
      exact ⟨by rw [HR.out]; rfl, _, rfl⟩
end Go.Proofs.YtfefmlnlicilbaaDoor
