/- Walks: May of arrays (cut from stages 4 to 6) -/
import Derived.Test.YtfefmlnlicilbaaDoorDz
namespace Go.Proofs.YtfefmlnlicilbaaDoor
open Go.RowKit
set_option linter.unusedVariables false

theorem ris_short {l : List UInt16} (h : l.length ≤ 1) : ris l = true := by
  match l, h with
  | [], _ => rfl
  | [_], _ => rfl
  | _ :: _ :: _, h => simp at h
theorem ris_drop {l : List UInt16} {k : Nat} (h : k + 1 < l.length) : ris (l.drop k) = (decide ((at16 l k).toNat < (at16 l (k + 1)).toNat) && ris (l.drop (k + 1))) := by
  rw [drop_at (Nat.lt_of_succ_lt h), drop_at h, ris]
set_option maxHeartbeats 400000 in
theorem may_any (v : Value) (l : List UInt16) (lo hi : Nat) (W : World) (hv : Gs e16 W lo hi v l) :
    Calls Tryd.prog 18 #[v] W fun e w' => e = .returned (.bool (ris l)) ∧ ∃ n, w' = W.drewN n := by
  have hlen := hv.len
  have hv0 := hv
  obtain ⟨A, c, rfl, -⟩ := hv
  have HV := Lib.hid hv0
  clear hv0
  go_enter Tryd.func18, Tryd.ntmps18
  go_wp2
  go_loopw [3] (fun i wr => ∃ k m : Nat, (k + 1 ≤ l.length ∨ k = 0) ∧ i = .int .i64 ((k : Int) + 1) ∧ wr = W.drewN m ∧ ris l = ris (l.drop k)) (fun i _ => l.length + 1 - (intOf i).toNat)
  case atStart => exact ⟨0, 0, .inr rfl, rfl, rfl, rfl⟩
  case round =>
    obtain ⟨k, m, hk, rfl, rfl, hr⟩ := hrel
    by_cases hlt : k + 1 < l.length
    · obtain ⟨b, o, c, e1, -, -, -, -, hc⟩ := HV.out.form (by rintro rfl; simp at hlt)
      injection e1 with e1 _ e2
      subst e1 e2
      have k1 := hc k _ (at16_get (by omega))
      have k2 := hc (k + 1) _ (at16_get hlt)
      have hd := ris_drop hlt
      simp only [e16, b16] at k1 k2
      obtain ⟨x, hx⟩ : ∃ x : Int, x = ((at16 l k).toNat : Int) := ⟨_, rfl⟩
      obtain ⟨y, hy⟩ : ∃ y : Int, y = ((at16 l (k + 1)).toNat : Int) := ⟨_, rfl⟩
      have hxy : ((at16 l k).toNat < (at16 l (k + 1)).toNat) ↔ x < y := by omega
      rw [← hx] at k1
      rw [← hy] at k2
      clear hc hx hy
      have w1 : IntKind.i64.wrap ((k : Int) + 1 - 1) = (k : Int) := by rw [IntKind.wrap_i64]; omega
      have hlti : (k : Int) + 1 < (l.length : Int) := by omega
      by_cases hle : y ≤ x
      · have hF : ris l = false := by
          rw [hr, hd, decide_eq_false (by rw [hxy]; omega), Bool.false_and]
        have HF := Lib.hid hF
        clear hF hd hxy hr hk
        go_wp2
        go_quiet (fail)
        go_wp2
        go_ret
        exact ⟨by rw [HF.out]; rfl, _, World.drewN_drewN ..⟩
      · have hT : ris l = ris (l.drop (k + 1)) := by
          rw [hr, hd, decide_eq_true (by rw [hxy]; omega), Bool.true_and]
        have HT := Lib.hid hT
        clear hT hd hxy hr hk
        go_wp2
        go_quiet (fail)
        go_wp2
        go_roundw
        case rel => exact ⟨k + 1, _, .inl (by omega), by go_num, rfl, HT.out⟩
        case measure => simp [intOf]; omega
    · have hT : ris l = true := by
        rw [hr]
        exact ris_short (by simp; omega)
      have HT := Lib.hid hT
      have hge : decide ((k : Int) + 1 < (l.length : Int)) = false := decide_eq_false (by omega)
      clear hT hr hk
      go_wp2
      go_ret
      exact ⟨by rw [HT.out]; rfl, _, rfl⟩
end Go.Proofs.YtfefmlnlicilbaaDoor
