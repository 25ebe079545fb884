/- Walks: Len and Select of right runs. -/
import Derived.Test.YtgkelfhmpeakkaaDoorF9
namespace Go.Proofs.YtgkelfhmpeakkaaDoor
open Go.RowKit
set_option linter.unusedVariables false

set_option maxHeartbeats 400000 in
theorem rlen_any (v : Value) (A : List Rn) (N : Nat) (w : World) (hv : Gs2 eR w 0 w.heap.size v A) (hA : mayr 0 A = true) (hN : ct (mr A) 65536 = N) :
    Calls Tryd.prog 19 #[v] w fun e w' => e = .returned (.int .i64 N) ∧ Below w.heap.size w w' := by
  have T := Lib.hid (rrank_any v A 65536 N w hv hA (by omega) hN)
  clear hv hA hN
  go_enter Tryd.func19, Tryd.ntmps19
  go_wp2_with (go_at_call 24; refine T.out.mono ?_; rintro e w1 ⟨rfl, b1⟩; have B1 := Lib.hid b1; clear b1)
  go_ret
  exact ⟨rfl, B1.out⟩

/-- The number of which k are below it. -/
def sel : List Rn → Nat → Option Nat
  | [], _ => none
  | r :: l, k => if k < r.2.toNat + 1 then some (r.1.toNat + k) else sel l (k - (r.2.toNat + 1))
theorem ct_hit {p : Nat → Bool} {n m : Nat} (hp : p n = true) (h : n < m) : ct p n < ct p m := by
  induction m with
  | zero => omega
  | succ m ih =>
    rw [ct]
    by_cases e : n = m
    · subst e; rw [hp]; simp
    · have := ih (by omega); omega
theorem sel_some {d : Nat} {A : List Rn} (h : mayr d A = true) {k y : Nat} (hs : sel A k = some y) : mr A y = true ∧ ct (mr A) y = k ∧ y ≤ 65535 := by
  induction A generalizing d k with
  | nil => simp [sel] at hs
  | cons r l ih =>
    obtain ⟨h1, h2, h3⟩ := mayr_cons.1 h
    have hf := fst_le r
    rw [sel] at hs
    split at hs
    · rename_i hk
      injection hs with hs
      have hy : y ≤ lst r := by unfold lst; omega
      refine ⟨?_, ?_, by omega⟩
      · rw [mr_cons, (inr_iff _ _).2 ⟨by omega, hy⟩, Bool.true_or]
      · rw [ct_mr_cons h, ct_mr_zero h3 (by omega)]
        unfold lst
        omega
    · rename_i hk
      obtain ⟨i1, i2, i3⟩ := ih h3 hs
      have hge := (mr_ge h3 i1).1
      refine ⟨by rw [mr_cons, i1, Bool.or_true], ?_, i3⟩
      rw [ct_mr_cons h, i2]
      unfold lst at *
      omega
theorem sel_none {d : Nat} {A : List Rn} (h : mayr d A = true) {k : Nat} (hs : sel A k = none) : ct (mr A) 65536 ≤ k := by
  induction A generalizing d k with
  | nil => rw [ct_zero (p := mr []) fun x _ => rfl]; exact Nat.zero_le _
  | cons r l ih =>
    obtain ⟨h1, h2, h3⟩ := mayr_cons.1 h
    have hf := fst_le r
    rw [sel] at hs
    split at hs
    · cases hs
    · rename_i hk
      have := ih h3 hs
      rw [ct_mr_cons h]
      unfold lst at *
      omega
/-- The k-th number, if there is one. -/
def selo : Option Nat → Value
  | some y => .tuple #[.int .u16 (y : Int), .bool true]
  | none => .tuple #[.int .u16 0, .bool false]
def selv (A : List Rn) (k : Int) : Value := if k < 0 then selo none else selo (sel A k.toNat)
set_option maxHeartbeats 4000000 in
theorem rselect_any (v : Value) (A : List Rn) (K : Int) (w : World) (hv : Gs2 eR w 0 w.heap.size v A) (hA : mayr 0 A = true) (hK : K ≤ 9223372036854775807) :
    Calls Tryd.prog 23 #[v, .int .i64 K] w fun e w' => e = .returned (selv A K) ∧ Below w.heap.size w w' := by
  have hlen := hv.len
  have HV := Lib.hid hv
  obtain ⟨A1, c1, rfl, -⟩ := hv
  by_cases h0 : K < 0
  · have e : selv A K = .tuple #[.int .u16 0, .bool false] := by unfold selv; rw [if_pos h0]; rfl
    rw [e]
    clear e
    go_enter Tryd.func23, Tryd.ntmps23
    go_wp2
    go_ret2
    exact ⟨rfl, Below.refl _ _⟩
  · obtain ⟨M, rfl⟩ : ∃ M : Nat, K = (M : Int) := ⟨K.toNat, by omega⟩
    obtain ⟨R, hR⟩ : ∃ R, R = sel A M := ⟨_, rfl⟩
    have e : selv A (M : Int) = selo R := by unfold selv; rw [if_neg h0, hR]; rfl
    have HE := Lib.hid e
    have HR := Lib.hid hR
    have HA := Lib.hid hA
    have HM := Lib.hid hK
    clear e hR hA
    go_enter Tryd.func23, Tryd.ntmps23
    go_wp2
    go_loopw [1, 12] (fun s i wr => ∃ k m d : Nat, k ≤ A.length ∧ m ≤ M ∧ s = .int .i64 m ∧ i = .int .i64 k ∧ Hid (mayr d (A.drop k) = true) ∧ Hid (sel (A.drop k) m = R) ∧ Below w.heap.size w wr) (fun _ i _ => A.length - (intOf i).toNat)
    case atStart => exact ⟨0, M, 0, Nat.zero_le _, Nat.le_refl _, rfl, rfl, HA.out, HR.out.symm, Below.refl _ _⟩
    case round =>
      obtain ⟨k, m, d, hk, hmM, rfl, rfl, hmr, hct, hbl⟩ := hrel
      have HB := Lib.hid hbl
      by_cases hlt : k < A.length
      · obtain ⟨b, off, r, e1, -, hb, hdr, hg, c0, c2⟩ := gs2_at HV.out hlt
        subst e1
        rw [← hbl.cell (p := ⟨b, off + k * 2, none⟩) hb] at c0
        rw [← hbl.cell (p := ⟨b, off + k * 2 + 1, none⟩) hb] at c2
        have hmr2 := hmr.out
        have hct2 := hct.out
        rw [hdr] at hmr2 hct2
        have hf := u16_lt r.1
        have hm := u16_lt r.2
        have hm3 := mayr_cons.1 hmr2
        obtain ⟨f, hfe⟩ : ∃ f, f = r.1.toNat := ⟨_, rfl⟩
        obtain ⟨q, hqe⟩ : ∃ q, q = r.2.toNat := ⟨_, rfl⟩
        rw [← hfe] at c0 hf
        rw [← hqe] at c2 hm
        rw [sel, ← hqe, ← hfe] at hct2
        have HF := Lib.hid hf
        have HQ := Lib.hid hm
        have hlr : lst r = f + q := by unfold lst; rw [← hfe, ← hqe]
        have hbw : Below w.heap.size w (wr.alloc (.cells #[.int .u16 (f : Int), .int .u16 (q : Int)] 40)) := hbl.alloc hbl.size _
        have HBW := Lib.hid hbw
        have hsz := hbl.size
        have h65 : f + q ≤ 65535 := by rw [← hlr]; exact hm3.2.1
        have HM3 := Lib.hid hm3.2.2
        by_cases h1 : m < q + 1
        · rw [if_pos h1] at hct2
          have hv2 := HE.out
          rw [← hct2] at hv2
          have HRV := Lib.hid hv2
          have h1' : (m : Int) < (q : Int) + 1 := by omega
          have w1 : IntKind.u16.wrap (m : Int) = m := by simp [IntKind.wrap, IntKind.bits, IntKind.signed]; omega
          have w2 : IntKind.u16.wrap ((f : Int) + m) = (f : Int) + m := by simp [IntKind.wrap, IntKind.bits, IntKind.signed]; omega
          clear hbl hmr hct hdr hg hmr2 hct2 hfe hqe hlr hbw h1 hm3 hv2
          go_wp2_with (go_at_call 46; refine (size_any f q HQ.out _).mono ?_; rintro e w9 ⟨rfl, b9⟩; have k0 := (b9.cell (p := ⟨wr.heap.size, 0, none⟩) (by simp)).trans (show _ = some (.int .u16 (f : Int)) by simp); have B9 := Lib.hid b9; clear b9)
          go_ret2
          refine ⟨?_, below_both HBW.out B9.out⟩
          rw [HRV.out]
          rfl
        · rw [if_neg h1] at hct2
          have HRV := Lib.hid hct2
          have h1' : decide ((m : Int) < (q : Int) + 1) = false := decide_eq_false (by omega)
          have h1n : ¬ ((m : Int) < (q : Int) + 1) := by omega
          have hmi : (m : Int) ≤ 9223372036854775807 := by have := HM.out; omega
          have w1 : IntKind.i64.wrap ((m : Int) - ((q : Int) + 1)) = (m : Int) - ((q : Int) + 1) := by simp [IntKind.wrap, IntKind.bits, IntKind.signed]; omega
          have w2 : (m : Int) - ((q : Int) + 1) = ((m - (q + 1) : Nat) : Int) := by omega
          have W2 := Lib.hid w2
          clear hbl hmr hct hdr hg hmr2 hct2 hfe hqe hlr hbw h1 hm3 w2
          go_wp2_with fail
          go_at_call 46
          refine (size_any f q HQ.out _).mono ?_
          rintro e w9 ⟨rfl, b9⟩
          have k0 := (b9.cell (p := ⟨wr.heap.size, 0, none⟩) (by simp)).trans (show _ = some (.int .u16 (f : Int)) by simp)
          have k1 := (b9.cell (p := ⟨wr.heap.size, 1, none⟩) (by simp)).trans (show _ = some (.int .u16 (q : Int)) by simp)
          have B9 := Lib.hid b9
          clear b9
          go_wp2_with fail
          go_at_call 46
          refine (size_any f q HQ.out _).mono ?_
          rintro e w8 ⟨rfl, b8⟩
          have B8 := Lib.hid b8
          clear b8
          go_wp2
          refine ⟨⟨k + 1, m - (q + 1), _, by omega, by omega, by rw [W2.out], by go_num, HM3.out, HRV.out, below_both (below_both HBW.out B9.out) B8.out⟩, by simp [intOf]; omega⟩
      · obtain rfl : k = A.length := by omega
        have hR := hct.out
        rw [List.drop_length] at hR
        have hv2 := HE.out
        rw [← hR] at hv2
        have HRV := Lib.hid hv2
        clear hbl hmr hR hct hv2
        go_wp2
        go_ret2
        exact ⟨by rw [HRV.out]; rfl, HB.out⟩
end Go.Proofs.YtgkelfhmpeakkaaDoor
