/- Runs: Of (cut from stages 4 to 6) -/
import Derived.Test.YtcmifbjeabkihabGreatDoorMa5
/- Runs: how a run lies (cut from stages 4 to 6) -/
namespace Go.Proofs.YtcmifbjeabkihabGreatDoor
open Go.RowKit
set_option linter.unusedVariables false

/-- The k-th run's two cells. -/
theorem gs2_at {w : World} {lo hi : Nat} {A : Option Addr} {n c : Nat} {l : List Rn} (h : Gs2 eR w lo hi (.slice A n c) l) {k : Nat} (hk : k < l.length) :
    ∃ b off r, A = some ⟨b, off, none⟩ ∧ n = l.length ∧ b < hi ∧ l.drop k = r :: l.drop (k + 1) ∧ l[k]? = some r ∧ w.cell? ⟨b, off + k * 2, none⟩ = some (.int .u16 r.1.toNat) ∧ w.cell? ⟨b, off + k * 2 + 1, none⟩ = some (.int .u16 r.2.toNat) := by
  obtain ⟨b, off, c', e, -, -, -, hb, hc⟩ := h.form (by rintro rfl; simp at hk)
  injection e with e1 e2 e3
  have h1 := List.getElem?_eq_getElem hk
  have := hc k _ h1
  rw [Nat.mul_comm 2 k] at this
  exact ⟨b, off, _, e1, e2, hb, List.drop_eq_getElem_cons hk, h1, this.1, this.2⟩
theorem mayr_eq (m : Nat) (r : Rn) (l : List Rn) : mayr m (r :: l) = (decide (m ≤ r.1.toNat) && (decide (lst r ≤ 65535) && mayr (lst r + 2) l)) := rfl
end Go.Proofs.YtcmifbjeabkihabGreatDoor
/- Runs: Rank (cut from stages 4 to 6) -/
namespace Go.Proofs.YtcmifbjeabkihabGreatDoor
open Go.RowKit
set_option linter.unusedVariables false

theorem ct_le' (p : Nat → Bool) (n : Nat) : ct p n ≤ n := by
  induction n with
  | zero => exact Nat.le_refl _
  | succ n ih => rw [ct]; cases p n <;> simp <;> omega
set_option maxHeartbeats 4000000 in
theorem rrank_any (v : Value) (A : List Rn) (X N : Nat) (w : World) (hv : Gs2 eR w 0 w.heap.size v A) (hA : mayr 0 A = true) (hX : X ≤ 100000) (hN : ct (mr A) X = N) :
    Calls Tryz.prog 132 #[v, .int .i64 X] w fun e w' => e = .returned (.int .i64 N) ∧ Below w.heap.size w w' := by
  have hlen := hv.len
  have HV := Lib.hid hv
  have HNB := Lib.hid (show N ≤ 100000 by have := ct_le' (mr A) X; omega)
  obtain ⟨A1, c1, rfl, -⟩ := hv
  have HN := Lib.hid hN
  have HA := Lib.hid hA
  clear hN hA
  go_enter Tryz.func132, Tryz.ntmps132
  go_wp2
  go_loopw [5, 10] (fun n i wr => ∃ k m d : Nat, k ≤ A.length ∧ n = .int .i64 m ∧ i = .int .i64 k ∧ Hid (mayr d (A.drop k) = true) ∧ Hid (m + ct (mr (A.drop k)) X = N) ∧ Below w.heap.size w wr) (fun _ i _ => A.length - (intOf i).toNat)
  case atStart => exact ⟨0, 0, 0, Nat.zero_le _, rfl, rfl, HA.out, by have := HN.out; show 0 + ct (mr A) X = N; omega, Below.refl _ _⟩
  case round =>
    obtain ⟨k, m, d, hk, rfl, rfl, hmr, hct, hbl⟩ := hrel
    have HB := Lib.hid hbl
    by_cases hlt : k < A.length
    · obtain ⟨b, off, r, e1, -, hb, hdr, hg, c0, c2⟩ := gs2_at HV.out hlt
      subst e1
      rw [← hbl.cell (p := ⟨b, off + k * 2, none⟩) hb] at c0
      rw [← hbl.cell (p := ⟨b, off + k * 2 + 1, none⟩) hb] at c2
      have hmr2 := hmr.out
      have hct2 := hct.out
      rw [hdr] at hmr2 hct2
      have hf := u16_lt r.1
      have hm := u16_lt r.2
      obtain ⟨f, hfe⟩ : ∃ f, f = r.1.toNat := ⟨_, rfl⟩
      obtain ⟨q, hqe⟩ : ∃ q, q = r.2.toNat := ⟨_, rfl⟩
      rw [← hfe] at c0 hf
      rw [← hqe] at c2 hm
      have HF := Lib.hid hf
      have HQ := Lib.hid hm
      have hlr : lst r = f + q := by unfold lst; rw [← hfe, ← hqe]
      have hbw : Below w.heap.size w (wr.alloc (.cells #[.int .u16 (f : Int), .int .u16 (q : Int)] 85)) := hbl.alloc hbl.size _
      have HBW := Lib.hid hbw
      have hsz := hbl.size
      by_cases h1 : X ≤ f
      · have hR : m = N := by
          rw [ct_mr_zero (m := r.1.toNat) (by obtain ⟨h1, h2, h3⟩ := mayr_cons.1 hmr2; exact mayr_cons.2 ⟨Nat.le_refl _, h2, h3⟩) (by omega)] at hct2
          omega
        have HRF := Lib.hid hR
        have h1' : (X : Int) ≤ f := by omega
        clear hbl hmr hct hdr hg hmr2 hct2 hR hfe hqe hlr hbw h1
        go_wp2
        go_ret
        exact ⟨by rw [HRF.out]; rfl, HBW.out⟩
      · have h1' : decide ((X : Int) ≤ f) = false := decide_eq_false (by omega)
        have h1n : ¬ ((X : Int) ≤ f) := by omega
        have hnx : m + min (X - f) (q + 1) + ct (mr (A.drop (k + 1))) X = N := by
          rw [← hct2, ct_mr_cons hmr2, hlr, ← hfe]
          omega
        have hmb : m ≤ 100000 := by have := HNB.out; omega
        have HM3 := Lib.hid (mayr_cons.1 hmr2).2.2
        have w1 : IntKind.i64.wrap (f : Int) = f := by simp [IntKind.wrap, IntKind.bits, IntKind.signed]; omega
        have w2 : IntKind.i64.wrap ((X : Int) - f) = (X : Int) - f := by simp [IntKind.wrap, IntKind.bits, IntKind.signed]; omega
        have HNX := Lib.hid hnx
        have hfin : (m : Int) + (if (q : Int) + 1 < (X : Int) - f then (q : Int) + 1 else (X : Int) - f) = ((m + min (X - f) (q + 1) : Nat) : Int) := by split <;> omega
        have w3 : IntKind.i64.wrap ((m : Int) + (if (q : Int) + 1 < (X : Int) - f then (q : Int) + 1 else (X : Int) - f)) = (m : Int) + (if (q : Int) + 1 < (X : Int) - f then (q : Int) + 1 else (X : Int) - f) := by
          rw [hfin]; simp [IntKind.wrap, IntKind.bits, IntKind.signed]; omega
        have HFIN := Lib.hid hfin
        clear hbl hmr hct hdr hg hmr2 hct2 hfe hqe hlr hbw h1 hnx hfin
        go_wp2_with fail
        go_region_with (go_at_call 184; refine (size_any f q HQ.out _).mono ?_; rintro e w9 ⟨rfl, b9⟩; have k0 := (b9.cell (p := ⟨wr.heap.size, 0, none⟩) (by simp)).trans (show _ = some (.int .u16 (f : Int)) by simp); have k1 := (b9.cell (p := ⟨wr.heap.size, 1, none⟩) (by simp)).trans (show _ = some (.int .u16 (q : Int)) by simp); have B9 := Lib.hid b9; clear b9)
        all_goals
          go_wp2
          refine ⟨⟨k + 1, m + min (X - f) (q + 1), _, by omega, by rw [HFIN.out], by go_num, HM3.out, HNX.out, below_both (below_drewN HBW.out 1) B9.out⟩, by simp [intOf]; omega⟩
    · obtain rfl : k = A.length := by omega
      have hR := hct.out
      rw [List.drop_length] at hR
      have HRF := Lib.hid (show m = N by have : ct (mr []) X = 0 := ct_zero fun x _ => rfl; omega)
      clear hbl hmr hR hct
      go_wp2
      go_ret
      exact ⟨by rw [HRF.out]; rfl, HB.out⟩
end Go.Proofs.YtcmifbjeabkihabGreatDoor
/- Runs: Len (cut from stages 4 to 6) -/
namespace Go.Proofs.YtcmifbjeabkihabGreatDoor
open Go.RowKit
set_option linter.unusedVariables false

set_option maxHeartbeats 400000 in
theorem rlen_any (v : Value) (A : List Rn) (N : Nat) (w : World) (hv : Gs2 eR w 0 w.heap.size v A) (hA : mayr 0 A = true) (hN : ct (mr A) 65536 = N) :
    Calls Tryz.prog 144 #[v] w fun e w' => e = .returned (.int .i64 N) ∧ Below w.heap.size w w' := by
  have T := Lib.hid (rrank_any v A 65536 N w hv hA (by omega) hN)
  clear hv hA hN
  go_enter Tryz.func144, Tryz.ntmps144
  go_wp2_with (go_at_call 132; refine T.out.mono ?_; rintro e w1 ⟨rfl, b1⟩; have B1 := Lib.hid b1; clear b1)
  go_ret
  exact ⟨rfl, B1.out⟩
/-- The number of which k are below it. -/
def sel : List Rn → Nat → Option Nat
  | [], _ => none
  | r :: l, k => if k < r.2.toNat + 1 then some (r.1.toNat + k) else sel l (k - (r.2.toNat + 1))
theorem ct_hit {p : Nat → Bool} {n m : Nat} (hp : p n = true) (h : n < m) : ct p n < ct p m := by
  induction m with
  | zero => omega
  | succ m ih =>
    rw [ct]
    by_cases e : n = m
    · subst e; rw [hp]; simp
    · have := ih (by omega); omega
theorem sel_some {d : Nat} {A : List Rn} (h : mayr d A = true) {k y : Nat} (hs : sel A k = some y) : mr A y = true ∧ ct (mr A) y = k ∧ y ≤ 65535 := by
  induction A generalizing d k with
  | nil => simp [sel] at hs
  | cons r l ih =>
    obtain ⟨h1, h2, h3⟩ := mayr_cons.1 h
    have hf := fst_le r
    rw [sel] at hs
    split at hs
    · rename_i hk
      injection hs with hs
      have hy : y ≤ lst r := by unfold lst; omega
      refine ⟨?_, ?_, by omega⟩
      · rw [mr_cons, (inr_iff _ _).2 ⟨by omega, hy⟩, Bool.true_or]
      · rw [ct_mr_cons h, ct_mr_zero h3 (by omega)]
        unfold lst
        omega
    · rename_i hk
      obtain ⟨i1, i2, i3⟩ := ih h3 hs
      have hge := (mr_ge h3 i1).1
      refine ⟨by rw [mr_cons, i1, Bool.or_true], ?_, i3⟩
      rw [ct_mr_cons h, i2]
      unfold lst at *
      omega
theorem sel_none {d : Nat} {A : List Rn} (h : mayr d A = true) {k : Nat} (hs : sel A k = none) : ct (mr A) 65536 ≤ k := by
  induction A generalizing d k with
  | nil => rw [ct_zero (p := mr []) fun x _ => rfl]; exact Nat.zero_le _
  | cons r l ih =>
    obtain ⟨h1, h2, h3⟩ := mayr_cons.1 h
    have hf := fst_le r
    rw [sel] at hs
    split at hs
    · cases hs
    · rename_i hk
      have := ih h3 hs
      rw [ct_mr_cons h]
      unfold lst at *
      omega
end Go.Proofs.YtcmifbjeabkihabGreatDoor
/- Runs: Has, its comparison (cut from stages 4 to 6) -/
namespace Go.Proofs.YtcmifbjeabkihabGreatDoor
open Go.RowKit
set_option linter.unusedVariables false

def fa (A : List Rn) (j : Nat) : Nat := (A.getD j (0, 0)).1.toNat
def la (A : List Rn) (j : Nat) : Nat := lst (A.getD j (0, 0))
theorem getD_some {A : List Rn} {j : Nat} {r : Rn} (h : A[j]? = some r) : A.getD j (0, 0) = r := by simp [List.getD, h]
/-- Runs rise, with a gap. -/
theorem mayr_gap {d : Nat} {A : List Rn} (h : mayr d A = true) {i j : Nat} (hij : i < j) (hj : j < A.length) : la A i + 2 ≤ fa A j := by
  induction A generalizing d i j with
  | nil => simp at hj
  | cons r l ih =>
    obtain ⟨h1, h2, h3⟩ := mayr_cons.1 h
    obtain ⟨j, rfl⟩ : ∃ j', j = j' + 1 := ⟨j - 1, by omega⟩
    have hjl : j < l.length := by simp at hj; omega
    cases i with
    | zero =>
      have e1 : la (r :: l) 0 = lst r := rfl
      have e2 : fa (r :: l) (j + 1) = fa l j := by simp [fa, List.getD]
      rw [e1, e2]
      have hle : ∀ {d : Nat} {l : List Rn} (h : mayr d l = true) {j : Nat} (hj : j < l.length), d ≤ fa l j := by
        intro d l h j hj
        induction l generalizing d j with
        | nil => simp at hj
        | cons s l ih2 =>
          obtain ⟨g1, g2, g3⟩ := mayr_cons.1 h
          have := fst_le s
          cases j with
          | zero => exact g1
          | succ j =>
            have e : fa (s :: l) (j + 1) = fa l j := by simp [fa, List.getD]
            rw [e]
            have := ih2 g3 (j := j) (by simp at hj; omega)
            omega
      exact hle h3 hjl
    | succ i =>
      have e1 : la (r :: l) (i + 1) = la l i := by simp [la, List.getD]
      have e2 : fa (r :: l) (j + 1) = fa l j := by simp [fa, List.getD]
      rw [e1, e2]
      exact ih h3 (by omega) hjl
theorem fa_le_la (A : List Rn) (j : Nat) : fa A j ≤ la A j := fst_le _
theorem mr_at {A : List Rn} {x : Nat} : mr A x = true ↔ ∃ j, j < A.length ∧ fa A j ≤ x ∧ x ≤ la A j := by
  unfold mr
  rw [List.any_eq_true]
  constructor
  · rintro ⟨r, hr, hi⟩
    obtain ⟨j, hj, e⟩ := List.mem_iff_getElem.1 hr
    have e2 : A.getD j (0, 0) = r := getD_some (by rw [List.getElem?_eq_getElem hj, e])
    have := (inr_iff _ _).1 hi
    exact ⟨j, hj, by unfold fa; rw [e2]; exact this.1, by unfold la; rw [e2]; exact this.2⟩
  · rintro ⟨j, hj, h1, h2⟩
    have e2 : A.getD j (0, 0) = A[j] := getD_some (List.getElem?_eq_getElem hj)
    unfold fa at h1
    unfold la at h2
    rw [e2] at h1 h2
    exact ⟨A[j], List.getElem_mem hj, (inr_iff _ _).2 ⟨h1, h2⟩⟩
/-- Where a number is looked for. -/
theorem has_at {A : List Rn} (hA : mayr 0 A = true) {x n : Nat} (hn : n ≤ A.length) (h1 : ∀ j, j < n → fa A j < x) (h2 : ∀ j, n ≤ j → j < A.length → x ≤ fa A j) :
    mr A x = ((decide (n < A.length) && decide (fa A n = x)) || (decide (0 < n) && decide (x ≤ la A (n - 1)))) := by
  rw [Bool.eq_iff_iff, mr_at]
  simp only [Bool.or_eq_true, Bool.and_eq_true, decide_eq_true_eq]
  constructor
  · rintro ⟨j, hj, a, b⟩
    rcases Nat.lt_or_ge j n with hjn | hjn
    · right
      refine ⟨by omega, ?_⟩
      rcases Nat.lt_or_ge j (n - 1) with h | h
      · have := mayr_gap hA h (by omega)
        have := h1 (n - 1) (by omega)
        omega
      · have : j = n - 1 := by omega
        rw [← this]; exact b
    · left
      have hx := h2 j hjn hj
      rcases Nat.lt_or_ge n j with h | h
      · have g := mayr_gap hA h hj
        have := h2 n (Nat.le_refl _) (by omega)
        have := fa_le_la A n
        omega
      · have : n = j := by omega
        rw [this]
        exact ⟨hj, by omega⟩
  · rintro (⟨a, b⟩ | ⟨a, b⟩)
    · exact ⟨n, a, by omega, by have := fa_le_la A n; omega⟩
    · exact ⟨n - 1, by omega, by have := h1 (n - 1) (by omega); omega, b⟩
set_option maxHeartbeats 400000 in
theorem nan_any (x : Int) (w : World) :
    Calls Tryz.prog 108 #[.int .u16 x] w fun e w' => e = .returned (.bool false) ∧ w' = w := by
  go_enter Tryz.func108, Tryz.ntmps108
  go_wp2
  go_ret
  exact ⟨by simp, rfl⟩
def cmpv (x y : Int) : Int := if x < y then -1 else if y < x then 1 else 0
set_option maxHeartbeats 1000000 in
theorem compare_any (x y : Int) (w : World) :
    Calls Tryz.prog 62 #[.int .u16 x, .int .u16 y] w fun e w' => e = .returned (.int .i64 (cmpv x y)) ∧ w' = w := by
  rcases Int.lt_trichotomy x y with h | h | h
  · have e : cmpv x y = -1 := by unfold cmpv; rw [if_pos h]
    rw [e]
    go_enter Tryz.func62, Tryz.ntmps62
    go_wp2_with (go_at_call 108; refine (nan_any _ _).mono ?_; rintro e w1 ⟨rfl, hz⟩; have hz := hz.symm; subst hz)
    go_ret
    exact ⟨rfl, rfl⟩
  · have e : cmpv x y = 0 := by unfold cmpv; rw [if_neg (by omega), if_neg (by omega)]
    rw [e]
    subst h
    go_enter Tryz.func62, Tryz.ntmps62
    go_wp2_with (go_at_call 108; refine (nan_any _ _).mono ?_; rintro e w1 ⟨rfl, hz⟩; have hz := hz.symm; subst hz)
    go_ret
    exact ⟨rfl, rfl⟩
  · have e : cmpv x y = 1 := by unfold cmpv; rw [if_neg (by omega), if_pos h]
    rw [e]
    have h2 : x > y := h
    have h3 : ¬ x < y := by omega
    go_enter Tryz.func62, Tryz.ntmps62
    go_wp2_with (go_at_call 108; refine (nan_any _ _).mono ?_; rintro e w1 ⟨rfl, hz⟩; have hz := hz.symm; subst hz)
    go_ret
    exact ⟨rfl, rfl⟩
set_option maxHeartbeats 1000000 in
theorem hascmp_any (f q x : Nat) (w : World) :
    Calls Tryz.prog 159 #[.agg #[.int .u16 f, .int .u16 q], .int .u16 x] w fun e w' => e = .returned (.int .i64 (cmpv f x)) ∧ Below w.heap.size w w' := by
  have B := Lib.hid ((Below.refl w.heap.size w).alloc (Nat.le_refl _) (.cells #[.int .u16 (f : Int), .int .u16 (q : Int)] 85))
  go_enter Tryz.func159, Tryz.ntmps159
  go_wp2_with (go_at_call 62; refine (compare_any _ _ _).mono ?_; rintro e w1 ⟨rfl, hz⟩; have hz := hz.symm; subst hz)
  go_ret
  exact ⟨rfl, B.out⟩
end Go.Proofs.YtcmifbjeabkihabGreatDoor
/- Runs: Has, its search (cut from stages 4 to 6) -/
namespace Go.Proofs.YtcmifbjeabkihabGreatDoor
open Go.RowKit
set_option linter.unusedVariables false

theorem fa_of {A : List Rn} {j : Nat} {r : Rn} (h : A[j]? = some r) : fa A j = r.1.toNat := by unfold fa; rw [getD_some h]
theorem la_of {A : List Rn} {j : Nat} {r : Rn} (h : A[j]? = some r) : la A j = lst r := by unfold la; rw [getD_some h]
set_option maxHeartbeats 4000000 in
theorem bsf_any (v : Value) (A : List Rn) (x : Nat) (w : World) (hv : Gs2 eR w 0 w.heap.size v A) (hA : mayr 0 A = true) (hb : A.length ≤ 100000000) :
    Calls Tryz.prog 158 #[v, .int .u16 x, .func (.func 159) #[] #[]] w fun e w' => ∃ n : Nat, e = .returned (.tuple #[.int .i64 n, .bool (decide (n < A.length) && decide (fa A n = x))]) ∧ n ≤ A.length ∧ (∀ j, j < n → fa A j < x) ∧ (∀ j, n ≤ j → j < A.length → x ≤ fa A j) ∧ Below w.heap.size w w' := by
  have HE : Enters Tryz.prog 159 := enters_of Tryz.func159 (by kernel_rfl) rfl
  unfold Enters at HE
  have HV := Lib.hid hv
  have HA := Lib.hid hA
  obtain ⟨A1, c1, rfl, -⟩ := hv
  clear hA
  go_enter Tryz.func158, Tryz.ntmps158
  go_wp2
  go_loopw [9, 10] (fun s7 s8 wr => ∃ i j : Nat, i ≤ j ∧ j ≤ A.length ∧ s7 = .int .i64 i ∧ s8 = .int .i64 j ∧ Hid (∀ t, t < i → fa A t < x) ∧ Hid (∀ t, j ≤ t → t < A.length → x ≤ fa A t) ∧ Below w.heap.size w wr) (fun s7 s8 _ => (intOf s8).toNat - (intOf s7).toNat)
  case atStart => exact ⟨0, A.length, Nat.zero_le _, Nat.le_refl _, rfl, rfl, fun t ht => absurd ht (Nat.not_lt_zero _), fun t h1 h2 => absurd h2 (by omega), Below.refl _ _⟩
  case round =>
    obtain ⟨i, j, hij, hj, rfl, rfl, hlo, hhi, hbl⟩ := hrel
    have HB := Lib.hid hbl
    by_cases hlt : i < j
    · obtain ⟨m, hm⟩ : ∃ m, m = (i + j) / 2 := ⟨_, rfl⟩
      have hml : m < A.length := by omega
      obtain ⟨b, off, r, e1, -, hbb, hdr, hg, c0, c2⟩ := gs2_at HV.out hml
      subst e1
      rw [← hbl.cell (p := ⟨b, off + m * 2, none⟩) hbb] at c0
      rw [← hbl.cell (p := ⟨b, off + m * 2 + 1, none⟩) hbb] at c2
      have hfa := fa_of hg
      obtain ⟨f, hfe⟩ : ∃ f, f = r.1.toNat := ⟨_, rfl⟩
      obtain ⟨q, hqe⟩ : ∃ q, q = r.2.toNat := ⟨_, rfl⟩
      rw [← hfe] at c0 hfa
      rw [← hqe] at c2
      have hm1 : ((i : Int) + j) / 2 = m := by omega
      have hi1 : m < j := by omega
      have hi2 : i ≤ m := by omega
      have w0 : IntKind.i64.wrap ((i : Int) + j) = (i : Int) + j := by rw [IntKind.wrap_i64]; omega
      have w1 : IntKind.u64.wrap ((i : Int) + j) = (i : Int) + j := by rw [IntKind.wrap_u64]; omega
      have w2 : IntKind.i64.wrap (m : Int) = m := by rw [IntKind.wrap_i64]; omega
      have hlti : (i : Int) < j := by omega
      have hmli : (m : Int) < A.length := by omega
      have hsz := hbl.size
      by_cases hyc : f < x
      · have hc : cmpv f x = -1 := by unfold cmpv; rw [if_pos (by omega)]
        have hlo2 : ∀ t, t < m + 1 → fa A t < x := fun t ht => by
          rcases Nat.lt_or_ge t m with h | h
          · have := mayr_gap HA.out h hml
            have := fa_le_la A t
            omega
          · have : t = m := by omega
            rw [this]; omega
        have HLO := Lib.hid hlo2
        have HC := Lib.hid hc
        clear hm hdr hg hfa hfe hqe hlo hlo2 hbl hc
        go_wp2_with fail
        refine (hascmp_any f q x _).mono ?_
        rw [HC.out]
        rintro e w9 ⟨rfl, b9⟩
        have B9 := Lib.hid b9
        clear b9
        go_wp2
        refine ⟨⟨m + 1, j, by omega, by omega, by go_num, rfl, HLO.out, hhi, below_both HB.out B9.out⟩, by simp [intOf]; omega⟩
      · have hc : 0 ≤ cmpv f x := by unfold cmpv; rw [if_neg (by omega)]; split <;> omega
        have hhi2 : ∀ t, m ≤ t → t < A.length → x ≤ fa A t := fun t h1 h2 => by
          rcases Nat.lt_or_ge m t with h | h
          · have := mayr_gap HA.out h h2
            have := fa_le_la A m
            omega
          · have : t = m := by omega
            rw [this]; omega
        have HHI := Lib.hid hhi2
        obtain ⟨cv, hcv⟩ : ∃ cv, cv = cmpv f x := ⟨_, rfl⟩
        have HC := Lib.hid hcv
        have hc1 : decide (cv < 0) = false := decide_eq_false (by omega)
        have hc2 : 0 ≤ cv := by omega
        clear hm hdr hg hfa hfe hqe hhi hhi2 hbl hc hcv
        go_wp2_with fail
        refine (hascmp_any f q x _).mono ?_
        rw [← HC.out]
        rintro e w9 ⟨rfl, b9⟩
        have B9 := Lib.hid b9
        clear b9
        go_wp2
        refine ⟨⟨i, m, by omega, by omega, rfl, by go_num, hlo, HHI.out, below_both HB.out B9.out⟩, by simp [intOf]; omega⟩
    · obtain rfl : i = j := by omega
      by_cases hi : i < A.length
      · obtain ⟨b, off, r, e1, -, hbb, hdr, hg, c0, c2⟩ := gs2_at HV.out hi
        subst e1
        rw [← hbl.cell (p := ⟨b, off + i * 2, none⟩) hbb] at c0
        rw [← hbl.cell (p := ⟨b, off + i * 2 + 1, none⟩) hbb] at c2
        have hfa := fa_of hg
        obtain ⟨f, hfe⟩ : ∃ f, f = r.1.toNat := ⟨_, rfl⟩
        obtain ⟨q, hqe⟩ : ∃ q, q = r.2.toNat := ⟨_, rfl⟩
        rw [← hfe] at c0 hfa
        rw [← hqe] at c2
        have hii : (i : Int) < A.length := by omega
        obtain ⟨cv, hcv⟩ : ∃ cv, cv = cmpv f x := ⟨_, rfl⟩
        have hR : (decide (i < A.length) && decide (fa A i = x)) = (cv == 0) := by
          rw [decide_eq_true hi, Bool.true_and, hfa, hcv, Bool.eq_iff_iff, decide_eq_true_eq, beq_iff_eq]
          unfold cmpv
          split
          · omega
          · split <;> omega
        have HC := Lib.hid hcv
        have HR := Lib.hid hR
        clear hdr hg hfa hfe hqe hcv hR hbl
        go_wp2_with fail
        refine (hascmp_any f q x _).mono ?_
        rw [← HC.out]
        rintro e w9 ⟨rfl, b9⟩
        have B9 := Lib.hid b9
        clear b9
        go_wp2
        go_ret2
        refine ⟨i, ?_, by omega, hlo, hhi, below_both HB.out B9.out⟩
        rw [HR.out]
        rfl
      · have hR : (decide (i < A.length) && decide (fa A i = x)) = false := by rw [decide_eq_false hi, Bool.false_and]
        have HR := Lib.hid hR
        have hii : ¬ (i : Int) < A.length := by omega
        clear hR hbl
        go_wp2
        go_ret2
        refine ⟨i, ?_, by omega, hlo, hhi, HB.out⟩
        rw [HR.out]
        rfl
end Go.Proofs.YtcmifbjeabkihabGreatDoor
/- Runs: Has (cut from stages 4 to 6) -/
namespace Go.Proofs.YtcmifbjeabkihabGreatDoor
open Go.RowKit
set_option linter.unusedVariables false

set_option maxHeartbeats 4000000 in
theorem rhas_any (v : Value) (A : List Rn) (x : Nat) (w : World) (hv : Gs2 eR w 0 w.heap.size v A) (hA : mayr 0 A = true) (hb : A.length ≤ 100000000) (hx : x < 65536) :
    Calls Tryz.prog 111 #[v, .int .u16 x] w fun e w' => e = .returned (.bool (mr A x)) ∧ Below w.heap.size w w' := by
  have HV := Lib.hid hv
  have HA := Lib.hid hA
  have HX := Lib.hid hx
  have T := Lib.hid (bsf_any v A x w hv hA hb)
  obtain ⟨A1, c1, rfl, -⟩ := hv
  clear hA
  go_enter Tryz.func111, Tryz.ntmps111
  go_wp2_with fail
  go_at_call 158
  refine T.out.mono ?_
  rintro e w1 ⟨n, rfl, hn, h1, h2, b1⟩
  have hR := has_at HA.out hn h1 h2
  have hbl := b1
  have B1 := Lib.hid b1
  clear b1 T
  cases hbg : (decide (n < A.length) && decide (fa A n = x)) with
  | true =>
    rw [hbg, Bool.true_or] at hR
    have HR := Lib.hid hR
    clear hR hbl h1 h2 hbg
    go_wp2
    go_ret
    exact ⟨by rw [HR.out]; rfl, B1.out⟩
  | false =>
    rw [hbg, Bool.false_or] at hR
    by_cases h0 : n = 0
    · subst h0
      have HR := Lib.hid (hR.trans (by simp : _ = false))
      clear hR hbl h1 h2 hbg
      go_wp2
      go_ret
      exact ⟨by rw [HR.out]; rfl, B1.out⟩
    · rw [decide_eq_true (p := 0 < n) (by omega), Bool.true_and] at hR
      obtain ⟨m, rfl⟩ : ∃ m, n = m + 1 := ⟨n - 1, by omega⟩
      rw [Nat.add_sub_cancel] at hR
      obtain ⟨b, off, r, e1, -, hbb, hdr, hg, c0, c2⟩ := gs2_at HV.out (k := m) (by omega)
      subst e1
      rw [← hbl.cell (p := ⟨b, off + m * 2, none⟩) hbb] at c0
      rw [← hbl.cell (p := ⟨b, off + m * 2 + 1, none⟩) hbb] at c2
      have hla := la_of hg
      have hf := u16_lt r.1
      have hq := u16_lt r.2
      obtain ⟨f, hfe⟩ : ∃ f, f = r.1.toNat := ⟨_, rfl⟩
      obtain ⟨q, hqe⟩ : ∃ q, q = r.2.toNat := ⟨_, rfl⟩
      unfold lst at hla
      rw [← hfe, ← hqe] at hla
      rw [← hfe] at c0 hf
      rw [← hqe] at c2 hq
      have HF := Lib.hid hf
      have HQ := Lib.hid hq
      have hR2 : mr A x = decide ((x : Int) < (f : Int) + ((q : Int) + 1)) := by rw [hR, hla]; exact decide_eq_decide.2 (by omega)
      have HR := Lib.hid hR2
      have g1 : decide (((m + 1 : Nat) : Int) > 0) = true := decide_eq_true (by omega)
      have g2 : ((m + 1 : Nat) : Int) > 0 := by omega
      have w1 : IntKind.i64.wrap (((m + 1 : Nat) : Int) - 1) = (m : Int) := by simp [IntKind.wrap, IntKind.bits, IntKind.signed]; omega
      have g3 : (m : Int) < A.length := by omega
      have w2 : IntKind.i64.wrap (x : Int) = x := by have := HX.out; simp [IntKind.wrap, IntKind.bits, IntKind.signed]; omega
      clear hR hR2 hbl h1 h2 hbg hla hfe hqe hdr hg h0
      go_wp2_with (go_at_call 145; refine (end_any f q HF.out HQ.out _).mono ?_; rintro e w9 ⟨rfl, b9⟩; have B9 := Lib.hid b9; clear b9)
      go_ret
      exact ⟨by rw [HR.out]; rfl, below_both B1.out B9.out⟩
end Go.Proofs.YtcmifbjeabkihabGreatDoor
namespace Go.Proofs.YtcmifbjeabkihabGreatDoor
open Go.RowKit
set_option linter.unusedVariables false

/-- The runs of a row's first numbers. -/
def ofp (l : List UInt16) : Nat → List Rn
  | 0 => []
  | k + 1 => if (decide (0 < k) && decide ((at16 l k).toNat = (at16 l (k - 1)).toNat + 1)) = true then bump (ofp l k) else ofp l k ++ [(at16 l k, 0)]
theorem ofp_ne (l : List UInt16) (k : Nat) (h : 0 < k) : ∃ L r, ofp l k = L ++ [r] ∧ (ofp l k).length ≤ k := by
  induction k with
  | zero => omega
  | succ k ih =>
    rw [ofp]
    split
    · rename_i hc
      rw [Bool.and_eq_true, decide_eq_true_eq] at hc
      obtain ⟨L, r, e, hl⟩ := ih hc.1
      rw [e, bump_snoc]
      rw [e] at hl
      exact ⟨L, _, rfl, by simp at hl ⊢; omega⟩
    · refine ⟨_, _, rfl, ?_⟩
      cases k with
      | zero => simp [ofp]
      | succ k =>
        obtain ⟨L, r, e, hl⟩ := ih (by omega)
        simp
        omega
theorem ofp_succ (l : List UInt16) (k : Nat) : ofp l (k + 1) = if (decide (0 < k) && decide ((at16 l k).toNat = (at16 l (k - 1)).toNat + 1)) = true then bump (ofp l k) else ofp l k ++ [(at16 l k, 0)] := rfl
theorem wrap_more (r : UInt16) : IntKind.u16.wrap ((r.toNat : Int) + 1) = ((r + 1).toNat : Int) := by
  rw [UInt16.toNat_add]
  have : (1 : UInt16).toNat = 1 := rfl
  rw [this]
  simp [IntKind.wrap, IntKind.bits, IntKind.signed]
/-- The last run made one longer, where it lies. -/
theorem bumped {w : World} {base b c m : Nat} {L : List Rn} {r : Rn} (h : Gw2 eR w base (.slice (some ⟨b, 0, none⟩) (m + 1) c) (L ++ [r])) (hm : L.length = m) (a : Nat) (ha : a = m * 2 + 1) :
    Gw2 eR (w.setCell ⟨b, a, none⟩ (.int .u16 ((r.2 + 1).toNat : Int))) base (.slice (some ⟨b, 0, none⟩) (m + 1) c) (bump (L ++ [r])) := by
  subst ha
  have h1 := h.stored2 m r (r.1, r.2 + 1) (by rw [← hm]; simp) rfl
  have e : (L ++ [r]).set m (r.1, r.2 + 1) = bump (L ++ [r]) := by
    rw [bump_snoc, ← hm]
    simp
  rw [e, Nat.mul_comm 2 m] at h1
  exact h1
set_option maxHeartbeats 4000000 in
theorem rof_any (v : Value) (l : List UInt16) (w : World) (hv : Gs e16 w 0 w.heap.size v l) (hb : l.length ≤ 100000) :
    Calls Tryz.prog 129 #[v] w fun e w' => ∃ v', e = .returned v' ∧ Gw2 eR w' w.heap.size v' (ofp l l.length) ∧ Below w.heap.size w w' := by
  have hlen := hv.len
  have HV := Lib.hid hv
  obtain ⟨A1, c1, rfl, -⟩ := hv
  go_enter Tryz.func129, Tryz.ntmps129
  go_wp2
  go_loopw [3, 8] (fun s i wr => ∃ k : Nat, k ≤ l.length ∧ i = .int .i64 k ∧ Gw2 eR wr w.heap.size s (ofp l k) ∧ Below w.heap.size w wr) (fun _ i => fun _ => l.length - (intOf i).toNat)
  case atStart => exact ⟨0, Nat.zero_le _, rfl, Gw2.nil_ _ _, Below.refl _ _⟩
  case round =>
    obtain ⟨k, hk, rfl, own, hbl⟩ := hrel
    have HO := Lib.hid own
    have HB := Lib.hid hbl
    by_cases hlt : k < l.length
    · obtain ⟨b, off, c, e1, -, -, -, hbk, hc⟩ := HV.out.form (by rintro rfl; simp at hlt)
      injection e1 with e1 _ e2
      subst e1 e2
      have k1 := hc k _ (at16_get hlt)
      simp only [e16, b16] at k1
      rw [← hbl.cell (p := ⟨b, off + k, none⟩) hbk] at k1
      obtain ⟨x, hx⟩ : ∃ x : Nat, x = (at16 l k).toNat := ⟨_, rfl⟩
      have hxl := u16_lt (at16 l k)
      rw [← hx] at k1 hxl
      have hki : (k : Int) < l.length := by omega
      by_cases h0 : k = 0
      · have hn : ofp l (k + 1) = ofp l k ++ [(at16 l k, 0)] := by rw [ofp_succ, decide_eq_false (p := 0 < k) (by omega)]; rfl
        have hl0 : (ofp l k).length ≤ 100000 := by rw [h0]; simp [ofp]
        have HN := Lib.hid hn
        have HX := Lib.hid hx
        have HL := Lib.hid hl0
        have hk0 : ¬ (k : Int) > 0 := by omega
        clear own hbl hc hx hn h0 hl0
        go_wp2_with (at_builtin; refine wpList_gapp2_one eR _ rfl _ _ _ rfl w.heap.size sliR infR _ _ rfl HO.out _ _ (at16 l k, 0) (by rw [HX.out]; rfl) rfl rfl (by have := HL.out; omega) HB.out.size ?_; intro v2 w2 o2 g2 _; have O2 := Lib.hid o2; have G2 := Lib.hid g2; clear o2 g2)
        refine ⟨⟨k + 1, by omega, by go_num, by rw [HN.out]; exact O2.out, HB.out.grown G2.out HB.out.size (fun j hj => (HO.out.lt j hj).1)⟩, by simp [intOf]; omega⟩
      · obtain ⟨m, rfl⟩ : ∃ m, k = m + 1 := ⟨k - 1, by omega⟩
        obtain ⟨y, hy⟩ : ∃ y : Nat, y = (at16 l m).toNat := ⟨_, rfl⟩
        have hyl := u16_lt (at16 l m)
        have k2 := hc m _ (at16_get (by omega))
        simp only [e16, b16] at k2
        rw [← hbl.cell (p := ⟨b, off + m, none⟩) hbk, ← hy] at k2
        rw [← hy] at hyl
        have w1 : IntKind.i64.wrap (((m + 1 : Nat) : Int) - 1) = (m : Int) := by simp [IntKind.wrap, IntKind.bits, IntKind.signed]; omega
        have hk0 : ((m + 1 : Nat) : Int) > 0 := by omega
        have hmi : (m : Int) < l.length := by omega
        obtain ⟨L, r, hLr, hLn⟩ := ofp_ne l (m + 1) (by omega)
        by_cases hxy : x = y + 1
        · have hn : ofp l (m + 1 + 1) = bump (L ++ [r]) := by rw [ofp_succ, decide_eq_true (p := 0 < m + 1) (by omega), Nat.add_sub_cancel, decide_eq_true (p := (at16 l (m + 1)).toNat = _) (by rw [← hx, ← hy]; exact hxy), hLr]; rfl
          rw [hLr] at own hLn
          obtain ⟨bb, c3, rfl, -, -, hge, -, hcell, hfr⟩ := own.form (by simp)
          have hL : (L ++ [r]).length = L.length + 1 := by simp
          have q2 := (hcell L.length r (by simp)).2
          have q3 := hfr (L.length * 2 + 1)
          rw [Nat.mul_comm 2] at q2
          rw [hL] at own hLn
          simp only [hL] at HO ⊢
          have HN := Lib.hid hn
          have OW := Lib.hid own
          have HGE := Lib.hid hge
          have WM := Lib.hid (wrap_more r.2)
          simp only [eR] at q2
          have w3 : IntKind.i64.wrap (((L.length + 1 : Nat) : Int) - 1) = (L.length : Int) := by simp [IntKind.wrap, IntKind.bits, IntKind.signed]; omega
          have hxyi : (x : Int) = (y : Int) + 1 := by omega
          clear HO own hbl hc hx hy hn hLr hL hcell hfr hge h0 hxy
          go_wp2
          rw [WM.out]
          refine ⟨⟨m + 1 + 1, by omega, by go_num, by rw [HN.out]; exact bumped OW.out rfl _ rfl, HB.out.grown (grown_set _ _ _ _) HB.out.size (fun j hj => by injection hj with hj; subst hj; exact HGE.out)⟩, by simp [intOf]; omega⟩
        · have hn : ofp l (m + 1 + 1) = (L ++ [r]) ++ [(at16 l (m + 1), 0)] := by rw [ofp_succ, decide_eq_true (p := 0 < m + 1) (by omega), Nat.add_sub_cancel, decide_eq_false (p := (at16 l (m + 1)).toNat = _) (by rw [← hx, ← hy]; exact hxy), hLr]; rfl
          rw [hLr] at own hLn
          have HN := Lib.hid hn
          have HX := Lib.hid hx
          have OW := Lib.hid own
          have HL := Lib.hid hLn
          have hxyi : ¬ (x : Int) = (y : Int) + 1 := by omega
          clear HO own hbl hc hx hy hn hLr hLn h0 hxy
          go_wp2_with (at_builtin; refine wpList_gapp2_one eR _ rfl _ _ _ rfl w.heap.size sliR infR _ _ rfl OW.out _ _ (at16 l (m + 1), 0) (by rw [HX.out]; rfl) rfl rfl (by have := HL.out; omega) HB.out.size ?_; intro v2 w2 o2 g2 _; have O2 := Lib.hid o2; have G2 := Lib.hid g2; clear o2 g2)
          refine ⟨⟨m + 1 + 1, by omega, by go_num, by rw [HN.out]; exact O2.out, HB.out.grown G2.out HB.out.size (fun j hj => (OW.out.lt j hj).1)⟩, by simp [intOf]; omega⟩
    · obtain rfl : k = l.length := by omega
      clear own hbl
      go_wp2
      go_ret
      exact ⟨_, rfl, HO.out, HB.out⟩
end Go.Proofs.YtcmifbjeabkihabGreatDoor
