/- Walks: Rank and Select of numbers, words, runs, as a container's methods; runs.Rank at any place. -/
import Derived.Test.YtcmifbjeabkihaaGreatDoorMa9
import Derived.Test.YtcmifbjeabkihaaGreatDoorMa7
import Derived.Test.YtcmifbjeabkihaaGreatDoorMb2
/- Walks: Select of words and of runs (cut from stages 5 and 6). -/
namespace Go.Proofs.YtcmifbjeabkihaaGreatDoor
open Go.RowKit
set_option linter.unusedVariables false

/-- The number of which K are below it, else 0; whether there is one. -/
def sx (p : Nat → Bool) (K : Int) : UInt16 := if 0 ≤ K then (ls p 65536).getD K.toNat 0 else 0
def so (p : Nat → Bool) (K : Int) : Bool := decide (0 ≤ K) && decide (K < (ct p 65536 : Nat))
theorem sel_no {p : Nat → Bool} {K : Int} (h : K < 0 ∨ (ct p 65536 : Nat) ≤ K) : sx p K = 0 ∧ so p K = false := by
  unfold sx so
  by_cases h0 : 0 ≤ K
  · have h1 : ((ct p 65536 : Nat) : Int) ≤ K := by omega
    rw [if_pos h0, decide_eq_false (show ¬ K < ((ct p 65536 : Nat) : Int) by omega), Bool.and_false, List.getD_eq_getElem?_getD, List.getElem?_eq_none (by rw [ls_ct]; omega)]
    exact ⟨rfl, rfl⟩
  · rw [if_neg h0, decide_eq_false h0]
    exact ⟨rfl, rfl⟩
theorem sel_yes {p : Nat → Bool} {K : Int} {y : Nat} (hy : y < 65536) (hp : p y = true) (hK : K = (ct p y : Nat)) : sx p K = UInt16.ofNat y ∧ so p K = true := by
  subst hK
  have h1 := ls_at p hy hp
  have h2 : ct p (y + 1) = ct p y + 1 := by rw [ct, hp]; rfl
  have h3 := ct_mono p (a := y + 1) (b := 65536) (by omega)
  unfold sx so
  rw [if_pos (by omega), Int.toNat_natCast, decide_eq_true (by omega), decide_eq_true (by omega), List.getD_eq_getElem?_getD, h1]
  exact ⟨rfl, rfl⟩
theorem word_ct (l : List UInt64) (i a : Nat) (ha : a = (l.getD i 0).toNat) : ct (wb l) (64 * i) + ct a.testBit 64 = ct (wb l) (64 * (i + 1)) := by
  have e : ct a.testBit 64 = ct (fun j => wb l (64 * i + j)) 64 := ct_ext fun j hj => by rw [ha, wb_at _ _ _ hj]
  rw [e, ← ct_add]
  congr 1

set_option maxHeartbeats 1000000 in
set_option maxRecDepth 100000 in
theorem wselect_any (v : Value) (l : List UInt64) (lo hi : Nat) (K : Int) (W : World) (hv : Gs e64 W lo hi v l) (hT : Tb W) (hK : K ≤ 9223372036854775807) :
    Calls Tryz.prog 201 #[v, .int .i64 K] W fun e w' => e = .returned (.tuple #[.int .u16 ((sx (wb l) K).toNat : Nat), .bool (so (wb l) K)]) ∧ w' = W := by
  have HV := Lib.hid hv
  have HT := Lib.hid hT
  obtain ⟨A, c, rfl, -⟩ := hv
  clear hT
  by_cases h0 : K < 0
  · obtain ⟨n1, n2⟩ := sel_no (p := wb l) (.inl h0)
    rw [n1, n2]
    clear n1 n2
    go_enter Tryz.func201, Tryz.ntmps201
    go_wp2
    go_ret2
    exact ⟨rfl, rfl⟩
  · obtain ⟨X, hX⟩ : ∃ X, X = sx (wb l) K := ⟨_, rfl⟩
    obtain ⟨B, hB⟩ : ∃ B, B = so (wb l) K := ⟨_, rfl⟩
    rw [← hX, ← hB]
    have HX := Lib.hid hX
    have HB := Lib.hid hB
    clear hX hB
    go_enter Tryz.func201, Tryz.ntmps201
    go_wp2
    go_loop [1, 11] (fun s1 s11 => ∃ i n : Nat, ∃ D : Int, i ≤ 1024 ∧ s11 = .int .i64 i ∧ s1 = .int .i64 D ∧ n = ct (wb l) (64 * i) ∧ D = K - n ∧ 0 ≤ D) (fun _ i => ((1024 : Int) - intOf i).toNat)
    case atStart => exact ⟨0, 0, K, by omega, rfl, rfl, rfl, by simp, by omega⟩
    case round =>
      obtain ⟨i, n, D, hik, rfl, rfl, hn, hD, hD0⟩ := hrel
      by_cases hlt : i < 1024
      · obtain ⟨a, ha⟩ : ∃ a, a = (l.getD i 0).toNat := ⟨_, rfl⟩
        have hw := word_ct l i a ha
        have ha1 : a < 18446744073709551616 := by rw [ha]; exact u64_lt _
        have hrs0 := rs_start l i a ha
        have h2 := ct_le a.testBit 64
        obtain ⟨q, hq⟩ : ∃ q, q = ct a.testBit 64 := ⟨_, rfl⟩
        rw [← hq, ← hn] at hw
        rw [← hq] at h2
        have HA := Lib.hid ha
        have HA1 := Lib.hid ha1
        have HQ := Lib.hid hq
        have HN := Lib.hid hn
        have HD := Lib.hid hD
        have HW := Lib.hid hw
        have HI := Lib.hid hlt
        have H2 := Lib.hid h2
        have HRS0 := Lib.hid hrs0
        have hli : (i : Int) < 1024 := by omega
        have hDm : D ≤ 9223372036854775807 := by omega
        clear ha ha1 hq hn hw hlt hik h2 hrs0 hD
        by_cases hge : (q : Int) ≤ D
        · go_wp2_with (first
            | (go_at_call 194; refine (at_of _ l lo hi _ i a rfl HA.out _ HV.out).mono ?_; rintro e w1 ⟨rfl, hz⟩; have hz := hz.symm; subst hz)
            | (go_at_call 236; refine (ones_of _ a rfl HA1.out _).mono ?_; rw [← HQ.out]; rintro e w1 ⟨rfl, hz⟩; have hz := hz.symm; subst hz))
          go_round
          case rel => exact ⟨i + 1, n + q, D - q, HI.out, by go_num, by go_num, HW.out, by have := HD.out; push_cast; omega, by omega⟩
          case measure => simp [intOf]; omega
        · go_wp2_with (first
            | (go_at_call 194; refine (at_of _ l lo hi _ i a rfl HA.out _ HV.out).mono ?_; rintro e w1 ⟨rfl, hz⟩; have hz := hz.symm; subst hz)
            | (go_at_call 236; refine (ones_of _ a rfl HA1.out _).mono ?_; rw [← HQ.out]; rintro e w1 ⟨rfl, hz⟩; have hz := hz.symm; subst hz))
          go_loop [7, 26] (fun s7 s26 => ∃ t r j : Nat, s7 = .int .u64 r ∧ s26 = .int .i64 j ∧ Rs l i t r ∧ ct (wb l) (64 * i + t) = n + j ∧ (j : Int) ≤ D) (fun _ j => (D - intOf j).toNat)
          case atStart => exact ⟨0, a, 0, rfl, rfl, HRS0.out, HN.out.symm, hD0⟩
          case round =>
            obtain ⟨t, r, j, rfl, rfl, hrs, hc, hj⟩ := hrel
            have h0 : r ≠ 0 := rs_pos hrs (by
              have h3 := HW.out
              have h4 : 64 * (i + 1) = 64 * i + 64 := by omega
              rw [h4] at h3
              omega)
            obtain ⟨k, hk⟩ : ∃ k, k = Lib.ctz 64 r := ⟨_, rfl⟩
            obtain ⟨k1, k2, k3, k4, k5, k6⟩ := rs_step hrs h0 hk
            have hs : ct (wb l) (64 * i + k) = n + j := by
              have h3 := congrArg List.length (ls_skip (wb l) (a := 64 * i + t) (b := 64 * i + k) (by omega) k4)
              rw [ls_ct, ls_ct] at h3
              omega
            have hr1 : r < 18446744073709551616 := hrs.1
            have HR1 := Lib.hid hr1
            have H0 := Lib.hid h0
            by_cases hjd : (j : Int) < D
            · have hn : ct (wb l) (64 * i + (k + 1)) = n + (j + 1) := by
                rw [← Nat.add_assoc, ct, hs, k3]
                rfl
              have HNN := Lib.hid hn
              have HR5 := Lib.hid k5
              obtain ⟨r', hr'⟩ : ∃ r', r' = r &&& (r - 1) := ⟨_, rfl⟩
              have HR' := Lib.hid hr'
              clear h0 hk k1 k2 k3 k4 k5 k6 hs hr1 hn hr' hrs hc
              go_wp2_with (go_at_call 195; refine (withoutLowest_of _ r rfl _ H0.out HR1.out).mono ?_; rw [← HR'.out]; rintro e w1 ⟨rfl, hz⟩; have hz := hz.symm; subst hz)
              go_round
              case rel => exact ⟨k + 1, r', j + 1, rfl, by go_num, by rw [HR'.out]; exact HR5.out, HNN.out, by omega⟩
              case measure => simp [intOf]; omega
            · have hyl : 64 * i + k < 65536 := by have := HI.out; omega
              obtain ⟨y1, y2⟩ := sel_yes (K := K) hyl k3 (by rw [hs]; have := HD.out; push_cast; omega)
              obtain ⟨y, hy⟩ : ∃ y, y = 64 * i + k := ⟨_, rfl⟩
              rw [← hy] at y1 hyl
              have e1 : (X.toNat : Int) = y := by rw [HX.out, y1, u16_of y hyl]
              have e2 : B = true := HB.out.trans y2
              have HE1 := Lib.hid e1
              have HE2 := Lib.hid e2
              have HYE := Lib.hid hy
              have HK := Lib.hid hk
              have HI1 := Lib.hid (show i ≤ 1023 by have := HI.out; omega)
              clear h0 hk k1 k2 k3 k4 k5 k6 hs hr1 hyl y1 y2 hy e1 e2 hrs hc
              go_wp2_with (go_at_call 196; refine (number_of _ _ i r k y rfl rfl HK.out HYE.out _ HI1.out H0.out HR1.out HT.out).mono ?_; rintro e w1 ⟨rfl, hz⟩; have hz := hz.symm; subst hz)
              go_ret2
              exact ⟨by rw [HE1.out, HE2.out]; rfl, rfl⟩
      · obtain rfl : i = 1024 := by omega
        obtain ⟨n1, n2⟩ := sel_no (p := wb l) (K := K) (.inr (by rw [hn] at hD; simp only [Nat.reduceMul] at hD; omega))
        have e1 : X = 0 := HX.out.trans n1
        have e2 : B = false := HB.out.trans n2
        have HE1 := Lib.hid e1
        have HE2 := Lib.hid e2
        clear n1 n2 e1 e2 hn hD
        go_wp2
        go_ret2
        exact ⟨by rw [HE1.out, HE2.out]; rfl, rfl⟩

/-- The k-th number, if there is one. -/
def selo : Option Nat → Value
  | some y => .tuple #[.int .u16 (y : Int), .bool true]
  | none => .tuple #[.int .u16 0, .bool false]
def selv (A : List Rn) (k : Int) : Value := if k < 0 then selo none else selo (sel A k.toNat)
set_option maxHeartbeats 4000000 in
theorem rselect_any (v : Value) (A : List Rn) (K : Int) (w : World) (hv : Gs2 eR w 0 w.heap.size v A) (hA : mayr 0 A = true) (hK : K ≤ 9223372036854775807) :
    Calls Tryz.prog 202 #[v, .int .i64 K] w fun e w' => e = .returned (selv A K) ∧ Below w.heap.size w w' := by
  have hlen := hv.len
  have HV := Lib.hid hv
  obtain ⟨A1, c1, rfl, -⟩ := hv
  by_cases h0 : K < 0
  · have e : selv A K = .tuple #[.int .u16 0, .bool false] := by unfold selv; rw [if_pos h0]; rfl
    rw [e]
    clear e
    go_enter Tryz.func202, Tryz.ntmps202
    go_wp2
    go_ret2
    exact ⟨rfl, Below.refl _ _⟩
  · obtain ⟨M, rfl⟩ : ∃ M : Nat, K = (M : Int) := ⟨K.toNat, by omega⟩
    obtain ⟨R, hR⟩ : ∃ R, R = sel A M := ⟨_, rfl⟩
    have e : selv A (M : Int) = selo R := by unfold selv; rw [if_neg h0, hR]; rfl
    have HE := Lib.hid e
    have HR := Lib.hid hR
    have HA := Lib.hid hA
    have HM := Lib.hid hK
    clear e hR hA
    go_enter Tryz.func202, Tryz.ntmps202
    go_wp2
    go_loopw [1, 12] (fun s i wr => ∃ k m d : Nat, k ≤ A.length ∧ m ≤ M ∧ s = .int .i64 m ∧ i = .int .i64 k ∧ Hid (mayr d (A.drop k) = true) ∧ Hid (sel (A.drop k) m = R) ∧ Below w.heap.size w wr) (fun _ i _ => A.length - (intOf i).toNat)
    case atStart => exact ⟨0, M, 0, Nat.zero_le _, Nat.le_refl _, rfl, rfl, HA.out, HR.out.symm, Below.refl _ _⟩
    case round =>
      obtain ⟨k, m, d, hk, hmM, rfl, rfl, hmr, hct, hbl⟩ := hrel
      have HB := Lib.hid hbl
      by_cases hlt : k < A.length
      · obtain ⟨b, off, r, e1, -, hb, hdr, hg, c0, c2⟩ := gs2_at HV.out hlt
        subst e1
        rw [← hbl.cell (p := ⟨b, off + k * 2, none⟩) hb] at c0
        rw [← hbl.cell (p := ⟨b, off + k * 2 + 1, none⟩) hb] at c2
        have hmr2 := hmr.out
        have hct2 := hct.out
        rw [hdr] at hmr2 hct2
        have hf := u16_lt r.1
        have hm := u16_lt r.2
        have hm3 := mayr_cons.1 hmr2
        obtain ⟨f, hfe⟩ : ∃ f, f = r.1.toNat := ⟨_, rfl⟩
        obtain ⟨q, hqe⟩ : ∃ q, q = r.2.toNat := ⟨_, rfl⟩
        rw [← hfe] at c0 hf
        rw [← hqe] at c2 hm
        rw [sel, ← hqe, ← hfe] at hct2
        have HF := Lib.hid hf
        have HQ := Lib.hid hm
        have hlr : lst r = f + q := by unfold lst; rw [← hfe, ← hqe]
        have hbw : Below w.heap.size w (wr.alloc (.cells #[.int .u16 (f : Int), .int .u16 (q : Int)] 120)) := hbl.alloc hbl.size _
        have HBW := Lib.hid hbw
        have hsz := hbl.size
        have h65 : f + q ≤ 65535 := by rw [← hlr]; exact hm3.2.1
        have HM3 := Lib.hid hm3.2.2
        by_cases h1 : m < q + 1
        · rw [if_pos h1] at hct2
          have hv2 := HE.out
          rw [← hct2] at hv2
          have HRV := Lib.hid hv2
          have h1' : (m : Int) < (q : Int) + 1 := by omega
          have w1 : IntKind.u16.wrap (m : Int) = m := by simp [IntKind.wrap, IntKind.bits, IntKind.signed]; omega
          have w2 : IntKind.u16.wrap ((f : Int) + m) = (f : Int) + m := by simp [IntKind.wrap, IntKind.bits, IntKind.signed]; omega
          clear hbl hmr hct hdr hg hmr2 hct2 hfe hqe hlr hbw h1 hm3 hv2
          go_wp2_with (go_at_call 192; refine (size_any f q HQ.out _).mono ?_; rintro e w9 ⟨rfl, b9⟩; have k0 := (b9.cell (p := ⟨wr.heap.size, 0, none⟩) (by simp)).trans (show _ = some (.int .u16 (f : Int)) by simp); have B9 := Lib.hid b9; clear b9)
          go_ret2
          refine ⟨?_, below_both HBW.out B9.out⟩
          rw [HRV.out]
          rfl
        · rw [if_neg h1] at hct2
          have HRV := Lib.hid hct2
          have h1' : decide ((m : Int) < (q : Int) + 1) = false := decide_eq_false (by omega)
          have h1n : ¬ ((m : Int) < (q : Int) + 1) := by omega
          have hmi : (m : Int) ≤ 9223372036854775807 := by have := HM.out; omega
          have w1 : IntKind.i64.wrap ((m : Int) - ((q : Int) + 1)) = (m : Int) - ((q : Int) + 1) := by simp [IntKind.wrap, IntKind.bits, IntKind.signed]; omega
          have w2 : (m : Int) - ((q : Int) + 1) = ((m - (q + 1) : Nat) : Int) := by omega
          have W2 := Lib.hid w2
          clear hbl hmr hct hdr hg hmr2 hct2 hfe hqe hlr hbw h1 hm3 w2
          go_wp2_with fail
          go_at_call 192
          refine (size_any f q HQ.out _).mono ?_
          rintro e w9 ⟨rfl, b9⟩
          have k0 := (b9.cell (p := ⟨wr.heap.size, 0, none⟩) (by simp)).trans (show _ = some (.int .u16 (f : Int)) by simp)
          have k1 := (b9.cell (p := ⟨wr.heap.size, 1, none⟩) (by simp)).trans (show _ = some (.int .u16 (q : Int)) by simp)
          have B9 := Lib.hid b9
          clear b9
          go_wp2_with fail
          go_at_call 192
          refine (size_any f q HQ.out _).mono ?_
          rintro e w8 ⟨rfl, b8⟩
          have B8 := Lib.hid b8
          clear b8
          go_wp2
          refine ⟨⟨k + 1, m - (q + 1), _, by omega, by omega, by rw [W2.out], by go_num, HM3.out, HRV.out, below_both (below_both HBW.out B9.out) B8.out⟩, by simp [intOf]; omega⟩
      · obtain rfl : k = A.length := by omega
        have hR := hct.out
        rw [List.drop_length] at hR
        have hv2 := HE.out
        rw [← hR] at hv2
        have HRV := Lib.hid hv2
        clear hbl hmr hR hct hv2
        go_wp2
        go_ret2
        exact ⟨by rw [HRV.out]; rfl, HB.out⟩
end Go.Proofs.YtcmifbjeabkihaaGreatDoor
namespace Go.Proofs.YtcmifbjeabkihaaGreatDoor
open Go.RowKit
set_option linter.unusedVariables false

set_option maxHeartbeats 4000000 in
theorem rrank_int (v : Value) (A : List Rn) (x : Int) (N : Nat) (w : World) (hv : Gs2 eR w 0 w.heap.size v A) (hA : mayr 0 A = true) (hX : -9000000000 ≤ x ∧ x ≤ 9000000000) (hN : ct (mr A) x.toNat = N) :
    Calls Tryz.prog 190 #[v, .int .i64 x] w fun e w' => e = .returned (.int .i64 N) ∧ Below w.heap.size w w' := by
  have hlen := hv.len
  have HV := Lib.hid hv
  obtain ⟨X, hXe⟩ : ∃ X, X = x.toNat := ⟨_, rfl⟩
  rw [← hXe] at hN
  have HNB := Lib.hid (show N ≤ 9000000000 by have := ct_le' (mr A) X; omega)
  have HXE := Lib.hid hXe
  have hX1 := hX.1
  have hX2 := hX.2
  clear hX hXe
  obtain ⟨A1, c1, rfl, -⟩ := hv
  have HN := Lib.hid hN
  have HA := Lib.hid hA
  clear hN hA
  go_enter Tryz.func190, Tryz.ntmps190
  go_wp2
  go_loopw [5, 10] (fun n i wr => ∃ k m d : Nat, k ≤ A.length ∧ n = .int .i64 m ∧ i = .int .i64 k ∧ Hid (mayr d (A.drop k) = true) ∧ Hid (m + ct (mr (A.drop k)) X = N) ∧ Below w.heap.size w wr) (fun _ i _ => A.length - (intOf i).toNat)
  case atStart => exact ⟨0, 0, 0, Nat.zero_le _, rfl, rfl, HA.out, by have := HN.out; show 0 + ct (mr A) X = N; omega, Below.refl _ _⟩
  case round =>
    obtain ⟨k, m, d, hk, rfl, rfl, hmr, hct, hbl⟩ := hrel
    have HB := Lib.hid hbl
    by_cases hlt : k < A.length
    · obtain ⟨b, off, r, e1, -, hb, hdr, hg, c0, c2⟩ := gs2_at HV.out hlt
      subst e1
      rw [← hbl.cell (p := ⟨b, off + k * 2, none⟩) hb] at c0
      rw [← hbl.cell (p := ⟨b, off + k * 2 + 1, none⟩) hb] at c2
      have hmr2 := hmr.out
      have hct2 := hct.out
      rw [hdr] at hmr2 hct2
      have hf := u16_lt r.1
      have hm := u16_lt r.2
      obtain ⟨f, hfe⟩ : ∃ f, f = r.1.toNat := ⟨_, rfl⟩
      obtain ⟨q, hqe⟩ : ∃ q, q = r.2.toNat := ⟨_, rfl⟩
      rw [← hfe] at c0 hf
      rw [← hqe] at c2 hm
      have HF := Lib.hid hf
      have HQ := Lib.hid hm
      have hlr : lst r = f + q := by unfold lst; rw [← hfe, ← hqe]
      have hbw : Below w.heap.size w (wr.alloc (.cells #[.int .u16 (f : Int), .int .u16 (q : Int)] 120)) := hbl.alloc hbl.size _
      have HBW := Lib.hid hbw
      have hsz := hbl.size
      by_cases h1 : x ≤ f
      · have hR : m = N := by
          rw [ct_mr_zero (m := r.1.toNat) (by obtain ⟨h1, h2, h3⟩ := mayr_cons.1 hmr2; exact mayr_cons.2 ⟨Nat.le_refl _, h2, h3⟩) (by have := HXE.out; omega)] at hct2
          omega
        have HRF := Lib.hid hR
        clear hbl hmr hct hdr hg hmr2 hct2 hR hfe hqe hlr hbw
        go_wp2
        go_ret
        exact ⟨by rw [HRF.out]; rfl, HBW.out⟩
      · obtain rfl : x = (X : Int) := by have := HXE.out; omega
        have h1' : decide ((X : Int) ≤ f) = false := decide_eq_false (by omega)
        have h1n : ¬ ((X : Int) ≤ f) := by omega
        have hnx : m + min (X - f) (q + 1) + ct (mr (A.drop (k + 1))) X = N := by
          rw [← hct2, ct_mr_cons hmr2, hlr, ← hfe]
          omega
        have hmb : m ≤ 9000000000 := by have := HNB.out; omega
        have HM3 := Lib.hid (mayr_cons.1 hmr2).2.2
        have w1 : IntKind.i64.wrap (f : Int) = f := by simp [IntKind.wrap, IntKind.bits, IntKind.signed]; omega
        have w2 : IntKind.i64.wrap ((X : Int) - f) = (X : Int) - f := by simp [IntKind.wrap, IntKind.bits, IntKind.signed]; omega
        have HNX := Lib.hid hnx
        have hfin : (m : Int) + (if (q : Int) + 1 < (X : Int) - f then (q : Int) + 1 else (X : Int) - f) = ((m + min (X - f) (q + 1) : Nat) : Int) := by split <;> omega
        have w3 : IntKind.i64.wrap ((m : Int) + (if (q : Int) + 1 < (X : Int) - f then (q : Int) + 1 else (X : Int) - f)) = (m : Int) + (if (q : Int) + 1 < (X : Int) - f then (q : Int) + 1 else (X : Int) - f) := by
          rw [hfin]; simp [IntKind.wrap, IntKind.bits, IntKind.signed]; omega
        have HFIN := Lib.hid hfin
        clear hbl hmr hct hdr hg hmr2 hct2 hfe hqe hlr hbw h1 hnx hfin
        go_wp2_with fail
        go_region_with (go_at_call 192; refine (size_any f q HQ.out _).mono ?_; rintro e w9 ⟨rfl, b9⟩; have k0 := (b9.cell (p := ⟨wr.heap.size, 0, none⟩) (by simp)).trans (show _ = some (.int .u16 (f : Int)) by simp); have k1 := (b9.cell (p := ⟨wr.heap.size, 1, none⟩) (by simp)).trans (show _ = some (.int .u16 (q : Int)) by simp); have B9 := Lib.hid b9; clear b9)
        all_goals
          go_wp2
          refine ⟨⟨k + 1, m + min (X - f) (q + 1), _, by omega, by rw [HFIN.out], by go_num, HM3.out, HNX.out, below_both (below_drewN HBW.out 1) B9.out⟩, by simp [intOf]; omega⟩
    · obtain rfl : k = A.length := by omega
      have hR := hct.out
      rw [List.drop_length] at hR
      have HRF := Lib.hid (show m = N by have : ct (mr []) X = 0 := ct_zero fun x _ => rfl; omega)
      clear hbl hmr hR hct
      go_wp2
      go_ret
      exact ⟨by rw [HRF.out]; rfl, HB.out⟩
theorem ct_clp (p : Nat → Bool) (hp : ∀ x, 65536 ≤ x → p x = false) (x : Int) : ct p x.toNat = ct p (cl x) := by
  by_cases h : x ≤ 65536
  · have : cl x = x.toNat := by unfold cl; omega
    rw [this]
  · have e : cl x = 65536 := by unfold cl; omega
    obtain ⟨d, hd⟩ := Nat.le.dest (show 65536 ≤ x.toNat by omega)
    rw [e, ← hd, ct_add, ct_zero (p := fun j => p (65536 + j)) fun j _ => hp _ (by omega), Nat.add_zero]
theorem srrank (v : Value) (p : Nat → Bool) (x : Int) (m lo : Nat) (w : World) (hv : Gs2 eR w lo w.heap.size v (rs p 65536)) (hX : -9000000000 ≤ x ∧ x ≤ 9000000000) (hm2 : ct p (cl x) = m) :
    Calls Tryz.prog 190 #[v, .int .i64 x] w fun e w' => e = .returned (.int .i64 m) ∧ Below w.heap.size w w' := by
  refine rrank_int v _ x m w (hv.more (Nat.zero_le _) (Nat.le_refl _)) (mayr_rs p) hX ?_
  rw [ct_clp _ (fun y hy => by
    cases h : mr (rs p 65536) y with
    | false => rfl
    | true => have := (mr_ge (mayr_rs p) h).2; omega) x, ← hm2]
  exact ct_ext fun j hj => mr_rs p (by have := cl_le x; omega)
theorem swrank (v : Value) (p : Nat → Bool) (x : Int) (m lo : Nat) (w : World) (hv : Gs e64 w lo w.heap.size v (wm p)) (hm2 : ct p (cl x) = m) :
    Calls Tryz.prog 189 #[v, .int .i64 x] w fun e w' => e = .returned (.int .i64 m) ∧ Below w.heap.size w w' := by
  refine (wrank_any v _ lo _ x w hv).mono ?_
  rintro e w' ⟨rfl, rfl⟩
  rw [ct_ext (q := p) fun j hj => wb_wm p j (by have := cl_le x; omega), hm2]
  exact ⟨rfl, Below.refl _ _⟩
theorem sfind2 (v : Value) (p : Nat → Bool) (x m lo : Nat) (w : World) (hv : Gs e16 w lo w.heap.size v (ls p 65536)) (hx : x < 65536) (hm2 : ct p x = m) :
    Calls Tryz.prog 186 #[v, .int .u16 x] w fun e w' => e = .returned (.tuple #[.int .i64 m, .bool (p x)]) ∧ Below w.heap.size w w' := by
  refine (find_any v _ lo _ x (UInt16.ofNat x) (by rw [u16_of x hx]) w hv (Nat.le_trans (ls_small p) (by omega))).mono ?_
  rintro e w' ⟨rfl, rfl⟩
  have e1 : fd (ls p 65536) (UInt16.ofNat x) = p x := by
    rw [fd_mem (ris_ls p 65536 (Nat.le_refl _)), Bool.eq_iff_iff, decide_eq_true_eq, ls_mem p 65536 (Nat.le_refl _), u16_of x hx]
    exact ⟨fun h => h.2, fun h => ⟨hx, h⟩⟩
  have e2 : bs (ls p 65536) (UInt16.ofNat x) = m := by
    rw [bs_ls (ris_ls p 65536 (Nat.le_refl _)), u16_of x hx, ls_ct, ← hm2]
    exact ct_ext fun j hj => mk_ls p (by omega)
  rw [e1, e2]
  exact ⟨rfl, Below.refl _ _⟩
theorem getD_some' {l : List UInt16} {k : Nat} (h : k < l.length) : l[k]? = some (l.getD k 0) := by
  rw [List.getD_eq_getElem?_getD, List.getElem?_eq_getElem h]; rfl
/-- The number of which K are below it, and whether there is one. -/
theorem sel_list (p : Nat → Bool) (k : Nat) (hk : k < ct p 65536) : (ls p 65536)[k]? = some (sx p k) ∧ so p k = true := by
  refine ⟨?_, ?_⟩
  · have e : sx p k = (ls p 65536).getD k 0 := by unfold sx; rw [if_pos (Int.natCast_nonneg k), Int.toNat_natCast]
    rw [e]
    exact getD_some' (by rw [ls_ct]; exact hk)
  · unfold so
    rw [Bool.and_eq_true]
    exact ⟨decide_eq_true (Int.natCast_nonneg _), decide_eq_true (Int.ofNat_lt.2 hk)⟩
theorem ls_ct_at (p : Nat → Bool) : ∀ n, n ≤ 65536 → ∀ k z, (ls p n)[k]? = some z → z.toNat < n ∧ p z.toNat = true ∧ ct p z.toNat = k := by
  intro n
  induction n with
  | zero => intro _ k z h; simp [ls] at h
  | succ n ih =>
    intro hn k z h
    rw [ls, List.getElem?_append] at h
    split at h
    · obtain ⟨a, b, c⟩ := ih (by omega) k z h
      exact ⟨by omega, b, c⟩
    · rename_i hk
      rw [ls_ct] at h hk
      cases hp : p n with
      | false => rw [hp] at h; simp at h
      | true =>
        rw [hp, if_pos rfl] at h
        have h2 := (List.getElem?_eq_some_iff.1 h).1
        simp at h2
        have h3 : k - ct p n = 0 := by omega
        rw [h3] at h
        simp at h
        subst h
        rw [u16_of n (by omega)]
        exact ⟨by omega, hp, by omega⟩
/-- Either there is one, and it is told, or there is none. -/
theorem sel_cases (p : Nat → Bool) (K : Int) : (so p K = true ∧ 0 ≤ K ∧ K < (ct p 65536 : Nat) ∧ p (sx p K).toNat = true ∧ ((ct p (sx p K).toNat : Nat) : Int) = K) ∨ (so p K = false ∧ (sx p K) = 0 ∧ (K < 0 ∨ (ct p 65536 : Nat) ≤ K)) := by
  by_cases h : 0 ≤ K ∧ K < (ct p 65536 : Nat)
  · obtain ⟨h0, h1⟩ := h
    obtain ⟨k, rfl⟩ := Int.eq_ofNat_of_zero_le h0
    have hk : k < ct p 65536 := by omega
    obtain ⟨e1, e2⟩ := sel_list p k hk
    obtain ⟨a, b, c⟩ := ls_ct_at p 65536 (Nat.le_refl _) k _ e1
    exact .inl ⟨e2, h0, h1, b, by rw [c]⟩
  · obtain ⟨e1, e2⟩ := sel_no (p := p) (K := K) (by omega)
    exact .inr ⟨e2, e1, by omega⟩
theorem swselect (v : Value) (p : Nat → Bool) (K : Int) (lo : Nat) (w : World) (hT : Tb w) (hv : Gs e64 w lo w.heap.size v (wm p)) (hK : K ≤ 9223372036854775807) :
    Calls Tryz.prog 201 #[v, .int .i64 K] w fun e w' => e = .returned (.tuple #[.int .u16 ((sx p K).toNat : Nat), .bool (so p K)]) ∧ Below w.heap.size w w' := by
  refine (wselect_any v _ lo _ K w hv hT hK).mono ?_
  rintro e w' ⟨rfl, rfl⟩
  have e1 : sx (wb (wm p)) K = sx p K := by unfold sx; rw [ls_ext (q := p) fun j hj => wb_wm p j hj]
  have e2 : so (wb (wm p)) K = so p K := by unfold so; rw [ct_ext (q := p) fun j hj => wb_wm p j hj]
  rw [e1, e2]
  exact ⟨rfl, Below.refl _ _⟩
theorem srselect (v : Value) (p : Nat → Bool) (K : Int) (lo : Nat) (w : World) (hv : Gs2 eR w lo w.heap.size v (rs p 65536)) (hK : K ≤ 9223372036854775807) :
    Calls Tryz.prog 202 #[v, .int .i64 K] w fun e w' => e = .returned (.tuple #[.int .u16 ((sx p K).toNat : Nat), .bool (so p K)]) ∧ Below w.heap.size w w' := by
  have hs : selv (rs p 65536) K = .tuple #[.int .u16 ((sx p K).toNat : Nat), .bool (so p K)] := by
    unfold selv
    by_cases h0 : K < 0
    · obtain ⟨e1, e2⟩ := sel_no (p := p) (K := K) (.inl h0)
      rw [if_pos h0, e1, e2]; rfl
    · rw [if_neg h0]
      obtain ⟨k, rfl⟩ := Int.eq_ofNat_of_zero_le (show 0 ≤ K by omega)
      rw [Int.toNat_natCast]
      cases hq : sel (rs p 65536) k with
      | none =>
        have := sel_none (mayr_rs p) hq
        rw [count_rs] at this
        obtain ⟨e1, e2⟩ := sel_no (p := p) (K := (k : Int)) (.inr (by omega))
        rw [e1, e2]; rfl
      | some y =>
        obtain ⟨a, b, c⟩ := sel_some (mayr_rs p) hq
        rw [mr_rs p (by omega)] at a
        rw [ct_ext (q := p) (fun j hj => mr_rs p (by omega))] at b
        obtain ⟨e1, e2⟩ := sel_yes (p := p) (y := y) (K := (k : Int)) (by omega) a (by omega)
        rw [e1, e2, u16_of y (by omega)]; rfl
  have h := rselect_any v _ K w (hv.more (Nat.zero_le _) (Nat.le_refl _)) (mayr_rs p) hK
  rw [hs] at h
  exact h

theorem wordsRank_c (p : Nat → Bool) (A : Option Addr) (c : Nat) (x : Int) (m : Nat) (lo : Nat) (w : World) (hm2 : ct p (cl x) = m) (h : Gs e64 w lo w.heap.size (.slice A 1024 c) (wm p)) :
    Calls Tryz.prog 144 #[.agg #[.int .u8 2, .slice none 0 0, .slice A 1024 c, .slice none 0 0], .int .i64 x] w fun e w' => e = .returned (.int .i64 m) ∧ Below w.heap.size w w' := by
  have H := Lib.hid h
  clear h
  go_enter Tryz.func144, Tryz.ntmps144
  go_wp2_with fail
  refine (swrank _ p x m lo _ (H.out.stp (bx w _)) hm2).mono ?_
  rintro e w1 ⟨rfl, b1⟩
  have B1 := Lib.hid (below_both (bx w _) b1)
  clear b1
  go_wp2
  go_ret
  exact ⟨rfl, B1.out⟩

theorem runsRank_c (p : Nat → Bool) (A : Option Addr) (n c : Nat) (x : Int) (m : Nat) (lo : Nat) (w : World) (hX : -9000000000 ≤ x ∧ x ≤ 9000000000) (hm2 : ct p (cl x) = m) (h : Gs2 eR w lo w.heap.size (.slice A n c) (rs p 65536)) :
    Calls Tryz.prog 145 #[.agg #[.int .u8 3, .slice none 0 0, .slice none 0 0, .slice A n c], .int .i64 x] w fun e w' => e = .returned (.int .i64 m) ∧ Below w.heap.size w w' := by
  have H := Lib.hid h
  clear h
  go_enter Tryz.func145, Tryz.ntmps145
  go_wp2_with fail
  refine (srrank _ p x m lo _ (H.out.stp (bx w _)) hX hm2).mono ?_
  rintro e w1 ⟨rfl, b1⟩
  have B1 := Lib.hid (below_both (bx w _) b1)
  clear b1
  go_wp2
  go_ret
  exact ⟨rfl, B1.out⟩

theorem wordsSelect_c (p : Nat → Bool) (A : Option Addr) (c : Nat) (x : Int) (lo : Nat) (w : World) (hT : Tb w) (hX : x ≤ 9223372036854775807) (h : Gs e64 w lo w.heap.size (.slice A 1024 c) (wm p)) :
    Calls Tryz.prog 160 #[.agg #[.int .u8 2, .slice none 0 0, .slice A 1024 c, .slice none 0 0], .int .i64 x] w fun e w' => e = .returned (.tuple #[.int .u16 ((sx p x).toNat : Nat), .bool (so p x)]) ∧ Below w.heap.size w w' := by
  have H := Lib.hid h
  clear h
  go_enter Tryz.func160, Tryz.ntmps160
  go_wp2_with fail
  refine (swselect _ p x lo _ (hT.step (bx w _)) (H.out.stp (bx w _)) hX).mono ?_
  rintro e w1 ⟨rfl, b1⟩
  have B1 := Lib.hid (below_both (bx w _) b1)
  clear b1
  go_wp2
  go_ret2
  exact ⟨rfl, B1.out⟩

theorem runsSelect_c (p : Nat → Bool) (A : Option Addr) (n c : Nat) (x : Int) (lo : Nat) (w : World) (hX : x ≤ 9223372036854775807) (h : Gs2 eR w lo w.heap.size (.slice A n c) (rs p 65536)) :
    Calls Tryz.prog 161 #[.agg #[.int .u8 3, .slice none 0 0, .slice none 0 0, .slice A n c], .int .i64 x] w fun e w' => e = .returned (.tuple #[.int .u16 ((sx p x).toNat : Nat), .bool (so p x)]) ∧ Below w.heap.size w w' := by
  have H := Lib.hid h
  clear h
  go_enter Tryz.func161, Tryz.ntmps161
  go_wp2_with fail
  refine (srselect _ p x lo _ (H.out.stp (bx w _)) hX).mono ?_
  rintro e w1 ⟨rfl, b1⟩
  have B1 := Lib.hid (below_both (bx w _) b1)
  clear b1
  go_wp2
  go_ret2
  exact ⟨rfl, B1.out⟩

set_option maxHeartbeats 1000000 in
theorem arrayRank_c (p : Nat → Bool) (κ : Int) (A : Option Addr) (n c : Nat) (x : Int) (m : Nat) (lo : Nat) (w : World) (hX : -9000000000 ≤ x ∧ x ≤ 9000000000) (hm2 : ct p (cl x) = m) (hn : ct p 65536 = n) (h : Gs e16 w lo w.heap.size (.slice A n c) (ls p 65536)) :
    Calls Tryz.prog 143 #[.agg #[.int .u8 κ, .slice A n c, .slice none 0 0, .slice none 0 0], .int .i64 x] w fun e w' => e = .returned (.int .i64 m) ∧ Below w.heap.size w w' := by
  have H := Lib.hid h
  clear h
  have hX1 := hX.1
  have hX2 := hX.2
  rcases Int.lt_or_le x 0 with h0 | h0
  · have hz : cl x = 0 := by unfold cl; omega
    rw [hz] at hm2
    obtain rfl : m = 0 := hm2.symm
    clear hm2 hz hX hn
    go_enter Tryz.func143, Tryz.ntmps143
    go_wp2
    go_ret
    exact ⟨rfl, (Below.refl _ _).alloc (Nat.le_refl _) _⟩
  · have h0' : decide (x < 0) = false := decide_eq_false (by omega)
    rcases Int.lt_or_le x 65536 with h1 | h1
    · have h1' : decide (65536 ≤ x) = false := decide_eq_false (by omega)
      obtain ⟨y, rfl⟩ := Int.eq_ofNat_of_zero_le h0
      have hy : y < 65536 := by omega
      have hc : cl (y : Int) = y := by unfold cl; omega
      rw [hc] at hm2
      have HM := Lib.hid hm2
      have hw : IntKind.u16.wrap (y : Int) = y := by simp [IntKind.wrap, IntKind.bits, IntKind.signed]; omega
      clear hm2 hc hX hn
      go_enter Tryz.func143, Tryz.ntmps143
      go_wp2_with fail
      refine (sfind2 _ p y m lo _ (H.out.stp (bx w _)) hy HM.out).mono ?_
      rintro e w1 ⟨rfl, b1⟩
      have B1 := Lib.hid (below_both (bx w _) b1)
      clear b1
      go_wp2
      go_ret
      exact ⟨rfl, B1.out⟩
    · have hz : cl x = 65536 := by unfold cl; omega
      rw [hz, hn] at hm2
      subst hm2
      clear hz hX hn
      go_enter Tryz.func143, Tryz.ntmps143
      go_wp2
      go_ret
      exact ⟨rfl, (Below.refl _ _).alloc (Nat.le_refl _) _⟩

set_option maxHeartbeats 1000000 in
theorem arraySelect_c (p : Nat → Bool) (κ : Int) (A : Option Addr) (n c : Nat) (x : Int) (lo : Nat) (w : World) (hn : ct p 65536 = n) (h : Gs e16 w lo w.heap.size (.slice A n c) (ls p 65536)) :
    Calls Tryz.prog 159 #[.agg #[.int .u8 κ, .slice A n c, .slice none 0 0, .slice none 0 0], .int .i64 x] w fun e w' => e = .returned (.tuple #[.int .u16 ((sx p x).toNat : Nat), .bool (so p x)]) ∧ Below w.heap.size w w' := by
  have H := Lib.hid h
  by_cases h0 : x < 0
  · obtain ⟨e1, e2⟩ := sel_no (p := p) (K := x) (.inl h0)
    rw [e1, e2]
    clear h e1 e2
    go_enter Tryz.func159, Tryz.ntmps159
    go_wp2
    go_ret2
    exact ⟨rfl, (Below.refl _ _).alloc (Nat.le_refl _) _⟩
  · have h0' : decide (x < 0) = false := decide_eq_false h0
    by_cases h1 : (n : Int) ≤ x
    · obtain ⟨e1, e2⟩ := sel_no (p := p) (K := x) (.inr (by omega))
      rw [e1, e2]
      clear h e1 e2
      go_enter Tryz.func159, Tryz.ntmps159
      go_wp2
      go_ret2
      exact ⟨rfl, (Below.refl _ _).alloc (Nat.le_refl _) _⟩
    · have h1' : decide ((n : Int) ≤ x) = false := decide_eq_false h1
      obtain ⟨k, rfl⟩ := Int.eq_ofNat_of_zero_le (show 0 ≤ x by omega)
      have hk : k < n := by omega
      obtain ⟨e1, e2⟩ := sel_list p k (by omega)
      obtain ⟨y, hy⟩ : ∃ y, y = (sx p k).toNat := ⟨_, rfl⟩
      obtain ⟨b, off, c', e3, -, -, -, hb, hc⟩ := h.form (by rintro e; rw [e] at e1; simp at e1)
      have hl : (ls p 65536).length = n := by rw [ls_ct]; exact hn
      rw [hl] at e3
      injection e3 with e3 e4 e5
      subst e3 e5
      have c0 := hc k _ e1
      have c1 : (w.alloc (.cells #[.int .u8 κ, .slice (some ⟨b, off, none⟩) n c, .slice none 0 0, .slice none 0 0] 65)).cell? ⟨b, off + k, none⟩ = some (.int .u16 (y : Int)) := by
        rw [World.cell?_alloc_lt _ _ _ (by simpa using hb), c0, hy]; rfl
      rw [e2, ← hy]
      clear h e1 e2 hy hc c0 hl hn
      go_enter Tryz.func159, Tryz.ntmps159
      go_wp2
      go_ret2
      exact ⟨rfl, (Below.refl _ _).alloc (Nat.le_refl _) _⟩
end Go.Proofs.YtcmifbjeabkihaaGreatDoor
