/- Walks: Rank, Select of a container: a table of method expressions each. -/
import Derived.Test.YtcmifbjeabkihabGreatDoorMb1
import Derived.Test.YtcmifbjeabkihabGreatDoorMb3
/- Walks: Rank and Select of numbers, words, runs, as a container's methods; runs.Rank at any place. -/
namespace Go.Proofs.YtcmifbjeabkihabGreatDoor
open Go.RowKit
set_option linter.unusedVariables false

set_option maxHeartbeats 4000000 in
theorem rrank_int (v : Value) (A : List Rn) (x : Int) (N : Nat) (w : World) (hv : Gs2 eR w 0 w.heap.size v A) (hA : mayr 0 A = true) (hX : -9000000000 ≤ x ∧ x ≤ 9000000000) (hN : ct (mr A) x.toNat = N) :
    Calls Tryz.prog 132 #[v, .int .i64 x] w fun e w' => e = .returned (.int .i64 N) ∧ Below w.heap.size w w' := by
  have hlen := hv.len
  have HV := Lib.hid hv
  obtain ⟨X, hXe⟩ : ∃ X, X = x.toNat := ⟨_, rfl⟩
  rw [← hXe] at hN
  have HNB := Lib.hid (show N ≤ 9000000000 by have := ct_le' (mr A) X; omega)
  have HXE := Lib.hid hXe
  have hX1 := hX.1
  have hX2 := hX.2
  clear hX hXe
  obtain ⟨A1, c1, rfl, -⟩ := hv
  have HN := Lib.hid hN
  have HA := Lib.hid hA
  clear hN hA
  go_enter Tryz.func132, Tryz.ntmps132
  go_wp2
  go_loopw [5, 10] (fun n i wr => ∃ k m d : Nat, k ≤ A.length ∧ n = .int .i64 m ∧ i = .int .i64 k ∧ Hid (mayr d (A.drop k) = true) ∧ Hid (m + ct (mr (A.drop k)) X = N) ∧ Below w.heap.size w wr) (fun _ i _ => A.length - (intOf i).toNat)
  case atStart => exact ⟨0, 0, 0, Nat.zero_le _, rfl, rfl, HA.out, by have := HN.out; show 0 + ct (mr A) X = N; omega, Below.refl _ _⟩
  case round =>
    obtain ⟨k, m, d, hk, rfl, rfl, hmr, hct, hbl⟩ := hrel
    have HB := Lib.hid hbl
    by_cases hlt : k < A.length
    · obtain ⟨b, off, r, e1, -, hb, hdr, hg, c0, c2⟩ := gs2_at HV.out hlt
      subst e1
      rw [← hbl.cell (p := ⟨b, off + k * 2, none⟩) hb] at c0
      rw [← hbl.cell (p := ⟨b, off + k * 2 + 1, none⟩) hb] at c2
      have hmr2 := hmr.out
      have hct2 := hct.out
      rw [hdr] at hmr2 hct2
      have hf := u16_lt r.1
      have hm := u16_lt r.2
      obtain ⟨f, hfe⟩ : ∃ f, f = r.1.toNat := ⟨_, rfl⟩
      obtain ⟨q, hqe⟩ : ∃ q, q = r.2.toNat := ⟨_, rfl⟩
      rw [← hfe] at c0 hf
      rw [← hqe] at c2 hm
      have HF := Lib.hid hf
      have HQ := Lib.hid hm
      have hlr : lst r = f + q := by unfold lst; rw [← hfe, ← hqe]
      have hbw : Below w.heap.size w (wr.alloc (.cells #[.int .u16 (f : Int), .int .u16 (q : Int)] 85)) := hbl.alloc hbl.size _
      have HBW := Lib.hid hbw
      have hsz := hbl.size
      by_cases h1 : x ≤ f
      · have hR : m = N := by
          rw [ct_mr_zero (m := r.1.toNat) (by obtain ⟨h1, h2, h3⟩ := mayr_cons.1 hmr2; exact mayr_cons.2 ⟨Nat.le_refl _, h2, h3⟩) (by have := HXE.out; omega)] at hct2
          omega
        have HRF := Lib.hid hR
        clear hbl hmr hct hdr hg hmr2 hct2 hR hfe hqe hlr hbw
        go_wp2
        go_ret
        exact ⟨by rw [HRF.out]; rfl, HBW.out⟩
      · obtain rfl : x = (X : Int) := by have := HXE.out; omega
        have h1' : decide ((X : Int) ≤ f) = false := decide_eq_false (by omega)
        have h1n : ¬ ((X : Int) ≤ f) := by omega
        have hnx : m + min (X - f) (q + 1) + ct (mr (A.drop (k + 1))) X = N := by
          rw [← hct2, ct_mr_cons hmr2, hlr, ← hfe]
          omega
        have hmb : m ≤ 9000000000 := by have := HNB.out; omega
        have HM3 := Lib.hid (mayr_cons.1 hmr2).2.2
        have w1 : IntKind.i64.wrap (f : Int) = f := by simp [IntKind.wrap, IntKind.bits, IntKind.signed]; omega
        have w2 : IntKind.i64.wrap ((X : Int) - f) = (X : Int) - f := by simp [IntKind.wrap, IntKind.bits, IntKind.signed]; omega
        have HNX := Lib.hid hnx
        have hfin : (m : Int) + (if (q : Int) + 1 < (X : Int) - f then (q : Int) + 1 else (X : Int) - f) = ((m + min (X - f) (q + 1) : Nat) : Int) := by split <;> omega
        have w3 : IntKind.i64.wrap ((m : Int) + (if (q : Int) + 1 < (X : Int) - f then (q : Int) + 1 else (X : Int) - f)) = (m : Int) + (if (q : Int) + 1 < (X : Int) - f then (q : Int) + 1 else (X : Int) - f) := by
          rw [hfin]; simp [IntKind.wrap, IntKind.bits, IntKind.signed]; omega
        have HFIN := Lib.hid hfin
        clear hbl hmr hct hdr hg hmr2 hct2 hfe hqe hlr hbw h1 hnx hfin
        go_wp2_with fail
        go_region_with (go_at_call 184; refine (size_any f q HQ.out _).mono ?_; rintro e w9 ⟨rfl, b9⟩; have k0 := (b9.cell (p := ⟨wr.heap.size, 0, none⟩) (by simp)).trans (show _ = some (.int .u16 (f : Int)) by simp); have k1 := (b9.cell (p := ⟨wr.heap.size, 1, none⟩) (by simp)).trans (show _ = some (.int .u16 (q : Int)) by simp); have B9 := Lib.hid b9; clear b9)
        all_goals
          go_wp2
          refine ⟨⟨k + 1, m + min (X - f) (q + 1), _, by omega, by first | rw [HFIN.out] | (congr 1; omega), by go_num, HM3.out, HNX.out, below_both (below_drewN HBW.out 1) B9.out⟩, by simp [intOf]; omega⟩
    · obtain rfl : k = A.length := by omega
      have hR := hct.out
      rw [List.drop_length] at hR
      have HRF := Lib.hid (show m = N by have : ct (mr []) X = 0 := ct_zero fun x _ => rfl; omega)
      clear hbl hmr hR hct
      go_wp2
      go_ret
      exact ⟨by rw [HRF.out]; rfl, HB.out⟩
theorem ct_clp (p : Nat → Bool) (hp : ∀ x, 65536 ≤ x → p x = false) (x : Int) : ct p x.toNat = ct p (cl x) := by
  by_cases h : x ≤ 65536
  · have : cl x = x.toNat := by unfold cl; omega
    rw [this]
  · have e : cl x = 65536 := by unfold cl; omega
    obtain ⟨d, hd⟩ := Nat.le.dest (show 65536 ≤ x.toNat by omega)
    rw [e, ← hd, ct_add, ct_zero (p := fun j => p (65536 + j)) fun j _ => hp _ (by omega), Nat.add_zero]
theorem srrank (v : Value) (p : Nat → Bool) (x : Int) (m lo : Nat) (w : World) (hv : Gs2 eR w lo w.heap.size v (rs p 65536)) (hX : -9000000000 ≤ x ∧ x ≤ 9000000000) (hm2 : ct p (cl x) = m) :
    Calls Tryz.prog 132 #[v, .int .i64 x] w fun e w' => e = .returned (.int .i64 m) ∧ Below w.heap.size w w' := by
  refine rrank_int v _ x m w (hv.more (Nat.zero_le _) (Nat.le_refl _)) (mayr_rs p) hX ?_
  rw [ct_clp _ (fun y hy => by
    cases h : mr (rs p 65536) y with
    | false => rfl
    | true => have := (mr_ge (mayr_rs p) h).2; omega) x, ← hm2]
  exact ct_ext fun j hj => mr_rs p (by have := cl_le x; omega)
theorem swrank (v : Value) (p : Nat → Bool) (x : Int) (m lo : Nat) (w : World) (hv : Gs e64 w lo w.heap.size v (wm p)) (hm2 : ct p (cl x) = m) :
    Calls Tryz.prog 131 #[v, .int .i64 x] w fun e w' => e = .returned (.int .i64 m) ∧ Below w.heap.size w w' := by
  refine (wrank_any v _ lo _ x w hv).mono ?_
  rintro e w' ⟨rfl, rfl⟩
  rw [ct_ext (q := p) fun j hj => wb_wm p j (by have := cl_le x; omega), hm2]
  exact ⟨rfl, Below.refl _ _⟩
theorem sfind2 (v : Value) (p : Nat → Bool) (x m lo : Nat) (w : World) (hv : Gs e16 w lo w.heap.size v (ls p 65536)) (hx : x < 65536) (hm2 : ct p x = m) :
    Calls Tryz.prog 109 #[v, .int .u16 x] w fun e w' => e = .returned (.tuple #[.int .i64 m, .bool (p x)]) ∧ Below w.heap.size w w' := by
  refine (find_any v _ lo _ x (UInt16.ofNat x) (by rw [u16_of x hx]) w hv (Nat.le_trans (ls_small p) (by omega))).mono ?_
  rintro e w' ⟨rfl, rfl⟩
  have e1 : fd (ls p 65536) (UInt16.ofNat x) = p x := by
    rw [fd_mem (ris_ls p 65536 (Nat.le_refl _)), Bool.eq_iff_iff, decide_eq_true_eq, ls_mem p 65536 (Nat.le_refl _), u16_of x hx]
    exact ⟨fun h => h.2, fun h => ⟨hx, h⟩⟩
  have e2 : bs (ls p 65536) (UInt16.ofNat x) = m := by
    rw [bs_ls (ris_ls p 65536 (Nat.le_refl _)), u16_of x hx, ls_ct, ← hm2]
    exact ct_ext fun j hj => mk_ls p (by omega)
  rw [e1, e2]
  exact ⟨rfl, Below.refl _ _⟩
theorem getD_some' {l : List UInt16} {k : Nat} (h : k < l.length) : l[k]? = some (l.getD k 0) := by
  rw [List.getD_eq_getElem?_getD, List.getElem?_eq_getElem h]; rfl
/-- The number of which K are below it, and whether there is one. -/
theorem sel_list (p : Nat → Bool) (k : Nat) (hk : k < ct p 65536) : (ls p 65536)[k]? = some (sx p k) ∧ so p k = true := by
  refine ⟨?_, ?_⟩
  · have e : sx p k = (ls p 65536).getD k 0 := by unfold sx; rw [if_pos (Int.natCast_nonneg k), Int.toNat_natCast]
    rw [e]
    exact getD_some' (by rw [ls_ct]; exact hk)
  · unfold so
    rw [Bool.and_eq_true]
    exact ⟨decide_eq_true (Int.natCast_nonneg _), decide_eq_true (Int.ofNat_lt.2 hk)⟩
theorem ls_ct_at (p : Nat → Bool) : ∀ n, n ≤ 65536 → ∀ k z, (ls p n)[k]? = some z → z.toNat < n ∧ p z.toNat = true ∧ ct p z.toNat = k := by
  intro n
  induction n with
  | zero => intro _ k z h; simp [ls] at h
  | succ n ih =>
    intro hn k z h
    rw [ls, List.getElem?_append] at h
    split at h
    · obtain ⟨a, b, c⟩ := ih (by omega) k z h
      exact ⟨by omega, b, c⟩
    · rename_i hk
      rw [ls_ct] at h hk
      cases hp : p n with
      | false => rw [hp] at h; simp at h
      | true =>
        rw [hp, if_pos rfl] at h
        have h2 := (List.getElem?_eq_some_iff.1 h).1
        simp at h2
        have h3 : k - ct p n = 0 := by omega
        rw [h3] at h
        simp at h
        subst h
        rw [u16_of n (by omega)]
        exact ⟨by omega, hp, by omega⟩
/-- Either there is one, and it is told, or there is none. -/
theorem sel_cases (p : Nat → Bool) (K : Int) : (so p K = true ∧ 0 ≤ K ∧ K < (ct p 65536 : Nat) ∧ p (sx p K).toNat = true ∧ ((ct p (sx p K).toNat : Nat) : Int) = K) ∨ (so p K = false ∧ (sx p K) = 0 ∧ (K < 0 ∨ (ct p 65536 : Nat) ≤ K)) := by
  by_cases h : 0 ≤ K ∧ K < (ct p 65536 : Nat)
  · obtain ⟨h0, h1⟩ := h
    obtain ⟨k, rfl⟩ := Int.eq_ofNat_of_zero_le h0
    have hk : k < ct p 65536 := by omega
    obtain ⟨e1, e2⟩ := sel_list p k hk
    obtain ⟨a, b, c⟩ := ls_ct_at p 65536 (Nat.le_refl _) k _ e1
    exact .inl ⟨e2, h0, h1, b, by rw [c]⟩
  · obtain ⟨e1, e2⟩ := sel_no (p := p) (K := K) (by omega)
    exact .inr ⟨e2, e1, by omega⟩
theorem wordsRank_c (p : Nat → Bool) (A : Option Addr) (c : Nat) (x : Int) (m : Nat) (lo : Nat) (w : World) (hm2 : ct p (cl x) = m) (h : Gs e64 w lo w.heap.size (.slice A 1024 c) (wm p)) :
    Calls Tryz.prog 89 #[.agg #[.int .u8 2, .slice none 0 0, .slice A 1024 c, .slice none 0 0], .int .i64 x] w fun e w' => e = .returned (.int .i64 m) ∧ Below w.heap.size w w' := by
  have H := Lib.hid h
  clear h
  go_enter Tryz.func89, Tryz.ntmps89
  go_wp2_with fail
  refine (swrank _ p x m lo _ (H.out.stp (bx w _)) hm2).mono ?_
  rintro e w1 ⟨rfl, b1⟩
  have B1 := Lib.hid (below_both (bx w _) b1)
  clear b1
  go_wp2
  go_ret
  exact ⟨rfl, B1.out⟩

theorem runsRank_c (p : Nat → Bool) (A : Option Addr) (n c : Nat) (x : Int) (m : Nat) (lo : Nat) (w : World) (hX : -9000000000 ≤ x ∧ x ≤ 9000000000) (hm2 : ct p (cl x) = m) (h : Gs2 eR w lo w.heap.size (.slice A n c) (rs p 65536)) :
    Calls Tryz.prog 90 #[.agg #[.int .u8 3, .slice none 0 0, .slice none 0 0, .slice A n c], .int .i64 x] w fun e w' => e = .returned (.int .i64 m) ∧ Below w.heap.size w w' := by
  have H := Lib.hid h
  clear h
  go_enter Tryz.func90, Tryz.ntmps90
  go_wp2_with fail
  refine (srrank _ p x m lo _ (H.out.stp (bx w _)) hX hm2).mono ?_
  rintro e w1 ⟨rfl, b1⟩
  have B1 := Lib.hid (below_both (bx w _) b1)
  clear b1
  go_wp2
  go_ret
  exact ⟨rfl, B1.out⟩

set_option maxHeartbeats 1000000 in
theorem arrayRank_c (p : Nat → Bool) (κ : Int) (A : Option Addr) (n c : Nat) (x : Int) (m : Nat) (lo : Nat) (w : World) (hX : -9000000000 ≤ x ∧ x ≤ 9000000000) (hm2 : ct p (cl x) = m) (hn : ct p 65536 = n) (h : Gs e16 w lo w.heap.size (.slice A n c) (ls p 65536)) :
    Calls Tryz.prog 88 #[.agg #[.int .u8 κ, .slice A n c, .slice none 0 0, .slice none 0 0], .int .i64 x] w fun e w' => e = .returned (.int .i64 m) ∧ Below w.heap.size w w' := by
  have H := Lib.hid h
  clear h
  have hX1 := hX.1
  have hX2 := hX.2
  rcases Int.lt_or_le x 0 with h0 | h0
  · have hz : cl x = 0 := by unfold cl; omega
    rw [hz] at hm2
    obtain rfl : m = 0 := hm2.symm
    clear hm2 hz hX hn
    go_enter Tryz.func88, Tryz.ntmps88
    go_wp2
    go_ret
    exact ⟨rfl, (Below.refl _ _).alloc (Nat.le_refl _) _⟩
  · have h0' : decide (x < 0) = false := decide_eq_false (by omega)
    rcases Int.lt_or_le x 65536 with h1 | h1
    · have h1' : decide (65536 ≤ x) = false := decide_eq_false (by omega)
      obtain ⟨y, rfl⟩ := Int.eq_ofNat_of_zero_le h0
      have hy : y < 65536 := by omega
      have hc : cl (y : Int) = y := by unfold cl; omega
      rw [hc] at hm2
      have HM := Lib.hid hm2
      have hw : IntKind.u16.wrap (y : Int) = y := by simp [IntKind.wrap, IntKind.bits, IntKind.signed]; omega
      clear hm2 hc hX hn
      go_enter Tryz.func88, Tryz.ntmps88
      go_wp2_with fail
      refine (sfind2 _ p y m lo _ (H.out.stp (bx w _)) hy HM.out).mono ?_
      rintro e w1 ⟨rfl, b1⟩
      have B1 := Lib.hid (below_both (bx w _) b1)
      clear b1
      go_wp2
      go_ret
      exact ⟨rfl, B1.out⟩
    · have hz : cl x = 65536 := by unfold cl; omega
      rw [hz, hn] at hm2
      subst hm2
      clear hz hX hn
      go_enter Tryz.func88, Tryz.ntmps88
      go_wp2
      go_ret
      exact ⟨rfl, (Below.refl _ _).alloc (Nat.le_refl _) _⟩

end Go.Proofs.YtcmifbjeabkihabGreatDoor
namespace Go.Proofs.YtcmifbjeabkihabGreatDoor
open Go.RowKit
set_option linter.unusedVariables false

set_option maxHeartbeats 1000000 in
theorem rank_1 (p : Nat → Bool) (κ : Int) (A : Option Addr) (n c : Nat) (m : Nat) (x : Int) (lo : Nat) (w : World) (hX : -9000000000 ≤ x ∧ x ≤ 9000000000) (hm2 : ct p (cl x) = m) (hκ : κ = 0 ∨ κ = 1) (hn : ct p 65536 = n) (h : Gs e16 w lo w.heap.size (.slice A n c) (ls p 65536)) :
    Calls Tryz.prog 49 #[.agg #[.int .u8 κ, .slice A n c, .slice none 0 0, .slice none 0 0], .int .i64 x] w fun e w' => e = .returned (.int .i64 m) ∧ Below w.heap.size w w' := by
  have H0 := Lib.hid (Cn.arr (N := fun _ => True) κ A n c hκ hn (Gp.of h (Nat.le_refl _) fun _ _ _ => trivial))
  have H := Lib.hid h
  have T := two_blocks w #[.int .u8 κ, .slice A n c, .slice none 0 0, .slice none 0 0] #[.nilFunc, .func (.func 88) #[] #[], .func (.func 89) #[] #[], .func (.func 90) #[] #[]] 55 119
  clear h
  go_enter Tryz.func49, Tryz.ntmps49
  go_wp2_with fail
  generalize (w.alloc (.cells #[.int .u8 κ, .slice A n c, .slice none 0 0, .slice none 0 0] 55)).alloc (.cells #[.nilFunc, .func (.func 88) #[] #[], .func (.func 89) #[] #[], .func (.func 90) #[] #[]] 119) = W0 at *
  obtain ⟨b0, r0, r1⟩ := T
  have K0 : Hid (∀ W, Below W0.heap.size W0 W → W.cell? ⟨w.heap.size, 0, none⟩ = some (.int .u8 κ) ∧ W.cell? ⟨w.heap.size, 1, none⟩ = some (.slice A n c) ∧ W.cell? ⟨w.heap.size, 2, none⟩ = some (.slice none 0 0) ∧ W.cell? ⟨w.heap.size, 3, none⟩ = some (.slice none 0 0)) := Lib.hid fun W hW => by
    have r := r0.below hW r0.lt
    exact ⟨r.cell 0, r.cell 1, r.cell 2, r.cell 3⟩
  have K1 : Hid (∀ W, Below W0.heap.size W0 W → W.cell? ⟨w.heap.size + 1, 1, none⟩ = some (.func (.func 88) #[] #[])) := Lib.hid fun W hW => (r1.below hW r1.lt).cell 1
  have B0 := Lib.hid b0
  have hSc : Below W0.heap.size W0 W0.drew := (Below.refl W0.heap.size W0).drew
  clear b0 r0 r1
  refine wp_region_held_drew (S := fun W => Below W0.heap.size W0 W) (by kernel_rfl) hSc (fun _ => ?_)
  refine held_take 0 ?_ rfl (by kernel_rfl) (by kernel_rfl) (by kernel_rfl) (fun _ _ _ h => h) (by rfl) ?_ hSc ?_
  rotate_left
  · (intro W hSW; obtain ⟨k0, k1, k2, k3⟩ := K0.out W hSW; go_simp; try rfl)
  try simp only [Act.put, List.setIfInBounds_toArray, List.set_cons_zero, List.set_cons_succ]
  refine held_take 4 ?_ rfl (by kernel_rfl) (by kernel_rfl) (by kernel_rfl) (fun _ _ _ h => h) (by rfl) ?_ hSc ?_
  rotate_left
  · (intro W hSW; obtain ⟨k0, k1, k2, k3⟩ := K0.out W hSW; go_simp; try rfl)
  try simp only [Act.put, List.setIfInBounds_toArray, List.set_cons_zero, List.set_cons_succ]
  refine held_take 5 ?_ rfl (by kernel_rfl) (by kernel_rfl) (by kernel_rfl) (fun _ _ _ h => h) (by rfl) ?_ hSc ?_
  rotate_left
  · (intro W hSW; go_simp; try rfl)
  try simp only [Act.put, List.setIfInBounds_toArray, List.set_cons_zero, List.set_cons_succ]
  refine held_next 1 rfl (by kernel_rfl) (by rfl) ?_
  go_simp
  refine (kind_c _ p 1 _ ((H0.out.step B0.out).step hSc)).mono ?_
  rintro e wq1 ⟨rfl, bq⟩
  have hbq : Below W0.heap.size W0 wq1 := hSc.trans (bq.mono hSc.size)
  refine ⟨fun W => Below W0.heap.size W0 W, fun W hW => hW, hbq, ?_⟩
  clear hSc bq
  have hSc : Below W0.heap.size W0 wq1 := hbq
  clear hbq
  try simp only [Act.put, List.setIfInBounds_toArray, List.set_cons_zero, List.set_cons_succ]
  have KS := Lib.hid hSc.size
  refine held_take 2 ?_ rfl (by kernel_rfl) (by kernel_rfl) (by kernel_rfl) (fun _ _ _ h => h) (by rfl) ?_ hSc ?_
  rotate_left
  · (intro W hSW; go_simp; try rfl)
  try simp only [Act.put, List.setIfInBounds_toArray, List.set_cons_zero, List.set_cons_succ]
  refine held_take 3 ?_ rfl (by kernel_rfl) (by kernel_rfl) (by kernel_rfl) (fun _ _ _ h => h) (by rfl) ?_ hSc ?_
  rotate_left
  · (intro W hSW; have k1 := K1.out W hSW; go_simp; try rfl)
  try simp only [Act.put, List.setIfInBounds_toArray, List.set_cons_zero, List.set_cons_succ]
  refine held_next 6 rfl (by kernel_rfl) (by rfl) ?_
  go_simp
  refine (arrayRank_c p κ A n c x m lo _ hX hm2 hn ((H.out.stp B0.out).stp hSc)).mono ?_
  rintro e wq2 ⟨rfl, bq⟩
  have hbq : Below W0.heap.size W0 wq2 := hSc.trans (bq.mono hSc.size)
  refine ⟨fun W => Below W0.heap.size W0 W, fun W hW => hW, hbq, ?_⟩
  clear hSc bq
  have hSc : Below W0.heap.size W0 wq2 := hbq
  clear hbq
  try simp only [Act.put, List.setIfInBounds_toArray, List.set_cons_zero, List.set_cons_succ]
  refine held_next 7 rfl (by kernel_rfl) (by rfl) ?_
  go_simp
  refine ⟨fun W => Below W0.heap.size W0 W, fun W hW => hW, hSc, ?_⟩
  refine wpAnyH_done (by kernel_rfl) ?_ _
  have BB := Lib.hid (B0.out.trans (hSc.mono B0.out.size))
  go_wp2
  go_ret
  exact ⟨rfl, BB.out⟩

set_option maxHeartbeats 1000000 in
theorem rank_2 (p : Nat → Bool) (A : Option Addr) (c : Nat) (m : Nat) (x : Int) (lo : Nat) (w : World) (hX : -9000000000 ≤ x ∧ x ≤ 9000000000) (hm2 : ct p (cl x) = m) (h : Gs e64 w lo w.heap.size (.slice A 1024 c) (wm p)) :
    Calls Tryz.prog 49 #[.agg #[.int .u8 2, .slice none 0 0, .slice A 1024 c, .slice none 0 0], .int .i64 x] w fun e w' => e = .returned (.int .i64 m) ∧ Below w.heap.size w w' := by
  have H0 := Lib.hid (Cn.wrd (N := fun _ => True) A c (Gp.of h (Nat.le_refl _) fun _ _ _ => trivial))
  have H := Lib.hid h
  have T := two_blocks w #[.int .u8 2, .slice none 0 0, .slice A 1024 c, .slice none 0 0] #[.nilFunc, .func (.func 88) #[] #[], .func (.func 89) #[] #[], .func (.func 90) #[] #[]] 55 119
  clear h
  go_enter Tryz.func49, Tryz.ntmps49
  go_wp2_with fail
  generalize (w.alloc (.cells #[.int .u8 2, .slice none 0 0, .slice A 1024 c, .slice none 0 0] 55)).alloc (.cells #[.nilFunc, .func (.func 88) #[] #[], .func (.func 89) #[] #[], .func (.func 90) #[] #[]] 119) = W0 at *
  obtain ⟨b0, r0, r1⟩ := T
  have K0 : Hid (∀ W, Below W0.heap.size W0 W → W.cell? ⟨w.heap.size, 0, none⟩ = some (.int .u8 2) ∧ W.cell? ⟨w.heap.size, 1, none⟩ = some (.slice none 0 0) ∧ W.cell? ⟨w.heap.size, 2, none⟩ = some (.slice A 1024 c) ∧ W.cell? ⟨w.heap.size, 3, none⟩ = some (.slice none 0 0)) := Lib.hid fun W hW => by
    have r := r0.below hW r0.lt
    exact ⟨r.cell 0, r.cell 1, r.cell 2, r.cell 3⟩
  have K1 : Hid (∀ W, Below W0.heap.size W0 W → W.cell? ⟨w.heap.size + 1, 2, none⟩ = some (.func (.func 89) #[] #[])) := Lib.hid fun W hW => (r1.below hW r1.lt).cell 2
  have B0 := Lib.hid b0
  have hSc : Below W0.heap.size W0 W0.drew := (Below.refl W0.heap.size W0).drew
  clear b0 r0 r1
  refine wp_region_held_drew (S := fun W => Below W0.heap.size W0 W) (by kernel_rfl) hSc (fun _ => ?_)
  refine held_take 0 ?_ rfl (by kernel_rfl) (by kernel_rfl) (by kernel_rfl) (fun _ _ _ h => h) (by rfl) ?_ hSc ?_
  rotate_left
  · (intro W hSW; obtain ⟨k0, k1, k2, k3⟩ := K0.out W hSW; go_simp; try rfl)
  try simp only [Act.put, List.setIfInBounds_toArray, List.set_cons_zero, List.set_cons_succ]
  refine held_take 4 ?_ rfl (by kernel_rfl) (by kernel_rfl) (by kernel_rfl) (fun _ _ _ h => h) (by rfl) ?_ hSc ?_
  rotate_left
  · (intro W hSW; obtain ⟨k0, k1, k2, k3⟩ := K0.out W hSW; go_simp; try rfl)
  try simp only [Act.put, List.setIfInBounds_toArray, List.set_cons_zero, List.set_cons_succ]
  refine held_take 5 ?_ rfl (by kernel_rfl) (by kernel_rfl) (by kernel_rfl) (fun _ _ _ h => h) (by rfl) ?_ hSc ?_
  rotate_left
  · (intro W hSW; go_simp; try rfl)
  try simp only [Act.put, List.setIfInBounds_toArray, List.set_cons_zero, List.set_cons_succ]
  refine held_next 1 rfl (by kernel_rfl) (by rfl) ?_
  go_simp
  refine (kind_c _ p 2 _ ((H0.out.step B0.out).step hSc)).mono ?_
  rintro e wq1 ⟨rfl, bq⟩
  have hbq : Below W0.heap.size W0 wq1 := hSc.trans (bq.mono hSc.size)
  refine ⟨fun W => Below W0.heap.size W0 W, fun W hW => hW, hbq, ?_⟩
  clear hSc bq
  have hSc : Below W0.heap.size W0 wq1 := hbq
  clear hbq
  try simp only [Act.put, List.setIfInBounds_toArray, List.set_cons_zero, List.set_cons_succ]
  have KS := Lib.hid hSc.size
  refine held_take 2 ?_ rfl (by kernel_rfl) (by kernel_rfl) (by kernel_rfl) (fun _ _ _ h => h) (by rfl) ?_ hSc ?_
  rotate_left
  · (intro W hSW; go_simp; try rfl)
  try simp only [Act.put, List.setIfInBounds_toArray, List.set_cons_zero, List.set_cons_succ]
  refine held_take 3 ?_ rfl (by kernel_rfl) (by kernel_rfl) (by kernel_rfl) (fun _ _ _ h => h) (by rfl) ?_ hSc ?_
  rotate_left
  · (intro W hSW; have k1 := K1.out W hSW; go_simp; try rfl)
  try simp only [Act.put, List.setIfInBounds_toArray, List.set_cons_zero, List.set_cons_succ]
  refine held_next 6 rfl (by kernel_rfl) (by rfl) ?_
  go_simp
  refine (wordsRank_c p A c x m lo _ hm2 ((H.out.stp B0.out).stp hSc)).mono ?_
  rintro e wq2 ⟨rfl, bq⟩
  have hbq : Below W0.heap.size W0 wq2 := hSc.trans (bq.mono hSc.size)
  refine ⟨fun W => Below W0.heap.size W0 W, fun W hW => hW, hbq, ?_⟩
  clear hSc bq
  have hSc : Below W0.heap.size W0 wq2 := hbq
  clear hbq
  try simp only [Act.put, List.setIfInBounds_toArray, List.set_cons_zero, List.set_cons_succ]
  refine held_next 7 rfl (by kernel_rfl) (by rfl) ?_
  go_simp
  refine ⟨fun W => Below W0.heap.size W0 W, fun W hW => hW, hSc, ?_⟩
  refine wpAnyH_done (by kernel_rfl) ?_ _
  have BB := Lib.hid (B0.out.trans (hSc.mono B0.out.size))
  go_wp2
  go_ret
  exact ⟨rfl, BB.out⟩

set_option maxHeartbeats 1000000 in
theorem rank_3 (p : Nat → Bool) (A : Option Addr) (n c : Nat) (m : Nat) (x : Int) (lo : Nat) (w : World) (hX : -9000000000 ≤ x ∧ x ≤ 9000000000) (hm2 : ct p (cl x) = m) (hn : ct (hm p) 65536 = n) (h : Gs2 eR w lo w.heap.size (.slice A n c) (rs p 65536)) :
    Calls Tryz.prog 49 #[.agg #[.int .u8 3, .slice none 0 0, .slice none 0 0, .slice A n c], .int .i64 x] w fun e w' => e = .returned (.int .i64 m) ∧ Below w.heap.size w w' := by
  have H0 := Lib.hid (Cn.run (N := fun _ => True) A n c hn (Gp2.of h (Nat.le_refl _) fun _ _ _ => trivial))
  have H := Lib.hid h
  have T := two_blocks w #[.int .u8 3, .slice none 0 0, .slice none 0 0, .slice A n c] #[.nilFunc, .func (.func 88) #[] #[], .func (.func 89) #[] #[], .func (.func 90) #[] #[]] 55 119
  clear h
  go_enter Tryz.func49, Tryz.ntmps49
  go_wp2_with fail
  generalize (w.alloc (.cells #[.int .u8 3, .slice none 0 0, .slice none 0 0, .slice A n c] 55)).alloc (.cells #[.nilFunc, .func (.func 88) #[] #[], .func (.func 89) #[] #[], .func (.func 90) #[] #[]] 119) = W0 at *
  obtain ⟨b0, r0, r1⟩ := T
  have K0 : Hid (∀ W, Below W0.heap.size W0 W → W.cell? ⟨w.heap.size, 0, none⟩ = some (.int .u8 3) ∧ W.cell? ⟨w.heap.size, 1, none⟩ = some (.slice none 0 0) ∧ W.cell? ⟨w.heap.size, 2, none⟩ = some (.slice none 0 0) ∧ W.cell? ⟨w.heap.size, 3, none⟩ = some (.slice A n c)) := Lib.hid fun W hW => by
    have r := r0.below hW r0.lt
    exact ⟨r.cell 0, r.cell 1, r.cell 2, r.cell 3⟩
  have K1 : Hid (∀ W, Below W0.heap.size W0 W → W.cell? ⟨w.heap.size + 1, 3, none⟩ = some (.func (.func 90) #[] #[])) := Lib.hid fun W hW => (r1.below hW r1.lt).cell 3
  have B0 := Lib.hid b0
  have hSc : Below W0.heap.size W0 W0.drew := (Below.refl W0.heap.size W0).drew
  clear b0 r0 r1
  refine wp_region_held_drew (S := fun W => Below W0.heap.size W0 W) (by kernel_rfl) hSc (fun _ => ?_)
  refine held_take 0 ?_ rfl (by kernel_rfl) (by kernel_rfl) (by kernel_rfl) (fun _ _ _ h => h) (by rfl) ?_ hSc ?_
  rotate_left
  · (intro W hSW; obtain ⟨k0, k1, k2, k3⟩ := K0.out W hSW; go_simp; try rfl)
  try simp only [Act.put, List.setIfInBounds_toArray, List.set_cons_zero, List.set_cons_succ]
  refine held_take 4 ?_ rfl (by kernel_rfl) (by kernel_rfl) (by kernel_rfl) (fun _ _ _ h => h) (by rfl) ?_ hSc ?_
  rotate_left
  · (intro W hSW; obtain ⟨k0, k1, k2, k3⟩ := K0.out W hSW; go_simp; try rfl)
  try simp only [Act.put, List.setIfInBounds_toArray, List.set_cons_zero, List.set_cons_succ]
  refine held_take 5 ?_ rfl (by kernel_rfl) (by kernel_rfl) (by kernel_rfl) (fun _ _ _ h => h) (by rfl) ?_ hSc ?_
  rotate_left
  · (intro W hSW; go_simp; try rfl)
  try simp only [Act.put, List.setIfInBounds_toArray, List.set_cons_zero, List.set_cons_succ]
  refine held_next 1 rfl (by kernel_rfl) (by rfl) ?_
  go_simp
  refine (kind_c _ p 3 _ ((H0.out.step B0.out).step hSc)).mono ?_
  rintro e wq1 ⟨rfl, bq⟩
  have hbq : Below W0.heap.size W0 wq1 := hSc.trans (bq.mono hSc.size)
  refine ⟨fun W => Below W0.heap.size W0 W, fun W hW => hW, hbq, ?_⟩
  clear hSc bq
  have hSc : Below W0.heap.size W0 wq1 := hbq
  clear hbq
  try simp only [Act.put, List.setIfInBounds_toArray, List.set_cons_zero, List.set_cons_succ]
  have KS := Lib.hid hSc.size
  refine held_take 2 ?_ rfl (by kernel_rfl) (by kernel_rfl) (by kernel_rfl) (fun _ _ _ h => h) (by rfl) ?_ hSc ?_
  rotate_left
  · (intro W hSW; go_simp; try rfl)
  try simp only [Act.put, List.setIfInBounds_toArray, List.set_cons_zero, List.set_cons_succ]
  refine held_take 3 ?_ rfl (by kernel_rfl) (by kernel_rfl) (by kernel_rfl) (fun _ _ _ h => h) (by rfl) ?_ hSc ?_
  rotate_left
  · (intro W hSW; have k1 := K1.out W hSW; go_simp; try rfl)
  try simp only [Act.put, List.setIfInBounds_toArray, List.set_cons_zero, List.set_cons_succ]
  refine held_next 6 rfl (by kernel_rfl) (by rfl) ?_
  go_simp
  refine (runsRank_c p A n c x m lo _ hX hm2 ((H.out.stp B0.out).stp hSc)).mono ?_
  rintro e wq2 ⟨rfl, bq⟩
  have hbq : Below W0.heap.size W0 wq2 := hSc.trans (bq.mono hSc.size)
  refine ⟨fun W => Below W0.heap.size W0 W, fun W hW => hW, hbq, ?_⟩
  clear hSc bq
  have hSc : Below W0.heap.size W0 wq2 := hbq
  clear hbq
  try simp only [Act.put, List.setIfInBounds_toArray, List.set_cons_zero, List.set_cons_succ]
  refine held_next 7 rfl (by kernel_rfl) (by rfl) ?_
  go_simp
  refine ⟨fun W => Below W0.heap.size W0 W, fun W hW => hW, hSc, ?_⟩
  refine wpAnyH_done (by kernel_rfl) ?_ _
  have BB := Lib.hid (B0.out.trans (hSc.mono B0.out.size))
  go_wp2
  go_ret
  exact ⟨rfl, BB.out⟩

theorem rank_c {N : Nat → Prop} (v : Value) (p : Nat → Bool) (k : Nat) (m : Nat) (x : Int) (w : World) (hX : -9000000000 ≤ x ∧ x ≤ 9000000000) (hm2 : ct p (cl x) = m) (h : Cn N w v p k) :
    Calls Tryz.prog 49 #[v, .int .i64 x] w fun e w' => e = .returned (.int .i64 m) ∧ Below w.heap.size w w' := by
  cases h with
  | arr κ A n c hκ hn h => exact rank_1 p κ A n c m x 0 w hX hm2 hκ hn h.1
  | wrd A c h => exact rank_2 p A c m x 0 w hX hm2 h.1
  | run A n c hn h => exact rank_3 p A n c m x 0 w hX hm2 hn h.1

end Go.Proofs.YtcmifbjeabkihabGreatDoor
