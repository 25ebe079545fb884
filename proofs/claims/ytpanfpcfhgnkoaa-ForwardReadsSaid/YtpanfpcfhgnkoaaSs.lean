/- Walks: the document's Read, where the head is right; of any bytes. -/
import Derived.Test.YtpanfpcfhgnkoaaSr
namespace Go.Proofs.Ytpanfpcfhgnkoaa
open Go.RowKit
set_option linter.unusedVariables false

set_option maxHeartbeats 2000000 in
set_option maxRecDepth 100000 in
theorem rread_ids (A : Option Addr) (c : Nat) (b : List UInt8) (rows many : Int) (w : World) (hG : Gs e8 w 0 w.heap.size (.slice A b.length c) b) (hl : b.length ≤ 10000) (h9 : 9 ≤ b.length) (hx : ¬ 16777216 < rN b) (h1 : (rN b : Int) = rows) (h2 : (rM b : Int) = many) (h3 : mayM rows many = true) (h4 : rW b = wdm many) (h5 : ¬ b.length - 9 < sz (rN b) (rW b)) (h6 : upE (b.drop 9) (rN b) (rW b) = 0) (h7 : (upR (b.drop 9) (rN b) (rW b)).any (fun x => decide ((rM b : Int) ≤ (x.toNat : Int))) = true) :
    Calls Try.prog 15 #[.slice A b.length c, .int .i64 rows, .int .i64 many] w fun e w' => e = .returned (.tuple #[.slice none 0 0, .int .i64 5]) ∧ Below w.heap.size w w' := by
  obtain ⟨W0, hW0⟩ : ∃ W0, W0 = w.alloc (.cells #[.slice A b.length c, .int .i64 0, .bool false] 64) := ⟨_, rfl⟩
  have B0 := Lib.hid (show Below w.heap.size w W0 by rw [hW0]; exact (Below.refl _ _).alloc (Nat.le_refl _) _)
  have Q0 := Lib.hid (show RR W0 w.heap.size w.heap.size (.slice A b.length c) b 0 false by rw [hW0]; exact ⟨Row.new _ _ _, hG.alloc (Nat.le_refl _) _, Nat.le_refl _, Nat.zero_le _, by omega⟩)
  have H6 := Lib.hid h6
  have H7a := Lib.hid h7
  clear h6 h7
  have H5 := Lib.hid h5
  have hk1 := wdm_pos many
  have hk2 := wdm_le (many := many) (by rcases mayM_iff.1 h3 with h | h <;> omega)
  have HWO := Lib.hid (fun W => rwid_any many W (by rcases mayM_iff.1 h3 with h | h <;> omega))
  rw [← h4] at hk1 hk2 HWO
  clear h4 h5
  obtain ⟨n, hn⟩ : ∃ n, rN b = n := ⟨_, rfl⟩
  obtain ⟨m, hm⟩ : ∃ m, rM b = m := ⟨_, rfl⟩
  obtain ⟨k, hk⟩ : ∃ k, rW b = k := ⟨_, rfl⟩
  have hn32 := rN_lt b
  have hm32 := rM_lt b
  have hk32 := rW_lt b
  have E1 := all_1 b h9
  have E2 := all_2 b h9
  have E3 := all_3 b h9
  rw [hn] at E1 hn32 hx
  rw [hm] at E2 hm32
  rw [hk] at E3 hk32
  have v1 := w64_small hn32
  have v2 := w64_small hm32
  have v3 := w64_k hk32
  have y1 := wi64_small hn32
  have y2 := wi64_small hm32
  have y3 := wi64_k hk32
  have d1 : decide ((16777216 : Int) < (n : Int)) = false := decide_eq_false (by omega)
  rw [hn] at h1
  rw [hm] at h2
  rw [hk] at hk1 hk2 HWO
  subst h1 h2
  have HMY := Lib.hid (fun W => refMay_any (n : Int) (m : Int) W)
  rw [h3] at HMY
  have SZ := Lib.hid (fun W => refSize_yes n k W (by omega) hk1 (by omega))
  have l9 : wrap64 ((b.length : Int) - 9) = (b.length : Int) - 9 := by unfold wrap64; omega
  have h5 := H5.out
  rw [hn, hk] at h5
  have d6 : decide ((b.length : Int) - 9 < (sz n k : Int)) = false := decide_eq_false (by omega)
  clear h5
  have hmc : b.length ≤ c := by obtain ⟨_, _, e, _, h1, _⟩ := hG; injection e with _ _ e3; omega
  have hcm : c ≤ 9223372036854775807 := by obtain ⟨_, _, e, _, _, h2, _⟩ := hG; injection e with _ _ e3; subst e3; unfold maxLen at h2; omega
  obtain ⟨b0, off, c', e, -, -, -, -, -⟩ := hG.form (by rintro rfl; simp at h9)
  injection e with e1 e2 e3
  clear e2
  subst e1 e3
  have hcut := sl_cut (p := 9) (m := b.length - 9) hG (by omega)
  simp only [Option.map_some, Addr.add_lit] at hcut
  rw [List.take_of_length_le (by rw [List.length_drop]; exact Nat.le_refl _)] at hcut
  obtain ⟨A9, hA9⟩ : ∃ A9, A9 = (if c = 9 then some (⟨b0, off, none⟩ : Addr) else some ⟨b0, off + 9, none⟩) := ⟨_, rfl⟩
  rw [← hA9] at hcut
  have G9 := Lib.hid hcut
  have HA9 := Lib.hid hA9
  clear hA9
  have HDL := Lib.hid (show (b.drop 9).length ≤ 100000 by rw [List.length_drop]; omega)
  have h9i : (9 : Int) ≤ (b.length : Int) := by omega
  have HUN := Lib.hid (fun W (h : Below w.heap.size w W) => refUnpack_any (.slice A9 (b.length - 9) (c - 9)) (b.drop 9) 0 (n : Int) (k : Int) W ((G9.out.below h).more (Nat.zero_le _) h.size) HDL.out)
  clear hcut
  have h6 := H6.out
  rw [hn, hk] at h6
  obtain ⟨U, hU⟩ : ∃ U, upR (b.drop 9) (n : Int) (k : Int) = U := ⟨_, rfl⟩
  have hup : U = up (b.drop 9) n k := by rw [← hU]; unfold upR; rw [if_pos h6]; simp
  rw [hU, h6] at HUN
  have h7 := H7a.out
  rw [hn, hm, hk, hU] at h7
  have H7 := Lib.hid h7
  clear h7 hU h6 H7a H6
  have HUS := Lib.hid (show ∀ X ∈ U, X.toNat < 16777216 from fun X hX => by
    rw [hup] at hX
    obtain ⟨i, hi, rfl⟩ := List.getElem_of_mem hX
    have hf := up_fits (b.drop 9) n k (by omega) i hi
    rw [List.getD_eq_getElem?_getD, List.getElem?_eq_getElem hi, Option.getD_some] at hf
    have hp : 2 ^ k ≤ 2 ^ 24 := Nat.pow_le_pow_right (n := 2) (by omega) hk2
    have h24 : (2 : Nat) ^ 24 = 16777216 := by decide
    exact Nat.lt_of_lt_of_le hf (h24 ▸ hp))
  have HUL := Lib.hid (show U.length ≤ 16777216 by rw [hup, up_length]; exact Nat.le_of_not_lt hx)
  clear hup
  clear hG
  try clear hn32 hm32 hk32
  go_enter Try.func15, Try.ntmps15
  go_wp2_with (go_at_call 37; rw [← hW0]; clear hW0; refine (refNumber_any 4 4 rfl _ Q0.out (by omega) (by omega)).mono ?_; rw [E1]; rintro e w1 ⟨rfl, r1, g1⟩; have Q1 := Lib.hid r1; have B1 := Lib.hid (B0.out.grown g1 B0.out.size (fun k e => by injection e with e; omega)); clear r1 g1; go_wp2_with (go_at_call 37; refine (refNumber_any 4 4 rfl _ Q1.out (by omega) (by omega)).mono ?_; rw [E2]; rintro e w2 ⟨rfl, r2, g2⟩; have Q2 := Lib.hid r2; have B2 := Lib.hid (B1.out.grown g2 B1.out.size (fun k e => by injection e with e; omega)); clear r2 g2; go_wp2_with (first
    | (go_at_call 37; refine (refNumber_any 1 1 rfl _ Q2.out (by omega) (by omega)).mono ?_; rw [E3]; rintro e w3 ⟨rfl, r3, g3⟩; have c2 := r3.c2; have B3 := Lib.hid (B2.out.grown g3 B2.out.size (fun k e => by injection e with e; omega)); clear r3 g3)
    | (go_at_call 29; refine (HMY.out _).mono ?_; rintro e w9 ⟨rfl, hz⟩; have hz := hz.symm; subst hz)
    | (go_at_call 22; refine (HWO.out _).mono ?_; rintro e w9 ⟨rfl, hz⟩; have hz := hz.symm; subst hz)
    | (go_at_call 38; refine (SZ.out _).mono ?_; rintro e w9 ⟨rfl, hz⟩; subst hz)
    | (go_at_call 39; rw [← HA9.out]; refine (HUN.out _ B3.out).mono ?_; rintro e w6 ⟨v6, rfl, o6, b6⟩; have B6 := Lib.hid (B3.out.trans (b6.mono B3.out.size)); have O6 := Lib.hid o6; clear b6 o6))))
  have U6 := Lib.hid (show Gs e64 w6 0 w6.heap.size v6 U from O6.out.sl.more (Nat.zero_le _) (Nat.le_refl _))
  obtain ⟨A6, d6x, hv6, -⟩ := U6.out
  subst hv6
  clear O6
  go_loopw [14, 15] (fun o i wr => ∃ j : Nat, j ≤ U.length ∧ i = .int .i64 j ∧ Hid (Gw eI wr w6.heap.size o ((U.take j).map fun x => (x.toNat : Int)) ∧ Below w6.heap.size w6 wr ∧ (U.take j).any (fun x => decide ((m : Int) ≤ (x.toNat : Int))) = false)) (fun _ i _ => U.length - (intOf i).toNat)
  case atStart => exact ⟨0, Nat.zero_le _, rfl, Lib.hid ⟨Gw.nil_ _ _, Below.refl _ _, rfl⟩⟩
  case round =>
    obtain ⟨j, hj, rfl, hI⟩ := hrel
    have HI := Lib.hid hI.out
    clear hI
    by_cases hlt : j < U.length
    · obtain ⟨b1, o1, c1, e1, -, -, -, -, hc1⟩ := (U6.out.below HI.out.2.1).form (by rintro rfl; simp at hlt)
      injection e1 with e1 _ e2
      subst e1 e2
      obtain ⟨X, hX⟩ : ∃ X, U[j]? = some X := ⟨_, List.getElem?_eq_getElem hlt⟩
      have q0 := hc1 j X hX
      simp only [e64, b64] at q0
      have hxs := HUS.out X (List.mem_of_getElem? hX)
      have HSN := Lib.hid (show U.take (j + 1) = U.take j ++ [X] by rw [List.take_add_one, hX]; rfl)
      have HXM := Lib.hid (List.mem_of_getElem? hX)
      obtain ⟨x, hx_⟩ : ∃ x, X.toNat = x := ⟨_, rfl⟩
      have HXX := Lib.hid hx_
      rw [hx_] at q0 hxs
      clear hc1 hX hx_
      have z1 := w64_24 hxs
      have z2 := wi64_24 hxs
      clear hxs
      by_cases hge : (m : Int) ≤ (x : Int)
      · have g1 : decide ((m : Int) ≤ (x : Int)) = true := decide_eq_true hge
        have g2 : decide (m ≤ x) = true := decide_eq_true (Int.ofNat_le.1 hge)
        have HQ := Lib.hid (show U.any (fun x => decide ((m : Int) ≤ (x.toNat : Int))) = true from List.any_eq_true.2 ⟨X, HXM.out, by rw [HXX.out]; exact decide_eq_true hge⟩)
        clear hge
        go_wp2
        go_ret2
        exact ⟨rfl, B6.out.trans (HI.out.2.1.mono B6.out.size)⟩
      · have g1 : decide ((m : Int) ≤ (x : Int)) = false := decide_eq_false hge
        have g2 : decide (m ≤ x) = false := decide_eq_false (fun h => hge (Int.ofNat_le.2 h))
        have HQ := Lib.hid (show decide ((m : Int) ≤ (X.toNat : Int)) = false by rw [HXX.out]; exact decide_eq_false hge)
        have hul := HUL.out
        have HLN := Lib.hid (show ((U.take j).map fun x => (x.toNat : Int)).length + 1 ≤ 1000000000 by rw [List.length_map, List.length_take]; have := HUL.out; omega)
        clear hge
        go_wp2_with (at_builtin; refine wpList_gapp1 eI _ rfl _ _ _ rfl w6.heap.size sliI infI _ _ rfl HI.out.1 _ (x : Int) rfl rfl HLN.out HI.out.2.1.size ?_; intro v8 w8 o8 g8 hj; clear hj; have B8 := Lib.hid (HI.out.2.1.grown g8 HI.out.2.1.size (fun j hj => (HI.out.1.lt j hj).1)); have O8 := Lib.hid o8; clear o8 g8)
        go_roundw
        case rel => exact ⟨j + 1, by omega, by go_num, Lib.hid ⟨by rw [HSN.out, List.map_append, List.map_cons, List.map_nil, HXX.out]; exact O8.out, B8.out, by rw [HSN.out, List.any_append, HI.out.2.2, List.any_cons, HQ.out]; rfl⟩⟩
        case measure => simp [intOf]; omega
    · obtain rfl : j = U.length := by omega
      have h := HI.out.2.2
      rw [List.take_length, H7.out] at h
      cases h
set_option maxHeartbeats 2000000 in
set_option maxRecDepth 100000 in
theorem rread_ok (A : Option Addr) (c : Nat) (b : List UInt8) (rows many : Int) (w : World) (hG : Gs e8 w 0 w.heap.size (.slice A b.length c) b) (hl : b.length ≤ 10000) (h9 : 9 ≤ b.length) (hx : ¬ 16777216 < rN b) (h1 : (rN b : Int) = rows) (h2 : (rM b : Int) = many) (h3 : mayM rows many = true) (h4 : rW b = wdm many) (h5 : ¬ b.length - 9 < sz (rN b) (rW b)) (h6 : upE (b.drop 9) (rN b) (rW b) = 0) (h7 : (upR (b.drop 9) (rN b) (rW b)).any (fun x => decide ((rM b : Int) ≤ (x.toNat : Int))) = false) :
    Calls Try.prog 15 #[.slice A b.length c, .int .i64 rows, .int .i64 many] w fun e w' => ∃ v', e = .returned (.tuple #[v', .int .i64 0]) ∧ Gw eI w' w.heap.size v' (rdL b) ∧ Below w.heap.size w w' := by
  obtain ⟨W0, hW0⟩ : ∃ W0, W0 = w.alloc (.cells #[.slice A b.length c, .int .i64 0, .bool false] 64) := ⟨_, rfl⟩
  have B0 := Lib.hid (show Below w.heap.size w W0 by rw [hW0]; exact (Below.refl _ _).alloc (Nat.le_refl _) _)
  have Q0 := Lib.hid (show RR W0 w.heap.size w.heap.size (.slice A b.length c) b 0 false by rw [hW0]; exact ⟨Row.new _ _ _, hG.alloc (Nat.le_refl _) _, Nat.le_refl _, Nat.zero_le _, by omega⟩)
  have H6 := Lib.hid h6
  have H7a := Lib.hid h7
  clear h6 h7
  have H5 := Lib.hid h5
  have hk1 := wdm_pos many
  have hk2 := wdm_le (many := many) (by rcases mayM_iff.1 h3 with h | h <;> omega)
  have HWO := Lib.hid (fun W => rwid_any many W (by rcases mayM_iff.1 h3 with h | h <;> omega))
  rw [← h4] at hk1 hk2 HWO
  clear h4 h5
  obtain ⟨n, hn⟩ : ∃ n, rN b = n := ⟨_, rfl⟩
  obtain ⟨m, hm⟩ : ∃ m, rM b = m := ⟨_, rfl⟩
  obtain ⟨k, hk⟩ : ∃ k, rW b = k := ⟨_, rfl⟩
  have hn32 := rN_lt b
  have hm32 := rM_lt b
  have hk32 := rW_lt b
  have E1 := all_1 b h9
  have E2 := all_2 b h9
  have E3 := all_3 b h9
  rw [hn] at E1 hn32 hx
  rw [hm] at E2 hm32
  rw [hk] at E3 hk32
  have v1 := w64_small hn32
  have v2 := w64_small hm32
  have v3 := w64_k hk32
  have y1 := wi64_small hn32
  have y2 := wi64_small hm32
  have y3 := wi64_k hk32
  have d1 : decide ((16777216 : Int) < (n : Int)) = false := decide_eq_false (by omega)
  rw [hn] at h1
  rw [hm] at h2
  rw [hk] at hk1 hk2 HWO
  subst h1 h2
  have HMY := Lib.hid (fun W => refMay_any (n : Int) (m : Int) W)
  rw [h3] at HMY
  have SZ := Lib.hid (fun W => refSize_yes n k W (by omega) hk1 (by omega))
  have l9 : wrap64 ((b.length : Int) - 9) = (b.length : Int) - 9 := by unfold wrap64; omega
  have h5 := H5.out
  rw [hn, hk] at h5
  have d6 : decide ((b.length : Int) - 9 < (sz n k : Int)) = false := decide_eq_false (by omega)
  clear h5
  have hmc : b.length ≤ c := by obtain ⟨_, _, e, _, h1, _⟩ := hG; injection e with _ _ e3; omega
  have hcm : c ≤ 9223372036854775807 := by obtain ⟨_, _, e, _, _, h2, _⟩ := hG; injection e with _ _ e3; subst e3; unfold maxLen at h2; omega
  obtain ⟨b0, off, c', e, -, -, -, -, -⟩ := hG.form (by rintro rfl; simp at h9)
  injection e with e1 e2 e3
  clear e2
  subst e1 e3
  have hcut := sl_cut (p := 9) (m := b.length - 9) hG (by omega)
  simp only [Option.map_some, Addr.add_lit] at hcut
  rw [List.take_of_length_le (by rw [List.length_drop]; exact Nat.le_refl _)] at hcut
  obtain ⟨A9, hA9⟩ : ∃ A9, A9 = (if c = 9 then some (⟨b0, off, none⟩ : Addr) else some ⟨b0, off + 9, none⟩) := ⟨_, rfl⟩
  rw [← hA9] at hcut
  have G9 := Lib.hid hcut
  have HA9 := Lib.hid hA9
  clear hA9
  have HDL := Lib.hid (show (b.drop 9).length ≤ 100000 by rw [List.length_drop]; omega)
  have h9i : (9 : Int) ≤ (b.length : Int) := by omega
  have HUN := Lib.hid (fun W (h : Below w.heap.size w W) => refUnpack_any (.slice A9 (b.length - 9) (c - 9)) (b.drop 9) 0 (n : Int) (k : Int) W ((G9.out.below h).more (Nat.zero_le _) h.size) HDL.out)
  clear hcut
  have h6 := H6.out
  rw [hn, hk] at h6
  obtain ⟨U, hU⟩ : ∃ U, upR (b.drop 9) (n : Int) (k : Int) = U := ⟨_, rfl⟩
  have hup : U = up (b.drop 9) n k := by rw [← hU]; unfold upR; rw [if_pos h6]; simp
  rw [hU, h6] at HUN
  have h7 := H7a.out
  rw [hn, hm, hk, hU] at h7
  have H7 := Lib.hid h7
  clear h7 hU h6 H7a H6
  have HUS := Lib.hid (show ∀ X ∈ U, X.toNat < 16777216 from fun X hX => by
    rw [hup] at hX
    obtain ⟨i, hi, rfl⟩ := List.getElem_of_mem hX
    have hf := up_fits (b.drop 9) n k (by omega) i hi
    rw [List.getD_eq_getElem?_getD, List.getElem?_eq_getElem hi, Option.getD_some] at hf
    have hp : 2 ^ k ≤ 2 ^ 24 := Nat.pow_le_pow_right (n := 2) (by omega) hk2
    have h24 : (2 : Nat) ^ 24 = 16777216 := by decide
    exact Nat.lt_of_lt_of_le hf (h24 ▸ hp))
  have HUL := Lib.hid (show U.length ≤ 16777216 by rw [hup, up_length]; exact Nat.le_of_not_lt hx)
  have HRL := Lib.hid (show rdL b = U.map fun x => (x.toNat : Int) by unfold rdL; rw [hn, hk, hup])
  rw [HRL.out]
  clear hup HRL
  clear hG
  try clear hn32 hm32 hk32
  go_enter Try.func15, Try.ntmps15
  go_wp2_with (go_at_call 37; rw [← hW0]; clear hW0; refine (refNumber_any 4 4 rfl _ Q0.out (by omega) (by omega)).mono ?_; rw [E1]; rintro e w1 ⟨rfl, r1, g1⟩; have Q1 := Lib.hid r1; have B1 := Lib.hid (B0.out.grown g1 B0.out.size (fun k e => by injection e with e; omega)); clear r1 g1; go_wp2_with (go_at_call 37; refine (refNumber_any 4 4 rfl _ Q1.out (by omega) (by omega)).mono ?_; rw [E2]; rintro e w2 ⟨rfl, r2, g2⟩; have Q2 := Lib.hid r2; have B2 := Lib.hid (B1.out.grown g2 B1.out.size (fun k e => by injection e with e; omega)); clear r2 g2; go_wp2_with (first
    | (go_at_call 37; refine (refNumber_any 1 1 rfl _ Q2.out (by omega) (by omega)).mono ?_; rw [E3]; rintro e w3 ⟨rfl, r3, g3⟩; have c2 := r3.c2; have B3 := Lib.hid (B2.out.grown g3 B2.out.size (fun k e => by injection e with e; omega)); clear r3 g3)
    | (go_at_call 29; refine (HMY.out _).mono ?_; rintro e w9 ⟨rfl, hz⟩; have hz := hz.symm; subst hz)
    | (go_at_call 22; refine (HWO.out _).mono ?_; rintro e w9 ⟨rfl, hz⟩; have hz := hz.symm; subst hz)
    | (go_at_call 38; refine (SZ.out _).mono ?_; rintro e w9 ⟨rfl, hz⟩; subst hz)
    | (go_at_call 39; rw [← HA9.out]; refine (HUN.out _ B3.out).mono ?_; rintro e w6 ⟨v6, rfl, o6, b6⟩; have B6 := Lib.hid (B3.out.trans (b6.mono B3.out.size)); have O6 := Lib.hid o6; clear b6 o6))))
  have U6 := Lib.hid (show Gs e64 w6 0 w6.heap.size v6 U from O6.out.sl.more (Nat.zero_le _) (Nat.le_refl _))
  obtain ⟨A6, d6x, hv6, -⟩ := U6.out
  subst hv6
  clear O6
  go_loopw [14, 15] (fun o i wr => ∃ j : Nat, j ≤ U.length ∧ i = .int .i64 j ∧ Hid (Gw eI wr w6.heap.size o ((U.take j).map fun x => (x.toNat : Int)) ∧ Below w6.heap.size w6 wr ∧ (U.take j).any (fun x => decide ((m : Int) ≤ (x.toNat : Int))) = false)) (fun _ i _ => U.length - (intOf i).toNat)
  case atStart => exact ⟨0, Nat.zero_le _, rfl, Lib.hid ⟨Gw.nil_ _ _, Below.refl _ _, rfl⟩⟩
  case round =>
    obtain ⟨j, hj, rfl, hI⟩ := hrel
    have HI := Lib.hid hI.out
    clear hI
    by_cases hlt : j < U.length
    · obtain ⟨b1, o1, c1, e1, -, -, -, -, hc1⟩ := (U6.out.below HI.out.2.1).form (by rintro rfl; simp at hlt)
      injection e1 with e1 _ e2
      subst e1 e2
      obtain ⟨X, hX⟩ : ∃ X, U[j]? = some X := ⟨_, List.getElem?_eq_getElem hlt⟩
      have q0 := hc1 j X hX
      simp only [e64, b64] at q0
      have hxs := HUS.out X (List.mem_of_getElem? hX)
      have HSN := Lib.hid (show U.take (j + 1) = U.take j ++ [X] by rw [List.take_add_one, hX]; rfl)
      have HXM := Lib.hid (List.mem_of_getElem? hX)
      obtain ⟨x, hx_⟩ : ∃ x, X.toNat = x := ⟨_, rfl⟩
      have HXX := Lib.hid hx_
      rw [hx_] at q0 hxs
      clear hc1 hX hx_
      have z1 := w64_24 hxs
      have z2 := wi64_24 hxs
      clear hxs
      by_cases hge : (m : Int) ≤ (x : Int)
      · have g1 : decide ((m : Int) ≤ (x : Int)) = true := decide_eq_true hge
        have g2 : decide (m ≤ x) = true := decide_eq_true (Int.ofNat_le.1 hge)
        have HQ := Lib.hid (show U.any (fun x => decide ((m : Int) ≤ (x.toNat : Int))) = true from List.any_eq_true.2 ⟨X, HXM.out, by rw [HXX.out]; exact decide_eq_true hge⟩)
        clear hge
        have h := HQ.out
        rw [H7.out] at h
        cases h
      · have g1 : decide ((m : Int) ≤ (x : Int)) = false := decide_eq_false hge
        have g2 : decide (m ≤ x) = false := decide_eq_false (fun h => hge (Int.ofNat_le.2 h))
        have HQ := Lib.hid (show decide ((m : Int) ≤ (X.toNat : Int)) = false by rw [HXX.out]; exact decide_eq_false hge)
        have hul := HUL.out
        have HLN := Lib.hid (show ((U.take j).map fun x => (x.toNat : Int)).length + 1 ≤ 1000000000 by rw [List.length_map, List.length_take]; have := HUL.out; omega)
        clear hge
        go_wp2_with (at_builtin; refine wpList_gapp1 eI _ rfl _ _ _ rfl w6.heap.size sliI infI _ _ rfl HI.out.1 _ (x : Int) rfl rfl HLN.out HI.out.2.1.size ?_; intro v8 w8 o8 g8 hj; clear hj; have B8 := Lib.hid (HI.out.2.1.grown g8 HI.out.2.1.size (fun j hj => (HI.out.1.lt j hj).1)); have O8 := Lib.hid o8; clear o8 g8)
        go_roundw
        case rel => exact ⟨j + 1, by omega, by go_num, Lib.hid ⟨by rw [HSN.out, List.map_append, List.map_cons, List.map_nil, HXX.out]; exact O8.out, B8.out, by rw [HSN.out, List.any_append, HI.out.2.2, List.any_cons, HQ.out]; rfl⟩⟩
        case measure => simp [intOf]; omega
    · obtain rfl : j = U.length := by omega
      have ho := HI.out.1
      rw [List.take_length] at ho
      have HO := Lib.hid (ho.more B6.out.size)
      clear ho
      go_wp2
      go_ret2
      exact ⟨_, rfl, HO.out, B6.out.trans (HI.out.2.1.mono B6.out.size)⟩
theorem refRead_any (A : Option Addr) (c : Nat) (b : List UInt8) (rows many : Int) (w : World) (hG : Gs e8 w 0 w.heap.size (.slice A b.length c) b) (hl : b.length ≤ 10000) :
    Calls Try.prog 15 #[.slice A b.length c, .int .i64 rows, .int .i64 many] w fun e w' =>
      ∃ v', e = .returned (.tuple #[v', .int .i64 (rdE b rows many)]) ∧ (rdE b rows many = 0 → Gw eI w' w.heap.size v' (rdL b)) ∧ Below w.heap.size w w' := by
  have bad : ∀ E : Int, E ≠ 0 → rdE b rows many = E → (Calls Try.prog 15 #[.slice A b.length c, .int .i64 rows, .int .i64 many] w fun e w' => e = .returned (.tuple #[.slice none 0 0, .int .i64 E]) ∧ Below w.heap.size w w') →
      Calls Try.prog 15 #[.slice A b.length c, .int .i64 rows, .int .i64 many] w fun e w' =>
      ∃ v', e = .returned (.tuple #[v', .int .i64 (rdE b rows many)]) ∧ (rdE b rows many = 0 → Gw eI w' w.heap.size v' (rdL b)) ∧ Below w.heap.size w w' := fun E h0 hE h => by
    rw [hE]
    exact h.mono fun e w' ⟨h1, h2⟩ => ⟨_, h1, fun h => absurd h h0, h2⟩
  by_cases h1 : b.length < 9
  · exact bad 4 (by decide) (by unfold rdE; rw [if_pos h1]) (rread_short A c b rows many w hG hl h1)
  · by_cases h2 : 16777216 < rN b
    · exact bad 3 (by decide) (by unfold rdE; rw [if_neg h1, if_pos h2]) (rread_long A c b rows many w hG hl (by omega) h2)
    · by_cases h3 : (rN b : Int) = rows
      · by_cases h4 : (rM b : Int) = many
        · have n34 : ¬ ((rN b : Int) ≠ rows ∨ (rM b : Int) ≠ many) := by rw [not_or]; exact ⟨fun h => h h3, fun h => h h4⟩
          cases h5 : mayM rows many with
          | false => exact bad 5 (by decide) (by unfold rdE; rw [if_neg h1, if_neg h2, if_neg n34, if_pos (.inl h5)]) (rread_may A c b rows many w hG hl (by omega) h2 h3 h4 h5)
          | true =>
            by_cases h6 : rW b = wdm many
            · have n56 : ¬ (mayM rows many = false ∨ rW b ≠ wdm many) := by rw [not_or]; exact ⟨by rw [h5]; simp, fun h => h h6⟩
              have hE : rdE b rows many = chE (b.drop 9) (rN b) (rM b) (rW b) := by unfold rdE; rw [if_neg h1, if_neg h2, if_neg n34, if_neg n56]
              have hw1 := wdm_pos many
              have hw2 := wdm_le (many := many) (by rcases mayM_iff.1 h5 with h | h <;> omega)
              have ha : argOk (rN b : Int) (rW b : Int) := ⟨by omega, by omega, by omega, by omega⟩
              have hdl : (b.drop 9).length = b.length - 9 := by rw [List.length_drop]
              by_cases h7 : b.length - 9 < sz (rN b) (rW b)
              · have hu : upE (b.drop 9) (rN b) (rW b) = 4 := by unfold upE; rw [if_pos ha, if_pos (by rw [hdl]; simpa using h7)]
                exact bad 4 (by decide) (by rw [hE]; unfold chE; rw [hu]; rfl) (rread_size A c b rows many w hG hl (by omega) h2 h3 h4 h5 h6 h7)
              · have hu : upE (b.drop 9) (rN b) (rW b) = 5 ∨ upE (b.drop 9) (rN b) (rW b) = 0 := by
                  unfold upE
                  rw [if_pos ha, if_neg (by rw [hdl]; simpa using h7)]
                  split
                  · exact .inl rfl
                  · split
                    · exact .inr rfl
                    · exact .inl rfl
                rcases hu with hu | hu
                · exact bad 5 (by decide) (by rw [hE]; unfold chE; rw [hu]; rfl) (rread_form A c b rows many w hG hl (by omega) h2 h3 h4 h5 h6 h7 (by rw [hu]; decide))
                · cases h8 : (upR (b.drop 9) (rN b) (rW b)).any (fun x => decide ((rM b : Int) ≤ (x.toNat : Int))) with
                  | true => exact bad 5 (by decide) (by rw [hE]; unfold chE; rw [if_neg (by rw [hu]; decide), if_pos h8]) (rread_ids A c b rows many w hG hl (by omega) h2 h3 h4 h5 h6 h7 hu h8)
                  | false =>
                    have h0 : rdE b rows many = 0 := by rw [hE]; unfold chE; rw [if_neg (by rw [hu]; decide), if_neg (by rw [h8]; decide)]
                    rw [h0]
                    exact (rread_ok A c b rows many w hG hl (by omega) h2 h3 h4 h5 h6 h7 hu h8).mono fun e w' ⟨v', q1, q2, q3⟩ => ⟨v', q1, fun _ => q2, q3⟩
            · exact bad 5 (by decide) (by unfold rdE; rw [if_neg h1, if_neg h2, if_neg n34, if_pos (.inr h6)]) (rread_width A c b rows many w hG hl (by omega) h2 h3 h4 h5 h6)
        · exact bad 5 (by decide) (by unfold rdE; rw [if_neg h1, if_neg h2, if_pos (.inr h4)]) (rread_many A c b rows many w hG hl (by omega) h2 h3 h4)
      · exact bad 5 (by decide) (by unfold rdE; rw [if_neg h1, if_neg h2, if_pos (.inl h3)]) (rread_rows A c b rows many w hG hl (by omega) h2 h3)
end Go.Proofs.Ytpanfpcfhgnkoaa
