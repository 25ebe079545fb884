/- Walks: the law MetricEnds. -/
import Derived.Test.YtigjkolhhhmdhaaTf
namespace Go.Proofs.Ytigjkolhhhmdhaa
open Go.RowKit Go.Shelf
set_option linter.unusedVariables false

set_option maxHeartbeats 1000000 in
theorem ends_long (A : Option Addr) (n d : Nat) (B : Option Addr) (m f : Nat) (w : World) (h : 300 < n ∨ 300 < m) :
    Calls Try.prog 7 #[.slice A n d, .slice B m f] w fun e w' => e = .returned (.bool true) ∧ Below w.heap.size w w' := by
  by_cases h1 : 300 < n
  · have d2 : decide ((300 : Int) < (n : Int)) = true := decide_eq_true (by omega)
    clear h h1
    go_enter Try.func7, Try.ntmps7
    go_wp2_with (go_at_call 8; refine (known13_any _).mono ?_; rintro e w9 ⟨rfl, b9⟩)
    go_ret
    exact ⟨rfl, b9⟩
  · have d2 : decide ((300 : Int) < (n : Int)) = false := decide_eq_false (by omega)
    have d3 : decide ((300 : Int) < (m : Int)) = true := decide_eq_true (by omega)
    clear h h1
    go_enter Try.func7, Try.ntmps7
    go_wp2_with (go_at_call 8; refine (known13_any _).mono ?_; rintro e w9 ⟨rfl, b9⟩)
    go_ret
    exact ⟨rfl, b9⟩
set_option maxHeartbeats 8000000 in
set_option maxRecDepth 100000 in
theorem ends_short (A : Option Addr) (d : Nat) (B : Option Addr) (f : Nat) (zs ms : List Int) (w : World) (hG : Gs eL w 0 w.heap.size (.slice A zs.length d) zs) (hF : Gs eL w 0 w.heap.size (.slice B ms.length f) ms) (hn : zs.length ≤ 300) (hm : ms.length ≤ 300) (hr : R64 zs) :
    Calls Try.prog 7 #[.slice A zs.length d, .slice B ms.length f] w fun e w' => e = .returned (.bool true) ∧ Below w.heap.size w w' := by
  have G0 := Lib.hid hG
  have F0 := Lib.hid hF
  have d1 : decide ((300 : Int) < (zs.length : Int)) = false := decide_eq_false (by omega)
  have d2 : decide ((300 : Int) < (ms.length : Int)) = false := decide_eq_false (by omega)
  have HO1 := Lib.hid (fun W h => of_any A d zs W h (by omega))
  have HO2 := Lib.hid (fun W h => of_any B f ms W h (by omega))
  obtain ⟨ts, hts⟩ : ∃ ts, ts = zs ++ ms := ⟨_, rfl⟩
  have hla : ts.length ≤ 100000 := by rw [hts]; simp; omega
  have HO3 := Lib.hid (fun W A7 d7 h => of_any A7 d7 ts W h hla)
  have hl1 := fun g A c W (h : CxM W g A c zs) => least_any _ _ A _ c _ _ W h.at_
  have hg1 := fun g A c W (h : CxM W g A c zs) => greatest_any _ _ A _ c _ _ W h.at_
  have hl2 := fun g A c W (h : CxM W g A c ms) => least_any _ _ A _ c _ _ W h.at_
  have hg2 := fun g A c W (h : CxM W g A c ms) => greatest_any _ _ A _ c _ _ W h.at_
  have hl3 := fun g A c W (h : CxM W g A c ts) => least_any _ _ A _ c _ _ W h.at_
  have hg3 := fun g A c W (h : CxM W g A c ts) => greatest_any _ _ A _ c _ _ W h.at_
  rw [show loI ts = min (loI zs) (loI ms) by rw [hts, lo_app]] at hl3
  rw [show hiI ts = max (hiI zs) (hiI ms) by rw [hts, hi_app]] at hg3
  have HLO := Lib.hid (show ∀ y ∈ zs, loI zs ≤ y ∧ y ≤ hiI zs from fun y h => ⟨lo_le h, le_hi h⟩)
  have HIN := Lib.hid (show zs ≠ [] → loI zs ∈ zs ∧ hiI zs ∈ zs from fun h => ⟨lo_in h hr, hi_in h hr⟩)
  generalize loI zs = a at hl1 hl3 HLO HIN
  generalize hiI zs = z at hg1 hg3 HLO HIN
  generalize loI ms = a2 at hl2 hl3
  generalize hiI ms = z2 at hg2 hg3
  have L1 := Lib.hid hl1
  have K1 := Lib.hid hg1
  have L2 := Lib.hid hl2
  have K2 := Lib.hid hg2
  have L3 := Lib.hid hl3
  have K3 := Lib.hid hg3
  clear hG hF hl1 hl2 hl3 hg1 hg2 hg3 hr
  have HNS := Lib.hid hn
  have HMS := Lib.hid hm
  have HTS := Lib.hid hts
  clear hn hm hla hts
  obtain ⟨r, hrr⟩ : ∃ r, ts.length = r := ⟨_, rfl⟩
  have HRR := Lib.hid hrr
  rw [hrr] at HO3
  clear hrr
  obtain ⟨n, hnn⟩ : ∃ n, zs.length = n := ⟨_, rfl⟩
  have HNN := Lib.hid hnn
  rw [hnn] at G0 HNS d1 HO1 ⊢
  clear hnn
  obtain ⟨m, hmm⟩ : ∃ m, ms.length = m := ⟨_, rfl⟩
  have HMM := Lib.hid hmm
  rw [hmm] at F0 HMS d2 HO2 ⊢
  clear hmm
  go_enter Try.func7, Try.ntmps7
  go_wp2_with (go_at_call 9; refine (HO1.out _ G0.out).mono ?_; rintro e w1 ⟨g1, A1, c1, rfl, hm, b1⟩; have B1 := Lib.hid b1; have M1 := Lib.hid hm.m; have F1 := Lib.hid (F0.out.step b1); have G1 := Lib.hid (G0.out.step b1); clear hm b1 HO1; go_wp2_with (go_at_call 9; refine (HO2.out _ F1.out).mono ?_; rintro e w2 ⟨g2, A2, c2, rfl, hm, b2⟩; have B2 := Lib.hid (B1.out.trans (b2.mono B1.out.size)); have M2 := Lib.hid hm.m; have M1b := Lib.hid (M1.out.step b2); have F2 := Lib.hid (F1.out.step b2); have G2 := Lib.hid (G1.out.step b2); clear hm b2 HO2 M1; go_wp2_with (at_builtin; refine wpList_gapp eL _ rfl _ _ _ rfl w2.heap.size sliL infL _ [] rfl (Gw.empty_ _ _ (Nat.le_refl _)) 0 w2.heap.size _ zs rfl (G2.out.alloc (Nat.le_refl _) _) (by have := HNS.out; have := HNN.out; simp; omega) (by simp) ?_; intro v3 w3 o3 g3 hj; clear hj; have U3 := Lib.hid (show Below w2.heap.size w2 w3 from ((Below.refl _ _).alloc (Nat.le_refl _) _).grown g3 (by simp) (fun k h => by injection h with h; subst h; exact Nat.le_refl _)); have O3 := Lib.hid (show Gw eL w3 w2.heap.size v3 zs by simpa using o3); clear o3 g3; have F3 := Lib.hid (F2.out.below U3.out); go_wp2_with (first
    | (at_builtin; refine wpList_gapp eL _ rfl _ _ _ rfl w2.heap.size sliL infL _ zs rfl O3.out 0 w2.heap.size _ ms rfl F3.out (by have := HNS.out; have := HNN.out; have := HMS.out; have := HMM.out; omega) U3.out.size ?_; intro v4 w4 o4 g4 hj; clear hj; have U4 := Lib.hid (U3.out.grown g4 U3.out.size (fun j hj => (O3.out.lt j hj).1)); have O4 := Lib.hid (show Gw eL w4 w2.heap.size v4 ts by rw [HTS.out]; exact o4); clear o4 g4; obtain ⟨A4, d4, hv4, -⟩ := O4.out.sl; rw [HRR.out] at hv4; subst hv4; have H4 := Lib.hid (O4.out.sl.more (Nat.zero_le _) (Nat.le_refl _)))
    | (go_at_call 9; refine (HO3.out _ A4 d4 H4.out).mono ?_; rintro e w5 ⟨g5, A5, c5, rfl, hm, b5⟩; have U5 := Lib.hid (U4.out.trans (b5.mono U4.out.size)); have B5 := Lib.hid (B2.out.trans (U5.out.mono B2.out.size)); have M5 := Lib.hid hm.m; have M15 := Lib.hid (M1b.out.step U5.out); have M25 := Lib.hid (M2.out.step U5.out); have G5 := Lib.hid (G2.out.step U5.out); clear hm b5)))))
  clear HO3 F1 F2 F3 G1 G2 O3 O4 H4 U3 U4 U5 M1b M2 F0 G0
  go_loopw [11, 12, 67] (fun lv hv i wr => ∃ k p q : Nat, k ≤ n ∧ p ≤ k ∧ q ≤ k ∧ lv = .int .i64 p ∧ hv = .int .i64 q ∧ i = .int .i64 k ∧ Hid ((a ∈ zs.take k → 0 < p) ∧ (z ∈ zs.take k → 0 < q)) ∧ Below w5.heap.size w5 wr) (fun _ _ i _ => n - (intOf i).toNat)
  case atStart => exact ⟨0, 0, 0, Nat.zero_le _, Nat.le_refl _, Nat.le_refl _, rfl, rfl, rfl, Lib.hid ⟨fun h => by simp at h, fun h => by simp at h⟩, Below.refl _ _⟩
  case round =>
    obtain ⟨k, p, q, hk, hp, hq, rfl, rfl, rfl, hE, bk⟩ := hrel
    have HE := Lib.hid hE.out
    have BK := Lib.hid bk
    clear hE bk
    have hns := HNS.out
    by_cases hlt : k < n
    · obtain ⟨y, hy⟩ : ∃ y, zs[k]? = some y := ⟨_, List.getElem?_eq_getElem (by rw [HNN.out]; omega)⟩
      have hyb := HLO.out y (List.mem_of_getElem? hy)
      have e1 : decide (y < a) = false := decide_eq_false (by omega)
      have e2 : decide (z < y) = false := decide_eq_false (by omega)
      have HSN := Lib.hid (show zs.take (k + 1) = zs.take k ++ [y] by rw [List.take_add_one, hy]; rfl)
      obtain ⟨b, boff, bc', e, -, -, -, bw, hc⟩ := (G5.out.step BK.out).form (fun e => by have h := congrArg List.length e; have := HNN.out; simp only [List.length_nil] at h; omega)
      injection e with e4 e5 e6
      subst e4
      have q0 := hc k y hy
      simp only [eL] at q0
      clear hc e5 e6 hy
      by_cases ha : y = a
      · have g1 : (y == a) = true := beq_iff_eq.2 ha
        clear ha
        by_cases hz : y = z
        · have g2 : (y == z) = true := beq_iff_eq.2 hz
          clear hz hyb
          go_wp2_with (go_at_call 17; refine (L1.out _ _ _ _ (M15.out.step BK.out)).mono ?_; rintro e u1 ⟨rfl, b⟩; have D1 := Lib.hid (BK.out.trans (b.mono BK.out.size)); clear b; go_wp2_with (go_at_call 18; refine (K1.out _ _ _ _ (M15.out.step D1.out)).mono ?_; rintro e u2 ⟨rfl, b⟩; have D2 := Lib.hid (D1.out.trans (b.mono D1.out.size)); clear b; go_wp2_with (go_at_call 17; refine (L1.out _ _ _ _ (M15.out.step D2.out)).mono ?_; rintro e u3 ⟨rfl, b⟩; have D3 := Lib.hid (D2.out.trans (b.mono D2.out.size)); clear b; go_wp2_with (go_at_call 18; refine (K1.out _ _ _ _ (M15.out.step D3.out)).mono ?_; rintro e u4 ⟨rfl, b⟩; have D4 := Lib.hid (D3.out.trans (b.mono D3.out.size)); clear b))))
          go_roundw
          case rel => exact ⟨k + 1, p + 1, q + 1, by omega, by omega, by omega, by go_num, by go_num, by go_num, Lib.hid ⟨fun _ => Nat.succ_pos _, fun _ => Nat.succ_pos _⟩, D4.out⟩
          case measure => simp [intOf]; omega
        · have g2 : (y == z) = false := beq_false_of_ne hz
          have HZ := Lib.hid hz
          clear hz hyb
          go_wp2_with (go_at_call 17; refine (L1.out _ _ _ _ (M15.out.step BK.out)).mono ?_; rintro e u1 ⟨rfl, b⟩; have D1 := Lib.hid (BK.out.trans (b.mono BK.out.size)); clear b; go_wp2_with (go_at_call 18; refine (K1.out _ _ _ _ (M15.out.step D1.out)).mono ?_; rintro e u2 ⟨rfl, b⟩; have D2 := Lib.hid (D1.out.trans (b.mono D1.out.size)); clear b; go_wp2_with (go_at_call 17; refine (L1.out _ _ _ _ (M15.out.step D2.out)).mono ?_; rintro e u3 ⟨rfl, b⟩; have D3 := Lib.hid (D2.out.trans (b.mono D2.out.size)); clear b; go_wp2_with (go_at_call 18; refine (K1.out _ _ _ _ (M15.out.step D3.out)).mono ?_; rintro e u4 ⟨rfl, b⟩; have D4 := Lib.hid (D3.out.trans (b.mono D3.out.size)); clear b))))
          go_roundw
          case rel => exact ⟨k + 1, p + 1, q, by omega, by omega, by omega, by go_num, by go_num, by go_num, Lib.hid ⟨fun _ => Nat.succ_pos _, fun h => HE.out.2 (by rw [HSN.out] at h; rcases List.mem_append.1 h with h | h; exact h; exact absurd (List.mem_singleton.1 h).symm HZ.out)⟩, D4.out⟩
          case measure => simp [intOf]; omega
      · have g1 : (y == a) = false := beq_false_of_ne ha
        have HA := Lib.hid ha
        clear ha
        by_cases hz : y = z
        · have g2 : (y == z) = true := beq_iff_eq.2 hz
          clear hz hyb
          go_wp2_with (go_at_call 17; refine (L1.out _ _ _ _ (M15.out.step BK.out)).mono ?_; rintro e u1 ⟨rfl, b⟩; have D1 := Lib.hid (BK.out.trans (b.mono BK.out.size)); clear b; go_wp2_with (go_at_call 18; refine (K1.out _ _ _ _ (M15.out.step D1.out)).mono ?_; rintro e u2 ⟨rfl, b⟩; have D2 := Lib.hid (D1.out.trans (b.mono D1.out.size)); clear b; go_wp2_with (go_at_call 17; refine (L1.out _ _ _ _ (M15.out.step D2.out)).mono ?_; rintro e u3 ⟨rfl, b⟩; have D3 := Lib.hid (D2.out.trans (b.mono D2.out.size)); clear b; go_wp2_with (go_at_call 18; refine (K1.out _ _ _ _ (M15.out.step D3.out)).mono ?_; rintro e u4 ⟨rfl, b⟩; have D4 := Lib.hid (D3.out.trans (b.mono D3.out.size)); clear b))))
          go_roundw
          case rel => exact ⟨k + 1, p, q + 1, by omega, by omega, by omega, by go_num, by go_num, by go_num, Lib.hid ⟨fun h => HE.out.1 (by rw [HSN.out] at h; rcases List.mem_append.1 h with h | h; exact h; exact absurd (List.mem_singleton.1 h).symm HA.out), fun _ => Nat.succ_pos _⟩, D4.out⟩
          case measure => simp [intOf]; omega
        · have g2 : (y == z) = false := beq_false_of_ne hz
          have HZ := Lib.hid hz
          clear hz hyb
          go_wp2_with (go_at_call 17; refine (L1.out _ _ _ _ (M15.out.step BK.out)).mono ?_; rintro e u1 ⟨rfl, b⟩; have D1 := Lib.hid (BK.out.trans (b.mono BK.out.size)); clear b; go_wp2_with (go_at_call 18; refine (K1.out _ _ _ _ (M15.out.step D1.out)).mono ?_; rintro e u2 ⟨rfl, b⟩; have D2 := Lib.hid (D1.out.trans (b.mono D1.out.size)); clear b; go_wp2_with (go_at_call 17; refine (L1.out _ _ _ _ (M15.out.step D2.out)).mono ?_; rintro e u3 ⟨rfl, b⟩; have D3 := Lib.hid (D2.out.trans (b.mono D2.out.size)); clear b; go_wp2_with (go_at_call 18; refine (K1.out _ _ _ _ (M15.out.step D3.out)).mono ?_; rintro e u4 ⟨rfl, b⟩; have D4 := Lib.hid (D3.out.trans (b.mono D3.out.size)); clear b))))
          go_roundw
          case rel => exact ⟨k + 1, p, q, by omega, by omega, by omega, by go_num, by go_num, by go_num, Lib.hid ⟨fun h => HE.out.1 (by rw [HSN.out] at h; rcases List.mem_append.1 h with h | h; exact h; exact absurd (List.mem_singleton.1 h).symm HA.out), fun h => HE.out.2 (by rw [HSN.out] at h; rcases List.mem_append.1 h with h | h; exact h; exact absurd (List.mem_singleton.1 h).symm HZ.out)⟩, D4.out⟩
          case measure => simp [intOf]; omega
    · obtain rfl : k = n := by omega
      have hE := HE.out
      rw [show zs.take k = zs by rw [← HNN.out, List.take_length]] at hE
      have BK9 := Lib.hid (B5.out.trans (BK.out.mono B5.out.size))
      have m1 := Lib.hid (M15.out.step BK.out)
      have m2 := Lib.hid (M25.out.step BK.out)
      have m3 := Lib.hid (M5.out.step BK.out)
      clear HE
      by_cases h0 : k = 0
      · subst h0
        clear hE hp hq
        have D0 := Lib.hid (Below.refl wr.heap.size wr)
        go_wp2_with (go_at_call 17; refine (L3.out _ _ _ _ (m3.out.step D0.out)).mono ?_; rintro e u1 ⟨rfl, b⟩; have D1 := Lib.hid (D0.out.trans (b.mono D0.out.size)); clear b; go_wp2_with (go_at_call 17; refine (L1.out _ _ _ _ (m1.out.step D1.out)).mono ?_; rintro e u2 ⟨rfl, b⟩; have D2 := Lib.hid (D1.out.trans (b.mono D1.out.size)); clear b; go_wp2_with (go_at_call 17; refine (L2.out _ _ _ _ (m2.out.step D2.out)).mono ?_; rintro e u3 ⟨rfl, b⟩; have D3 := Lib.hid (D2.out.trans (b.mono D2.out.size)); clear b; go_wp2_with (go_at_call 18; refine (K3.out _ _ _ _ (m3.out.step D3.out)).mono ?_; rintro e u4 ⟨rfl, b⟩; have D4 := Lib.hid (D3.out.trans (b.mono D3.out.size)); clear b; go_wp2_with (go_at_call 18; refine (K1.out _ _ _ _ (m1.out.step D4.out)).mono ?_; rintro e u5 ⟨rfl, b⟩; have D5 := Lib.hid (D4.out.trans (b.mono D4.out.size)); clear b; go_wp2_with (go_at_call 18; refine (K2.out _ _ _ _ (m2.out.step D5.out)).mono ?_; rintro e u6 ⟨rfl, b⟩; have D6 := Lib.hid (D5.out.trans (b.mono D5.out.size)); clear b; go_wp2_with (go_at_call 8; refine (known13_any _).mono ?_; rintro e u7 ⟨rfl, b⟩; have D7 := Lib.hid (BK9.out.trans ((D6.out.trans (b.mono D6.out.size)).mono BK9.out.size)); clear b)))))))
        go_ret
        exact ⟨rfl, D7.out⟩
      · have hin := HIN.out (by intro h; have h2 := HNN.out; rw [h] at h2; simp at h2; omega)
        have hp0 := hE.1 hin.1
        have hq0 := hE.2 hin.2
        have f0 : ((k : Int) == 0) = false := beq_false_of_ne (by omega)
        have f0n : (k == 0) = false := beq_false_of_ne h0
        have f1 : decide ((0 : Int) < (p : Int)) = true := decide_eq_true (by omega)
        have f2 : decide ((0 : Int) < (q : Int)) = true := decide_eq_true (by omega)
        have f1n : decide (0 < p) = true := decide_eq_true hp0
        have f2n : decide (0 < q) = true := decide_eq_true hq0
        clear hE hin h0 hp0 hq0
        have D0 := Lib.hid (Below.refl wr.heap.size wr)
        go_wp2_with (go_at_call 17; refine (L3.out _ _ _ _ (m3.out.step D0.out)).mono ?_; rintro e u1 ⟨rfl, b⟩; have D1 := Lib.hid (D0.out.trans (b.mono D0.out.size)); clear b; go_wp2_with (go_at_call 17; refine (L1.out _ _ _ _ (m1.out.step D1.out)).mono ?_; rintro e u2 ⟨rfl, b⟩; have D2 := Lib.hid (D1.out.trans (b.mono D1.out.size)); clear b; go_wp2_with (go_at_call 17; refine (L2.out _ _ _ _ (m2.out.step D2.out)).mono ?_; rintro e u3 ⟨rfl, b⟩; have D3 := Lib.hid (D2.out.trans (b.mono D2.out.size)); clear b; go_wp2_with (go_at_call 18; refine (K3.out _ _ _ _ (m3.out.step D3.out)).mono ?_; rintro e u4 ⟨rfl, b⟩; have D4 := Lib.hid (D3.out.trans (b.mono D3.out.size)); clear b; go_wp2_with (go_at_call 18; refine (K1.out _ _ _ _ (m1.out.step D4.out)).mono ?_; rintro e u5 ⟨rfl, b⟩; have D5 := Lib.hid (D4.out.trans (b.mono D4.out.size)); clear b; go_wp2_with (go_at_call 18; refine (K2.out _ _ _ _ (m2.out.step D5.out)).mono ?_; rintro e u6 ⟨rfl, b⟩; have D6 := Lib.hid (D5.out.trans (b.mono D5.out.size)); clear b; go_wp2_with (go_at_call 8; refine (known13_any _).mono ?_; rintro e u7 ⟨rfl, b⟩; have D7 := Lib.hid (BK9.out.trans ((D6.out.trans (b.mono D6.out.size)).mono BK9.out.size)); clear b)))))))
        go_ret
        exact ⟨rfl, D7.out⟩
end Go.Proofs.Ytigjkolhhhmdhaa
