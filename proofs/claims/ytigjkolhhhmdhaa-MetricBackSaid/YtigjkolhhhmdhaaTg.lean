/- Walks: whether a column tells these numbers (told). -/
import Derived.Test.YtigjkolhhhmdhaaTf
namespace Go.Proofs.Ytigjkolhhhmdhaa
open Go.RowKit Go.Shelf
set_option linter.unusedVariables false

attribute [local go_sem] Oper.semAt_some

set_option maxHeartbeats 8000000 in
set_option maxRecDepth 100000 in
theorem told_yes (g : Nat) (A : Option Addr) (c : Nat) (A2 : Option Addr) (d2 : Nat) (zs : List Int) (p q : Nat) (w : World) (hm : CxM w g A c zs) (hG : Gs eL w 0 w.heap.size (.slice A2 zs.length d2) zs) (h1 : p ≤ q) (h2 : q ≤ zs.length) :
    Calls Try.prog 11 #[.pointer (some ⟨g, 0, none⟩), .slice A2 zs.length d2, .int .i64 (p : Int), .int .i64 (q : Int)] w fun e w' => e = .returned (.bool true) ∧ Below w.heap.size w w' := by
  have HE0 := refEnds_any A2 d2 zs w _ hG hm.small
  have hle0 := fun W (h : CxM W g A c zs) => least_any _ _ A _ c _ _ W h.at_
  have hge0 := fun W (h : CxM W g A c zs) => greatest_any _ _ A _ c _ _ W h.at_
  have hln0 := fun W (h : CxM W g A c zs) => len_any _ _ A _ c _ _ W h.at_
  have hb1 := fun W (h : CxM W g A c zs) => bytes_c g A c zs W h
  have hb2 := fun W (h : Gs eL W 0 W.heap.size (.slice A2 zs.length d2) zs) => refBytes_c A2 d2 zs W h hm.small
  generalize loI zs = a at HE0 hle0
  generalize hiI zs = z at HE0 hge0
  generalize cB zs = bs at hb1 hb2
  have HE := Lib.hid HE0
  have L1 := Lib.hid hle0
  have L2 := Lib.hid hge0
  have L4 := Lib.hid hb1
  have L5 := Lib.hid hb2
  have hnb := hm.small
  have M0 := Lib.hid hm
  have G0 := Lib.hid hG
  have hcap : zs.length ≤ d2 := by obtain ⟨_, _, e, _, h9, _⟩ := hG; injection e with _ _ e3; omega
  have hpt := fun W => run_part A2 zs.length d2 p q W h1 (by omega)
  obtain ⟨A', hA', hP0⟩ := hG.part h1 h2
  rw [← hA'] at hpt
  have hso := fun W (h : CxM W g A c zs) => some_yes g A c zs p q W h h1 h2
  have hml : ((zs.take q).drop p).length = q - p := by simp; omega
  have d1n : decide (p ≤ q) = true := decide_eq_true h1
  have d2n : decide (q ≤ zs.length) = true := decide_eq_true h2
  obtain ⟨m, hmm⟩ : ∃ m, m = q - p := ⟨_, rfl⟩
  rw [← hmm] at hml hpt hP0
  have HMB := Lib.hid (show m ≤ 100000 by omega)
  have P0 := Lib.hid hP0
  generalize ((zs.take q).drop p) = pt at *
  have HM := Lib.hid hml
  have HSO := Lib.hid hso
  clear hml hso hA' hP0 hcap hmm h1 h2
  clear HE0 hle0 hge0 hb1 hb2 hm hG
  obtain ⟨n, hn⟩ : ∃ n, zs.length = n := ⟨_, rfl⟩
  have HN := Lib.hid hn
  rw [hn] at HE hln0 hpt hnb d2n G0 L5 ⊢
  have L3 := Lib.hid hln0
  have HL := Lib.hid hnb
  clear hn hln0
  go_enter Try.func11, Try.ntmps11
  go_wp2_with (go_at_call 22; refine HE.out.mono ?_; rintro e w0 ⟨rfl, hz⟩; have hz := hz.symm; subst hz; go_wp2_with (go_at_call 15; refine (HSO.out _ M0.out).mono ?_; rintro e W2 ⟨v2, rfl, o2, b2⟩; have B2 := Lib.hid b2; have hsl := o2.sl; obtain ⟨A7, d7, hv7, -⟩ := hsl; rw [HM.out] at hv7; subst hv7; have O2 := Lib.hid o2; have WN := Lib.hid (P0.out.step b2); clear o2 b2))
  have M2 := Lib.hid (M0.out.step B2.out)
  have G2 := Lib.hid (G0.out.step B2.out)
  have HLen := Lib.hid (fun W (b : Below W2.heap.size W2 W) => L3.out W (M2.out.step b))
  have HLE := Lib.hid (fun W (b : Below W2.heap.size W2 W) => L1.out W (M2.out.step b))
  have HGE := Lib.hid (fun W (b : Below W2.heap.size W2 W) => L2.out W (M2.out.step b))
  have HSA := Lib.hid (fun W (b : Below W2.heap.size W2 W) => sameL_yes _ _ pt _ _ _ _ W (O2.out.sl.below b) (WN.out.below b))
  have CB1 := Lib.hid (fun W (b : Below W2.heap.size W2 W) => L4.out W (M2.out.step b))
  have CB2 := Lib.hid (fun W (b : Below W2.heap.size W2 W) => L5.out W (G2.out.step b))
  clear L1 L2 L3 L4 L5 M0 G0 HE
  have hSc := (Below.refl W2.heap.size W2).drew
  refine wp_region_all (S := fun W => Below W2.heap.size W2 W) (by kernel_rfl) hSc (fun W0 hSc => ?_)
  refine held_take 0 ?_ rfl (by kernel_rfl) (by kernel_rfl) (by kernel_rfl) (fun _ _ _ h => h) (by rfl) ?_ hSc ?_
  rotate_left
  · (intro W hSW; go_simp; try rfl)
  try simp only [Act.put, List.setIfInBounds_toArray, List.set_cons_zero, List.set_cons_succ]
  refine held_take 2 ?_ rfl (by kernel_rfl) (by kernel_rfl) (by kernel_rfl) (fun _ _ _ h => h) (by rfl) ?_ hSc ?_
  rotate_left
  · (intro W hSW; go_simp; try rfl)
  try simp only [Act.put, List.setIfInBounds_toArray, List.set_cons_zero, List.set_cons_succ]
  refine held_take 3 ?_ rfl (by kernel_rfl) (by kernel_rfl) (by kernel_rfl) (fun _ _ _ h => h) (by rfl) ?_ hSc ?_
  rotate_left
  · (intro W hSW; go_simp; try rfl)
  try simp only [Act.put, List.setIfInBounds_toArray, List.set_cons_zero, List.set_cons_succ]
  refine held_next 1 rfl (by kernel_rfl) (by rfl) ?_
  go_simp
  refine (HLen.out _ hSc).mono ?_
  rintro e wq1 ⟨rfl, b1⟩
  have hSd : (fun W => Below W2.heap.size W2 W) wq1 := hSc.trans (b1.mono hSc.size)
  refine ⟨fun W => Below W2.heap.size W2 W, fun W hW => hW, hSd, ?_⟩
  clear hSc b1
  have hSc := hSd
  clear hSd
  try simp only [Act.put, List.setIfInBounds_toArray, List.set_cons_zero, List.set_cons_succ]
  refine held_take 4 ?_ rfl (by kernel_rfl) (by kernel_rfl) (by kernel_rfl) (fun _ _ _ h => h) (by rfl) ?_ hSc ?_
  rotate_left
  · (intro W hSW; go_simp; try rfl)
  try simp only [Act.put, List.setIfInBounds_toArray, List.set_cons_zero, List.set_cons_succ]
  refine held_take 5 ?_ rfl (by kernel_rfl) (by kernel_rfl) (by kernel_rfl) (fun _ _ _ h => h) (by rfl) ?_ hSc ?_
  rotate_left
  · (intro W hSW; go_simp; try rfl)
  try simp only [Act.put, List.setIfInBounds_toArray, List.set_cons_zero, List.set_cons_succ]
  refine held_take 6 ?_ rfl (by kernel_rfl) (by kernel_rfl) (by kernel_rfl) (fun _ _ _ h => h) (by rfl) ?_ hSc ?_
  rotate_left
  · (intro W hSW; go_simp; try rfl)
  try simp only [Act.put, List.setIfInBounds_toArray, List.set_cons_zero, List.set_cons_succ]
  refine held_take 8 ?_ rfl (by kernel_rfl) (by kernel_rfl) (by kernel_rfl) (fun _ _ _ h => h) (by rfl) ?_ hSc ?_
  rotate_left
  · (intro W hSW; go_simp; try rfl)
  try simp only [Act.put, List.setIfInBounds_toArray, List.set_cons_zero, List.set_cons_succ]
  refine held_next 7 rfl (by kernel_rfl) (by rfl) ?_
  go_simp
  refine (HLE.out _ hSc).mono ?_
  rintro e wq2 ⟨rfl, b2⟩
  have hSd : (fun W => Below W2.heap.size W2 W) wq2 := hSc.trans (b2.mono hSc.size)
  refine ⟨fun W => Below W2.heap.size W2 W, fun W hW => hW, hSd, ?_⟩
  clear hSc b2
  have hSc := hSd
  clear hSd
  try simp only [Act.put, List.setIfInBounds_toArray, List.set_cons_zero, List.set_cons_succ]
  refine held_take 9 ?_ rfl (by kernel_rfl) (by kernel_rfl) (by kernel_rfl) (fun _ _ _ h => h) (by rfl) ?_ hSc ?_
  rotate_left
  · (intro W hSW; go_simp; try rfl)
  try simp only [Act.put, List.setIfInBounds_toArray, List.set_cons_zero, List.set_cons_succ]
  refine held_take 10 ?_ rfl (by kernel_rfl) (by kernel_rfl) (by kernel_rfl) (fun _ _ _ h => h) (by rfl) ?_ hSc ?_
  rotate_left
  · (intro W hSW; go_simp; try rfl)
  try simp only [Act.put, List.setIfInBounds_toArray, List.set_cons_zero, List.set_cons_succ]
  refine held_take 11 ?_ rfl (by kernel_rfl) (by kernel_rfl) (by kernel_rfl) (fun _ _ _ h => h) (by rfl) ?_ hSc ?_
  rotate_left
  · (intro W hSW; go_simp; try rfl)
  try simp only [Act.put, List.setIfInBounds_toArray, List.set_cons_zero, List.set_cons_succ]
  refine held_take 12 ?_ rfl (by kernel_rfl) (by kernel_rfl) (by kernel_rfl) (fun _ _ _ h => h) (by rfl) ?_ hSc ?_
  rotate_left
  · (intro W hSW; go_simp; try rfl)
  try simp only [Act.put, List.setIfInBounds_toArray, List.set_cons_zero, List.set_cons_succ]
  refine held_take 14 ?_ rfl (by kernel_rfl) (by kernel_rfl) (by kernel_rfl) (fun _ _ _ h => h) (by rfl) ?_ hSc ?_
  rotate_left
  · (intro W hSW; go_simp; try rfl)
  try simp only [Act.put, List.setIfInBounds_toArray, List.set_cons_zero, List.set_cons_succ]
  refine held_next 13 rfl (by kernel_rfl) (by rfl) ?_
  go_simp
  refine (HGE.out _ hSc).mono ?_
  rintro e wq3 ⟨rfl, b3⟩
  have hSd : (fun W => Below W2.heap.size W2 W) wq3 := hSc.trans (b3.mono hSc.size)
  refine ⟨fun W => Below W2.heap.size W2 W, fun W hW => hW, hSd, ?_⟩
  clear hSc b3
  have hSc := hSd
  clear hSd
  try simp only [Act.put, List.setIfInBounds_toArray, List.set_cons_zero, List.set_cons_succ]
  refine held_take 15 ?_ rfl (by kernel_rfl) (by kernel_rfl) (by kernel_rfl) (fun _ _ _ h => h) (by rfl) ?_ hSc ?_
  rotate_left
  · (intro W hSW; go_simp; try rfl)
  try simp only [Act.put, List.setIfInBounds_toArray, List.set_cons_zero, List.set_cons_succ]
  refine held_take 16 ?_ rfl (by kernel_rfl) (by kernel_rfl) (by kernel_rfl) (fun _ _ _ h => h) (by rfl) ?_ hSc ?_
  rotate_left
  · (intro W hSW; go_simp; try rfl)
  try simp only [Act.put, List.setIfInBounds_toArray, List.set_cons_zero, List.set_cons_succ]
  refine held_take 17 ?_ rfl (by kernel_rfl) (by kernel_rfl) (by kernel_rfl) (fun _ _ _ h => h) (by rfl) ?_ hSc ?_
  rotate_left
  · (intro W hSW; go_simp; try rfl)
  try simp only [Act.put, List.setIfInBounds_toArray, List.set_cons_zero, List.set_cons_succ]
  refine held_take 18 ?_ rfl (by kernel_rfl) (by kernel_rfl) (by kernel_rfl) (fun _ _ _ h => h) (by rfl) ?_ hSc ?_
  rotate_left
  · (intro W hSW; go_simp; try rfl)
  try simp only [Act.put, List.setIfInBounds_toArray, List.set_cons_zero, List.set_cons_succ]
  refine held_take 19 ?_ rfl (by kernel_rfl) (by kernel_rfl) (by kernel_rfl) (fun _ _ _ h => h) (by rfl) ?_ hSc ?_
  rotate_left
  · (intro W hSW; go_simp; try rfl)
  try simp only [Act.put, List.setIfInBounds_toArray, List.set_cons_zero, List.set_cons_succ]
  refine held_next 20 rfl (by kernel_rfl) (by rfl) ?_
  go_simp
  refine (HSA.out _ hSc).mono ?_
  rintro e wq4 ⟨rfl, nz4, hz4⟩
  have hSd : (fun W => Below W2.heap.size W2 W) wq4 := (by rw [hz4]; exact below_drewN hSc nz4)
  refine ⟨fun W => Below W2.heap.size W2 W, fun W hW => hW, hSd, ?_⟩
  clear hSc hz4
  have hSc := hSd
  clear hSd
  try simp only [Act.put, List.setIfInBounds_toArray, List.set_cons_zero, List.set_cons_succ]
  refine held_take 21 ?_ rfl (by kernel_rfl) (by kernel_rfl) (by kernel_rfl) (fun _ _ _ h => h) (by rfl) ?_ hSc ?_
  rotate_left
  · (intro W hSW; go_simp; try rfl)
  try simp only [Act.put, List.setIfInBounds_toArray, List.set_cons_zero, List.set_cons_succ]
  refine held_take 22 ?_ rfl (by kernel_rfl) (by kernel_rfl) (by kernel_rfl) (fun _ _ _ h => h) (by rfl) ?_ hSc ?_
  rotate_left
  · (intro W hSW; go_simp; try rfl)
  try simp only [Act.put, List.setIfInBounds_toArray, List.set_cons_zero, List.set_cons_succ]
  refine held_take 23 ?_ rfl (by kernel_rfl) (by kernel_rfl) (by kernel_rfl) (fun _ _ _ h => h) (by rfl) ?_ hSc ?_
  rotate_left
  · (intro W hSW; go_simp; try rfl)
  try simp only [Act.put, List.setIfInBounds_toArray, List.set_cons_zero, List.set_cons_succ]
  refine held_take 24 ?_ rfl (by kernel_rfl) (by kernel_rfl) (by kernel_rfl) (fun _ _ _ h => h) (by rfl) ?_ hSc ?_
  rotate_left
  · (intro W hSW; go_simp; try rfl)
  try simp only [Act.put, List.setIfInBounds_toArray, List.set_cons_zero, List.set_cons_succ]
  refine held_take 25 ?_ rfl (by kernel_rfl) (by kernel_rfl) (by kernel_rfl) (fun _ _ _ h => h) (by rfl) ?_ hSc ?_
  rotate_left
  · (intro W hSW; go_simp; try rfl)
  try simp only [Act.put, List.setIfInBounds_toArray, List.set_cons_zero, List.set_cons_succ]
  refine held_take 26 ?_ rfl (by kernel_rfl) (by kernel_rfl) (by kernel_rfl) (fun _ _ _ h => h) (by rfl) ?_ hSc ?_
  rotate_left
  · (intro W hSW; go_simp; try rfl)
  try simp only [Act.put, List.setIfInBounds_toArray, List.set_cons_zero, List.set_cons_succ]
  refine held_take 27 ?_ rfl (by kernel_rfl) (by kernel_rfl) (by kernel_rfl) (fun _ _ _ h => h) (by rfl) ?_ hSc ?_
  rotate_left
  · (intro W hSW; go_simp; try rfl)
  try simp only [Act.put, List.setIfInBounds_toArray, List.set_cons_zero, List.set_cons_succ]
  refine held_take 28 ?_ rfl (by kernel_rfl) (by kernel_rfl) (by kernel_rfl) (fun _ _ _ h => h) (by rfl) ?_ hSc ?_
  rotate_left
  · (intro W hSW; go_simp; try rfl)
  try simp only [Act.put, List.setIfInBounds_toArray, List.set_cons_zero, List.set_cons_succ]
  refine held_take 29 ?_ rfl (by kernel_rfl) (by kernel_rfl) (by kernel_rfl) (fun _ _ _ h => h) (by rfl) ?_ hSc ?_
  rotate_left
  · (intro W hSW; go_simp; try rfl)
  try simp only [Act.put, List.setIfInBounds_toArray, List.set_cons_zero, List.set_cons_succ]
  refine held_take 32 ?_ rfl (by kernel_rfl) (by kernel_rfl) (by kernel_rfl) (fun _ _ _ h => h) (by rfl) ?_ hSc ?_
  rotate_left
  · (intro W hSW; go_simp; try rfl)
  try simp only [Act.put, List.setIfInBounds_toArray, List.set_cons_zero, List.set_cons_succ]
  refine held_next 30 rfl (by kernel_rfl) (by rfl) ?_
  go_simp
  refine (CB1.out _ hSc).mono ?_
  rintro e x1 ⟨v1, rfl, o1, b1⟩
  have Q1 := Lib.hid (o1.sl.more (Nat.zero_le _) (Nat.le_refl _))
  have U1 := Lib.hid (hSc.trans (b1.mono hSc.size))
  refine ⟨fun W => Below x1.heap.size x1 W, fun W hW => U1.out.trans (hW.mono U1.out.size), Below.refl _ _, ?_⟩
  obtain ⟨A1x, d1x, rfl, -⟩ := o1.sl
  clear o1 b1
  have hSc := Below.refl x1.heap.size x1
  try simp only [Act.put, List.setIfInBounds_toArray, List.set_cons_zero, List.set_cons_succ]
  refine held_take 31 ?_ rfl (by kernel_rfl) (by kernel_rfl) (by kernel_rfl) (fun _ _ _ h => h) (by rfl) ?_ hSc ?_
  rotate_left
  · (intro W hSW; have s1 := str8 (Q1.out.below hSW); go_simp; try rfl)
  try simp only [Act.put, List.setIfInBounds_toArray, List.set_cons_zero, List.set_cons_succ]
  refine held_next 33 rfl (by kernel_rfl) (by rfl) ?_
  go_simp
  refine (CB2.out _ U1.out).mono ?_
  rintro e x2 ⟨v2, rfl, o2, b2⟩
  have Q2 := Lib.hid (o2.sl.more (Nat.zero_le _) (Nat.le_refl _))
  have b2h := Lib.hid b2
  have U2 := Lib.hid (U1.out.trans (b2.mono U1.out.size))
  refine ⟨fun W => Below x2.heap.size x2 W, fun W hW => b2h.out.trans (hW.mono b2h.out.size), Below.refl _ _, ?_⟩
  obtain ⟨A2x, d2x, rfl, -⟩ := o2.sl
  clear o2 b2
  have hSc := Below.refl x2.heap.size x2
  try simp only [Act.put, List.setIfInBounds_toArray, List.set_cons_zero, List.set_cons_succ]
  refine held_take 34 ?_ rfl (by kernel_rfl) (by kernel_rfl) (by kernel_rfl) (fun _ _ _ h => h) (by rfl) ?_ hSc ?_
  rotate_left
  · (intro W hSW; have s1 := str8 (Q2.out.below hSW); go_simp; try rfl)
  try simp only [Act.put, List.setIfInBounds_toArray, List.set_cons_zero, List.set_cons_succ]
  refine held_next 35 rfl (by kernel_rfl) (by rfl) ?_
  go_simp
  refine ⟨fun W => Below x2.heap.size x2 W, fun W hW => hW, hSc, ?_⟩
  try simp only [Act.put, List.setIfInBounds_toArray, List.set_cons_zero, List.set_cons_succ]
  refine held_next 36 rfl (by kernel_rfl) (by rfl) ?_
  go_simp
  refine ⟨fun W => Below x2.heap.size x2 W, fun W hW => hW, hSc, ?_⟩
  refine wpAnyH_done (by kernel_rfl) ?_ _

  clear HLen HLE HGE HSA CB1 CB2 Q1 Q2
  clear hSc U1 b2h
  go_wp2
  go_loopw [15] (fun i wr => ∃ j : Int, -1 ≤ j ∧ j ≤ n + 1 ∧ i = .int .i64 j ∧ Below W2.heap.size W2 wr) (fun i _ => ((n : Int) + 1 - intOf i).toNat)
  case atStart => exact ⟨-1, by omega, by omega, rfl, U2.out⟩
  case round =>
    obtain ⟨j, hj1, hj2, rfl, bk⟩ := hrel
    have BK := Lib.hid bk
    clear bk
    have hnb := HL.out
    by_cases hlt : j ≤ n
    · have d1 : decide (j ≤ (n : Int)) = true := decide_eq_true hlt
      by_cases h0 : j < 0
      · have d2 : decide (0 ≤ j) = false := decide_eq_false (by omega)
        go_wp2_with (go_at_call 14; refine (get_out g A c zs j _ (M2.out.step BK.out) (by rw [HN.out]; omega)).mono ?_; rintro e w5 ⟨rfl, b5⟩; have B5 := Lib.hid (BK.out.trans (b5.mono BK.out.size)); clear b5)
        go_roundw
        case rel => exact ⟨j + 1, by omega, by omega, by go_num, B5.out⟩
        case measure => simp [intOf]; omega
      · obtain ⟨k, rfl⟩ : ∃ k : Nat, j = (k : Int) := ⟨j.toNat, by omega⟩
        have d1n : decide (k ≤ n) = true := decide_eq_true (by omega)
        by_cases h9 : k < n
        · have d3 : decide ((k : Int) < (n : Int)) = true := decide_eq_true (by omega)
          have d3n : decide (k < n) = true := decide_eq_true h9
          obtain ⟨y, hy⟩ : ∃ y, zs[k]? = some y := ⟨_, List.getElem?_eq_getElem (by rw [HN.out]; omega)⟩
          have HY := Lib.hid hy
          clear hy
          go_wp2_with (go_at_call 14; refine (get_in g A c zs k y _ (M2.out.step BK.out) HY.out).mono ?_; rintro e w5 ⟨rfl, b5⟩; have B5 := Lib.hid (BK.out.trans (b5.mono BK.out.size)); clear b5; obtain ⟨b6, o6, c6, e6, -, -, -, -, hc6⟩ := (G2.out.step B5.out).form (fun e => by have h := congrArg List.length e; have := HN.out; simp only [List.length_nil] at h; omega); injection e6 with e4 e5 e6; subst e4; have q0 := hc6 k y HY.out; simp only [eL] at q0; clear hc6 e5 e6)
          go_roundw
          case rel => exact ⟨(k : Int) + 1, by omega, by omega, by go_num, B5.out⟩
          case measure => simp [intOf]; omega
        · have d3 : decide ((k : Int) < (n : Int)) = false := decide_eq_false (by omega)
          have d3n : decide (k < n) = false := decide_eq_false (by omega)
          go_wp2_with (go_at_call 14; refine (get_out g A c zs k _ (M2.out.step BK.out) (by rw [HN.out]; omega)).mono ?_; rintro e w5 ⟨rfl, b5⟩; have B5 := Lib.hid (BK.out.trans (b5.mono BK.out.size)); clear b5)
          go_roundw
          case rel => exact ⟨(k : Int) + 1, by omega, by omega, by go_num, B5.out⟩
          case measure => simp [intOf]; omega
    · have d1 : decide (j ≤ (n : Int)) = false := decide_eq_false hlt
      have BK9 := Lib.hid BK.out
      have R9 := Lib.hid (O2.out.below BK.out (Nat.le_refl _))
      clear hj1 hj2 hlt M2 G2
      go_wp2
      go_loopw [133] (fun i wq => ∃ k : Nat, k ≤ m ∧ i = .int .i64 k ∧ (∃ l, l.length = m ∧ Gw eL wq w.heap.size (.slice A7 m d7) l) ∧ wr.grownBy wq (Value.slice A7 m d7).ownBlock) (fun i _ => m - (intOf i).toNat)
      case atStart => exact ⟨0, Nat.zero_le _, rfl, ⟨pt, HM.out, R9.out⟩, World.grownBy.refl _ _⟩
      case round =>
        obtain ⟨k, hk, rfl, ⟨l, hl, ho⟩, hgr⟩ := hrel
        have hmb := HMB.out
        by_cases hlt : k < m
        · obtain ⟨b', c', e', -, -, hge, hltb, hcl, hfr⟩ := ho.form (by rintro rfl; simp at hl; omega)
          injection e' with e1 e2 e3
          have hfz := hfr k
          obtain ⟨y, hy⟩ : ∃ y, l[k]? = some y := ⟨_, List.getElem?_eq_getElem (by omega)⟩
          have hck := hcl k y hy
          simp only [eL] at hck
          have HGR := Lib.hid hgr
          subst e1 e3
          have hst := ho.stored k (wrap64 (y + 1))
          have HST := Lib.hid hst
          have HLL := Lib.hid hl
          clear hcl hfr e2 hy hst ho hgr hl
          go_wp2
          go_roundw
          case rel => exact ⟨k + 1, by omega, by go_num, ⟨l.set k (wrap64 (y + 1)), by rw [List.length_set]; exact HLL.out, HST.out⟩, HGR.out.trans (grown_set _ b' k _)⟩
          case measure => simp [intOf]; omega
        · obtain rfl : k = m := by omega
          have hlo : ∀ j, (Value.slice A7 k d7).ownBlock = some j → w.heap.size ≤ j := fun j e => (O2.out.lt j e).1
          have C8 := Lib.hid (B2.out.trans (BK9.out.mono B2.out.size))
          have C9 := Lib.hid (C8.out.grown hgr C8.out.size hlo)
          clear hgr ho hl hlo
          go_wp2
          go_ret
          exact ⟨rfl, C9.out⟩
set_option maxHeartbeats 8000000 in
set_option maxRecDepth 100000 in
theorem told_bad1 (g : Nat) (A : Option Addr) (c : Nat) (A2 : Option Addr) (d2 : Nat) (zs : List Int) (i k : Int) (w : World) (hm : CxM w g A c zs) (hG : Gs eL w 0 w.heap.size (.slice A2 zs.length d2) zs) (hc1 : i < 0) :
    Calls Try.prog 11 #[.pointer (some ⟨g, 0, none⟩), .slice A2 zs.length d2, .int .i64 i, .int .i64 k] w fun e w' => e = .returned (.bool true) ∧ Below w.heap.size w w' := by
  have HE0 := refEnds_any A2 d2 zs w _ hG hm.small
  have hle0 := fun W (h : CxM W g A c zs) => least_any _ _ A _ c _ _ W h.at_
  have hge0 := fun W (h : CxM W g A c zs) => greatest_any _ _ A _ c _ _ W h.at_
  have hln0 := fun W (h : CxM W g A c zs) => len_any _ _ A _ c _ _ W h.at_
  have hb1 := fun W (h : CxM W g A c zs) => bytes_c g A c zs W h
  have hb2 := fun W (h : Gs eL W 0 W.heap.size (.slice A2 zs.length d2) zs) => refBytes_c A2 d2 zs W h hm.small
  generalize loI zs = a at HE0 hle0
  generalize hiI zs = z at HE0 hge0
  generalize cB zs = bs at hb1 hb2
  have HE := Lib.hid HE0
  have L1 := Lib.hid hle0
  have L2 := Lib.hid hge0
  have L4 := Lib.hid hb1
  have L5 := Lib.hid hb2
  have hnb := hm.small
  have M0 := Lib.hid hm
  have G0 := Lib.hid hG
  have d1 : decide (0 ≤ i) = false := decide_eq_false (by omega)
  have hso := fun W (h : CxM W g A c zs) => some_bad g A c zs i k W h (by omega)
  have HSO := Lib.hid hso
  clear hso
  clear hc1
  obtain ⟨A7, hA7⟩ : ∃ A7 : Option Addr, A7 = none := ⟨_, rfl⟩
  obtain ⟨m, hm0⟩ : ∃ m : Nat, m = 0 := ⟨_, rfl⟩
  obtain ⟨d7, hd7⟩ : ∃ d7 : Nat, d7 = 0 := ⟨_, rfl⟩
  obtain ⟨pt, hpt⟩ : ∃ pt : List Int, pt = [] := ⟨_, rfl⟩
  have HM := Lib.hid (show pt.length = m by rw [hpt, hm0]; rfl)
  have HMB := Lib.hid (show m ≤ 100000 by omega)
  have HSL := Lib.hid (show Value.slice none 0 0 = .slice A7 m d7 by rw [hA7, hm0, hd7])
  have HO2 := Lib.hid (fun W => show Gw eL W w.heap.size (.slice A7 m d7) pt by rw [hpt, hA7, hm0, hd7]; exact Gw.nil_ _ _)
  have HWN := Lib.hid (fun W => show Gs eL W 0 0 (.slice none 0 0) pt by rw [hpt]; exact Gs.nil_ _ _ _)
  clear hA7 hm0 hd7 hpt
  clear HE0 hle0 hge0 hb1 hb2 hm hG
  obtain ⟨n, hn⟩ : ∃ n, zs.length = n := ⟨_, rfl⟩
  have HN := Lib.hid hn
  rw [hn] at HE hln0 hnb G0 L5 ⊢
  have L3 := Lib.hid hln0
  have HL := Lib.hid hnb
  clear hn hln0
  go_enter Try.func11, Try.ntmps11
  go_wp2_with (go_at_call 22; refine HE.out.mono ?_; rintro e w0 ⟨rfl, hz⟩; have hz := hz.symm; subst hz; go_wp2_with (go_at_call 15; refine (HSO.out _ M0.out).mono ?_; rintro e W2 ⟨rfl, b2⟩; have B2 := Lib.hid b2; rw [HSL.out]; have O2 := Lib.hid (HO2.out W2); have WN := Lib.hid ((HWN.out W2).more (Nat.le_refl _) (Nat.zero_le W2.heap.size)); clear b2))
  have M2 := Lib.hid (M0.out.step B2.out)
  have G2 := Lib.hid (G0.out.step B2.out)
  have HLen := Lib.hid (fun W (b : Below W2.heap.size W2 W) => L3.out W (M2.out.step b))
  have HLE := Lib.hid (fun W (b : Below W2.heap.size W2 W) => L1.out W (M2.out.step b))
  have HGE := Lib.hid (fun W (b : Below W2.heap.size W2 W) => L2.out W (M2.out.step b))
  have HSA := Lib.hid (fun W (b : Below W2.heap.size W2 W) => sameL_yes _ _ pt _ _ _ _ W (O2.out.sl.below b) (WN.out.below b))
  have CB1 := Lib.hid (fun W (b : Below W2.heap.size W2 W) => L4.out W (M2.out.step b))
  have CB2 := Lib.hid (fun W (b : Below W2.heap.size W2 W) => L5.out W (G2.out.step b))
  clear L1 L2 L3 L4 L5 M0 G0 HE
  have hSc := (Below.refl W2.heap.size W2).drew
  refine wp_region_all (S := fun W => Below W2.heap.size W2 W) (by kernel_rfl) hSc (fun W0 hSc => ?_)
  refine held_take 0 ?_ rfl (by kernel_rfl) (by kernel_rfl) (by kernel_rfl) (fun _ _ _ h => h) (by rfl) ?_ hSc ?_
  rotate_left
  · (intro W hSW; go_simp; try rfl)
  try simp only [Act.put, List.setIfInBounds_toArray, List.set_cons_zero, List.set_cons_succ]
  refine held_take 2 ?_ rfl (by kernel_rfl) (by kernel_rfl) (by kernel_rfl) (fun _ _ _ h => h) (by rfl) ?_ hSc ?_
  rotate_left
  · (intro W hSW; go_simp; try rfl)
  try simp only [Act.put, List.setIfInBounds_toArray, List.set_cons_zero, List.set_cons_succ]
  refine held_take 3 ?_ rfl (by kernel_rfl) (by kernel_rfl) (by kernel_rfl) (fun _ _ _ h => h) (by rfl) ?_ hSc ?_
  rotate_left
  · (intro W hSW; go_simp; try rfl)
  try simp only [Act.put, List.setIfInBounds_toArray, List.set_cons_zero, List.set_cons_succ]
  refine held_next 1 rfl (by kernel_rfl) (by rfl) ?_
  go_simp
  refine (HLen.out _ hSc).mono ?_
  rintro e wq1 ⟨rfl, b1⟩
  have hSd : (fun W => Below W2.heap.size W2 W) wq1 := hSc.trans (b1.mono hSc.size)
  refine ⟨fun W => Below W2.heap.size W2 W, fun W hW => hW, hSd, ?_⟩
  clear hSc b1
  have hSc := hSd
  clear hSd
  try simp only [Act.put, List.setIfInBounds_toArray, List.set_cons_zero, List.set_cons_succ]
  refine held_take 4 ?_ rfl (by kernel_rfl) (by kernel_rfl) (by kernel_rfl) (fun _ _ _ h => h) (by rfl) ?_ hSc ?_
  rotate_left
  · (intro W hSW; go_simp; try rfl)
  try simp only [Act.put, List.setIfInBounds_toArray, List.set_cons_zero, List.set_cons_succ]
  refine held_take 5 ?_ rfl (by kernel_rfl) (by kernel_rfl) (by kernel_rfl) (fun _ _ _ h => h) (by rfl) ?_ hSc ?_
  rotate_left
  · (intro W hSW; go_simp; try rfl)
  try simp only [Act.put, List.setIfInBounds_toArray, List.set_cons_zero, List.set_cons_succ]
  refine held_take 6 ?_ rfl (by kernel_rfl) (by kernel_rfl) (by kernel_rfl) (fun _ _ _ h => h) (by rfl) ?_ hSc ?_
  rotate_left
  · (intro W hSW; go_simp; try rfl)
  try simp only [Act.put, List.setIfInBounds_toArray, List.set_cons_zero, List.set_cons_succ]
  refine held_take 8 ?_ rfl (by kernel_rfl) (by kernel_rfl) (by kernel_rfl) (fun _ _ _ h => h) (by rfl) ?_ hSc ?_
  rotate_left
  · (intro W hSW; go_simp; try rfl)
  try simp only [Act.put, List.setIfInBounds_toArray, List.set_cons_zero, List.set_cons_succ]
  refine held_next 7 rfl (by kernel_rfl) (by rfl) ?_
  go_simp
  refine (HLE.out _ hSc).mono ?_
  rintro e wq2 ⟨rfl, b2⟩
  have hSd : (fun W => Below W2.heap.size W2 W) wq2 := hSc.trans (b2.mono hSc.size)
  refine ⟨fun W => Below W2.heap.size W2 W, fun W hW => hW, hSd, ?_⟩
  clear hSc b2
  have hSc := hSd
  clear hSd
  try simp only [Act.put, List.setIfInBounds_toArray, List.set_cons_zero, List.set_cons_succ]
  refine held_take 9 ?_ rfl (by kernel_rfl) (by kernel_rfl) (by kernel_rfl) (fun _ _ _ h => h) (by rfl) ?_ hSc ?_
  rotate_left
  · (intro W hSW; go_simp; try rfl)
  try simp only [Act.put, List.setIfInBounds_toArray, List.set_cons_zero, List.set_cons_succ]
  refine held_take 10 ?_ rfl (by kernel_rfl) (by kernel_rfl) (by kernel_rfl) (fun _ _ _ h => h) (by rfl) ?_ hSc ?_
  rotate_left
  · (intro W hSW; go_simp; try rfl)
  try simp only [Act.put, List.setIfInBounds_toArray, List.set_cons_zero, List.set_cons_succ]
  refine held_take 11 ?_ rfl (by kernel_rfl) (by kernel_rfl) (by kernel_rfl) (fun _ _ _ h => h) (by rfl) ?_ hSc ?_
  rotate_left
  · (intro W hSW; go_simp; try rfl)
  try simp only [Act.put, List.setIfInBounds_toArray, List.set_cons_zero, List.set_cons_succ]
  refine held_take 12 ?_ rfl (by kernel_rfl) (by kernel_rfl) (by kernel_rfl) (fun _ _ _ h => h) (by rfl) ?_ hSc ?_
  rotate_left
  · (intro W hSW; go_simp; try rfl)
  try simp only [Act.put, List.setIfInBounds_toArray, List.set_cons_zero, List.set_cons_succ]
  refine held_take 14 ?_ rfl (by kernel_rfl) (by kernel_rfl) (by kernel_rfl) (fun _ _ _ h => h) (by rfl) ?_ hSc ?_
  rotate_left
  · (intro W hSW; go_simp; try rfl)
  try simp only [Act.put, List.setIfInBounds_toArray, List.set_cons_zero, List.set_cons_succ]
  refine held_next 13 rfl (by kernel_rfl) (by rfl) ?_
  go_simp
  refine (HGE.out _ hSc).mono ?_
  rintro e wq3 ⟨rfl, b3⟩
  have hSd : (fun W => Below W2.heap.size W2 W) wq3 := hSc.trans (b3.mono hSc.size)
  refine ⟨fun W => Below W2.heap.size W2 W, fun W hW => hW, hSd, ?_⟩
  clear hSc b3
  have hSc := hSd
  clear hSd
  try simp only [Act.put, List.setIfInBounds_toArray, List.set_cons_zero, List.set_cons_succ]
  refine held_take 15 ?_ rfl (by kernel_rfl) (by kernel_rfl) (by kernel_rfl) (fun _ _ _ h => h) (by rfl) ?_ hSc ?_
  rotate_left
  · (intro W hSW; go_simp; try rfl)
  try simp only [Act.put, List.setIfInBounds_toArray, List.set_cons_zero, List.set_cons_succ]
  refine held_take 16 ?_ rfl (by kernel_rfl) (by kernel_rfl) (by kernel_rfl) (fun _ _ _ h => h) (by rfl) ?_ hSc ?_
  rotate_left
  · (intro W hSW; go_simp; try rfl)
  try simp only [Act.put, List.setIfInBounds_toArray, List.set_cons_zero, List.set_cons_succ]
  refine held_take 17 ?_ rfl (by kernel_rfl) (by kernel_rfl) (by kernel_rfl) (fun _ _ _ h => h) (by rfl) ?_ hSc ?_
  rotate_left
  · (intro W hSW; go_simp; try rfl)
  try simp only [Act.put, List.setIfInBounds_toArray, List.set_cons_zero, List.set_cons_succ]
  refine held_take 18 ?_ rfl (by kernel_rfl) (by kernel_rfl) (by kernel_rfl) (fun _ _ _ h => h) (by rfl) ?_ hSc ?_
  rotate_left
  · (intro W hSW; go_simp; try rfl)
  try simp only [Act.put, List.setIfInBounds_toArray, List.set_cons_zero, List.set_cons_succ]
  refine held_take 19 ?_ rfl (by kernel_rfl) (by kernel_rfl) (by kernel_rfl) (fun _ _ _ h => h) (by rfl) ?_ hSc ?_
  rotate_left
  · (intro W hSW; go_simp; try rfl)
  try simp only [Act.put, List.setIfInBounds_toArray, List.set_cons_zero, List.set_cons_succ]
  refine held_next 20 rfl (by kernel_rfl) (by rfl) ?_
  go_simp
  refine (HSA.out _ hSc).mono ?_
  rintro e wq4 ⟨rfl, nz4, hz4⟩
  have hSd : (fun W => Below W2.heap.size W2 W) wq4 := (by rw [hz4]; exact below_drewN hSc nz4)
  refine ⟨fun W => Below W2.heap.size W2 W, fun W hW => hW, hSd, ?_⟩
  clear hSc hz4
  have hSc := hSd
  clear hSd
  try simp only [Act.put, List.setIfInBounds_toArray, List.set_cons_zero, List.set_cons_succ]
  refine held_take 21 ?_ rfl (by kernel_rfl) (by kernel_rfl) (by kernel_rfl) (fun _ _ _ h => h) (by rfl) ?_ hSc ?_
  rotate_left
  · (intro W hSW; go_simp; try rfl)
  try simp only [Act.put, List.setIfInBounds_toArray, List.set_cons_zero, List.set_cons_succ]
  refine held_take 22 ?_ rfl (by kernel_rfl) (by kernel_rfl) (by kernel_rfl) (fun _ _ _ h => h) (by rfl) ?_ hSc ?_
  rotate_left
  · (intro W hSW; go_simp; try rfl)
  try simp only [Act.put, List.setIfInBounds_toArray, List.set_cons_zero, List.set_cons_succ]
  refine held_take 23 ?_ rfl (by kernel_rfl) (by kernel_rfl) (by kernel_rfl) (fun _ _ _ h => h) (by rfl) ?_ hSc ?_
  rotate_left
  · (intro W hSW; go_simp; try rfl)
  try simp only [Act.put, List.setIfInBounds_toArray, List.set_cons_zero, List.set_cons_succ]
  refine held_take 24 ?_ rfl (by kernel_rfl) (by kernel_rfl) (by kernel_rfl) (fun _ _ _ h => h) (by rfl) ?_ hSc ?_
  rotate_left
  · (intro W hSW; go_simp; try rfl)
  try simp only [Act.put, List.setIfInBounds_toArray, List.set_cons_zero, List.set_cons_succ]
  refine held_take 25 ?_ rfl (by kernel_rfl) (by kernel_rfl) (by kernel_rfl) (fun _ _ _ h => h) (by rfl) ?_ hSc ?_
  rotate_left
  · (intro W hSW; go_simp; try rfl)
  try simp only [Act.put, List.setIfInBounds_toArray, List.set_cons_zero, List.set_cons_succ]
  refine held_take 26 ?_ rfl (by kernel_rfl) (by kernel_rfl) (by kernel_rfl) (fun _ _ _ h => h) (by rfl) ?_ hSc ?_
  rotate_left
  · (intro W hSW; go_simp; try rfl)
  try simp only [Act.put, List.setIfInBounds_toArray, List.set_cons_zero, List.set_cons_succ]
  refine held_take 27 ?_ rfl (by kernel_rfl) (by kernel_rfl) (by kernel_rfl) (fun _ _ _ h => h) (by rfl) ?_ hSc ?_
  rotate_left
  · (intro W hSW; go_simp; try rfl)
  try simp only [Act.put, List.setIfInBounds_toArray, List.set_cons_zero, List.set_cons_succ]
  refine held_take 28 ?_ rfl (by kernel_rfl) (by kernel_rfl) (by kernel_rfl) (fun _ _ _ h => h) (by rfl) ?_ hSc ?_
  rotate_left
  · (intro W hSW; go_simp; try rfl)
  try simp only [Act.put, List.setIfInBounds_toArray, List.set_cons_zero, List.set_cons_succ]
  refine held_take 29 ?_ rfl (by kernel_rfl) (by kernel_rfl) (by kernel_rfl) (fun _ _ _ h => h) (by rfl) ?_ hSc ?_
  rotate_left
  · (intro W hSW; go_simp; try rfl)
  try simp only [Act.put, List.setIfInBounds_toArray, List.set_cons_zero, List.set_cons_succ]
  refine held_take 32 ?_ rfl (by kernel_rfl) (by kernel_rfl) (by kernel_rfl) (fun _ _ _ h => h) (by rfl) ?_ hSc ?_
  rotate_left
  · (intro W hSW; go_simp; try rfl)
  try simp only [Act.put, List.setIfInBounds_toArray, List.set_cons_zero, List.set_cons_succ]
  refine held_next 30 rfl (by kernel_rfl) (by rfl) ?_
  go_simp
  refine (CB1.out _ hSc).mono ?_
  rintro e x1 ⟨v1, rfl, o1, b1⟩
  have Q1 := Lib.hid (o1.sl.more (Nat.zero_le _) (Nat.le_refl _))
  have U1 := Lib.hid (hSc.trans (b1.mono hSc.size))
  refine ⟨fun W => Below x1.heap.size x1 W, fun W hW => U1.out.trans (hW.mono U1.out.size), Below.refl _ _, ?_⟩
  obtain ⟨A1x, d1x, rfl, -⟩ := o1.sl
  clear o1 b1
  have hSc := Below.refl x1.heap.size x1
  try simp only [Act.put, List.setIfInBounds_toArray, List.set_cons_zero, List.set_cons_succ]
  refine held_take 31 ?_ rfl (by kernel_rfl) (by kernel_rfl) (by kernel_rfl) (fun _ _ _ h => h) (by rfl) ?_ hSc ?_
  rotate_left
  · (intro W hSW; have s1 := str8 (Q1.out.below hSW); go_simp; try rfl)
  try simp only [Act.put, List.setIfInBounds_toArray, List.set_cons_zero, List.set_cons_succ]
  refine held_next 33 rfl (by kernel_rfl) (by rfl) ?_
  go_simp
  refine (CB2.out _ U1.out).mono ?_
  rintro e x2 ⟨v2, rfl, o2, b2⟩
  have Q2 := Lib.hid (o2.sl.more (Nat.zero_le _) (Nat.le_refl _))
  have b2h := Lib.hid b2
  have U2 := Lib.hid (U1.out.trans (b2.mono U1.out.size))
  refine ⟨fun W => Below x2.heap.size x2 W, fun W hW => b2h.out.trans (hW.mono b2h.out.size), Below.refl _ _, ?_⟩
  obtain ⟨A2x, d2x, rfl, -⟩ := o2.sl
  clear o2 b2
  have hSc := Below.refl x2.heap.size x2
  try simp only [Act.put, List.setIfInBounds_toArray, List.set_cons_zero, List.set_cons_succ]
  refine held_take 34 ?_ rfl (by kernel_rfl) (by kernel_rfl) (by kernel_rfl) (fun _ _ _ h => h) (by rfl) ?_ hSc ?_
  rotate_left
  · (intro W hSW; have s1 := str8 (Q2.out.below hSW); go_simp; try rfl)
  try simp only [Act.put, List.setIfInBounds_toArray, List.set_cons_zero, List.set_cons_succ]
  refine held_next 35 rfl (by kernel_rfl) (by rfl) ?_
  go_simp
  refine ⟨fun W => Below x2.heap.size x2 W, fun W hW => hW, hSc, ?_⟩
  try simp only [Act.put, List.setIfInBounds_toArray, List.set_cons_zero, List.set_cons_succ]
  refine held_next 36 rfl (by kernel_rfl) (by rfl) ?_
  go_simp
  refine ⟨fun W => Below x2.heap.size x2 W, fun W hW => hW, hSc, ?_⟩
  refine wpAnyH_done (by kernel_rfl) ?_ _

  clear HLen HLE HGE HSA CB1 CB2 Q1 Q2
  clear hSc U1 b2h
  go_wp2
  go_loopw [15] (fun i wr => ∃ j : Int, -1 ≤ j ∧ j ≤ n + 1 ∧ i = .int .i64 j ∧ Below W2.heap.size W2 wr) (fun i _ => ((n : Int) + 1 - intOf i).toNat)
  case atStart => exact ⟨-1, by omega, by omega, rfl, U2.out⟩
  case round =>
    obtain ⟨j, hj1, hj2, rfl, bk⟩ := hrel
    have BK := Lib.hid bk
    clear bk
    have hnb := HL.out
    by_cases hlt : j ≤ n
    · have d1 : decide (j ≤ (n : Int)) = true := decide_eq_true hlt
      by_cases h0 : j < 0
      · have d2 : decide (0 ≤ j) = false := decide_eq_false (by omega)
        go_wp2_with (go_at_call 14; refine (get_out g A c zs j _ (M2.out.step BK.out) (by rw [HN.out]; omega)).mono ?_; rintro e w5 ⟨rfl, b5⟩; have B5 := Lib.hid (BK.out.trans (b5.mono BK.out.size)); clear b5)
        go_roundw
        case rel => exact ⟨j + 1, by omega, by omega, by go_num, B5.out⟩
        case measure => simp [intOf]; omega
      · obtain ⟨k, rfl⟩ : ∃ k : Nat, j = (k : Int) := ⟨j.toNat, by omega⟩
        have d1n : decide (k ≤ n) = true := decide_eq_true (by omega)
        by_cases h9 : k < n
        · have d3 : decide ((k : Int) < (n : Int)) = true := decide_eq_true (by omega)
          have d3n : decide (k < n) = true := decide_eq_true h9
          obtain ⟨y, hy⟩ : ∃ y, zs[k]? = some y := ⟨_, List.getElem?_eq_getElem (by rw [HN.out]; omega)⟩
          have HY := Lib.hid hy
          clear hy
          go_wp2_with (go_at_call 14; refine (get_in g A c zs k y _ (M2.out.step BK.out) HY.out).mono ?_; rintro e w5 ⟨rfl, b5⟩; have B5 := Lib.hid (BK.out.trans (b5.mono BK.out.size)); clear b5; obtain ⟨b6, o6, c6, e6, -, -, -, -, hc6⟩ := (G2.out.step B5.out).form (fun e => by have h := congrArg List.length e; have := HN.out; simp only [List.length_nil] at h; omega); injection e6 with e4 e5 e6; subst e4; have q0 := hc6 k y HY.out; simp only [eL] at q0; clear hc6 e5 e6)
          go_roundw
          case rel => exact ⟨(k : Int) + 1, by omega, by omega, by go_num, B5.out⟩
          case measure => simp [intOf]; omega
        · have d3 : decide ((k : Int) < (n : Int)) = false := decide_eq_false (by omega)
          have d3n : decide (k < n) = false := decide_eq_false (by omega)
          go_wp2_with (go_at_call 14; refine (get_out g A c zs k _ (M2.out.step BK.out) (by rw [HN.out]; omega)).mono ?_; rintro e w5 ⟨rfl, b5⟩; have B5 := Lib.hid (BK.out.trans (b5.mono BK.out.size)); clear b5)
          go_roundw
          case rel => exact ⟨(k : Int) + 1, by omega, by omega, by go_num, B5.out⟩
          case measure => simp [intOf]; omega
    · have d1 : decide (j ≤ (n : Int)) = false := decide_eq_false hlt
      have BK9 := Lib.hid BK.out
      have R9 := Lib.hid (O2.out.below BK.out (Nat.le_refl _))
      clear hj1 hj2 hlt M2 G2
      go_wp2
      go_loopw [133] (fun i wq => ∃ k : Nat, k ≤ m ∧ i = .int .i64 k ∧ (∃ l, l.length = m ∧ Gw eL wq w.heap.size (.slice A7 m d7) l) ∧ wr.grownBy wq (Value.slice A7 m d7).ownBlock) (fun i _ => m - (intOf i).toNat)
      case atStart => exact ⟨0, Nat.zero_le _, rfl, ⟨pt, HM.out, R9.out⟩, World.grownBy.refl _ _⟩
      case round =>
        obtain ⟨k, hk, rfl, ⟨l, hl, ho⟩, hgr⟩ := hrel
        have hmb := HMB.out
        by_cases hlt : k < m
        · obtain ⟨b', c', e', -, -, hge, hltb, hcl, hfr⟩ := ho.form (by rintro rfl; simp at hl; omega)
          injection e' with e1 e2 e3
          have hfz := hfr k
          obtain ⟨y, hy⟩ : ∃ y, l[k]? = some y := ⟨_, List.getElem?_eq_getElem (by omega)⟩
          have hck := hcl k y hy
          simp only [eL] at hck
          have HGR := Lib.hid hgr
          subst e1 e3
          have hst := ho.stored k (wrap64 (y + 1))
          have HST := Lib.hid hst
          have HLL := Lib.hid hl
          clear hcl hfr e2 hy hst ho hgr hl
          go_wp2
          go_roundw
          case rel => exact ⟨k + 1, by omega, by go_num, ⟨l.set k (wrap64 (y + 1)), by rw [List.length_set]; exact HLL.out, HST.out⟩, HGR.out.trans (grown_set _ b' k _)⟩
          case measure => simp [intOf]; omega
        · obtain rfl : k = m := by omega
          have hlo : ∀ j, (Value.slice A7 k d7).ownBlock = some j → w.heap.size ≤ j := fun j e => (O2.out.lt j e).1
          have C8 := Lib.hid (B2.out.trans (BK9.out.mono B2.out.size))
          have C9 := Lib.hid (C8.out.grown hgr C8.out.size hlo)
          clear hgr ho hl hlo
          go_wp2
          go_ret
          exact ⟨rfl, C9.out⟩
set_option maxHeartbeats 8000000 in
set_option maxRecDepth 100000 in
theorem told_bad2 (g : Nat) (A : Option Addr) (c : Nat) (A2 : Option Addr) (d2 : Nat) (zs : List Int) (i k : Int) (w : World) (hm : CxM w g A c zs) (hG : Gs eL w 0 w.heap.size (.slice A2 zs.length d2) zs) (hc1 : 0 ≤ i) (hc2 : k < i) :
    Calls Try.prog 11 #[.pointer (some ⟨g, 0, none⟩), .slice A2 zs.length d2, .int .i64 i, .int .i64 k] w fun e w' => e = .returned (.bool true) ∧ Below w.heap.size w w' := by
  have HE0 := refEnds_any A2 d2 zs w _ hG hm.small
  have hle0 := fun W (h : CxM W g A c zs) => least_any _ _ A _ c _ _ W h.at_
  have hge0 := fun W (h : CxM W g A c zs) => greatest_any _ _ A _ c _ _ W h.at_
  have hln0 := fun W (h : CxM W g A c zs) => len_any _ _ A _ c _ _ W h.at_
  have hb1 := fun W (h : CxM W g A c zs) => bytes_c g A c zs W h
  have hb2 := fun W (h : Gs eL W 0 W.heap.size (.slice A2 zs.length d2) zs) => refBytes_c A2 d2 zs W h hm.small
  generalize loI zs = a at HE0 hle0
  generalize hiI zs = z at HE0 hge0
  generalize cB zs = bs at hb1 hb2
  have HE := Lib.hid HE0
  have L1 := Lib.hid hle0
  have L2 := Lib.hid hge0
  have L4 := Lib.hid hb1
  have L5 := Lib.hid hb2
  have hnb := hm.small
  have M0 := Lib.hid hm
  have G0 := Lib.hid hG
  have d1 : decide (0 ≤ i) = true := decide_eq_true hc1
  have d2 : decide (i ≤ k) = false := decide_eq_false (by omega)
  have hso := fun W (h : CxM W g A c zs) => some_bad g A c zs i k W h (by omega)
  have HSO := Lib.hid hso
  clear hso
  clear hc1 hc2
  obtain ⟨A7, hA7⟩ : ∃ A7 : Option Addr, A7 = none := ⟨_, rfl⟩
  obtain ⟨m, hm0⟩ : ∃ m : Nat, m = 0 := ⟨_, rfl⟩
  obtain ⟨d7, hd7⟩ : ∃ d7 : Nat, d7 = 0 := ⟨_, rfl⟩
  obtain ⟨pt, hpt⟩ : ∃ pt : List Int, pt = [] := ⟨_, rfl⟩
  have HM := Lib.hid (show pt.length = m by rw [hpt, hm0]; rfl)
  have HMB := Lib.hid (show m ≤ 100000 by omega)
  have HSL := Lib.hid (show Value.slice none 0 0 = .slice A7 m d7 by rw [hA7, hm0, hd7])
  have HO2 := Lib.hid (fun W => show Gw eL W w.heap.size (.slice A7 m d7) pt by rw [hpt, hA7, hm0, hd7]; exact Gw.nil_ _ _)
  have HWN := Lib.hid (fun W => show Gs eL W 0 0 (.slice none 0 0) pt by rw [hpt]; exact Gs.nil_ _ _ _)
  clear hA7 hm0 hd7 hpt
  clear HE0 hle0 hge0 hb1 hb2 hm hG
  obtain ⟨n, hn⟩ : ∃ n, zs.length = n := ⟨_, rfl⟩
  have HN := Lib.hid hn
  rw [hn] at HE hln0 hnb G0 L5 ⊢
  have L3 := Lib.hid hln0
  have HL := Lib.hid hnb
  clear hn hln0
  go_enter Try.func11, Try.ntmps11
  go_wp2_with (go_at_call 22; refine HE.out.mono ?_; rintro e w0 ⟨rfl, hz⟩; have hz := hz.symm; subst hz; go_wp2_with (go_at_call 15; refine (HSO.out _ M0.out).mono ?_; rintro e W2 ⟨rfl, b2⟩; have B2 := Lib.hid b2; rw [HSL.out]; have O2 := Lib.hid (HO2.out W2); have WN := Lib.hid ((HWN.out W2).more (Nat.le_refl _) (Nat.zero_le W2.heap.size)); clear b2))
  have M2 := Lib.hid (M0.out.step B2.out)
  have G2 := Lib.hid (G0.out.step B2.out)
  have HLen := Lib.hid (fun W (b : Below W2.heap.size W2 W) => L3.out W (M2.out.step b))
  have HLE := Lib.hid (fun W (b : Below W2.heap.size W2 W) => L1.out W (M2.out.step b))
  have HGE := Lib.hid (fun W (b : Below W2.heap.size W2 W) => L2.out W (M2.out.step b))
  have HSA := Lib.hid (fun W (b : Below W2.heap.size W2 W) => sameL_yes _ _ pt _ _ _ _ W (O2.out.sl.below b) (WN.out.below b))
  have CB1 := Lib.hid (fun W (b : Below W2.heap.size W2 W) => L4.out W (M2.out.step b))
  have CB2 := Lib.hid (fun W (b : Below W2.heap.size W2 W) => L5.out W (G2.out.step b))
  clear L1 L2 L3 L4 L5 M0 G0 HE
  have hSc := (Below.refl W2.heap.size W2).drew
  refine wp_region_all (S := fun W => Below W2.heap.size W2 W) (by kernel_rfl) hSc (fun W0 hSc => ?_)
  refine held_take 0 ?_ rfl (by kernel_rfl) (by kernel_rfl) (by kernel_rfl) (fun _ _ _ h => h) (by rfl) ?_ hSc ?_
  rotate_left
  · (intro W hSW; go_simp; try rfl)
  try simp only [Act.put, List.setIfInBounds_toArray, List.set_cons_zero, List.set_cons_succ]
  refine held_take 2 ?_ rfl (by kernel_rfl) (by kernel_rfl) (by kernel_rfl) (fun _ _ _ h => h) (by rfl) ?_ hSc ?_
  rotate_left
  · (intro W hSW; go_simp; try rfl)
  try simp only [Act.put, List.setIfInBounds_toArray, List.set_cons_zero, List.set_cons_succ]
  refine held_take 3 ?_ rfl (by kernel_rfl) (by kernel_rfl) (by kernel_rfl) (fun _ _ _ h => h) (by rfl) ?_ hSc ?_
  rotate_left
  · (intro W hSW; go_simp; try rfl)
  try simp only [Act.put, List.setIfInBounds_toArray, List.set_cons_zero, List.set_cons_succ]
  refine held_next 1 rfl (by kernel_rfl) (by rfl) ?_
  go_simp
  refine (HLen.out _ hSc).mono ?_
  rintro e wq1 ⟨rfl, b1⟩
  have hSd : (fun W => Below W2.heap.size W2 W) wq1 := hSc.trans (b1.mono hSc.size)
  refine ⟨fun W => Below W2.heap.size W2 W, fun W hW => hW, hSd, ?_⟩
  clear hSc b1
  have hSc := hSd
  clear hSd
  try simp only [Act.put, List.setIfInBounds_toArray, List.set_cons_zero, List.set_cons_succ]
  refine held_take 4 ?_ rfl (by kernel_rfl) (by kernel_rfl) (by kernel_rfl) (fun _ _ _ h => h) (by rfl) ?_ hSc ?_
  rotate_left
  · (intro W hSW; go_simp; try rfl)
  try simp only [Act.put, List.setIfInBounds_toArray, List.set_cons_zero, List.set_cons_succ]
  refine held_take 5 ?_ rfl (by kernel_rfl) (by kernel_rfl) (by kernel_rfl) (fun _ _ _ h => h) (by rfl) ?_ hSc ?_
  rotate_left
  · (intro W hSW; go_simp; try rfl)
  try simp only [Act.put, List.setIfInBounds_toArray, List.set_cons_zero, List.set_cons_succ]
  refine held_take 6 ?_ rfl (by kernel_rfl) (by kernel_rfl) (by kernel_rfl) (fun _ _ _ h => h) (by rfl) ?_ hSc ?_
  rotate_left
  · (intro W hSW; go_simp; try rfl)
  try simp only [Act.put, List.setIfInBounds_toArray, List.set_cons_zero, List.set_cons_succ]
  refine held_take 8 ?_ rfl (by kernel_rfl) (by kernel_rfl) (by kernel_rfl) (fun _ _ _ h => h) (by rfl) ?_ hSc ?_
  rotate_left
  · (intro W hSW; go_simp; try rfl)
  try simp only [Act.put, List.setIfInBounds_toArray, List.set_cons_zero, List.set_cons_succ]
  refine held_next 7 rfl (by kernel_rfl) (by rfl) ?_
  go_simp
  refine (HLE.out _ hSc).mono ?_
  rintro e wq2 ⟨rfl, b2⟩
  have hSd : (fun W => Below W2.heap.size W2 W) wq2 := hSc.trans (b2.mono hSc.size)
  refine ⟨fun W => Below W2.heap.size W2 W, fun W hW => hW, hSd, ?_⟩
  clear hSc b2
  have hSc := hSd
  clear hSd
  try simp only [Act.put, List.setIfInBounds_toArray, List.set_cons_zero, List.set_cons_succ]
  refine held_take 9 ?_ rfl (by kernel_rfl) (by kernel_rfl) (by kernel_rfl) (fun _ _ _ h => h) (by rfl) ?_ hSc ?_
  rotate_left
  · (intro W hSW; go_simp; try rfl)
  try simp only [Act.put, List.setIfInBounds_toArray, List.set_cons_zero, List.set_cons_succ]
  refine held_take 10 ?_ rfl (by kernel_rfl) (by kernel_rfl) (by kernel_rfl) (fun _ _ _ h => h) (by rfl) ?_ hSc ?_
  rotate_left
  · (intro W hSW; go_simp; try rfl)
  try simp only [Act.put, List.setIfInBounds_toArray, List.set_cons_zero, List.set_cons_succ]
  refine held_take 11 ?_ rfl (by kernel_rfl) (by kernel_rfl) (by kernel_rfl) (fun _ _ _ h => h) (by rfl) ?_ hSc ?_
  rotate_left
  · (intro W hSW; go_simp; try rfl)
  try simp only [Act.put, List.setIfInBounds_toArray, List.set_cons_zero, List.set_cons_succ]
  refine held_take 12 ?_ rfl (by kernel_rfl) (by kernel_rfl) (by kernel_rfl) (fun _ _ _ h => h) (by rfl) ?_ hSc ?_
  rotate_left
  · (intro W hSW; go_simp; try rfl)
  try simp only [Act.put, List.setIfInBounds_toArray, List.set_cons_zero, List.set_cons_succ]
  refine held_take 14 ?_ rfl (by kernel_rfl) (by kernel_rfl) (by kernel_rfl) (fun _ _ _ h => h) (by rfl) ?_ hSc ?_
  rotate_left
  · (intro W hSW; go_simp; try rfl)
  try simp only [Act.put, List.setIfInBounds_toArray, List.set_cons_zero, List.set_cons_succ]
  refine held_next 13 rfl (by kernel_rfl) (by rfl) ?_
  go_simp
  refine (HGE.out _ hSc).mono ?_
  rintro e wq3 ⟨rfl, b3⟩
  have hSd : (fun W => Below W2.heap.size W2 W) wq3 := hSc.trans (b3.mono hSc.size)
  refine ⟨fun W => Below W2.heap.size W2 W, fun W hW => hW, hSd, ?_⟩
  clear hSc b3
  have hSc := hSd
  clear hSd
  try simp only [Act.put, List.setIfInBounds_toArray, List.set_cons_zero, List.set_cons_succ]
  refine held_take 15 ?_ rfl (by kernel_rfl) (by kernel_rfl) (by kernel_rfl) (fun _ _ _ h => h) (by rfl) ?_ hSc ?_
  rotate_left
  · (intro W hSW; go_simp; try rfl)
  try simp only [Act.put, List.setIfInBounds_toArray, List.set_cons_zero, List.set_cons_succ]
  refine held_take 16 ?_ rfl (by kernel_rfl) (by kernel_rfl) (by kernel_rfl) (fun _ _ _ h => h) (by rfl) ?_ hSc ?_
  rotate_left
  · (intro W hSW; go_simp; try rfl)
  try simp only [Act.put, List.setIfInBounds_toArray, List.set_cons_zero, List.set_cons_succ]
  refine held_take 17 ?_ rfl (by kernel_rfl) (by kernel_rfl) (by kernel_rfl) (fun _ _ _ h => h) (by rfl) ?_ hSc ?_
  rotate_left
  · (intro W hSW; go_simp; try rfl)
  try simp only [Act.put, List.setIfInBounds_toArray, List.set_cons_zero, List.set_cons_succ]
  refine held_take 18 ?_ rfl (by kernel_rfl) (by kernel_rfl) (by kernel_rfl) (fun _ _ _ h => h) (by rfl) ?_ hSc ?_
  rotate_left
  · (intro W hSW; go_simp; try rfl)
  try simp only [Act.put, List.setIfInBounds_toArray, List.set_cons_zero, List.set_cons_succ]
  refine held_take 19 ?_ rfl (by kernel_rfl) (by kernel_rfl) (by kernel_rfl) (fun _ _ _ h => h) (by rfl) ?_ hSc ?_
  rotate_left
  · (intro W hSW; go_simp; try rfl)
  try simp only [Act.put, List.setIfInBounds_toArray, List.set_cons_zero, List.set_cons_succ]
  refine held_next 20 rfl (by kernel_rfl) (by rfl) ?_
  go_simp
  refine (HSA.out _ hSc).mono ?_
  rintro e wq4 ⟨rfl, nz4, hz4⟩
  have hSd : (fun W => Below W2.heap.size W2 W) wq4 := (by rw [hz4]; exact below_drewN hSc nz4)
  refine ⟨fun W => Below W2.heap.size W2 W, fun W hW => hW, hSd, ?_⟩
  clear hSc hz4
  have hSc := hSd
  clear hSd
  try simp only [Act.put, List.setIfInBounds_toArray, List.set_cons_zero, List.set_cons_succ]
  refine held_take 21 ?_ rfl (by kernel_rfl) (by kernel_rfl) (by kernel_rfl) (fun _ _ _ h => h) (by rfl) ?_ hSc ?_
  rotate_left
  · (intro W hSW; go_simp; try rfl)
  try simp only [Act.put, List.setIfInBounds_toArray, List.set_cons_zero, List.set_cons_succ]
  refine held_take 22 ?_ rfl (by kernel_rfl) (by kernel_rfl) (by kernel_rfl) (fun _ _ _ h => h) (by rfl) ?_ hSc ?_
  rotate_left
  · (intro W hSW; go_simp; try rfl)
  try simp only [Act.put, List.setIfInBounds_toArray, List.set_cons_zero, List.set_cons_succ]
  refine held_take 23 ?_ rfl (by kernel_rfl) (by kernel_rfl) (by kernel_rfl) (fun _ _ _ h => h) (by rfl) ?_ hSc ?_
  rotate_left
  · (intro W hSW; go_simp; try rfl)
  try simp only [Act.put, List.setIfInBounds_toArray, List.set_cons_zero, List.set_cons_succ]
  refine held_take 24 ?_ rfl (by kernel_rfl) (by kernel_rfl) (by kernel_rfl) (fun _ _ _ h => h) (by rfl) ?_ hSc ?_
  rotate_left
  · (intro W hSW; go_simp; try rfl)
  try simp only [Act.put, List.setIfInBounds_toArray, List.set_cons_zero, List.set_cons_succ]
  refine held_take 25 ?_ rfl (by kernel_rfl) (by kernel_rfl) (by kernel_rfl) (fun _ _ _ h => h) (by rfl) ?_ hSc ?_
  rotate_left
  · (intro W hSW; go_simp; try rfl)
  try simp only [Act.put, List.setIfInBounds_toArray, List.set_cons_zero, List.set_cons_succ]
  refine held_take 26 ?_ rfl (by kernel_rfl) (by kernel_rfl) (by kernel_rfl) (fun _ _ _ h => h) (by rfl) ?_ hSc ?_
  rotate_left
  · (intro W hSW; go_simp; try rfl)
  try simp only [Act.put, List.setIfInBounds_toArray, List.set_cons_zero, List.set_cons_succ]
  refine held_take 27 ?_ rfl (by kernel_rfl) (by kernel_rfl) (by kernel_rfl) (fun _ _ _ h => h) (by rfl) ?_ hSc ?_
  rotate_left
  · (intro W hSW; go_simp; try rfl)
  try simp only [Act.put, List.setIfInBounds_toArray, List.set_cons_zero, List.set_cons_succ]
  refine held_take 28 ?_ rfl (by kernel_rfl) (by kernel_rfl) (by kernel_rfl) (fun _ _ _ h => h) (by rfl) ?_ hSc ?_
  rotate_left
  · (intro W hSW; go_simp; try rfl)
  try simp only [Act.put, List.setIfInBounds_toArray, List.set_cons_zero, List.set_cons_succ]
  refine held_take 29 ?_ rfl (by kernel_rfl) (by kernel_rfl) (by kernel_rfl) (fun _ _ _ h => h) (by rfl) ?_ hSc ?_
  rotate_left
  · (intro W hSW; go_simp; try rfl)
  try simp only [Act.put, List.setIfInBounds_toArray, List.set_cons_zero, List.set_cons_succ]
  refine held_take 32 ?_ rfl (by kernel_rfl) (by kernel_rfl) (by kernel_rfl) (fun _ _ _ h => h) (by rfl) ?_ hSc ?_
  rotate_left
  · (intro W hSW; go_simp; try rfl)
  try simp only [Act.put, List.setIfInBounds_toArray, List.set_cons_zero, List.set_cons_succ]
  refine held_next 30 rfl (by kernel_rfl) (by rfl) ?_
  go_simp
  refine (CB1.out _ hSc).mono ?_
  rintro e x1 ⟨v1, rfl, o1, b1⟩
  have Q1 := Lib.hid (o1.sl.more (Nat.zero_le _) (Nat.le_refl _))
  have U1 := Lib.hid (hSc.trans (b1.mono hSc.size))
  refine ⟨fun W => Below x1.heap.size x1 W, fun W hW => U1.out.trans (hW.mono U1.out.size), Below.refl _ _, ?_⟩
  obtain ⟨A1x, d1x, rfl, -⟩ := o1.sl
  clear o1 b1
  have hSc := Below.refl x1.heap.size x1
  try simp only [Act.put, List.setIfInBounds_toArray, List.set_cons_zero, List.set_cons_succ]
  refine held_take 31 ?_ rfl (by kernel_rfl) (by kernel_rfl) (by kernel_rfl) (fun _ _ _ h => h) (by rfl) ?_ hSc ?_
  rotate_left
  · (intro W hSW; have s1 := str8 (Q1.out.below hSW); go_simp; try rfl)
  try simp only [Act.put, List.setIfInBounds_toArray, List.set_cons_zero, List.set_cons_succ]
  refine held_next 33 rfl (by kernel_rfl) (by rfl) ?_
  go_simp
  refine (CB2.out _ U1.out).mono ?_
  rintro e x2 ⟨v2, rfl, o2, b2⟩
  have Q2 := Lib.hid (o2.sl.more (Nat.zero_le _) (Nat.le_refl _))
  have b2h := Lib.hid b2
  have U2 := Lib.hid (U1.out.trans (b2.mono U1.out.size))
  refine ⟨fun W => Below x2.heap.size x2 W, fun W hW => b2h.out.trans (hW.mono b2h.out.size), Below.refl _ _, ?_⟩
  obtain ⟨A2x, d2x, rfl, -⟩ := o2.sl
  clear o2 b2
  have hSc := Below.refl x2.heap.size x2
  try simp only [Act.put, List.setIfInBounds_toArray, List.set_cons_zero, List.set_cons_succ]
  refine held_take 34 ?_ rfl (by kernel_rfl) (by kernel_rfl) (by kernel_rfl) (fun _ _ _ h => h) (by rfl) ?_ hSc ?_
  rotate_left
  · (intro W hSW; have s1 := str8 (Q2.out.below hSW); go_simp; try rfl)
  try simp only [Act.put, List.setIfInBounds_toArray, List.set_cons_zero, List.set_cons_succ]
  refine held_next 35 rfl (by kernel_rfl) (by rfl) ?_
  go_simp
  refine ⟨fun W => Below x2.heap.size x2 W, fun W hW => hW, hSc, ?_⟩
  try simp only [Act.put, List.setIfInBounds_toArray, List.set_cons_zero, List.set_cons_succ]
  refine held_next 36 rfl (by kernel_rfl) (by rfl) ?_
  go_simp
  refine ⟨fun W => Below x2.heap.size x2 W, fun W hW => hW, hSc, ?_⟩
  refine wpAnyH_done (by kernel_rfl) ?_ _

  clear HLen HLE HGE HSA CB1 CB2 Q1 Q2
  clear hSc U1 b2h
  go_wp2
  go_loopw [15] (fun i wr => ∃ j : Int, -1 ≤ j ∧ j ≤ n + 1 ∧ i = .int .i64 j ∧ Below W2.heap.size W2 wr) (fun i _ => ((n : Int) + 1 - intOf i).toNat)
  case atStart => exact ⟨-1, by omega, by omega, rfl, U2.out⟩
  case round =>
    obtain ⟨j, hj1, hj2, rfl, bk⟩ := hrel
    have BK := Lib.hid bk
    clear bk
    have hnb := HL.out
    by_cases hlt : j ≤ n
    · have d1 : decide (j ≤ (n : Int)) = true := decide_eq_true hlt
      by_cases h0 : j < 0
      · have d2 : decide (0 ≤ j) = false := decide_eq_false (by omega)
        go_wp2_with (go_at_call 14; refine (get_out g A c zs j _ (M2.out.step BK.out) (by rw [HN.out]; omega)).mono ?_; rintro e w5 ⟨rfl, b5⟩; have B5 := Lib.hid (BK.out.trans (b5.mono BK.out.size)); clear b5)
        go_roundw
        case rel => exact ⟨j + 1, by omega, by omega, by go_num, B5.out⟩
        case measure => simp [intOf]; omega
      · obtain ⟨k, rfl⟩ : ∃ k : Nat, j = (k : Int) := ⟨j.toNat, by omega⟩
        have d1n : decide (k ≤ n) = true := decide_eq_true (by omega)
        by_cases h9 : k < n
        · have d3 : decide ((k : Int) < (n : Int)) = true := decide_eq_true (by omega)
          have d3n : decide (k < n) = true := decide_eq_true h9
          obtain ⟨y, hy⟩ : ∃ y, zs[k]? = some y := ⟨_, List.getElem?_eq_getElem (by rw [HN.out]; omega)⟩
          have HY := Lib.hid hy
          clear hy
          go_wp2_with (go_at_call 14; refine (get_in g A c zs k y _ (M2.out.step BK.out) HY.out).mono ?_; rintro e w5 ⟨rfl, b5⟩; have B5 := Lib.hid (BK.out.trans (b5.mono BK.out.size)); clear b5; obtain ⟨b6, o6, c6, e6, -, -, -, -, hc6⟩ := (G2.out.step B5.out).form (fun e => by have h := congrArg List.length e; have := HN.out; simp only [List.length_nil] at h; omega); injection e6 with e4 e5 e6; subst e4; have q0 := hc6 k y HY.out; simp only [eL] at q0; clear hc6 e5 e6)
          go_roundw
          case rel => exact ⟨(k : Int) + 1, by omega, by omega, by go_num, B5.out⟩
          case measure => simp [intOf]; omega
        · have d3 : decide ((k : Int) < (n : Int)) = false := decide_eq_false (by omega)
          have d3n : decide (k < n) = false := decide_eq_false (by omega)
          go_wp2_with (go_at_call 14; refine (get_out g A c zs k _ (M2.out.step BK.out) (by rw [HN.out]; omega)).mono ?_; rintro e w5 ⟨rfl, b5⟩; have B5 := Lib.hid (BK.out.trans (b5.mono BK.out.size)); clear b5)
          go_roundw
          case rel => exact ⟨(k : Int) + 1, by omega, by omega, by go_num, B5.out⟩
          case measure => simp [intOf]; omega
    · have d1 : decide (j ≤ (n : Int)) = false := decide_eq_false hlt
      have BK9 := Lib.hid BK.out
      have R9 := Lib.hid (O2.out.below BK.out (Nat.le_refl _))
      clear hj1 hj2 hlt M2 G2
      go_wp2
      go_loopw [133] (fun i wq => ∃ k : Nat, k ≤ m ∧ i = .int .i64 k ∧ (∃ l, l.length = m ∧ Gw eL wq w.heap.size (.slice A7 m d7) l) ∧ wr.grownBy wq (Value.slice A7 m d7).ownBlock) (fun i _ => m - (intOf i).toNat)
      case atStart => exact ⟨0, Nat.zero_le _, rfl, ⟨pt, HM.out, R9.out⟩, World.grownBy.refl _ _⟩
      case round =>
        obtain ⟨k, hk, rfl, ⟨l, hl, ho⟩, hgr⟩ := hrel
        have hmb := HMB.out
        by_cases hlt : k < m
        · obtain ⟨b', c', e', -, -, hge, hltb, hcl, hfr⟩ := ho.form (by rintro rfl; simp at hl; omega)
          injection e' with e1 e2 e3
          have hfz := hfr k
          obtain ⟨y, hy⟩ : ∃ y, l[k]? = some y := ⟨_, List.getElem?_eq_getElem (by omega)⟩
          have hck := hcl k y hy
          simp only [eL] at hck
          have HGR := Lib.hid hgr
          subst e1 e3
          have hst := ho.stored k (wrap64 (y + 1))
          have HST := Lib.hid hst
          have HLL := Lib.hid hl
          clear hcl hfr e2 hy hst ho hgr hl
          go_wp2
          go_roundw
          case rel => exact ⟨k + 1, by omega, by go_num, ⟨l.set k (wrap64 (y + 1)), by rw [List.length_set]; exact HLL.out, HST.out⟩, HGR.out.trans (grown_set _ b' k _)⟩
          case measure => simp [intOf]; omega
        · obtain rfl : k = m := by omega
          have hlo : ∀ j, (Value.slice A7 k d7).ownBlock = some j → w.heap.size ≤ j := fun j e => (O2.out.lt j e).1
          have C8 := Lib.hid (B2.out.trans (BK9.out.mono B2.out.size))
          have C9 := Lib.hid (C8.out.grown hgr C8.out.size hlo)
          clear hgr ho hl hlo
          go_wp2
          go_ret
          exact ⟨rfl, C9.out⟩
set_option maxHeartbeats 8000000 in
set_option maxRecDepth 100000 in
theorem told_bad3 (g : Nat) (A : Option Addr) (c : Nat) (A2 : Option Addr) (d2 : Nat) (zs : List Int) (i k : Int) (w : World) (hm : CxM w g A c zs) (hG : Gs eL w 0 w.heap.size (.slice A2 zs.length d2) zs) (hc1 : 0 ≤ i) (hc2 : i ≤ k) (hc3 : (zs.length : Int) < k) :
    Calls Try.prog 11 #[.pointer (some ⟨g, 0, none⟩), .slice A2 zs.length d2, .int .i64 i, .int .i64 k] w fun e w' => e = .returned (.bool true) ∧ Below w.heap.size w w' := by
  have HE0 := refEnds_any A2 d2 zs w _ hG hm.small
  have hle0 := fun W (h : CxM W g A c zs) => least_any _ _ A _ c _ _ W h.at_
  have hge0 := fun W (h : CxM W g A c zs) => greatest_any _ _ A _ c _ _ W h.at_
  have hln0 := fun W (h : CxM W g A c zs) => len_any _ _ A _ c _ _ W h.at_
  have hb1 := fun W (h : CxM W g A c zs) => bytes_c g A c zs W h
  have hb2 := fun W (h : Gs eL W 0 W.heap.size (.slice A2 zs.length d2) zs) => refBytes_c A2 d2 zs W h hm.small
  generalize loI zs = a at HE0 hle0
  generalize hiI zs = z at HE0 hge0
  generalize cB zs = bs at hb1 hb2
  have HE := Lib.hid HE0
  have L1 := Lib.hid hle0
  have L2 := Lib.hid hge0
  have L4 := Lib.hid hb1
  have L5 := Lib.hid hb2
  have hnb := hm.small
  have M0 := Lib.hid hm
  have G0 := Lib.hid hG
  have d1 : decide (0 ≤ i) = true := decide_eq_true hc1
  have d2 : decide (i ≤ k) = true := decide_eq_true hc2
  have d3 : decide (k ≤ (zs.length : Int)) = false := decide_eq_false (by omega)
  have hso := fun W (h : CxM W g A c zs) => some_bad g A c zs i k W h (by omega)
  have HSO := Lib.hid hso
  clear hso
  clear hc1 hc2 hc3
  obtain ⟨A7, hA7⟩ : ∃ A7 : Option Addr, A7 = none := ⟨_, rfl⟩
  obtain ⟨m, hm0⟩ : ∃ m : Nat, m = 0 := ⟨_, rfl⟩
  obtain ⟨d7, hd7⟩ : ∃ d7 : Nat, d7 = 0 := ⟨_, rfl⟩
  obtain ⟨pt, hpt⟩ : ∃ pt : List Int, pt = [] := ⟨_, rfl⟩
  have HM := Lib.hid (show pt.length = m by rw [hpt, hm0]; rfl)
  have HMB := Lib.hid (show m ≤ 100000 by omega)
  have HSL := Lib.hid (show Value.slice none 0 0 = .slice A7 m d7 by rw [hA7, hm0, hd7])
  have HO2 := Lib.hid (fun W => show Gw eL W w.heap.size (.slice A7 m d7) pt by rw [hpt, hA7, hm0, hd7]; exact Gw.nil_ _ _)
  have HWN := Lib.hid (fun W => show Gs eL W 0 0 (.slice none 0 0) pt by rw [hpt]; exact Gs.nil_ _ _ _)
  clear hA7 hm0 hd7 hpt
  clear HE0 hle0 hge0 hb1 hb2 hm hG
  obtain ⟨n, hn⟩ : ∃ n, zs.length = n := ⟨_, rfl⟩
  have HN := Lib.hid hn
  rw [hn] at HE hln0 hnb G0 L5 d3 ⊢
  have L3 := Lib.hid hln0
  have HL := Lib.hid hnb
  clear hn hln0
  go_enter Try.func11, Try.ntmps11
  go_wp2_with (go_at_call 22; refine HE.out.mono ?_; rintro e w0 ⟨rfl, hz⟩; have hz := hz.symm; subst hz; go_wp2_with (go_at_call 15; refine (HSO.out _ M0.out).mono ?_; rintro e W2 ⟨rfl, b2⟩; have B2 := Lib.hid b2; rw [HSL.out]; have O2 := Lib.hid (HO2.out W2); have WN := Lib.hid ((HWN.out W2).more (Nat.le_refl _) (Nat.zero_le W2.heap.size)); clear b2))
  have M2 := Lib.hid (M0.out.step B2.out)
  have G2 := Lib.hid (G0.out.step B2.out)
  have HLen := Lib.hid (fun W (b : Below W2.heap.size W2 W) => L3.out W (M2.out.step b))
  have HLE := Lib.hid (fun W (b : Below W2.heap.size W2 W) => L1.out W (M2.out.step b))
  have HGE := Lib.hid (fun W (b : Below W2.heap.size W2 W) => L2.out W (M2.out.step b))
  have HSA := Lib.hid (fun W (b : Below W2.heap.size W2 W) => sameL_yes _ _ pt _ _ _ _ W (O2.out.sl.below b) (WN.out.below b))
  have CB1 := Lib.hid (fun W (b : Below W2.heap.size W2 W) => L4.out W (M2.out.step b))
  have CB2 := Lib.hid (fun W (b : Below W2.heap.size W2 W) => L5.out W (G2.out.step b))
  clear L1 L2 L3 L4 L5 M0 G0 HE
  have hSc := (Below.refl W2.heap.size W2).drew
  refine wp_region_all (S := fun W => Below W2.heap.size W2 W) (by kernel_rfl) hSc (fun W0 hSc => ?_)
  refine held_take 0 ?_ rfl (by kernel_rfl) (by kernel_rfl) (by kernel_rfl) (fun _ _ _ h => h) (by rfl) ?_ hSc ?_
  rotate_left
  · (intro W hSW; go_simp; try rfl)
  try simp only [Act.put, List.setIfInBounds_toArray, List.set_cons_zero, List.set_cons_succ]
  refine held_take 2 ?_ rfl (by kernel_rfl) (by kernel_rfl) (by kernel_rfl) (fun _ _ _ h => h) (by rfl) ?_ hSc ?_
  rotate_left
  · (intro W hSW; go_simp; try rfl)
  try simp only [Act.put, List.setIfInBounds_toArray, List.set_cons_zero, List.set_cons_succ]
  refine held_take 3 ?_ rfl (by kernel_rfl) (by kernel_rfl) (by kernel_rfl) (fun _ _ _ h => h) (by rfl) ?_ hSc ?_
  rotate_left
  · (intro W hSW; go_simp; try rfl)
  try simp only [Act.put, List.setIfInBounds_toArray, List.set_cons_zero, List.set_cons_succ]
  refine held_next 1 rfl (by kernel_rfl) (by rfl) ?_
  go_simp
  refine (HLen.out _ hSc).mono ?_
  rintro e wq1 ⟨rfl, b1⟩
  have hSd : (fun W => Below W2.heap.size W2 W) wq1 := hSc.trans (b1.mono hSc.size)
  refine ⟨fun W => Below W2.heap.size W2 W, fun W hW => hW, hSd, ?_⟩
  clear hSc b1
  have hSc := hSd
  clear hSd
  try simp only [Act.put, List.setIfInBounds_toArray, List.set_cons_zero, List.set_cons_succ]
  refine held_take 4 ?_ rfl (by kernel_rfl) (by kernel_rfl) (by kernel_rfl) (fun _ _ _ h => h) (by rfl) ?_ hSc ?_
  rotate_left
  · (intro W hSW; go_simp; try rfl)
  try simp only [Act.put, List.setIfInBounds_toArray, List.set_cons_zero, List.set_cons_succ]
  refine held_take 5 ?_ rfl (by kernel_rfl) (by kernel_rfl) (by kernel_rfl) (fun _ _ _ h => h) (by rfl) ?_ hSc ?_
  rotate_left
  · (intro W hSW; go_simp; try rfl)
  try simp only [Act.put, List.setIfInBounds_toArray, List.set_cons_zero, List.set_cons_succ]
  refine held_take 6 ?_ rfl (by kernel_rfl) (by kernel_rfl) (by kernel_rfl) (fun _ _ _ h => h) (by rfl) ?_ hSc ?_
  rotate_left
  · (intro W hSW; go_simp; try rfl)
  try simp only [Act.put, List.setIfInBounds_toArray, List.set_cons_zero, List.set_cons_succ]
  refine held_take 8 ?_ rfl (by kernel_rfl) (by kernel_rfl) (by kernel_rfl) (fun _ _ _ h => h) (by rfl) ?_ hSc ?_
  rotate_left
  · (intro W hSW; go_simp; try rfl)
  try simp only [Act.put, List.setIfInBounds_toArray, List.set_cons_zero, List.set_cons_succ]
  refine held_next 7 rfl (by kernel_rfl) (by rfl) ?_
  go_simp
  refine (HLE.out _ hSc).mono ?_
  rintro e wq2 ⟨rfl, b2⟩
  have hSd : (fun W => Below W2.heap.size W2 W) wq2 := hSc.trans (b2.mono hSc.size)
  refine ⟨fun W => Below W2.heap.size W2 W, fun W hW => hW, hSd, ?_⟩
  clear hSc b2
  have hSc := hSd
  clear hSd
  try simp only [Act.put, List.setIfInBounds_toArray, List.set_cons_zero, List.set_cons_succ]
  refine held_take 9 ?_ rfl (by kernel_rfl) (by kernel_rfl) (by kernel_rfl) (fun _ _ _ h => h) (by rfl) ?_ hSc ?_
  rotate_left
  · (intro W hSW; go_simp; try rfl)
  try simp only [Act.put, List.setIfInBounds_toArray, List.set_cons_zero, List.set_cons_succ]
  refine held_take 10 ?_ rfl (by kernel_rfl) (by kernel_rfl) (by kernel_rfl) (fun _ _ _ h => h) (by rfl) ?_ hSc ?_
  rotate_left
  · (intro W hSW; go_simp; try rfl)
  try simp only [Act.put, List.setIfInBounds_toArray, List.set_cons_zero, List.set_cons_succ]
  refine held_take 11 ?_ rfl (by kernel_rfl) (by kernel_rfl) (by kernel_rfl) (fun _ _ _ h => h) (by rfl) ?_ hSc ?_
  rotate_left
  · (intro W hSW; go_simp; try rfl)
  try simp only [Act.put, List.setIfInBounds_toArray, List.set_cons_zero, List.set_cons_succ]
  refine held_take 12 ?_ rfl (by kernel_rfl) (by kernel_rfl) (by kernel_rfl) (fun _ _ _ h => h) (by rfl) ?_ hSc ?_
  rotate_left
  · (intro W hSW; go_simp; try rfl)
  try simp only [Act.put, List.setIfInBounds_toArray, List.set_cons_zero, List.set_cons_succ]
  refine held_take 14 ?_ rfl (by kernel_rfl) (by kernel_rfl) (by kernel_rfl) (fun _ _ _ h => h) (by rfl) ?_ hSc ?_
  rotate_left
  · (intro W hSW; go_simp; try rfl)
  try simp only [Act.put, List.setIfInBounds_toArray, List.set_cons_zero, List.set_cons_succ]
  refine held_next 13 rfl (by kernel_rfl) (by rfl) ?_
  go_simp
  refine (HGE.out _ hSc).mono ?_
  rintro e wq3 ⟨rfl, b3⟩
  have hSd : (fun W => Below W2.heap.size W2 W) wq3 := hSc.trans (b3.mono hSc.size)
  refine ⟨fun W => Below W2.heap.size W2 W, fun W hW => hW, hSd, ?_⟩
  clear hSc b3
  have hSc := hSd
  clear hSd
  try simp only [Act.put, List.setIfInBounds_toArray, List.set_cons_zero, List.set_cons_succ]
  refine held_take 15 ?_ rfl (by kernel_rfl) (by kernel_rfl) (by kernel_rfl) (fun _ _ _ h => h) (by rfl) ?_ hSc ?_
  rotate_left
  · (intro W hSW; go_simp; try rfl)
  try simp only [Act.put, List.setIfInBounds_toArray, List.set_cons_zero, List.set_cons_succ]
  refine held_take 16 ?_ rfl (by kernel_rfl) (by kernel_rfl) (by kernel_rfl) (fun _ _ _ h => h) (by rfl) ?_ hSc ?_
  rotate_left
  · (intro W hSW; go_simp; try rfl)
  try simp only [Act.put, List.setIfInBounds_toArray, List.set_cons_zero, List.set_cons_succ]
  refine held_take 17 ?_ rfl (by kernel_rfl) (by kernel_rfl) (by kernel_rfl) (fun _ _ _ h => h) (by rfl) ?_ hSc ?_
  rotate_left
  · (intro W hSW; go_simp; try rfl)
  try simp only [Act.put, List.setIfInBounds_toArray, List.set_cons_zero, List.set_cons_succ]
  refine held_take 18 ?_ rfl (by kernel_rfl) (by kernel_rfl) (by kernel_rfl) (fun _ _ _ h => h) (by rfl) ?_ hSc ?_
  rotate_left
  · (intro W hSW; go_simp; try rfl)
  try simp only [Act.put, List.setIfInBounds_toArray, List.set_cons_zero, List.set_cons_succ]
  refine held_take 19 ?_ rfl (by kernel_rfl) (by kernel_rfl) (by kernel_rfl) (fun _ _ _ h => h) (by rfl) ?_ hSc ?_
  rotate_left
  · (intro W hSW; go_simp; try rfl)
  try simp only [Act.put, List.setIfInBounds_toArray, List.set_cons_zero, List.set_cons_succ]
  refine held_next 20 rfl (by kernel_rfl) (by rfl) ?_
  go_simp
  refine (HSA.out _ hSc).mono ?_
  rintro e wq4 ⟨rfl, nz4, hz4⟩
  have hSd : (fun W => Below W2.heap.size W2 W) wq4 := (by rw [hz4]; exact below_drewN hSc nz4)
  refine ⟨fun W => Below W2.heap.size W2 W, fun W hW => hW, hSd, ?_⟩
  clear hSc hz4
  have hSc := hSd
  clear hSd
  try simp only [Act.put, List.setIfInBounds_toArray, List.set_cons_zero, List.set_cons_succ]
  refine held_take 21 ?_ rfl (by kernel_rfl) (by kernel_rfl) (by kernel_rfl) (fun _ _ _ h => h) (by rfl) ?_ hSc ?_
  rotate_left
  · (intro W hSW; go_simp; try rfl)
  try simp only [Act.put, List.setIfInBounds_toArray, List.set_cons_zero, List.set_cons_succ]
  refine held_take 22 ?_ rfl (by kernel_rfl) (by kernel_rfl) (by kernel_rfl) (fun _ _ _ h => h) (by rfl) ?_ hSc ?_
  rotate_left
  · (intro W hSW; go_simp; try rfl)
  try simp only [Act.put, List.setIfInBounds_toArray, List.set_cons_zero, List.set_cons_succ]
  refine held_take 23 ?_ rfl (by kernel_rfl) (by kernel_rfl) (by kernel_rfl) (fun _ _ _ h => h) (by rfl) ?_ hSc ?_
  rotate_left
  · (intro W hSW; go_simp; try rfl)
  try simp only [Act.put, List.setIfInBounds_toArray, List.set_cons_zero, List.set_cons_succ]
  refine held_take 24 ?_ rfl (by kernel_rfl) (by kernel_rfl) (by kernel_rfl) (fun _ _ _ h => h) (by rfl) ?_ hSc ?_
  rotate_left
  · (intro W hSW; go_simp; try rfl)
  try simp only [Act.put, List.setIfInBounds_toArray, List.set_cons_zero, List.set_cons_succ]
  refine held_take 25 ?_ rfl (by kernel_rfl) (by kernel_rfl) (by kernel_rfl) (fun _ _ _ h => h) (by rfl) ?_ hSc ?_
  rotate_left
  · (intro W hSW; go_simp; try rfl)
  try simp only [Act.put, List.setIfInBounds_toArray, List.set_cons_zero, List.set_cons_succ]
  refine held_take 26 ?_ rfl (by kernel_rfl) (by kernel_rfl) (by kernel_rfl) (fun _ _ _ h => h) (by rfl) ?_ hSc ?_
  rotate_left
  · (intro W hSW; go_simp; try rfl)
  try simp only [Act.put, List.setIfInBounds_toArray, List.set_cons_zero, List.set_cons_succ]
  refine held_take 27 ?_ rfl (by kernel_rfl) (by kernel_rfl) (by kernel_rfl) (fun _ _ _ h => h) (by rfl) ?_ hSc ?_
  rotate_left
  · (intro W hSW; go_simp; try rfl)
  try simp only [Act.put, List.setIfInBounds_toArray, List.set_cons_zero, List.set_cons_succ]
  refine held_take 28 ?_ rfl (by kernel_rfl) (by kernel_rfl) (by kernel_rfl) (fun _ _ _ h => h) (by rfl) ?_ hSc ?_
  rotate_left
  · (intro W hSW; go_simp; try rfl)
  try simp only [Act.put, List.setIfInBounds_toArray, List.set_cons_zero, List.set_cons_succ]
  refine held_take 29 ?_ rfl (by kernel_rfl) (by kernel_rfl) (by kernel_rfl) (fun _ _ _ h => h) (by rfl) ?_ hSc ?_
  rotate_left
  · (intro W hSW; go_simp; try rfl)
  try simp only [Act.put, List.setIfInBounds_toArray, List.set_cons_zero, List.set_cons_succ]
  refine held_take 32 ?_ rfl (by kernel_rfl) (by kernel_rfl) (by kernel_rfl) (fun _ _ _ h => h) (by rfl) ?_ hSc ?_
  rotate_left
  · (intro W hSW; go_simp; try rfl)
  try simp only [Act.put, List.setIfInBounds_toArray, List.set_cons_zero, List.set_cons_succ]
  refine held_next 30 rfl (by kernel_rfl) (by rfl) ?_
  go_simp
  refine (CB1.out _ hSc).mono ?_
  rintro e x1 ⟨v1, rfl, o1, b1⟩
  have Q1 := Lib.hid (o1.sl.more (Nat.zero_le _) (Nat.le_refl _))
  have U1 := Lib.hid (hSc.trans (b1.mono hSc.size))
  refine ⟨fun W => Below x1.heap.size x1 W, fun W hW => U1.out.trans (hW.mono U1.out.size), Below.refl _ _, ?_⟩
  obtain ⟨A1x, d1x, rfl, -⟩ := o1.sl
  clear o1 b1
  have hSc := Below.refl x1.heap.size x1
  try simp only [Act.put, List.setIfInBounds_toArray, List.set_cons_zero, List.set_cons_succ]
  refine held_take 31 ?_ rfl (by kernel_rfl) (by kernel_rfl) (by kernel_rfl) (fun _ _ _ h => h) (by rfl) ?_ hSc ?_
  rotate_left
  · (intro W hSW; have s1 := str8 (Q1.out.below hSW); go_simp; try rfl)
  try simp only [Act.put, List.setIfInBounds_toArray, List.set_cons_zero, List.set_cons_succ]
  refine held_next 33 rfl (by kernel_rfl) (by rfl) ?_
  go_simp
  refine (CB2.out _ U1.out).mono ?_
  rintro e x2 ⟨v2, rfl, o2, b2⟩
  have Q2 := Lib.hid (o2.sl.more (Nat.zero_le _) (Nat.le_refl _))
  have b2h := Lib.hid b2
  have U2 := Lib.hid (U1.out.trans (b2.mono U1.out.size))
  refine ⟨fun W => Below x2.heap.size x2 W, fun W hW => b2h.out.trans (hW.mono b2h.out.size), Below.refl _ _, ?_⟩
  obtain ⟨A2x, d2x, rfl, -⟩ := o2.sl
  clear o2 b2
  have hSc := Below.refl x2.heap.size x2
  try simp only [Act.put, List.setIfInBounds_toArray, List.set_cons_zero, List.set_cons_succ]
  refine held_take 34 ?_ rfl (by kernel_rfl) (by kernel_rfl) (by kernel_rfl) (fun _ _ _ h => h) (by rfl) ?_ hSc ?_
  rotate_left
  · (intro W hSW; have s1 := str8 (Q2.out.below hSW); go_simp; try rfl)
  try simp only [Act.put, List.setIfInBounds_toArray, List.set_cons_zero, List.set_cons_succ]
  refine held_next 35 rfl (by kernel_rfl) (by rfl) ?_
  go_simp
  refine ⟨fun W => Below x2.heap.size x2 W, fun W hW => hW, hSc, ?_⟩
  try simp only [Act.put, List.setIfInBounds_toArray, List.set_cons_zero, List.set_cons_succ]
  refine held_next 36 rfl (by kernel_rfl) (by rfl) ?_
  go_simp
  refine ⟨fun W => Below x2.heap.size x2 W, fun W hW => hW, hSc, ?_⟩
  refine wpAnyH_done (by kernel_rfl) ?_ _

  clear HLen HLE HGE HSA CB1 CB2 Q1 Q2
  clear hSc U1 b2h
  go_wp2
  go_loopw [15] (fun i wr => ∃ j : Int, -1 ≤ j ∧ j ≤ n + 1 ∧ i = .int .i64 j ∧ Below W2.heap.size W2 wr) (fun i _ => ((n : Int) + 1 - intOf i).toNat)
  case atStart => exact ⟨-1, by omega, by omega, rfl, U2.out⟩
  case round =>
    obtain ⟨j, hj1, hj2, rfl, bk⟩ := hrel
    have BK := Lib.hid bk
    clear bk
    have hnb := HL.out
    by_cases hlt : j ≤ n
    · have d1 : decide (j ≤ (n : Int)) = true := decide_eq_true hlt
      by_cases h0 : j < 0
      · have d2 : decide (0 ≤ j) = false := decide_eq_false (by omega)
        go_wp2_with (go_at_call 14; refine (get_out g A c zs j _ (M2.out.step BK.out) (by rw [HN.out]; omega)).mono ?_; rintro e w5 ⟨rfl, b5⟩; have B5 := Lib.hid (BK.out.trans (b5.mono BK.out.size)); clear b5)
        go_roundw
        case rel => exact ⟨j + 1, by omega, by omega, by go_num, B5.out⟩
        case measure => simp [intOf]; omega
      · obtain ⟨k, rfl⟩ : ∃ k : Nat, j = (k : Int) := ⟨j.toNat, by omega⟩
        have d1n : decide (k ≤ n) = true := decide_eq_true (by omega)
        by_cases h9 : k < n
        · have d3 : decide ((k : Int) < (n : Int)) = true := decide_eq_true (by omega)
          have d3n : decide (k < n) = true := decide_eq_true h9
          obtain ⟨y, hy⟩ : ∃ y, zs[k]? = some y := ⟨_, List.getElem?_eq_getElem (by rw [HN.out]; omega)⟩
          have HY := Lib.hid hy
          clear hy
          go_wp2_with (go_at_call 14; refine (get_in g A c zs k y _ (M2.out.step BK.out) HY.out).mono ?_; rintro e w5 ⟨rfl, b5⟩; have B5 := Lib.hid (BK.out.trans (b5.mono BK.out.size)); clear b5; obtain ⟨b6, o6, c6, e6, -, -, -, -, hc6⟩ := (G2.out.step B5.out).form (fun e => by have h := congrArg List.length e; have := HN.out; simp only [List.length_nil] at h; omega); injection e6 with e4 e5 e6; subst e4; have q0 := hc6 k y HY.out; simp only [eL] at q0; clear hc6 e5 e6)
          go_roundw
          case rel => exact ⟨(k : Int) + 1, by omega, by omega, by go_num, B5.out⟩
          case measure => simp [intOf]; omega
        · have d3 : decide ((k : Int) < (n : Int)) = false := decide_eq_false (by omega)
          have d3n : decide (k < n) = false := decide_eq_false (by omega)
          go_wp2_with (go_at_call 14; refine (get_out g A c zs k _ (M2.out.step BK.out) (by rw [HN.out]; omega)).mono ?_; rintro e w5 ⟨rfl, b5⟩; have B5 := Lib.hid (BK.out.trans (b5.mono BK.out.size)); clear b5)
          go_roundw
          case rel => exact ⟨(k : Int) + 1, by omega, by omega, by go_num, B5.out⟩
          case measure => simp [intOf]; omega
    · have d1 : decide (j ≤ (n : Int)) = false := decide_eq_false hlt
      have BK9 := Lib.hid BK.out
      have R9 := Lib.hid (O2.out.below BK.out (Nat.le_refl _))
      clear hj1 hj2 hlt M2 G2
      go_wp2
      go_loopw [133] (fun i wq => ∃ k : Nat, k ≤ m ∧ i = .int .i64 k ∧ (∃ l, l.length = m ∧ Gw eL wq w.heap.size (.slice A7 m d7) l) ∧ wr.grownBy wq (Value.slice A7 m d7).ownBlock) (fun i _ => m - (intOf i).toNat)
      case atStart => exact ⟨0, Nat.zero_le _, rfl, ⟨pt, HM.out, R9.out⟩, World.grownBy.refl _ _⟩
      case round =>
        obtain ⟨k, hk, rfl, ⟨l, hl, ho⟩, hgr⟩ := hrel
        have hmb := HMB.out
        by_cases hlt : k < m
        · obtain ⟨b', c', e', -, -, hge, hltb, hcl, hfr⟩ := ho.form (by rintro rfl; simp at hl; omega)
          injection e' with e1 e2 e3
          have hfz := hfr k
          obtain ⟨y, hy⟩ : ∃ y, l[k]? = some y := ⟨_, List.getElem?_eq_getElem (by omega)⟩
          have hck := hcl k y hy
          simp only [eL] at hck
          have HGR := Lib.hid hgr
          subst e1 e3
          have hst := ho.stored k (wrap64 (y + 1))
          have HST := Lib.hid hst
          have HLL := Lib.hid hl
          clear hcl hfr e2 hy hst ho hgr hl
          go_wp2
          go_roundw
          case rel => exact ⟨k + 1, by omega, by go_num, ⟨l.set k (wrap64 (y + 1)), by rw [List.length_set]; exact HLL.out, HST.out⟩, HGR.out.trans (grown_set _ b' k _)⟩
          case measure => simp [intOf]; omega
        · obtain rfl : k = m := by omega
          have hlo : ∀ j, (Value.slice A7 k d7).ownBlock = some j → w.heap.size ≤ j := fun j e => (O2.out.lt j e).1
          have C8 := Lib.hid (B2.out.trans (BK9.out.mono B2.out.size))
          have C9 := Lib.hid (C8.out.grown hgr C8.out.size hlo)
          clear hgr ho hl hlo
          go_wp2
          go_ret
          exact ⟨rfl, C9.out⟩
theorem told13_any (g : Nat) (A : Option Addr) (c : Nat) (A2 : Option Addr) (d2 : Nat) (zs : List Int) (i k : Int) (w : World) (hm : CxM w g A c zs) (hG : Gs eL w 0 w.heap.size (.slice A2 zs.length d2) zs) :
    Calls Try.prog 11 #[.pointer (some ⟨g, 0, none⟩), .slice A2 zs.length d2, .int .i64 i, .int .i64 k] w fun e w' => e = .returned (.bool true) ∧ Below w.heap.size w w' := by
  by_cases h1 : i < 0
  · exact told_bad1 g A c A2 d2 zs i k w hm hG h1
  · by_cases h2 : k < i
    · exact told_bad2 g A c A2 d2 zs i k w hm hG (by omega) h2
    · by_cases h3 : (zs.length : Int) < k
      · exact told_bad3 g A c A2 d2 zs i k w hm hG (by omega) (by omega) h3
      · obtain ⟨p, rfl⟩ : ∃ p : Nat, i = (p : Int) := ⟨i.toNat, by omega⟩
        obtain ⟨q, rfl⟩ : ∃ q : Nat, k = (q : Int) := ⟨k.toNat, by omega⟩
        exact told_yes g A c A2 d2 zs p q w hm hG (by omega) (by omega)
end Go.Proofs.Ytigjkolhhhmdhaa
