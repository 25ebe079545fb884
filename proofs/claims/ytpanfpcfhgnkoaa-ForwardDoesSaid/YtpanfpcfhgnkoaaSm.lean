/- Walks: the law ForwardDoes. -/
import Derived.Test.YtpanfpcfhgnkoaaSl
namespace Go.Proofs.Ytpanfpcfhgnkoaa
open Go.RowKit Go.Shelf
set_option linter.unusedVariables false

attribute [local go_sem] Oper.semAt_some

set_option maxHeartbeats 2000000 in
set_option maxRecDepth 100000 in
theorem does_long (A : Option Addr) (n d : Nat) (many id stop : Int) (w : World) (h : 300 < n) (h2 : n ≤ 9223372036854775807) :
    Calls Try.prog 3 #[.slice A n d, .int .i64 many, .int .i64 id, .int .i64 stop] w fun e w' => e = .returned (.bool true) ∧ Below w.heap.size w w' := by
  obtain ⟨W0, hW0⟩ : ∃ W0, W0 = w.alloc (.cells #[.int .i64 stop] 3) := ⟨_, rfl⟩
  have X0 := Lib.hid (show Row W0 w.heap.size 3 #[.int .i64 stop] by rw [hW0]; exact Row.new _ _ _)
  have B0 := Lib.hid (show Below w.heap.size w W0 by rw [hW0]; exact (Below.refl _ _).alloc (Nat.le_refl _) _)
  have d1 : decide ((n : Int) > 300) = true := decide_eq_true (by omega)
  have d2 : decide ((300 : Int) < (n : Int)) = true := decide_eq_true (by omega)
  clear h h2
  refine (callsIn_wide (n := 3)).1 ?_
  refine callsIn_of_wp_marks Try.func3 rfl trivial ?_ rfl
  refine wpIn_wide.2 ?_
  simp only [Try.ntmps3, List.size_toArray, List.length_cons, List.length_nil, Nat.reduceAdd, Nat.reduceSub, Array.replicate_succ, Array.replicate_zero, List.push_toArray, List.append_toArray, List.nil_append, List.cons_append]
  go_wp2_with fail
  rw [← hW0]
  clear hW0
  go_wp2_with (go_at_call 8; refine (known12_any _).mono ?_; rintro e w9 ⟨rfl, b9⟩; have B9 := Lib.hid (B0.out.trans (b9.mono B0.out.size)); clear b9)
  refine leaves_ret (results_tmp rfl _ _ _) rfl ⟨rfl, B9.out⟩
set_option maxHeartbeats 8000000 in
set_option maxRecDepth 100000 in
theorem does_short (A : Option Addr) (d : Nat) (zs : List Int) (many id stop : Int) (w : World) (hG : Gs eI w 0 w.heap.size (.slice A zs.length d) zs) (hn : zs.length ≤ 300) :
    Calls Try.prog 3 #[.slice A zs.length d, .int .i64 many, .int .i64 id, .int .i64 stop] w fun e w' => e = .returned (.bool true) ∧ Below w.heap.size w w' := by
  obtain ⟨W0, hW0⟩ : ∃ W0, W0 = w.alloc (.cells #[.int .i64 stop] 3) := ⟨_, rfl⟩
  have X0 := Lib.hid (show Row W0 w.heap.size 3 #[.int .i64 stop] by rw [hW0]; exact Row.new _ _ _)
  have B0 := Lib.hid (show Below w.heap.size w W0 by rw [hW0]; exact (Below.refl _ _).alloc (Nat.le_refl _) _)
  have G0 := Lib.hid (hG.step B0.out)
  have HN := Lib.hid hn
  have HS0 := Lib.hid (show W0.heap.size = w.heap.size + 1 by rw [hW0]; simp)
  have d1 : decide ((300 : Int) < (zs.length : Int)) = false := decide_eq_false (by omega)
  have d3 : decide ((zs.length : Int) > 300) = false := decide_eq_false (by omega)
  clear hG hn
  obtain ⟨E, hE⟩ : ∃ E, ofE zs many = E := ⟨_, rfl⟩
  have HE := Lib.hid hE
  clear hE
  by_cases h0 : E = 0
  · subst h0
    have HO := Lib.hid (fun W A7 d7 h => (of_any A7 d7 zs many W h (by have := HN.out; omega)).mono (R' := fun e w' => ∃ g A c, e = .returned (.tuple #[.pointer (some ⟨g, 0, none⟩), .int .i64 0]) ∧ IxN w' W.heap.size g A c zs many ∧ Below W.heap.size W w') fun e w' ⟨p, h1, h2, _, h4⟩ => by
      obtain ⟨g, A, c, hp, hm⟩ := h2 HE.out
      exact ⟨g, A, c, by rw [h1, hp, HE.out], hm, h4⟩)
    refine (callsIn_wide (n := 3)).1 ?_
    refine callsIn_of_wp_marks Try.func3 rfl trivial ?_ rfl
    refine wpIn_wide.2 ?_
    simp only [Try.ntmps3, List.size_toArray, List.length_cons, List.length_nil, Nat.reduceAdd, Nat.reduceSub, Array.replicate_succ, Array.replicate_zero, List.push_toArray, List.append_toArray, List.nil_append, List.cons_append]
    go_wp2_with (first
      | (at_builtin; rw [← hW0, ← HS0.out]; clear hW0; refine wpList_gapp eI _ rfl _ _ _ rfl W0.heap.size sliI infI _ [] rfl (Gw.empty_ _ _ (Nat.le_refl _)) 0 W0.heap.size _ zs rfl (G0.out.alloc (Nat.le_refl _) _) (by have := HN.out; simp; omega) (by simp) ?_; intro v2 w2 o2 g2 _; have B2 := Lib.hid (show Below W0.heap.size W0 w2 from ((Below.refl _ _).alloc (Nat.le_refl _) _).grown g2 (by simp) (fun k h => by injection h with h; subst h; exact Nat.le_refl _)); have O2 := Lib.hid (show Gw eI w2 W0.heap.size v2 zs by simpa using o2); clear o2 g2; obtain ⟨A7, d7, hv7, -⟩ := O2.out.sl; subst hv7; have G2 := Lib.hid (G0.out.step B2.out); have H2 := Lib.hid (O2.out.sl.more (Nat.zero_le _) (Nat.le_refl _)))
      | (go_at_call 9; refine (HO.out _ A7 d7 H2.out).mono ?_; rintro e w3 ⟨g, Ai, ci, rfl, hm, b3⟩; have B3 := Lib.hid (B2.out.trans (b3.mono B2.out.size)); have G3 := Lib.hid (G2.out.step b3); have H3 := Lib.hid (H2.out.step b3); have O3 := Lib.hid (O2.out.below b3 (Nat.le_refl _)); have N3 := Lib.hid hm; have S2 := Lib.hid (fun k (h : (Value.slice A7 zs.length d7).ownBlock = some k) => O2.out.lt k h); clear b3 hm)
      | (go_at_call 10; refine (refOf_any A d zs many _ G3.out (by have := HN.out; omega)).mono ?_; rw [HE.out]; rintro e w4 ⟨rfl, hz⟩; have hz := hz.symm; subst hz)
      | (go_at_call 11; refine (sameI_yes _ _ zs _ _ _ _ _ H3.out G3.out).mono ?_; rintro e w5 ⟨rfl, nz, hz⟩; have U5 := Lib.hid (show Below w3.heap.size w3 w5 by rw [hz]; exact below_drewN (Below.refl _ _) nz); clear hz)
    )
    obtain ⟨n, hn⟩ : ∃ n, zs.length = n := ⟨_, rfl⟩
    have HNN := Lib.hid hn
    rw [hn]
    clear hn
    have R5 := Lib.hid (show Gw eI w5 W0.heap.size (.slice A7 n d7) zs by rw [← HNN.out]; exact O3.out.below U5.out (Nat.le_refl _))
    have N5 := Lib.hid (N3.out.step U5.out)
    have G5 := Lib.hid (G3.out.step U5.out)
    have S5 := Lib.hid (show ∀ k, (Value.slice A7 n d7).ownBlock = some k → W0.heap.size ≤ k ∧ k < w2.heap.size by rw [← HNN.out]; exact S2.out)
    have B5 := Lib.hid (B3.out.trans (U5.out.mono B3.out.size))
    go_loopw [49] (fun i wr => ∃ k : Nat, k ≤ n ∧ i = .int .i64 k ∧ (∃ l, l.length = n ∧ Gw eI wr W0.heap.size (.slice A7 n d7) l) ∧ w5.grownBy wr (Value.slice A7 n d7).ownBlock) (fun i _ => n - (intOf i).toNat)
    case atStart => exact ⟨0, Nat.zero_le _, rfl, ⟨zs, HNN.out, R5.out⟩, World.grownBy.refl _ _⟩
    case round =>
      obtain ⟨k, hk, rfl, ⟨l, hl, ho⟩, hgr⟩ := hrel
      have hns := HN.out
      rw [HNN.out] at hns
      by_cases hlt : k < n
      · obtain ⟨b', c', e', -, -, hge, hltb, hcl, hfr⟩ := ho.form (by rintro rfl; simp at hl; omega)
        injection e' with e1 e2 e3
        subst e1 e3
        have hfz := hfr k
        obtain ⟨y, hy⟩ : ∃ y, l[k]? = some y := ⟨_, List.getElem?_eq_getElem (by omega)⟩
        have hck := hcl k y hy
        simp only [eI] at hck
        have hst := ho.stored k (wrap64 (y + 1))
        have HST := Lib.hid hst
        have HGR := Lib.hid hgr
        have HLL := Lib.hid hl
        clear hcl hfr e2 hy hst ho hgr hl
        go_wp2
        go_roundw
        case rel => exact ⟨k + 1, by omega, by go_num, ⟨l.set k (wrap64 (y + 1)), by rw [List.length_set]; exact HLL.out, HST.out⟩, HGR.out.trans (grown_set _ b' k _)⟩
        case measure => simp [intOf]; omega
      · obtain rfl : k = n := by omega
        have hlo : ∀ j, (Value.slice A7 k d7).ownBlock = some j → W0.heap.size ≤ j := fun j e => (S5.out j e).1
        have C9 := Lib.hid (show Below W0.heap.size W0 wr from B5.out.grown hgr (by have := B5.out.size; omega) hlo)
        have N9 := Lib.hid (N5.out.grown hgr (fun j e => (S5.out j e).2))
        have G9 := Lib.hid (G0.out.step C9.out)
        have X9 := Lib.hid (X0.out.below C9.out X0.out.lt)
        have U9 := Lib.hid (B0.out.trans (C9.out.mono B0.out.size))
        have hqn := fun W f a b => run_eql_func_nil (P := Try.prog) W 31 _ _ _ f a b Try.underlying31
        clear hgr ho hl R5 N5 G5 B5 S5 U5 G3 H3 O3 N3 S2 G2 H2 O2 B2 B3 hlo
        have B6a := Lib.hid ((Below.refl wr.heap.size wr).alloc (Nat.le_refl _) (.cells #[.int .i64 0] 3))
        have L6a := Lib.hid (Row.new wr 3 #[.int .i64 0])
        go_wp2_with (go_at_call 12; refine (all_any _ _ _ _ Ai _ ci _ (N9.out.m.step B6a.out).at_).mono ?_; rintro e w6 ⟨Bs6, rfl, -, -, b6⟩; have U6 := Lib.hid (B6a.out.trans (b6.mono B6a.out.size)); have L6 := Lib.hid (L6a.out.below b6 L6a.out.lt); clear b6; go_wp2_with (go_at_call 12; refine (all_any _ _ _ _ Ai _ ci _ (N9.out.m.step U6.out).at_).mono ?_; rintro e w7 ⟨Bs, rfl, hs, hr, b7⟩; have HLT := Lib.hid (show wr.heap.size < Bs by have := L6.out.lt; omega); have U7 := Lib.hid (U6.out.trans (b7.mono U6.out.size)); have L7 := Lib.hid (L6.out.below b7 L6.out.lt); have R7 := Lib.hid hr; clear b7 hs hr))
        have HSEQ := N9.out.m.seqs w7 Bs U7.out (by have := HLT.out; omega) R7.out
        refine (wpIn_wide (n := 3)).1 ?_
        refine range_two (n₀ := wr.heap.size) (Bs := Bs) U7.out.size R7.out.lt rfl (enters_of Try.func31 (by kernel_rfl) rfl) HSEQ (Below.refl _ _)
          (fun xs W => Row W wr.heap.size 3 #[.int .i64 (xs.length : Int)] ∧ Below wr.heap.size wr W)
          (fun c xs W => c = Code.exit 2 ∧ Below wr.heap.size wr W)
          (fun s X Y row hs hg hr => ⟨row_own (β := Unit) hs.1 hg (fun r e => (hr r e).2), (ownFrom_below (β := List (Nat × Int)) (Nat.le_refl _) U7.out.size) s X Y row hs.2 hg hr⟩)
          (fun c s X Y row hs hg hr => ⟨hs.1, (ownFrom_below (β := List (Nat × Int)) (Nat.le_refl _) U7.out.size) s X Y row hs.2 hg hr⟩) ⟨L7.out, U7.out⟩ (fun ts x => (ts.setIfInBounds 64 (.int .i64 (x.1 : Int))).setIfInBounds 65 (.int .i64 x.2)) ?assign ?body ?done ?stop
        case assign =>
          intro l x W K hK
          gi_wp2
          exact hK
        case body =>
          rintro y pre x W ⟨hL, hB⟩ hpl
          have HL := Lib.hid hL
          have HB := Lib.hid hB
          obtain ⟨p0, hp0⟩ : ∃ p0, pre.length = p0 := ⟨_, rfl⟩
          have HP0 := Lib.hid hp0
          rw [hp0] at hL hpl
          have XB := Lib.hid (X9.out.below hB X9.out.lt)
          have a0 := cell_row hL
          have f0 := hL.frozen 0
          have c5 := cell_row XB.out
          have ha := wrap_add1 (a := p0) (by have := HN.out; omega)
          have hb1 : ¬ wr.heap.size = w.heap.size := by have := X9.out.lt; omega
          have hb2 : ¬ w.heap.size = wr.heap.size := by have := X9.out.lt; omega
          have keep : KeepsFrom w7.heap.size W (W.setCell ⟨wr.heap.size, 0, none⟩ (.int .i64 ((p0 : Int) + 1))) := KeepsFrom.of_grownBy (grown_set W wr.heap.size 0 _) (fun j e => by injection e with e; have := L7.out.lt; omega)
          have KEEP := Lib.hid keep
          have hkb : KB wr.heap.size Bs W (W.setCell ⟨wr.heap.size, 0, none⟩ (.int .i64 ((p0 : Int) + 1))) := ⟨(Below.refl wr.heap.size W).setCell (p := ⟨wr.heap.size, 0, none⟩) (Nat.le_refl _) _, Below.heap_setCell W ⟨wr.heap.size, 0, none⟩ _ _ (by have := HLT.out; show Bs ≠ wr.heap.size; omega)⟩
          have HKB := Lib.hid hkb
          have hrow : Row (W.setCell ⟨wr.heap.size, 0, none⟩ (.int .i64 ((p0 : Int) + 1))) wr.heap.size 3 #[.int .i64 ((pre ++ [x]).length : Int)] := by
            have hs := HL.out.set_ 0 (.int .i64 ((p0 : Int) + 1))
            rw [List.length_append, List.length_cons, List.length_nil, HP0.out]
            exact hs
          have HROW := Lib.hid hrow
          clear hL hB hp0 hpl keep hrow hkb
          try simp only [List.setIfInBounds_toArray, List.set_cons_zero, List.set_cons_succ]
          by_cases hst : stop ≤ ((p0 : Int) + 1)
          · have d1 : decide (stop ≤ ((p0 : Int) + 1)) = true := decide_eq_true hst
            clear hst
            gi_wp2
            exact ⟨KEEP.out, rfl, HB.out.setCell (p := ⟨wr.heap.size, 0, none⟩) (Nat.le_refl _) _⟩
          · have d1 : decide (stop ≤ ((p0 : Int) + 1)) = false := decide_eq_false hst
            clear hst
            gi_wp2
            exact ⟨KEEP.out, HKB.out, HROW.out, HB.out.setCell (p := ⟨wr.heap.size, 0, none⟩) (Nat.le_refl _) _⟩
        case done =>
          rintro D xs u7 hD - ⟨-, hB⟩ hK
          have HK7 := Lib.hid hK
          have HD7 := Lib.hid (show w.heap.size < D by have := X9.out.lt; have := U7.out.size; omega)
          have B7 := Lib.hid (U9.out.trans (hB.mono U9.out.size))
          have D7 := Lib.hid ((N9.out.step hB).ix)
          have O7 := Lib.hid (G9.out.step hB)
          have h7 := told12_any _ A d zs many id u7 D7.out O7.out (by have := HN.out; omega)
          rw [HNN.out] at h7
          have T7 := Lib.hid h7
          clear hK hB hD HSEQ h7
          go_wp2_with (first
            | (go_at_call 13; refine T7.out.mono ?_; rintro e u8 ⟨rfl, b8⟩; have K8 := Lib.hid (keepD HK7.out b8); have B8 := Lib.hid (B7.out.trans (b8.mono B7.out.size)); clear b8)
            | (go_at_call 8; refine (known12_any _).mono ?_; rintro e u9 ⟨rfl, b9⟩; have K9 := Lib.hid (keepD K8.out b9); have B9 := Lib.hid (B8.out.trans (b9.mono B8.out.size)); clear b9))
          have hD0 := HD7.out
          have BF : Below w.heap.size w (u9.putObj D (.deferred none)) := B9.out.trans (belowK_b (w := w) (Nat.le_refl _) _ D _ _ (by omega) K9.out rfl rfl)
          exact leaves_mark (D := D) rfl K9.out (results_tmp rfl _ _ _) ⟨rfl, BF⟩
        case stop =>
          rintro D c xs u7 hD - ⟨rfl, hB⟩ hK
          gi_wp2
          have HK7 := Lib.hid hK
          have HD7 := Lib.hid (show w.heap.size < D by have := X9.out.lt; have := U7.out.size; omega)
          have B7 := Lib.hid (U9.out.trans (hB.mono U9.out.size))
          have D7 := Lib.hid ((N9.out.step hB).ix)
          have O7 := Lib.hid (G9.out.step hB)
          have h7 := told12_any _ A d zs many id u7 D7.out O7.out (by have := HN.out; omega)
          rw [HNN.out] at h7
          have T7 := Lib.hid h7
          clear hK hB hD HSEQ h7
          go_wp2_with (first
            | (go_at_call 13; refine T7.out.mono ?_; rintro e u8 ⟨rfl, b8⟩; have K8 := Lib.hid (keepD HK7.out b8); have B8 := Lib.hid (B7.out.trans (b8.mono B7.out.size)); clear b8)
            | (go_at_call 8; refine (known12_any _).mono ?_; rintro e u9 ⟨rfl, b9⟩; have K9 := Lib.hid (keepD K8.out b9); have B9 := Lib.hid (B8.out.trans (b9.mono B8.out.size)); clear b9))
          have hD0 := HD7.out
          have BF : Below w.heap.size w (u9.putObj D (.deferred none)) := B9.out.trans (belowK_b (w := w) (Nat.le_refl _) _ D _ _ (by omega) K9.out rfl rfl)
          exact leaves_mark (D := D) rfl K9.out (results_tmp rfl _ _ _) ⟨rfl, BF⟩
  · skip
    have HO := Lib.hid (fun W A7 d7 h => (of_any A7 d7 zs many W h (by have := HN.out; omega)).mono (R' := fun e w' => e = .returned (.tuple #[.pointer none, .int .i64 E]) ∧ Below W.heap.size W w') fun e w' ⟨p, h1, _, h3, h4⟩ => ⟨by rw [h1, h3 (by rw [HE.out]; exact h0), HE.out], h4⟩)
    have e2 : (E != 0) = true := by simp [h0]
    clear h0
    refine (callsIn_wide (n := 3)).1 ?_
    refine callsIn_of_wp_marks Try.func3 rfl trivial ?_ rfl
    refine wpIn_wide.2 ?_
    simp only [Try.ntmps3, List.size_toArray, List.length_cons, List.length_nil, Nat.reduceAdd, Nat.reduceSub, Array.replicate_succ, Array.replicate_zero, List.push_toArray, List.append_toArray, List.nil_append, List.cons_append]
    go_wp2_with (first
      | (at_builtin; rw [← hW0, ← HS0.out]; clear hW0; refine wpList_gapp eI _ rfl _ _ _ rfl W0.heap.size sliI infI _ [] rfl (Gw.empty_ _ _ (Nat.le_refl _)) 0 W0.heap.size _ zs rfl (G0.out.alloc (Nat.le_refl _) _) (by have := HN.out; simp; omega) (by simp) ?_; intro v2 w2 o2 g2 _; have B2 := Lib.hid (show Below W0.heap.size W0 w2 from ((Below.refl _ _).alloc (Nat.le_refl _) _).grown g2 (by simp) (fun k h => by injection h with h; subst h; exact Nat.le_refl _)); have O2 := Lib.hid (show Gw eI w2 W0.heap.size v2 zs by simpa using o2); clear o2 g2; obtain ⟨A7, d7, hv7, -⟩ := O2.out.sl; subst hv7; have G2 := Lib.hid (G0.out.step B2.out); have H2 := Lib.hid (O2.out.sl.more (Nat.zero_le _) (Nat.le_refl _)))
      | (go_at_call 9; refine (HO.out _ A7 d7 H2.out).mono ?_; rintro e w3 ⟨rfl, b3⟩; have B3 := Lib.hid (B2.out.trans (b3.mono B2.out.size)); have G3 := Lib.hid (G2.out.step b3); have H3 := Lib.hid (H2.out.step b3); clear b3)
      | (go_at_call 10; refine (refOf_any A d zs many _ G3.out (by have := HN.out; omega)).mono ?_; rw [HE.out]; rintro e w4 ⟨rfl, hz⟩; have hz := hz.symm; subst hz)
      | (go_at_call 11; refine (sameI_yes _ _ zs _ _ _ _ _ H3.out G3.out).mono ?_; rintro e w5 ⟨rfl, nz, hz⟩; have U5 := Lib.hid (show Below w3.heap.size w3 w5 by rw [hz]; exact below_drewN (Below.refl _ _) nz); clear hz)
      | (go_at_call 8; refine (known12_any _).mono ?_; rintro e w9 ⟨rfl, b9⟩; have B9 := Lib.hid (B0.out.trans ((B3.out.trans ((U5.out.trans (b9.mono U5.out.size)).mono B3.out.size)).mono B0.out.size)); clear b9))
    refine leaves_ret (results_tmp rfl _ _ _) rfl ⟨rfl, B9.out⟩
end Go.Proofs.Ytpanfpcfhgnkoaa
