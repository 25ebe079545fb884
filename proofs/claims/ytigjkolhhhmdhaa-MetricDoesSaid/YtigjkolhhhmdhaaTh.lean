/- Walks: the law MetricDoes. -/
import Derived.Test.YtigjkolhhhmdhaaTg
namespace Go.Proofs.Ytigjkolhhhmdhaa
open Go.RowKit Go.Shelf
set_option linter.unusedVariables false

set_option maxHeartbeats 1000000 in
theorem does_long (A : Option Addr) (n d : Nat) (i k : Int) (w : World) (h : 300 < n) :
    Calls Try.prog 3 #[.slice A n d, .int .i64 i, .int .i64 k] w fun e w' => e = .returned (.bool true) ∧ Below w.heap.size w w' := by
  have d1 : decide ((n : Int) > 300) = true := decide_eq_true (by omega)
  have d2 : decide ((300 : Int) < (n : Int)) = true := decide_eq_true (by omega)
  clear h
  go_enter Try.func3, Try.ntmps3
  go_wp2_with (go_at_call 8; refine (known13_any _).mono ?_; rintro e w9 ⟨rfl, b9⟩)
  go_ret
  exact ⟨rfl, b9⟩
set_option maxHeartbeats 8000000 in
set_option maxRecDepth 100000 in
theorem does_short (A : Option Addr) (d : Nat) (zs : List Int) (i k : Int) (w : World) (hG : Gs eL w 0 w.heap.size (.slice A zs.length d) zs) (hn : zs.length ≤ 300) :
    Calls Try.prog 3 #[.slice A zs.length d, .int .i64 i, .int .i64 k] w fun e w' => e = .returned (.bool true) ∧ Below w.heap.size w w' := by
  have G0 := Lib.hid hG
  have HNS := Lib.hid hn
  have d1 : decide ((300 : Int) < (zs.length : Int)) = false := decide_eq_false (by omega)
  have d3 : decide ((zs.length : Int) > 300) = false := decide_eq_false (by omega)
  have HO := Lib.hid (fun W A7 d7 h => of_any A7 d7 zs W h (by omega))
  have HT := Lib.hid (fun g A' c W i k h1 h2 => told13_any g A' c A d zs i k W h1 h2)
  have HLT := Lib.hid (fun W (h : Gs eL W 0 W.heap.size (.slice A zs.length d) zs) => sameL_yes (l := zs) (hu := h) (W := W))
  clear hG hn
  obtain ⟨n, hnn⟩ : ∃ n, zs.length = n := ⟨_, rfl⟩
  have HNN := Lib.hid hnn
  rw [hnn] at G0 HNS d1 d3 HO HT HLT ⊢
  clear hnn
  go_enter Try.func3, Try.ntmps3
  go_wp2_with (first
    | (at_builtin; refine wpList_gapp eL _ rfl _ _ _ rfl w.heap.size sliL infL _ [] rfl (Gw.empty_ _ _ (Nat.le_refl _)) 0 w.heap.size _ zs rfl (G0.out.alloc (Nat.le_refl _) _) (by have := HNS.out; have := HNN.out; simp; omega) (by simp) ?_; intro v2 w2 o2 g2 hj; clear hj; have B2 := Lib.hid (show Below w.heap.size w w2 from ((Below.refl _ _).alloc (Nat.le_refl _) _).grown g2 (by simp) (fun k h => by injection h with h; subst h; exact Nat.le_refl _)); have O2 := Lib.hid (show Gw eL w2 w.heap.size v2 zs by simpa using o2); clear o2 g2; obtain ⟨A7, d7, hv7, -⟩ := O2.out.sl; rw [HNN.out] at hv7; subst hv7; have G2 := Lib.hid (G0.out.step B2.out); have H2 := Lib.hid (O2.out.sl.more (Nat.zero_le _) (Nat.le_refl _)); have S2 := Lib.hid (fun k (h : (Value.slice A7 n d7).ownBlock = some k) => O2.out.lt k h))
    | (go_at_call 9; refine (HO.out _ A7 d7 H2.out).mono ?_; rintro e w3 ⟨g, Ai, ci, rfl, hm, b3⟩; have B3 := Lib.hid (B2.out.trans (b3.mono B2.out.size)); have G3 := Lib.hid (G2.out.step b3); have H3 := Lib.hid (H2.out.step b3); have O3 := Lib.hid (O2.out.below b3 (Nat.le_refl _)); have N3 := Lib.hid hm; clear b3 hm)
    | (go_at_call 10; refine (sameL_yes _ _ zs _ _ _ _ _ H3.out G3.out).mono ?_; rintro e w5 ⟨rfl, nz, hz⟩; have U5 := Lib.hid (show Below w3.heap.size w3 w5 by rw [hz]; exact below_drewN (Below.refl _ _) nz); clear hz))
  have R5 := Lib.hid (O3.out.below U5.out (Nat.le_refl _))
  have N5 := Lib.hid (N3.out.step U5.out)
  have B5 := Lib.hid (B3.out.trans (U5.out.mono B3.out.size))
  clear G2 G3 H2 H3 O3 N3 B2 B3 U5 HO
  go_loopw [37] (fun i wr => ∃ k : Nat, k ≤ n ∧ i = .int .i64 k ∧ (∃ l, l.length = n ∧ Gw eL wr w.heap.size (.slice A7 n d7) l) ∧ w5.grownBy wr (Value.slice A7 n d7).ownBlock) (fun i _ => n - (intOf i).toNat)
  case atStart => exact ⟨0, Nat.zero_le _, rfl, ⟨zs, HNN.out, R5.out⟩, World.grownBy.refl _ _⟩
  case round =>
    obtain ⟨k, hk, rfl, ⟨l, hl, ho⟩, hgr⟩ := hrel
    have hns := HNS.out
    by_cases hlt : k < n
    · obtain ⟨b', c', e', -, -, hge, hltb, hcl, hfr⟩ := ho.form (by rintro rfl; simp at hl; omega)
      injection e' with e1 e2 e3
      have hfz := hfr k
      obtain ⟨y, hy⟩ : ∃ y, l[k]? = some y := ⟨_, List.getElem?_eq_getElem (by omega)⟩
      have hck := hcl k y hy
      simp only [eL] at hck
      have HGR := Lib.hid hgr
      subst e1 e3
      have hst := ho.stored k (wrap64 (y + 1))
      have HST := Lib.hid hst
      have HLL := Lib.hid hl
      clear hcl hfr e2 hy hst ho hgr hl
      go_wp2
      go_roundw
      case rel => exact ⟨k + 1, by omega, by go_num, ⟨l.set k (wrap64 (y + 1)), by rw [List.length_set]; exact HLL.out, HST.out⟩, HGR.out.trans (grown_set _ b' k _)⟩
      case measure => simp [intOf]; omega
    · obtain rfl : k = n := by omega
      have hlo : ∀ j, (Value.slice A7 k d7).ownBlock = some j → w.heap.size ≤ j := fun j e => (S2.out j e).1
      have C9 := Lib.hid (show Below w.heap.size w wr from B5.out.grown hgr (by have := B5.out.size; omega) hlo)
      have N9 := Lib.hid (N5.out.grown hgr (fun j e => (S2.out j e).2))
      have G9 := Lib.hid (G0.out.step C9.out)
      clear hgr ho hl R5 N5 B5 S2 hlo G0
      go_wp2_with (go_at_call 11; refine (HT.out g Ai ci _ _ _ N9.out.m G9.out).mono ?_; rintro e u1 ⟨rfl, b1⟩; have C1 := Lib.hid (C9.out.trans (b1.mono C9.out.size)); have N1 := Lib.hid (N9.out.step b1); have G1 := Lib.hid (G9.out.step b1); clear b1; go_wp2_with (first
        | (go_at_call 11; refine (HT.out g Ai ci _ _ _ N1.out.m G1.out).mono ?_; rintro e u2 ⟨rfl, b2⟩; have C2 := Lib.hid (C1.out.trans (b2.mono C1.out.size)); clear b2)
        | (go_at_call 8; refine (known13_any _).mono ?_; rintro e u3 ⟨rfl, b3⟩; have C3 := Lib.hid (C2.out.trans (b3.mono C2.out.size)); clear b3)))
      go_ret
      exact ⟨rfl, C3.out⟩
end Go.Proofs.Ytigjkolhhhmdhaa
