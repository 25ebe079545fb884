/- Walks: Read and the document's Read of any bytes; the law MetricReads. -/
import Derived.Test.YtigjkolhhhmdhaaTl
import Derived.Test.YtigjkolhhhmdhaaTm
import Derived.Test.YtigjkolhhhmdhaaTg
namespace Go.Proofs.Ytigjkolhhhmdhaa
open Go.RowKit
set_option linter.unusedVariables false

/-- The numbers of bytes. -/
def rdL (b : List UInt8) : List Int := rL b 20 (rN b)
theorem rdE_short {b : List UInt8} {rows : Int} (h : b.length < 4) : rdE b rows = 4 := by unfold rdE; rw [if_pos h]
theorem rdE_long {b : List UInt8} {rows : Int} (h : ¬ b.length < 4) (h1 : 16777216 < rN b) : rdE b rows = 3 := by unfold rdE; rw [if_neg h, if_pos h1]
theorem rdE_cut {b : List UInt8} {rows : Int} (h : ¬ b.length < 4) (h1 : ¬ 16777216 < rN b) (h2 : b.length < 20 + 8 * rN b) : rdE b rows = 4 := by unfold rdE; rw [if_neg h, if_neg h1, if_pos h2]
theorem rdE_form {b : List UInt8} {rows : Int} (h : ¬ b.length < 4) (h1 : ¬ 16777216 < rN b) (h2 : ¬ b.length < 20 + 8 * rN b) (h3 : ¬ ((rN b : Int) = rows ∧ cB (rL b 20 (rN b)) = b)) : rdE b rows = 5 := by unfold rdE; rw [if_neg h, if_neg h1, if_neg h2, if_neg h3]
theorem rdE_yes {b : List UInt8} {rows : Int} (h : ¬ b.length < 4) (h1 : ¬ 16777216 < rN b) (h2 : ¬ b.length < 20 + 8 * rN b) (h3 : (rN b : Int) = rows ∧ cB (rL b 20 (rN b)) = b) : rdE b rows = 0 := by unfold rdE; rw [if_neg h, if_neg h1, if_neg h2, if_pos h3]
theorem cB_size {b : List UInt8} (h : cB (rL b 20 (rN b)) = b) : b.length = 20 + 8 * rN b := by
  have := congrArg List.length h
  rw [cB_len, rL_len] at this
  omega
theorem rdE_zero {b : List UInt8} {rows : Int} (h : rdE b rows = 0) : (rN b : Int) = rows ∧ cB (rL b 20 (rN b)) = b := by
  by_cases h1 : b.length < 4
  · rw [rdE_short h1] at h; omega
  · by_cases h2 : 16777216 < rN b
    · rw [rdE_long h1 h2] at h; omega
    · by_cases h3 : b.length < 20 + 8 * rN b
      · rw [rdE_cut h1 h2 h3] at h; omega
      · by_cases h4 : (rN b : Int) = rows ∧ cB (rL b 20 (rN b)) = b
        · exact h4
        · rw [rdE_form h1 h2 h3 h4] at h; omega
theorem rdL_small {b : List UInt8} {rows : Int} (h : rdE b rows = 0) : (rdL b).length ≤ b.length := by
  have := cB_size (rdE_zero h).2
  unfold rdL
  rw [rL_len]
  omega
theorem read_any (A : Option Addr) (c : Nat) (b : List UInt8) (rows : Int) (w : World) (hG : Gs e8 w 0 w.heap.size (.slice A b.length c) b) (hl : b.length ≤ 10000) :
    Calls Try.prog 12 #[.slice A b.length c, .int .i64 rows] w fun e w' => ∃ p, e = .returned (.tuple #[p, .int .i64 (rdE b rows)]) ∧ (rdE b rows = 0 → ∃ g A c, p = .pointer (some ⟨g, 0, none⟩) ∧ CxN w' w.heap.size g A c (rdL b)) ∧ (rdE b rows ≠ 0 → p = .pointer none) ∧ Below w.heap.size w w' := by
  have no : ∀ (k : Int), k ≠ 0 → rdE b rows = k → (∀ (e : Ending) (w' : World), (e = .returned (.tuple #[.pointer none, .int .i64 k]) ∧ Below w.heap.size w w') → ∃ p : Value, e = .returned (.tuple #[p, .int .i64 (rdE b rows)]) ∧ (rdE b rows = 0 → ∃ g A c, p = .pointer (some ⟨g, 0, none⟩) ∧ CxN w' w.heap.size g A c (rdL b)) ∧ (rdE b rows ≠ 0 → p = .pointer none) ∧ Below w.heap.size w w') := by
    intro k hk hE e w' ⟨he, hb⟩
    rw [hE]
    exact ⟨_, he, fun h => absurd h hk, fun _ => rfl, hb⟩
  by_cases h1 : b.length < 4
  · exact (read_short A c b rows w h1).mono (no 4 (by decide) (rdE_short h1))
  · by_cases h2 : 16777216 < rN b
    · exact (read_long A c b rows w hG (by omega) h2).mono (no 3 (by decide) (rdE_long h1 h2))
    · by_cases h3 : b.length < 20 + 8 * rN b
      · exact (read_cut A c b rows w hG (by omega) h2 h3).mono (no 4 (by decide) (rdE_cut h1 h2 h3))
      · by_cases h4 : (rN b : Int) = rows ∧ cB (rL b 20 (rN b)) = b
        · have hs := cB_size h4.2
          refine (read_yes A c b rows w hG hl (by omega) h2 hs h4.1 ((same_iff b hs).1 h4.2)).mono ?_
          intro e w' ⟨⟨g, A, c, he, hm⟩, hb⟩
          rw [rdE_yes h1 h2 h3 h4]
          exact ⟨_, he, fun _ => ⟨g, A, c, rfl, hm⟩, fun h => absurd rfl h, hb⟩
        · have hE := no 5 (by decide) (rdE_form h1 h2 h3 h4)
          by_cases h5 : 20 + 8 * rN b < b.length
          · exact (read_more A c b rows w hG (by omega) h2 h5).mono hE
          · have hs : b.length = 20 + 8 * rN b := by omega
            by_cases h6 : (rN b : Int) = rows
            · have h7 : ¬ (loI (rL b 20 (rN b)) = z8 b 4 ∧ hiI (rL b 20 (rN b)) = z8 b 12) := fun h => h4 ⟨h6, (same_iff b hs).2 h⟩
              by_cases h8 : loI (rL b 20 (rN b)) = z8 b 4
              · exact (read_ends2 A c b rows w hG hl (by omega) h2 hs h6 ⟨h8, fun h => h7 ⟨h8, h⟩⟩).mono hE
              · exact (read_ends1 A c b rows w hG hl (by omega) h2 hs h6 ⟨h8, rfl⟩).mono hE
            · exact (read_rows A c b rows w hG (by omega) h2 hs h6).mono hE
theorem refRead_any (A : Option Addr) (c : Nat) (b : List UInt8) (rows : Int) (w : World) (hG : Gs e8 w 0 w.heap.size (.slice A b.length c) b) (hl : b.length ≤ 10000) :
    Calls Try.prog 13 #[.slice A b.length c, .int .i64 rows] w fun e w' => ∃ v, e = .returned (.tuple #[v, .int .i64 (rdE b rows)]) ∧ (rdE b rows = 0 → Gw eL w' w.heap.size v (rdL b)) ∧ Below w.heap.size w w' := by
  have no : ∀ (k : Int), k ≠ 0 → rdE b rows = k → (∀ (e : Ending) (w' : World), (e = .returned (.tuple #[.slice none 0 0, .int .i64 k]) ∧ Below w.heap.size w w') → ∃ v, e = .returned (.tuple #[v, .int .i64 (rdE b rows)]) ∧ (rdE b rows = 0 → Gw eL w' w.heap.size v (rdL b)) ∧ Below w.heap.size w w') := by
    intro k hk hE e w' ⟨he, hb⟩
    rw [hE]
    exact ⟨_, he, fun h => absurd h hk, hb⟩
  by_cases h1 : b.length < 4
  · exact (rread_short A c b rows w hG hl h1).mono (no 4 (by decide) (rdE_short h1))
  · by_cases h2 : 16777216 < rN b
    · exact (rread_long A c b rows w hG hl (by omega) h2).mono (no 3 (by decide) (rdE_long h1 h2))
    · by_cases h3 : b.length < 20 + 8 * rN b
      · exact (rread_cut A c b rows w hG hl (by omega) h2 h3).mono (no 4 (by decide) (rdE_cut h1 h2 h3))
      · by_cases h6 : (rN b : Int) = rows
        · by_cases h7 : cB (rL b 20 (rN b)) = b
          · refine (rread_yes A c b rows w hG hl (by omega) h2 h3 h6 h7).mono ?_
            intro e w' ⟨⟨v, he, hm⟩, hb⟩
            rw [rdE_yes h1 h2 h3 ⟨h6, h7⟩]
            exact ⟨_, he, fun _ => hm, hb⟩
          · exact (rread_ends A c b rows w hG hl (by omega) h2 h3 h6 h7).mono (no 5 (by decide) (rdE_form h1 h2 h3 (fun h => h7 h.2)))
        · exact (rread_rows A c b rows w hG hl (by omega) h2 h3 h6).mono (no 5 (by decide) (rdE_form h1 h2 h3 (fun h => h6 h.1)))
set_option maxHeartbeats 2000000 in
set_option maxRecDepth 100000 in
theorem reads_long (A : Option Addr) (n c : Nat) (rows : Int) (w : World) (h : 3000 < n) : Calls Try.prog 4 #[.slice A n c, .int .i64 rows] w fun e w' => e = .returned (.bool true) ∧ Below w.heap.size w w' := by
  have d2 : decide ((3000 : Int) < (n : Int)) = true := decide_eq_true (by omega)
  clear h
  go_enter Try.func4, Try.ntmps4
  go_wp2_with (go_at_call 8; refine (known13_any _).mono ?_; rintro e w9 ⟨rfl, b9⟩; have B9 := Lib.hid b9; clear b9)
  go_ret
  exact ⟨rfl, B9.out⟩
set_option maxHeartbeats 4000000 in
set_option maxRecDepth 100000 in
theorem reads_no (A : Option Addr) (c : Nat) (b : List UInt8) (rows : Int) (w : World) (hG : Gs e8 w 0 w.heap.size (.slice A b.length c) b) (hn : b.length ≤ 3000) (h0 : rdE b rows ≠ 0) : Calls Try.prog 4 #[.slice A b.length c, .int .i64 rows] w fun e w' => e = .returned (.bool true) ∧ Below w.heap.size w w' := by
  have G0 := Lib.hid hG
  have HN := Lib.hid hn
  have d2 : decide ((3000 : Int) < (b.length : Int)) = false := decide_eq_false (by omega)
  clear hG hn
  obtain ⟨E, hE⟩ : ∃ E, rdE b rows = E := ⟨_, rfl⟩
  rw [hE] at h0
  have HRD := Lib.hid (fun W A7 d7 h => (read_any A7 d7 b rows W h (by have := HN.out; omega)).mono (R' := fun e w' => e = .returned (.tuple #[.pointer none, .int .i64 E]) ∧ Below W.heap.size W w') fun e w' ⟨p, h1, _, h3, h4⟩ => ⟨by rw [h1, h3 (by rw [hE]; exact h0), hE], h4⟩)
  have HRR := Lib.hid (fun W h => (refRead_any A c b rows W h (by have := HN.out; omega)).mono (R' := fun e w' => ∃ v, e = .returned (.tuple #[v, .int .i64 E]) ∧ Below W.heap.size W w') fun e w' ⟨v, h1, h2, h4⟩ => ⟨v, by rw [h1, hE], h4⟩)
  have e2 : (E != 0) = true := by simp [h0]
  clear h0 hE
  go_enter Try.func4, Try.ntmps4
  go_wp2_with (first
    | (at_builtin; refine wpList_gapp e8 _ rfl _ _ _ rfl w.heap.size sli8 inf8 _ [] rfl (Gw.empty_ _ _ (Nat.le_refl _)) 0 w.heap.size _ b rfl (G0.out.alloc (Nat.le_refl _) _) (by have := HN.out; simp; omega) (by simp) ?_; intro v2 w2 o2 g2 _; have B2 := Lib.hid (show Below w.heap.size w w2 from ((Below.refl _ _).alloc (Nat.le_refl _) _).grown g2 (by simp) (fun k h => by injection h with h; subst h; exact Nat.le_refl _)); have O2 := Lib.hid (show Gw e8 w2 w.heap.size v2 b by simpa using o2); clear o2 g2; obtain ⟨A7, d7, hv7, -⟩ := O2.out.sl; subst hv7; have G2 := Lib.hid (G0.out.step B2.out); have H2 := Lib.hid (O2.out.sl.more (Nat.zero_le _) (Nat.le_refl _)))
    | (go_at_call 12; refine (HRD.out _ A7 d7 H2.out).mono ?_; rintro e w3 ⟨rfl, b3⟩; have B3 := Lib.hid (B2.out.trans (b3.mono B2.out.size)); have G3 := Lib.hid (G2.out.step b3); have H3 := Lib.hid (H2.out.step b3); have O3 := Lib.hid (O2.out.below b3 (Nat.le_refl _)); clear b3)
    | (go_at_call 13; refine (HRR.out _ G3.out).mono ?_; rintro e w4 ⟨v4, rfl, b4⟩; have B4 := Lib.hid (B3.out.trans (b4.mono B3.out.size)); have s1 := str8 (H3.out.step b4); have s2 := str8 (G3.out.step b4); have O4 := Lib.hid (O3.out.below b4 (Nat.le_refl _)); clear b4))
  clear s1 s2
  obtain ⟨n, hn⟩ : ∃ n, b.length = n := ⟨_, rfl⟩
  have HNN := Lib.hid hn
  rw [hn]
  clear hn
  have R5 := Lib.hid (show Gw e8 w4 w.heap.size (.slice A7 n d7) b by rw [← HNN.out]; exact O4.out)
  have S5 := Lib.hid (show ∀ k, (Value.slice A7 n d7).ownBlock = some k → w.heap.size ≤ k by intro k h; rw [← HNN.out] at h; exact (O4.out.lt k h).1)
  go_loopw [42] (fun i wr => ∃ k : Nat, k ≤ n ∧ i = .int .i64 k ∧ (∃ l, l.length = n ∧ Gw e8 wr w.heap.size (.slice A7 n d7) l) ∧ w4.grownBy wr (Value.slice A7 n d7).ownBlock) (fun i _ => n - (intOf i).toNat)
  case atStart => exact ⟨0, Nat.zero_le _, rfl, ⟨b, HNN.out, R5.out⟩, World.grownBy.refl _ _⟩
  case round =>
    obtain ⟨k, hk, rfl, ⟨l, hl, ho⟩, hgr⟩ := hrel
    have hns := HN.out
    rw [HNN.out] at hns
    by_cases hlt : k < n
    · obtain ⟨b', c', e', -, -, hge, hltb, hcl, hfr⟩ := ho.form (by rintro rfl; simp at hl; omega)
      injection e' with e1 e2 e3
      subst e1 e3
      have hfz := hfr k
      obtain ⟨y, hy⟩ : ∃ y, l[k]? = some y := ⟨_, List.getElem?_eq_getElem (by omega)⟩
      have hck := hcl k y hy
      simp only [e8, b8] at hck
      have hst := ho.stored k (UInt8.ofNat (y.toNat + 1))
      have h8 : e8.val (UInt8.ofNat (y.toNat + 1)) = .int .u8 (((y.toNat : Int) + 1) % 256) := by
        show Value.int .u8 ((UInt8.ofNat (y.toNat + 1)).toNat : Int) = _
        rw [UInt8.toNat_ofNat']
        push_cast
        rfl
      rw [h8] at hst
      obtain ⟨z, hz⟩ : ∃ z : Int, (y.toNat : Int) = z := ⟨_, rfl⟩
      rw [hz] at hst hck
      have hw8 : IntKind.u8.wrap (z + 1) = (z + 1) % 256 := by rw [IntKind.wrap_u8]
      have HST := Lib.hid hst
      have HGR := Lib.hid hgr
      have HLL2 := Lib.hid hl
      clear hcl hfr e2 hy hst ho hgr hl hz h8
      go_wp2
      go_roundw
      case rel => exact ⟨k + 1, by omega, by go_num, ⟨l.set k (UInt8.ofNat (y.toNat + 1)), by rw [List.length_set]; exact HLL2.out, HST.out⟩, HGR.out.trans (grown_set _ b' k _)⟩
      case measure => simp [intOf]; omega
    · obtain rfl : k = n := by omega
      have C9 := Lib.hid (show Below w.heap.size w wr from B4.out.grown hgr B4.out.size (fun j e => S5.out j e))
      clear hgr ho hl
      go_wp2_with (go_at_call 8; refine (known13_any _).mono ?_; rintro e u9 ⟨rfl, b9⟩; have B9 := Lib.hid (C9.out.trans (b9.mono C9.out.size)); clear b9)
      go_ret
      exact ⟨rfl, B9.out⟩
set_option maxHeartbeats 4000000 in
set_option maxRecDepth 100000 in
theorem reads_yes (A : Option Addr) (c : Nat) (b : List UInt8) (rows : Int) (w : World) (hG : Gs e8 w 0 w.heap.size (.slice A b.length c) b) (hn : b.length ≤ 3000) (h0 : rdE b rows = 0) : Calls Try.prog 4 #[.slice A b.length c, .int .i64 rows] w fun e w' => e = .returned (.bool true) ∧ Below w.heap.size w w' := by
  have G0 := Lib.hid hG
  have HN := Lib.hid hn
  have d2 : decide ((3000 : Int) < (b.length : Int)) = false := decide_eq_false (by omega)
  clear hG hn
  have HRD := Lib.hid (fun W A7 d7 h => (read_any A7 d7 b rows W h (by have := HN.out; omega)).mono (R' := fun e w' => ∃ g A c, e = .returned (.tuple #[.pointer (some ⟨g, 0, none⟩), .int .i64 0]) ∧ CxN w' W.heap.size g A c (rdL b) ∧ Below W.heap.size W w') fun e w' ⟨p, h1, h2, _, h4⟩ => by
    obtain ⟨g, A, c, hp, hm⟩ := h2 h0
    exact ⟨g, A, c, by rw [h1, hp, h0], hm, h4⟩)
  have HRR := Lib.hid (fun W h => (refRead_any A c b rows W h (by have := HN.out; omega)).mono (R' := fun e w' => ∃ A4 d4, e = .returned (.tuple #[.slice A4 (rdL b).length d4, .int .i64 0]) ∧ Gw eL w' W.heap.size (.slice A4 (rdL b).length d4) (rdL b) ∧ Below W.heap.size W w') fun e w' ⟨v, h1, h2, h4⟩ => by
    have ho := h2 h0
    obtain ⟨A4, d4, hv, -⟩ := ho.sl
    rw [hv] at ho
    exact ⟨A4, d4, by rw [h1, hv, h0], ho, h4⟩)
  have HLL := Lib.hid (show (rdL b).length ≤ 20000 by have := rdL_small h0; have := HN.out; omega)
  clear h0
  generalize rdL b = zs at HRD HRR HLL
  go_enter Try.func4, Try.ntmps4
  go_wp2_with (first
    | (at_builtin; refine wpList_gapp e8 _ rfl _ _ _ rfl w.heap.size sli8 inf8 _ [] rfl (Gw.empty_ _ _ (Nat.le_refl _)) 0 w.heap.size _ b rfl (G0.out.alloc (Nat.le_refl _) _) (by have := HN.out; simp; omega) (by simp) ?_; intro v2 w2 o2 g2 _; have B2 := Lib.hid (show Below w.heap.size w w2 from ((Below.refl _ _).alloc (Nat.le_refl _) _).grown g2 (by simp) (fun k h => by injection h with h; subst h; exact Nat.le_refl _)); have O2 := Lib.hid (show Gw e8 w2 w.heap.size v2 b by simpa using o2); clear o2 g2; obtain ⟨A7, d7, hv7, -⟩ := O2.out.sl; subst hv7; have G2 := Lib.hid (G0.out.step B2.out); have H2 := Lib.hid (O2.out.sl.more (Nat.zero_le _) (Nat.le_refl _)))
    | (go_at_call 12; refine (HRD.out _ A7 d7 H2.out).mono ?_; rintro e w3 ⟨g, Ai, ci, rfl, hm, b3⟩; have B3 := Lib.hid (B2.out.trans (b3.mono B2.out.size)); have G3 := Lib.hid (G2.out.step b3); have H3 := Lib.hid (H2.out.step b3); have O3 := Lib.hid (O2.out.below b3 (Nat.le_refl _)); have N3 := Lib.hid hm; have S2 := Lib.hid (fun k (h : (Value.slice A7 b.length d7).ownBlock = some k) => O2.out.lt k h); have Z3 := Lib.hid b3.size; clear b3 hm)
    | (go_at_call 13; refine (HRR.out _ G3.out).mono ?_; rintro e w4 ⟨A4, d4, rfl, o4, b4⟩; have B4 := Lib.hid (B3.out.trans (b4.mono B3.out.size)); have s1 := str8 (H3.out.step b4); have s2 := str8 (G3.out.step b4); have O4 := Lib.hid (O3.out.below b4 (Nat.le_refl _)); have N4 := Lib.hid (N3.out.step b4); have L4 := Lib.hid o4; clear o4 b4))
  clear s1 s2
  obtain ⟨n, hn⟩ : ∃ n, b.length = n := ⟨_, rfl⟩
  have HNN := Lib.hid hn
  rw [hn]
  clear hn
  have R5 := Lib.hid (show Gw e8 w4 w.heap.size (.slice A7 n d7) b by rw [← HNN.out]; exact O4.out)
  have S5 := Lib.hid (show ∀ k, (Value.slice A7 n d7).ownBlock = some k → w.heap.size ≤ k ∧ k < w2.heap.size by rw [← HNN.out]; exact S2.out)
  go_loopw [42] (fun i wr => ∃ k : Nat, k ≤ n ∧ i = .int .i64 k ∧ (∃ l, l.length = n ∧ Gw e8 wr w.heap.size (.slice A7 n d7) l) ∧ w4.grownBy wr (Value.slice A7 n d7).ownBlock) (fun i _ => n - (intOf i).toNat)
  case atStart => exact ⟨0, Nat.zero_le _, rfl, ⟨b, HNN.out, R5.out⟩, World.grownBy.refl _ _⟩
  case round =>
    obtain ⟨k, hk, rfl, ⟨l, hl, ho⟩, hgr⟩ := hrel
    have hns := HN.out
    rw [HNN.out] at hns
    by_cases hlt : k < n
    · obtain ⟨b', c', e', -, -, hge, hltb, hcl, hfr⟩ := ho.form (by rintro rfl; simp at hl; omega)
      injection e' with e1 e2 e3
      subst e1 e3
      have hfz := hfr k
      obtain ⟨y, hy⟩ : ∃ y, l[k]? = some y := ⟨_, List.getElem?_eq_getElem (by omega)⟩
      have hck := hcl k y hy
      simp only [e8, b8] at hck
      have hst := ho.stored k (UInt8.ofNat (y.toNat + 1))
      have h8 : e8.val (UInt8.ofNat (y.toNat + 1)) = .int .u8 (((y.toNat : Int) + 1) % 256) := by
        show Value.int .u8 ((UInt8.ofNat (y.toNat + 1)).toNat : Int) = _
        rw [UInt8.toNat_ofNat']
        push_cast
        rfl
      rw [h8] at hst
      obtain ⟨z, hz⟩ : ∃ z : Int, (y.toNat : Int) = z := ⟨_, rfl⟩
      rw [hz] at hst hck
      have hw8 : IntKind.u8.wrap (z + 1) = (z + 1) % 256 := by rw [IntKind.wrap_u8]
      have HST := Lib.hid hst
      have HGR := Lib.hid hgr
      have HLL2 := Lib.hid hl
      clear hcl hfr e2 hy hst ho hgr hl hz h8
      go_wp2
      go_roundw
      case rel => exact ⟨k + 1, by omega, by go_num, ⟨l.set k (UInt8.ofNat (y.toNat + 1)), by rw [List.length_set]; exact HLL2.out, HST.out⟩, HGR.out.trans (grown_set _ b' k _)⟩
      case measure => simp [intOf]; omega
    · obtain rfl : k = n := by omega
      have C9 := Lib.hid (show Below w.heap.size w wr from B4.out.grown hgr B4.out.size (fun j e => (S5.out j e).1))
      have N9 := Lib.hid (N4.out.grown hgr (fun j e => (S5.out j e).2)).m
      have L9 := Lib.hid (show Gs eL wr 0 wr.heap.size (.slice A4 zs.length d4) zs from ((L4.out.sl.grown hgr (Nat.le_refl _) (fun j e => .inl (by have := (S5.out j e).2; have := Z3.out; omega))).more (Nat.zero_le _) hgr.size))
      clear hgr ho hl
      go_wp2_with (first
        | (go_at_call 11; refine (told13_any g Ai ci A4 d4 zs 0 _ wr N9.out L9.out).mono ?_; rintro e u8 ⟨rfl, b8⟩; have B8 := Lib.hid (C9.out.trans (b8.mono C9.out.size)); clear b8)
        | (go_at_call 8; refine (known13_any _).mono ?_; rintro e u9 ⟨rfl, b9⟩; have B9 := Lib.hid (B8.out.trans (b9.mono B8.out.size)); clear b9))
      go_ret
      exact ⟨rfl, B9.out⟩
theorem reads_all (A : Option Addr) (c : Nat) (b : List UInt8) (rows : Int) (w : World) (hG : Gs e8 w 0 w.heap.size (.slice A b.length c) b) : Calls Try.prog 4 #[.slice A b.length c, .int .i64 rows] w fun e w' => e = .returned (.bool true) ∧ Below w.heap.size w w' := by
  by_cases h : 3000 < b.length
  · exact reads_long A b.length c rows w h
  · by_cases h0 : rdE b rows = 0
    · exact reads_yes A c b rows w hG (by omega) h0
    · exact reads_no A c b rows w hG (by omega) h0
end Go.Proofs.Ytigjkolhhhmdhaa
