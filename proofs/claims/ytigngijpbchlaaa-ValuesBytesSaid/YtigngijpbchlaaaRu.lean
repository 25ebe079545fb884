/- Walks: the document's reader reads a short number. -/
import Derived.Test.YtigngijpbchlaaaRr
namespace Go.Proofs.Ytigngijpbchlaaa
open Go.RowKit
set_option linter.unusedVariables false

/-- What is read at a stop: the number, if its form is what stands there. -/
theorem rdS_cmp {s : List UInt8} {k : Nat} (h : stopAt 10 s = some k) : rdS s = if short (val7 (s.take (k + 1)) % 18446744073709551616) = s.take (k + 1) then (val7 (s.take (k + 1)) % 18446744073709551616, k + 1) else (0, 0) := by
  obtain ⟨hk, h2, y, h3, h4⟩ := stopAt_some 10 s k h
  obtain ⟨e1, e2, e3⟩ := take_stop h2 h3
  have hlen : (s.take (k + 1)).length = k + 1 := by rw [e1, List.length_append, e3]; rfl
  by_cases hc : short (val7 (s.take (k + 1)) % 18446744073709551616) = s.take (k + 1)
  · rw [if_pos hc]
    have hl : (short (val7 (s.take (k + 1)) % 18446744073709551616)).length = k + 1 := by rw [hc, hlen]
    have := rdS_of s (val7 (s.take (k + 1)) % 18446744073709551616) (Nat.mod_lt _ (by omega)) (by rw [hl]; exact hc.symm)
    rw [this, hl]
  · rw [if_neg hc]
    have hf := rdS_form s
    by_cases h0 : (rdS s).2 = 0
    · exact Prod.ext (hf.2 h0).1 h0
    · exfalso
      obtain ⟨g1, g2, g3⟩ := hf.1 h0
      obtain ⟨a, y', e, q1, q2⟩ := short_shape (rdS s).1
      have s1 := shape_stop s a y' q1 q2 (by rw [← e, ← g2]; exact g3) 10 (by have := short_length_le _ g1; rw [e] at this; simp at this; omega)
      rw [h] at s1
      injection s1 with s1
      have l2 : (short (rdS s).1).length = a.length + 1 := by rw [e]; simp
      have l3 : (rdS s).2 = k + 1 := by omega
      rw [l3] at g3
      rw [g3, val7_short, Nat.mod_eq_of_lt g1] at hc
      exact hc rfl

theorem wrap_bounds (n : Int) : 0 ≤ IntKind.u64.wrap n ∧ IntKind.u64.wrap n ≤ 18446744073709551615 := by
  rw [IntKind.wrap_u64]; omega
theorem ref_step (s : List UInt8) (k : Nat) (y : UInt8) (z D : Int) (h : s[k]? = some y) (hz : z = (y.toNat : Int)) (hD : D = (val7 (s.take k) : Nat)) :
    IntKind.u64.wrap (D + IntKind.u64.wrap (z % 128 * 2 ^ (7 * k))) = ((val7 (s.take (k + 1)) % 18446744073709551616 : Nat) : Int) := by
  subst hz hD
  have hkl : k < s.length := by
    rcases Nat.lt_or_ge k s.length with h1 | h1
    · exact h1
    · rw [List.getElem?_eq_none h1] at h; cases h
  have hlen : (s.take k).length = k := by simp; omega
  have e1 : ((y.toNat : Int) % 128 * 2 ^ (7 * k)) = ((y.toNat % 128 * 2 ^ (7 * k) : Nat) : Int) := by
    rw [Int.natCast_mul, Int.natCast_pow, Int.natCast_emod]; rfl
  rw [take_next s k y h, val7_snoc, hlen, e1, IntKind.wrap_u64, IntKind.wrap_u64]
  omega

set_option maxHeartbeats 400000 in
theorem refUint_bad {hi g : Nat} {v : Value} {l : List UInt8} {p : Nat} (w : World) (h : RR w hi g v l p true) :
    Calls Try.prog 34 #[.pointer (some ⟨g, 0, none⟩)] w fun e w' => e = .returned (.int .u64 0) ∧ RR w' hi g v l p true ∧ w.grownBy w' (some g) := by
  have h2 := h.c2
  have H := Lib.hid h
  clear h
  go_enter Try.func34, Try.ntmps34
  go_wp2
  go_ret
  exact ⟨rfl, H.out, World.grownBy.refl _ _⟩

set_option maxHeartbeats 1000000 in
set_option maxRecDepth 100000 in
theorem refUint_none {hi g : Nat} {v : Value} {l : List UInt8} {p : Nat} (w : World) (h : RR w hi g v l p false) (M : Nat) (hM : M = min 10 (l.length - p)) (hall : ∀ j y, j < M → l[p + j]? = some y → 128 ≤ y.toNat) :
    Calls Try.prog 34 #[.pointer (some ⟨g, 0, none⟩)] w fun e w' => e = .returned (.int .u64 0) ∧ RR w' hi g v l p true ∧ w.grownBy w' (some g) := by
  obtain ⟨A, c, rfl, -, hlc, hcm, hbt⟩ := h.sl
  have h0 := h.c0
  have h1 := h.c1
  have h2 := h.c2
  have f2 := h.row.frozen 2
  have hle := h.le
  have hsm := h.small
  have hm10 : M ≤ 10 := by omega
  have hml : M ≤ l.length - p := by omega
  have HM := Lib.hid hM
  have HB := Lib.hid hbt
  have H := Lib.hid h
  have HA := Lib.hid hall
  clear h hbt hM hall
  go_enter Try.func34, Try.ntmps34
  go_wp2
  go_loopw [3, 4] (fun n i wr => ∃ (j m : Nat) (D : Int), j ≤ M ∧ i = .int .i64 j ∧ n = .int .u64 D ∧ 0 ≤ D ∧ D ≤ 18446744073709551615 ∧ wr = w.drewN m) (fun _ i _ => M - (intOf i).toNat)
  case atStart => exact ⟨0, 0, 0, by omega, rfl, rfl, by omega, by omega, rfl⟩
  case round =>
    obtain ⟨j, m, D, hj, rfl, rfl, d0, d1, rfl⟩ := hrel
    by_cases hlt : j < M
    · obtain ⟨b, off, rfl, -, -, hcell⟩ := HB.out (by rintro rfl; simp at hml; omega)
      obtain ⟨y, hy⟩ : ∃ y, l[p + j]? = some y := ⟨_, List.getElem?_eq_getElem (by omega)⟩
      have hc := hcell (p + j) y hy
      have hy128 := HA.out j y hlt hy
      simp only [show e8.val y = Value.int .u8 (y.toNat : Int) from rfl] at hc
      obtain ⟨z, hz⟩ : ∃ z : Int, z = (y.toNat : Int) := ⟨_, rfl⟩
      rw [← hz] at hc
      have z0 : 128 ≤ z := by omega
      have z1 : z ≤ 255 := by have := y.toNat_lt; omega
      have hj10 : (j : Int) < 10 := by omega
      have hjl : (p : Int) + j < l.length := by omega
      have hw := Lib.hid hcell
      clear hy hz hy128 hcell
      go_wp2
      go_quiet (fail)
      go_wp2
      go_quiet (fail)
      go_wp2
      go_roundw
      case rel => exact ⟨j + 1, _, _, by omega, by go_num, rfl, (wrap_bounds _).1, (wrap_bounds _).2, rfl⟩
      case measure => simp [intOf]; omega
    · have hjM : ¬ (j < 10 ∧ p + j < l.length) := by have := HM.out; omega
      by_cases hj10 : j < 10
      · have hj10' : (j : Int) < 10 := by omega
        have hd : decide ((p : Int) + j < l.length) = false := by simp; omega
        clear hjM
        go_wp2
        go_quiet (fail)
        go_wp2
        go_ret
        exact ⟨rfl, (H.out.drewN _).marked, (grown_drewN (World.grownBy.refl _ _) _).trans (grown_set _ _ _ _)⟩
      · have hd : decide ((j : Int) < 10) = false := by simp; omega
        clear hjM
        go_wp2
        go_quiet (fail)
        go_wp2
        go_ret
        exact ⟨rfl, (H.out.drewN _).marked, (grown_drewN (World.grownBy.refl _ _) _).trans (grown_set _ _ _ _)⟩

set_option maxHeartbeats 2000000 in
set_option maxRecDepth 100000 in
theorem refUint_stop {hi g : Nat} {v : Value} {l : List UInt8} {p : Nat} (w : World) (h : RR w hi g v l p false) (k : Nat) (hst : stopAt 10 (l.drop p) = some k) :
    Calls Try.prog 34 #[.pointer (some ⟨g, 0, none⟩)] w fun e w' => e = .returned (.int .u64 (rdS (l.drop p)).1) ∧ RR w' hi g v l (p + (rdS (l.drop p)).2) ((rdS (l.drop p)).2 == 0) ∧ w.grownBy w' (some g) := by
  obtain ⟨hk10, hall, y0, hy0, hy128⟩ := stopAt_some 10 _ k hst
  rw [List.getElem?_drop] at hy0
  have hs : p + k < l.length := by
    rcases Nat.lt_or_ge (p + k) l.length with h1 | h1
    · exact h1
    · rw [List.getElem?_eq_none h1] at hy0; cases hy0
  obtain ⟨A, c, rfl, -, hlc, hcm, hbt⟩ := h.sl
  obtain ⟨b, off, rfl, -, -, hcell⟩ := hbt (by rintro rfl; simp at hs)
  unfold maxLen at hcm
  have h0 := h.c0
  have h1 := h.c1
  have h2 := h.c2
  have f2 := h.row.frozen 2
  have hle := h.le
  have hsm := h.small
  obtain ⟨F, hF⟩ : ∃ F : Int, F = ((val7 ((l.drop p).take (k + 1)) % 18446744073709551616 : Nat) : Int) := ⟨_, rfl⟩
  have F0 : 0 ≤ F := by omega
  have F1 : F ≤ 18446744073709551615 := by omega
  have hne : c ≠ p := by omega
  have HC := Lib.hid hcell
  have H := Lib.hid h
  have HA := Lib.hid hall
  have HY := Lib.hid hy0
  have HT := Lib.hid hst
  have HF := Lib.hid hF
  clear h hbt hcell hall hy0 hst hF
  go_enter Try.func34, Try.ntmps34
  go_wp2
  go_loopw [3, 4] (fun n i wr => ∃ (j m : Nat) (D : Int), j ≤ k ∧ i = .int .i64 j ∧ n = .int .u64 D ∧ 0 ≤ D ∧ D ≤ 18446744073709551615 ∧ D = (val7 ((l.drop p).take j) : Nat) ∧ wr = w.drewN m) (fun _ i _ => k - (intOf i).toNat)
  case atStart => exact ⟨0, 0, 0, by omega, rfl, rfl, by omega, by omega, by simp [val7], rfl⟩
  case round =>
    obtain ⟨j, m, D, hj, rfl, rfl, d0, d1, hD, rfl⟩ := hrel
    have HD := Lib.hid hD
    clear hD
    have hj10 : (j : Int) < 10 := by omega
    have hjl : (p : Int) + j < l.length := by omega
    by_cases hlt : j < k
    · obtain ⟨y, hy⟩ : ∃ y, l[p + j]? = some y := ⟨_, List.getElem?_eq_getElem (by omega)⟩
      have hc := HC.out (p + j) y hy
      have hz128 := HA.out j y hlt (by rw [List.getElem?_drop]; exact hy)
      simp only [show e8.val y = Value.int .u8 (y.toNat : Int) from rfl] at hc
      obtain ⟨z, hz⟩ : ∃ z : Int, z = (y.toNat : Int) := ⟨_, rfl⟩
      rw [← hz] at hc
      have z0 : 128 ≤ z := by omega
      have z1 : z ≤ 255 := by have := y.toNat_lt; omega
      have HZ := Lib.hid hz
      have HY2 := Lib.hid hy
      clear hy hz hz128
      go_wp2
      go_quiet (fail)
      go_wp2
      go_quiet (fail)
      go_wp2
      have hst := ref_step (l.drop p) j y z D (by rw [List.getElem?_drop]; exact HY2.out) HZ.out HD.out
      rw [Nat.mod_eq_of_lt (by have := val7_small (l.drop p) (j + 1) (by omega); omega)] at hst
      have hsb := val7_small (l.drop p) (j + 1) (by omega)
      go_roundw
      case rel => exact ⟨j + 1, _, _, by omega, by go_num, rfl, (wrap_bounds _).1, (wrap_bounds _).2, hst, rfl⟩
      case measure => simp [intOf]; omega
    · have hjk : j = k := by omega
      have hc := HC.out (p + j) y0 (by rw [hjk]; exact HY.out)
      have HJ := Lib.hid hjk
      simp only [show e8.val y0 = Value.int .u8 (y0.toNat : Int) from rfl] at hc
      obtain ⟨z, hz⟩ : ∃ z : Int, z = (y0.toNat : Int) := ⟨_, rfl⟩
      rw [← hz] at hc
      have z0 : 0 ≤ z := by omega
      have z1 : z < 128 := by omega
      have hst := (ref_step (l.drop p) j y0 z D (by rw [List.getElem?_drop, hjk]; exact HY.out) hz HD.out).trans (show _ = F by rw [hjk]; exact HF.out.symm)
      have HZ := Lib.hid hz
      have HST := Lib.hid hst
      clear hjk hz hst
      go_wp2
      go_quiet (fail)
      go_wp2
      go_quiet (fail)
      go_wp2_with (go_at_call 30; rw [HST.out]; refine (refShort_any F _ F0 F1).mono ?_; rintro e w2 ⟨v2, rfl, o2, b2⟩; obtain ⟨A2, c2, rfl, -⟩ := o2.sl)
      have hR2 := (H.out.drewN _).below b2 (Nat.le_refl _)
      have hG2 : w.grownBy w2 (some g) := grown_below (grown_drewN (World.grownBy.refl _ _) _) b2
      have hcut := sl_cut (p := p) (m := j + 1) hR2.sl (by omega)
      rw [if_neg hne, show Option.map (fun x : Addr => x.add p) (some ⟨b, off, none⟩) = some ⟨b, off + p, none⟩ by simp [Addr.add]] at hcut
      have hcc := hcut
      rw [show j + 1 = p + j + 1 - p from by omega] at hcc
      have HCU := Lib.hid hcut
      have g0 := hR2.c0
      have g1 := hR2.c1
      have k1 := hR2.row.frozen 1
      have k2 := hR2.row.frozen 2
      have g2 := hR2.c2
      have HR2 := Lib.hid hR2
      have HG2 := Lib.hid hG2
      have hr := rdS_cmp HT.out
      have hFn : val7 ((l.drop p).take (k + 1)) % 18446744073709551616 = F.toNat := by have := HF.out; omega
      rw [hFn] at hr
      obtain ⟨S2, hS2⟩ : ∃ S2 : ByteArray, S2 = ⟨(short F.toNat).toArray⟩ := ⟨_, rfl⟩
      obtain ⟨Sb, hSb⟩ : ∃ Sb : ByteArray, Sb = ⟨((l.drop p).take (p + j + 1 - p)).toArray⟩ := ⟨_, rfl⟩
      have hA : ∀ n, (convert 30 9 (.slice A2 (short F.toNat).length c2)).run Try.prog (w2.drewN n) = .ok (.string S2) (w2.drewN n) := fun n => by rw [hS2]; exact str_sl (o2.drewN n).sl
      have hBc : ∀ n, (convert 30 9 (.slice (some ⟨b, off + p, none⟩) (p + j + 1 - p) (c - p))).run Try.prog (w2.drewN n) = .ok (.string Sb) (w2.drewN n) := fun n => by rw [hSb]; exact str_sl (hcc.keep (fun _ _ _ => rfl))
      have HO2 := Lib.hid o2
      have hj2 : (p : Int) + j + 1 ≤ c := by have := HJ.out; omega
      clear hR2 hG2 hcut hcc o2 b2 hFn h0 h1 h2 f2 hc
      by_cases hsame : short F.toNat = (l.drop p).take (k + 1)
      · rw [if_pos hsame] at hr
        have hSS : Sb = S2 := by rw [hSb, hS2, hsame, show p + j + 1 - p = k + 1 from by have := HJ.out; omega]
        subst hSS
        have HR := Lib.hid hr
        clear hr hsame hSb hS2
        go_quiet (fail)
        go_wp2
        go_ret
        have hj := HJ.out
        subst hj
        exact ⟨by rw [HR.out]; exact congrArg Ending.returned (congrArg (Value.int IntKind.u64) (by simp; omega)), by rw [HR.out]; exact (HR2.out.drewN _).placed (q := p + (j + 1)) (by omega), (HG2.out.trans (grown_drewN (World.grownBy.refl _ _) _)).trans (grown_set _ _ _ _)⟩
      · rw [if_neg hsame] at hr
        have hs1 : (S2.toList == Sb.toList) = false := by
          rw [hS2, hSb, ByteArray.toList_mk, ByteArray.toList_mk, beq_eq_false_iff_ne, show p + j + 1 - p = k + 1 from by have := HJ.out; omega]
          exact hsame
        have HR := Lib.hid hr
        clear hr hsame hSb hS2
        go_quiet (fail)
        go_wp2
        go_ret
        exact ⟨by rw [HR.out]; rfl, by rw [HR.out]; exact (HR2.out.drewN _).marked, (HG2.out.trans (grown_drewN (World.grownBy.refl _ _) _)).trans (grown_set _ _ _ _)⟩

theorem refUint_any {hi g : Nat} {v : Value} {l : List UInt8} {p : Nat} {x : Bool} (w : World) (h : RR w hi g v l p x) :
    Calls Try.prog 34 #[.pointer (some ⟨g, 0, none⟩)] w fun e w' => e = .returned (.int .u64 (rd l p x 0).1) ∧ RR w' hi g v l (rd l p x 0).2.1 (rd l p x 0).2.2 ∧ w.grownBy w' (some g) := by
  cases x with
  | true => exact refUint_bad w h
  | false =>
    have e1 : rd l p false 0 = ((rdS (l.drop p)).1, p + (rdS (l.drop p)).2, (rdS (l.drop p)).2 == 0) := by
      unfold rd
      rw [if_neg (by simp)]
      rfl
    rw [e1]
    cases hst : stopAt 10 (l.drop p) with
    | some k => exact refUint_stop w h k hst
    | none =>
      rw [rdS_none hst]
      exact refUint_none w h _ rfl fun j y hj hy => stopAt_none 10 _ hst j y (by omega) (by rw [List.getElem?_drop]; exact hy)
end Go.Proofs.Ytigngijpbchlaaa
