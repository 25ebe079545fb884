/- Walks: the document's answer: numbers are packed. -/
import Derived.Test.YtpanfpcfhgnkoaaQ6
namespace Go.Proofs.Ytpanfpcfhgnkoaa
open Go.RowKit
set_option linter.unusedVariables false

theorem bt_of (D : Nat) : e8.val (UInt8.ofNat (D % 2)) = .int .u8 ((D % 2 : Nat) : Int) := by
  simp only [e8, b8]
  congr 1
  simp
  omega
theorem Gw.at8 {w : World} {base : Nat} {v : Value} {l : List UInt8} (h : Gw e8 w base v l) (j : Nat) (hj : j < l.length) :
    ∃ b c, v = .slice (some ⟨b, 0, none⟩) l.length c ∧ l.length ≤ c ∧ c ≤ maxLen ∧ base ≤ b ∧ w.cell? ⟨b, j, none⟩ = some (.int .u8 ((l.getD j 0).toNat : Int)) ∧ w.frozen? ⟨b, j, none⟩ = false := by
  obtain ⟨b, c, e, h1, h2, h3, -, hc, hf⟩ := h.form (by rintro rfl; simp at hj)
  refine ⟨b, c, e, h1, h2, h3, ?_, hf j⟩
  rw [hc j (l.getD j 0) (by rw [List.getD_eq_getElem?_getD, List.getElem?_eq_getElem hj, Option.getD_some])]
  rfl
theorem add_u8 : ∀ (x : Fin 256) (s : Fin 8), ((x.val : Int) + 2 ^ s.val) % 256 = ((UInt8.ofNat x.val + UInt8.ofNat (2 ^ s.val)).toNat : Int) := by decide +kernel
set_option maxHeartbeats 2000000 in
theorem refPack_noFit (v : Value) (l : List UInt64) (lo w : Nat) (W : World) (hv : Gs e64 W lo W.heap.size v l) (h1 : 1 ≤ w) (h2 : w ≤ 64) (hf : ¬ fits l w) (hl : l.length ≤ 20000) :
    Calls Try.prog 50 #[v, .int .i64 w] W fun e w' => e = .returned (.tuple #[.slice none 0 0, .int .i64 2]) ∧ Below W.heap.size W w' := by
  have hv0 := hv
  obtain ⟨A, c, rfl, -, -, -, -⟩ := hv
  have HV := Lib.hid hv0
  have HF := Lib.hid hf
  have d1 : decide ((w : Int) < 1) = false := by simp; omega
  have d2 : decide (64 < (w : Int)) = false := by simp; omega
  clear hv0 hf
  go_enter Try.func50, Try.ntmps50
  go_wp2
  go_loopw [6, 7] (fun u i wr => ∃ k : Nat, k ≤ l.length ∧ i = .int .i64 k ∧ Gw e8 wr W.heap.size u (rows l w k) ∧ Below W.heap.size W wr ∧ ∀ j, j < k → (l.getD j 0).toNat < 2 ^ w) (fun _ i _ => l.length - (intOf i).toNat)
  case atStart => exact ⟨0, Nat.zero_le _, rfl, Gw.nil_ _ _, Below.refl _ _, fun j hj => absurd hj (Nat.not_lt_zero _)⟩
  case round =>
    obtain ⟨k, hk, rfl, ok, bk, hall⟩ := hrel
    by_cases hlt : k < l.length
    · skip
      obtain ⟨b, off, c', e', -, -, -, -, hcl⟩ := (HV.out.below bk).form (by rintro rfl; simp at hlt)
      injection e' with e1 e2 e3
      subst e1 e3
      have hck := hcl k l[k] (List.getElem?_eq_getElem hlt)
      simp only [e64, b64] at hck
      have hgd : l[k] = l.getD k 0 := by rw [List.getD_eq_getElem?_getD, List.getElem?_eq_getElem hlt, Option.getD_some]
      rw [hgd] at hck
      obtain ⟨Z, hz⟩ : ∃ Z : Nat, Z = (l.getD k 0).toNat := ⟨_, rfl⟩
      rw [← hz] at hck
      have z1 : (Z : Int) ≤ 18446744073709551615 := by have := (l.getD k 0).toNat_lt; omega
      have HZ := Lib.hid hz
      have HA := Lib.hid hall
      have OK := Lib.hid ok
      have BK := Lib.hid bk
      have hrl := rows_length l w k
      have hkw := mul_bound k w 20000 (by omega) h2
      have hrl' : (rows l w k).length ≤ 1280000 := by omega
      clear hcl hz hgd e2 hall ok bk hrl hkw
      obtain ⟨wo, hwo⟩ : ∃ wo : World, wo = wr := ⟨_, rfl⟩
      go_wp2
      go_loopw [6, 8, 9] (fun u d i wr => ∃ t D : Nat, t ≤ w ∧ i = .int .i64 t ∧ d = .int .u64 D ∧ D = Z / 2 ^ t ∧ (D : Int) ≤ 18446744073709551615 ∧ Gw e8 wr W.heap.size u (rows l w k ++ bts Z t) ∧ Below W.heap.size W wr) (fun _ _ i _ => w - (intOf i).toNat)
      case atStart => exact ⟨0, Z, Nat.zero_le _, rfl, rfl, by simp, z1, by simpa [bts] using OK.out, BK.out⟩
      case round =>
        obtain ⟨t, D, ht, rfl, rfl, hD, hDb, oi, bi⟩ := hrel
        have HD := Lib.hid hD
        have OI := Lib.hid oi
        have BI := Lib.hid bi
        clear hD oi bi
        by_cases hti : t < w
        · go_wp2_with (at_builtin; refine wpList_gapp1 e8 _ rfl _ _ _ rfl W.heap.size sli8 inf8 u6 (rows l w k ++ bts Z t) rfl OI.out _ (UInt8.ofNat (D % 2)) (by rw [bt_of]; congr 1; try omega) rfl (by rw [List.length_append, bts_length]; omega) BI.out.size ?_; intro v2 w2 o2 g2 hh; clear hh)
          have b2 : Below W.heap.size W w2 := BI.out.grown g2 BI.out.size (fun i hi => (OI.out.lt i hi).1)
          go_roundw
          case rel => exact ⟨t + 1, D / 2, hti, by go_num, by go_num, by rw [HD.out, div_pow_two], by omega, by rw [bts_snoc, ← List.append_assoc, ← HD.out]; exact o2, b2⟩
          case measure => simp [intOf]; omega
        · obtain rfl : t = w := by omega
          by_cases hz0 : D = 0
          · have hZt : Z < 2 ^ t := by
              have h3 := HD.out
              rw [hz0] at h3
              rcases Nat.lt_or_ge Z (2 ^ t) with h | h
              · exact h
              · exact absurd h3.symm (Nat.ne_of_gt (Nat.div_pos h (Nat.two_pow_pos t)))
            have HZT := Lib.hid hZt
            obtain rfl : 0 = D := hz0.symm
            clear hZt
            go_wp2
            go_roundw
            case rel =>
              refine ⟨k + 1, hlt, by go_num, by rw [rows, ← HZ.out]; exact OI.out, BI.out, fun j hj => ?_⟩
              rcases Nat.lt_or_ge j k with h | h
              · exact HA.out j h
              · obtain rfl : j = k := by omega
                rw [← HZ.out]
                exact HZT.out
            case measure => simp [intOf]; omega
          · have hz1 : 0 < (D : Int) := by omega
            clear hz0
            go_wp2
            go_ret2
            exact ⟨rfl, BI.out⟩
    · obtain rfl : k = l.length := by omega
      exact absurd hall HF.out

set_option maxHeartbeats 4000000 in
theorem refPack_yes (v : Value) (l : List UInt64) (lo w : Nat) (W : World) (hv : Gs e64 W lo W.heap.size v l) (h1 : 1 ≤ w) (h2 : w ≤ 64) (hf : fits l w) (hl : l.length ≤ 20000) :
    Calls Try.prog 50 #[v, .int .i64 w] W fun e w' => ∃ v', e = .returned (.tuple #[v', .int .i64 0]) ∧ Gw e8 w' W.heap.size v' (pk l w) ∧ Below W.heap.size W w' := by
  have hv0 := hv
  obtain ⟨A, c, rfl, -, -, -, -⟩ := hv
  have HV := Lib.hid hv0
  have HF := Lib.hid hf
  have d1 : decide ((w : Int) < 1) = false := by simp; omega
  have d2 : decide (64 < (w : Int)) = false := by simp; omega
  clear hv0 hf
  go_enter Try.func50, Try.ntmps50
  go_wp2
  go_loopw [6, 7] (fun u i wr => ∃ k : Nat, k ≤ l.length ∧ i = .int .i64 k ∧ Gw e8 wr W.heap.size u (rows l w k) ∧ Below W.heap.size W wr) (fun _ i _ => l.length - (intOf i).toNat)
  case atStart => exact ⟨0, Nat.zero_le _, rfl, Gw.nil_ _ _, Below.refl _ _⟩
  case round =>
    obtain ⟨k, hk, rfl, ok, bk⟩ := hrel
    by_cases hlt : k < l.length
    · skip
      obtain ⟨b, off, c', e', -, -, -, -, hcl⟩ := (HV.out.below bk).form (by rintro rfl; simp at hlt)
      injection e' with e1 e2 e3
      subst e1 e3
      have hck := hcl k l[k] (List.getElem?_eq_getElem hlt)
      simp only [e64, b64] at hck
      have hgd : l[k] = l.getD k 0 := by rw [List.getD_eq_getElem?_getD, List.getElem?_eq_getElem hlt, Option.getD_some]
      rw [hgd] at hck
      obtain ⟨Z, hz⟩ : ∃ Z : Nat, Z = (l.getD k 0).toNat := ⟨_, rfl⟩
      rw [← hz] at hck
      have z1 : (Z : Int) ≤ 18446744073709551615 := by have := (l.getD k 0).toNat_lt; omega
      have HZ := Lib.hid hz
      have HFk := HF.out k hlt
      have OK := Lib.hid ok
      have BK := Lib.hid bk
      have hrl := rows_length l w k
      have hkw := mul_bound k w 20000 (by omega) h2
      have hrl' : (rows l w k).length ≤ 1280000 := by omega
      rw [← hz] at HFk
      have HFK := Lib.hid HFk
      clear HFk hcl hz hgd e2 ok bk hrl hkw
      obtain ⟨wo, hwo⟩ : ∃ wo : World, wo = wr := ⟨_, rfl⟩
      go_wp2
      go_loopw [6, 8, 9] (fun u d i wr => ∃ t D : Nat, t ≤ w ∧ i = .int .i64 t ∧ d = .int .u64 D ∧ D = Z / 2 ^ t ∧ (D : Int) ≤ 18446744073709551615 ∧ Gw e8 wr W.heap.size u (rows l w k ++ bts Z t) ∧ Below W.heap.size W wr) (fun _ _ i _ => w - (intOf i).toNat)
      case atStart => exact ⟨0, Z, Nat.zero_le _, rfl, rfl, by simp, z1, by simpa [bts] using OK.out, BK.out⟩
      case round =>
        obtain ⟨t, D, ht, rfl, rfl, hD, hDb, oi, bi⟩ := hrel
        have HD := Lib.hid hD
        have OI := Lib.hid oi
        have BI := Lib.hid bi
        clear hD oi bi
        by_cases hti : t < w
        · go_wp2_with (at_builtin; refine wpList_gapp1 e8 _ rfl _ _ _ rfl W.heap.size sli8 inf8 u6 (rows l w k ++ bts Z t) rfl OI.out _ (UInt8.ofNat (D % 2)) (by rw [bt_of]; congr 1; try omega) rfl (by rw [List.length_append, bts_length]; omega) BI.out.size ?_; intro v2 w2 o2 g2 hh; clear hh)
          have b2 : Below W.heap.size W w2 := BI.out.grown g2 BI.out.size (fun i hi => (OI.out.lt i hi).1)
          go_roundw
          case rel => exact ⟨t + 1, D / 2, hti, by go_num, by go_num, by rw [HD.out, div_pow_two], by omega, by rw [bts_snoc, ← List.append_assoc, ← HD.out]; exact o2, b2⟩
          case measure => simp [intOf]; omega
        · obtain rfl : t = w := by omega
          obtain rfl : 0 = D := (HD.out.trans (Nat.div_eq_of_lt HFK.out)).symm
          go_wp2
          go_roundw
          case rel => exact ⟨k + 1, hlt, by go_num, by rw [rows, ← HZ.out]; exact OI.out, BI.out⟩
          case measure => simp [intOf]; omega
    · obtain rfl : k = l.length := by omega
      have hrl := rows_length l w l.length
      have hkw := mul_bound l.length w 20000 hl h2
      obtain ⟨ROW, hR⟩ : ∃ R, R = rows l w l.length := ⟨_, rfl⟩
      rw [← hR] at ok hrl
      have hos := os_pk l w h1
      rw [← hR, ← hrl] at hos
      have hrl' : ROW.length ≤ 1280000 := by omega
      have HOS := Lib.hid hos
      have hok := ok
      obtain ⟨A6, c6, rfl, -⟩ := hok.sl
      have OK := Lib.hid ok
      have BK := Lib.hid bk
      clear hR hrl hkw hos ok bk hok
      obtain ⟨wo, hwo⟩ : ∃ wo : World, wo = wr := ⟨_, rfl⟩
      rw [← hwo] at OK BK
      have HWO := Lib.hid hwo
      clear hwo
      go_wp2
      go_loopw [10, 11] (fun u i wr => ∃ t : Nat, t ≤ ROW.length ∧ i = .int .i64 t ∧ Gw e8 wr wo.heap.size u (os ROW t) ∧ Below wo.heap.size wo wr) (fun _ i _ => ROW.length - (intOf i).toNat)
      case atStart => exact ⟨0, Nat.zero_le _, rfl, Gw.nil_ _ _, by rw [HWO.out]; exact Below.refl _ _⟩
      case round =>
        obtain ⟨t, ht, rfl, oi, bi⟩ := hrel
        by_cases hti : t < ROW.length
        · obtain ⟨b6, c6', e6, -, -, hb6, hck, -⟩ := (OK.out.below bi (Nat.le_refl _)).at8 t hti
          injection e6 with e6 _ e7
          subst e6 e7
          have hon := osn_length ROW t _ (os_length ROW t)
          have hos1 := os_length ROW t
          obtain ⟨L, hL⟩ : ∃ L, L = osn ROW t (os ROW t) := ⟨_, rfl⟩
          rw [← hL] at hon
          have hon1 : t / 8 < L.length := by omega
          have hon2 : L.length ≤ 200000 := by omega
          have hon3 : (os ROW t).length ≤ 200000 := by omega
          have hstep : os ROW (t + 1) = if ROW.getD t 0 = 1 then L.set (t / 8) (L.getD (t / 8) 0 + UInt8.ofNat (2 ^ (t % 8))) else L := by rw [os, hL]
          have HST := Lib.hid hstep
          obtain ⟨y, hy⟩ : ∃ y : UInt8, y = ROW.getD t 0 := ⟨_, rfl⟩
          rw [← hy] at hck hstep
          have HY := Lib.hid hy
          have HSTEP := Lib.hid hstep
          obtain ⟨z, hz⟩ : ∃ z : UInt8, z = L.getD (t / 8) 0 := ⟨_, rfl⟩
          have HZ := Lib.hid hz
          have hadd := add_u8 ⟨z.toNat, z.toNat_lt⟩ ⟨t % 8, by omega⟩
          simp only [UInt8.ofNat_toNat] at hadd
          have HADD := Lib.hid hadd
          by_cases h8 : t % 8 = 0
          · have hL8 : L = os ROW t ++ [0] := by rw [hL, osn, if_pos h8]
            have HL := Lib.hid hL8.symm
            have h8' : (((t : Int) % 8) == 0) = true := by rw [beq_iff_eq]; omega
            have OI := Lib.hid oi
            have BI := Lib.hid bi
            clear hL hL8 hstep hy hz hadd hos1 hon h8 oi bi
            by_cases h1y : y = 1
            · have h1v : ((y.toNat : Int) == 1) = true := by rw [h1y]; rfl
              have HS1 := Lib.hid ((HSTEP.out).trans (if_pos h1y))
              clear h1y
              go_wp2_with (at_builtin; refine wpList_gapp1 e8 _ rfl _ _ _ rfl wo.heap.size sli8 inf8 u10 (os ROW t) rfl OI.out _ 0 rfl rfl (by omega) BI.out.size ?_; intro v2 w2 o2 g2 hh; clear hh; rw [HL.out] at o2; have b2 : Below wo.heap.size wo w2 := BI.out.grown g2 BI.out.size (fun i hi => (OI.out.lt i hi).1); obtain ⟨b6', c6', e6, -, -, hb6', hck2, -⟩ := (OK.out.below b2 (Nat.le_refl _)).at8 t hti; injection e6 with e6 _ e7; injection e6 with e6; injection e6 with e6; subst e6 e7; rw [← HY.out] at hck2; obtain ⟨g, cp, rfl, hlc, hcp, hg, hgc, hgf⟩ := o2.at8 (t / 8) hon1; rw [← HZ.out] at hgc; unfold maxLen at hcp; have O2 := Lib.hid o2; have B2 := Lib.hid b2; clear o2 b2 g2 hck)
              have hst := O2.out.stored (t / 8) (z + UInt8.ofNat (2 ^ (t % 8)))
              simp only [e8, b8] at hst
              rw [← HADD.out] at hst
              rw [show L.set (t / 8) (z + UInt8.ofNat (2 ^ (t % 8))) = os ROW (t + 1) from by rw [HS1.out, HZ.out]] at hst
              go_roundw
              case rel => exact ⟨t + 1, hti, by go_num, hst, B2.out.setCell (by simpa using hg) _⟩
              case measure => simp [intOf]; omega
            · have h1v : ((y.toNat : Int) == 1) = false := by
                rw [beq_eq_false_iff_ne]
                intro h
                exact h1y (UInt8.toNat_inj.1 (Int.ofNat.inj h))
              have HS1 := Lib.hid ((HSTEP.out).trans (if_neg h1y))
              clear h1y
              go_wp2_with (at_builtin; refine wpList_gapp1 e8 _ rfl _ _ _ rfl wo.heap.size sli8 inf8 u10 (os ROW t) rfl OI.out _ 0 rfl rfl (by omega) BI.out.size ?_; intro v2 w2 o2 g2 hh; clear hh; rw [HL.out] at o2; have b2 : Below wo.heap.size wo w2 := BI.out.grown g2 BI.out.size (fun i hi => (OI.out.lt i hi).1); obtain ⟨b6', c6', e6, -, -, hb6', hck2, -⟩ := (OK.out.below b2 (Nat.le_refl _)).at8 t hti; injection e6 with e6 _ e7; injection e6 with e6; injection e6 with e6; subst e6 e7; rw [← HY.out] at hck2; obtain ⟨g, cp, rfl, hlc, hcp, hg, hgc, hgf⟩ := o2.at8 (t / 8) hon1; rw [← HZ.out] at hgc; unfold maxLen at hcp; have O2 := Lib.hid o2; have B2 := Lib.hid b2; clear o2 b2 g2 hck)
              go_roundw
              case rel => exact ⟨t + 1, hti, by go_num, by rw [HS1.out]; exact O2.out, B2.out⟩
              case measure => simp [intOf]; omega
          · have hL8 : L = os ROW t := by rw [hL, osn, if_neg h8]
            have h8' : (((t : Int) % 8) == 0) = false := by rw [beq_eq_false_iff_ne]; omega
            rw [← hL8] at oi
            obtain ⟨g, cp, rfl, hlc, hcp, hg, hgc, hgf⟩ := oi.at8 (t / 8) hon1
            rw [← hz] at hgc
            unfold maxLen at hcp
            have O2 := Lib.hid oi
            have B2 := Lib.hid bi
            clear hL hL8 hstep hy hz hadd hos1 hon h8 oi bi
            by_cases h1y : y = 1
            · have h1v : ((y.toNat : Int) == 1) = true := by rw [h1y]; rfl
              have HS1 := Lib.hid ((HSTEP.out).trans (if_pos h1y))
              clear h1y
              go_wp2
              have hst := O2.out.stored (t / 8) (z + UInt8.ofNat (2 ^ (t % 8)))
              simp only [e8, b8] at hst
              rw [← HADD.out] at hst
              rw [show L.set (t / 8) (z + UInt8.ofNat (2 ^ (t % 8))) = os ROW (t + 1) from by rw [HS1.out, HZ.out]] at hst
              go_roundw
              case rel => exact ⟨t + 1, hti, by go_num, hst, B2.out.setCell (by simpa using hg) _⟩
              case measure => simp [intOf]; omega
            · have h1v : ((y.toNat : Int) == 1) = false := by
                rw [beq_eq_false_iff_ne]
                intro h
                exact h1y (UInt8.toNat_inj.1 (Int.ofNat.inj h))
              have HS1 := Lib.hid ((HSTEP.out).trans (if_neg h1y))
              clear h1y
              go_wp2
              go_roundw
              case rel => exact ⟨t + 1, hti, by go_num, by rw [HS1.out]; exact O2.out, B2.out⟩
              case measure => simp [intOf]; omega
        · obtain rfl : t = ROW.length := by omega
          go_wp2
          go_ret2
          exact ⟨_, rfl, by rw [← HOS.out]; exact oi.more BK.out.size, BK.out.trans (bi.mono BK.out.size)⟩
end Go.Proofs.Ytpanfpcfhgnkoaa
