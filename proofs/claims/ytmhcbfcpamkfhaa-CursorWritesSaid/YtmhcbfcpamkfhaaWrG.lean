/- Walks: the law CursorWrites, where there are not too many bytes. -/
import Derived.Test.YtmhcbfcpamkfhaaWr
import Derived.Deep.DeepCutAuto
namespace Go.Proofs.Ytmhcbfcpamkfhaa
open Go.RowKit
set_option linter.unusedVariables false

set_option maxHeartbeats 2000000 in
set_option maxRecDepth 100000 in
theorem writes_good (A : Option Addr) (c : Nat) (l : List UInt8) (x : Int) (w : World) (hv : Sl w 0 w.heap.size (.slice A l.length c) l) (hn : l.length ≤ 2000) (x0 : 0 ≤ x) (x1 : x ≤ 18446744073709551615) :
    Calls Try.prog 3 #[.slice A l.length c, .int .u64 x] w fun e w' => e = .returned (.bool true) ∧ Below w.heap.size w w' := by
  have HV := Lib.hid hv
  obtain ⟨S, hS⟩ : ∃ S : ByteArray, S = ⟨l.toArray⟩ := ⟨_, rfl⟩
  have hcb : ∀ W, Below w.heap.size w W → (convert 22 9 (.slice A l.length c)).run Try.prog W = .ok (.string S) W := fun W hW => by rw [hS]; exact str_sl (hv.below hW)
  have HCB := Lib.hid hcb
  obtain ⟨L2, hL2⟩ : ∃ L2 : List UInt8, l ++ le 2 (x % 65536).toNat = L2 := ⟨_, rfl⟩
  obtain ⟨L4, hL4⟩ : ∃ L4 : List UInt8, l ++ le 4 (x % 4294967296).toNat = L4 := ⟨_, rfl⟩
  obtain ⟨L8, hL8⟩ : ∃ L8 : List UInt8, l ++ le 8 x.toNat = L8 := ⟨_, rfl⟩
  obtain ⟨LS, hLS⟩ : ∃ LS : List UInt8, l ++ short x.toNat = LS := ⟨_, rfl⟩
  have HL2 := Lib.hid hL2
  have HL4 := Lib.hid hL4
  have HL8 := Lib.hid hL8
  have HLS := Lib.hid hLS
  clear hL2 hL4 hL8 hLS
  obtain ⟨T2, hT2⟩ : ∃ T2 : ByteArray, T2 = ⟨(le (2 : Int).toNat x.toNat).toArray⟩ := ⟨_, rfl⟩
  obtain ⟨T4, hT4⟩ : ∃ T4 : ByteArray, T4 = ⟨(le (4 : Int).toNat x.toNat).toArray⟩ := ⟨_, rfl⟩
  obtain ⟨T8, hT8⟩ : ∃ T8 : ByteArray, T8 = ⟨(le (8 : Int).toNat x.toNat).toArray⟩ := ⟨_, rfl⟩
  obtain ⟨TS, hTS⟩ : ∃ TS : ByteArray, TS = ⟨(short x.toNat).toArray⟩ := ⟨_, rfl⟩
  have hSz : S.size ≤ 2000 := by rw [hS]; simpa [ByteArray.size] using hn
  have z2 : T2.size = 2 := by rw [hT2]; simp [ByteArray.size, le_length]
  have z4 : T4.size = 4 := by rw [hT4]; simp [ByteArray.size, le_length]
  have z8 : T8.size = 8 := by rw [hT8]; simp [ByteArray.size, le_length]
  have zS : TS.size ≤ 10 := by rw [hTS]; exact short_length_le x.toNat (by omega)
  have HZ2 := Lib.hid (show ¬ 9223372036854775807 < S.size + T2.size by omega)
  have HZ4 := Lib.hid (show ¬ 9223372036854775807 < S.size + T4.size by omega)
  have HZ8 := Lib.hid (show ¬ 9223372036854775807 < S.size + T8.size by omega)
  have HZS := Lib.hid (show ¬ 9223372036854775807 < S.size + TS.size by omega)
  clear hSz z2 z4 z8 zS
  have HT2 := Lib.hid hT2
  have HT4 := Lib.hid hT4
  have HT8 := Lib.hid hT8
  have HTS := Lib.hid hTS
  clear hT2 hT4 hT8 hTS
  have HS := Lib.hid hS
  clear hv hcb
  clear hS
  go_enter Try.func3, Try.ntmps3
  go_wp2_with (first
    | (at_make; refine wpList_mk _ rfl _ _ _ rfl Try.underlying22 info8 _ _ _ (l.length + 30) rfl rfl ?_ (by omega) ?_; omega; intro w1 o1 g1)
    | (at_builtin; refine wpList_app _ rfl _ _ _ rfl w.heap.size Try.underlying22 info8 _ [] rfl o1 0 w.heap.size _ l rfl (HV.out.grown g1 (Nat.le_refl _) (fun k h => by cases h)) (by simp; omega) g1.size ?_; intro v2 w2 o2 g2 hj; clear hj; rw [List.nil_append] at o2; obtain ⟨A2, c2, rfl, -⟩ := o2.sl; have t2 := Lib.hid o2.lt; have b2 : Below w.heap.size w w2 := (below_of_grown g1 (fun k h => by cases h)).grown g2 g1.size (fun k h => by injection h with h; subst h; exact Nat.le_refl _); have cb := HCB.out w2 b2; clear g1 g2 o1; have B2 := Lib.hid b2; clear b2)
    | (go_at_call 9; clear cb; refine (appendU16_int _ l _ x _ o2.sl (by omega)).mono ?_; rintro e w3 ⟨v3, rfl, o3, b3⟩; obtain ⟨A3, c3, rfl, -⟩ := o3.sl; rw [HL2.out] at o3 ⊢; have t3 := Lib.hid o3.lt; have b3' := Lib.hid b3; clear b3; have o2' := o2.below b3'.out (Nat.le_refl _); clear o2)
    | (go_at_call 10; refine (appendU32_int _ l _ x _ o2'.sl (by omega)).mono ?_; rintro e w4 ⟨v4, rfl, o4, b4⟩; obtain ⟨A4, c4, rfl, -⟩ := o4.sl; rw [HL4.out] at o4 ⊢; have t4 := Lib.hid o4.lt; have b4' := Lib.hid b4; clear b4; have o2'' := o2'.below b4'.out (Nat.le_refl _); clear o2'; have o3' := o3.below b4'.out (Nat.le_refl _); clear o3)
    | (go_at_call 11; refine (appendU64_int _ l _ x _ o2''.sl x0 x1 (by omega)).mono ?_; rintro e w5 ⟨v5, rfl, o5, b5⟩; obtain ⟨A5, c5, rfl, -⟩ := o5.sl; rw [HL8.out] at o5 ⊢; have t5 := Lib.hid o5.lt; have b5' := Lib.hid b5; clear b5; have q2 := o2''.below b5'.out (Nat.le_refl _); clear o2''; have o3'' := o3'.below b5'.out (Nat.le_refl _); clear o3'; have o4' := o4.below b5'.out (Nat.le_refl _); clear o4)
    | (go_at_call 12; refine (appendUint_any _ l _ x _ q2.sl x0 x1 (by omega)).mono ?_; rintro e w6 ⟨v6, rfl, o6, b6⟩; obtain ⟨A6, c6, rfl, -⟩ := o6.sl; rw [HLS.out] at o6 ⊢; have b6' := Lib.hid b6; clear b6; have r2 := q2.below b6'.out (Nat.le_refl _); clear q2; have r3 := o3''.below b6'.out (Nat.le_refl _); clear o3''; have r4 := o4'.below b6'.out (Nat.le_refl _); clear o4'; have r5 := o5.below b6'.out (Nat.le_refl _); clear o5))
  generalize hwL : w6.alloc _ = wL
  have rL : Row wL w6.heap.size 30 #[.slice A3 L2.length c3, .slice A4 L4.length c4, .slice A5 L8.length c5, .slice A6 LS.length c6] := by rw [← hwL]; exact Row.new _ _ _
  have B6 := B2.out.trans ((b3'.out.mono B2.out.size).trans ((b4'.out.mono (Nat.le_trans B2.out.size b3'.out.size)).trans ((b5'.out.mono (Nat.le_trans B2.out.size (Nat.le_trans b3'.out.size b4'.out.size))).trans (b6'.out.mono (Nat.le_trans B2.out.size (Nat.le_trans b3'.out.size (Nat.le_trans b4'.out.size b5'.out.size)))))))
  have BL := Lib.hid (show Below w.heap.size w wL by rw [← hwL]; exact B6.alloc B6.size _)
  have s2 : Ow wL w.heap.size (.slice A2 l.length c2) l := by rw [← hwL]; exact r2.alloc _
  have s3 : Ow wL w2.heap.size (.slice A3 L2.length c3) L2 := by rw [← hwL]; exact r3.alloc _
  have s4 : Ow wL w3.heap.size (.slice A4 L4.length c4) L4 := by rw [← hwL]; exact r4.alloc _
  have s5 : Ow wL w4.heap.size (.slice A5 L8.length c5) L8 := by rw [← hwL]; exact r5.alloc _
  have s6 : Ow wL w5.heap.size (.slice A6 LS.length c6) LS := by rw [← hwL]; exact o6.alloc _
  clear r2 r3 r4 r5 o6 hwL B6
  go_cut [8] (fun p8 wr => ∃ gW, p8 = .pointer (some ⟨gW, 0, none⟩) ∧ wL.heap.size ≤ gW ∧ Row wr gW 33 #[.string (S ++ T2), .string (S ++ T4), .string (S ++ T8), .string (S ++ TS)] ∧ Below wL.heap.size wL wr)
  case first =>
    have hSc : Below wL.heap.size wL wL.drew := (Below.refl _ _).drew
    have HB := Lib.hid hSc
    refine wp_region_held_drew (S := fun W => Below wL.heap.size wL W) (by kernel_rfl) hSc (fun _ => ?_)
    generalize wL.drew = wq0 at *
    refine held_take 0 ?_ rfl (by kernel_rfl) (by kernel_rfl) (by kernel_rfl) (fun _ _ _ h => h) (by rfl) ?_ hSc ?_
    rotate_left
    · (intro W hSW; go_simp; try rfl)
    try simp only [Act.put, List.setIfInBounds_toArray, List.set_cons_zero, List.set_cons_succ]
    refine held_take 1 ?_ rfl (by kernel_rfl) (by kernel_rfl) (by kernel_rfl) (fun _ _ _ h => h) (by rfl) ?_ hSc ?_
    rotate_left
    · (intro W hSW; go_simp; try rfl)
    try simp only [Act.put, List.setIfInBounds_toArray, List.set_cons_zero, List.set_cons_succ]
    refine held_take 5 ?_ rfl (by kernel_rfl) (by kernel_rfl) (by kernel_rfl) (fun _ _ _ h => h) (by rfl) ?_ hSc ?_
    rotate_left
    · (intro W hSW; go_simp; try rfl)
    try simp only [Act.put, List.setIfInBounds_toArray, List.set_cons_zero, List.set_cons_succ]
    refine held_take 6 ?_ rfl (by kernel_rfl) (by kernel_rfl) (by kernel_rfl) (fun _ _ _ h => h) (by rfl) ?_ hSc ?_
    rotate_left
    · (intro W hSW; go_simp; try rfl)
    try simp only [Act.put, List.setIfInBounds_toArray, List.set_cons_zero, List.set_cons_succ]
    refine held_take 10 ?_ rfl (by kernel_rfl) (by kernel_rfl) (by kernel_rfl) (fun _ _ _ h => h) (by rfl) ?_ hSc ?_
    rotate_left
    · (intro W hSW; go_simp; try rfl)
    try simp only [Act.put, List.setIfInBounds_toArray, List.set_cons_zero, List.set_cons_succ]
    refine held_take 11 ?_ rfl (by kernel_rfl) (by kernel_rfl) (by kernel_rfl) (fun _ _ _ h => h) (by rfl) ?_ hSc ?_
    rotate_left
    · (intro W hSW; go_simp; try rfl)
    try simp only [Act.put, List.setIfInBounds_toArray, List.set_cons_zero, List.set_cons_succ]
    refine held_take 15 ?_ rfl (by kernel_rfl) (by kernel_rfl) (by kernel_rfl) (fun _ _ _ h => h) (by rfl) ?_ hSc ?_
    rotate_left
    · (intro W hSW; go_simp; try rfl)
    try simp only [Act.put, List.setIfInBounds_toArray, List.set_cons_zero, List.set_cons_succ]
    refine held_take 16 ?_ rfl (by kernel_rfl) (by kernel_rfl) (by kernel_rfl) (fun _ _ _ h => h) (by rfl) ?_ hSc ?_
    rotate_left
    · (intro W hSW; go_simp; try rfl)
    try simp only [Act.put, List.setIfInBounds_toArray, List.set_cons_zero, List.set_cons_succ]
    refine held_two 2 21 rfl rfl (by kernel_rfl) (by rfl) (by rfl) ?_ ?_
    · go_simp
      refine (refLittle_str x 2 T2 HT2.out x0 x1 (by omega) (by omega) _).mono ?_
      rintro e wq1 ⟨Ac, nc, cc, rfl, hcc, bc⟩
      have HC := Lib.hid (fun W (h : Below wq1.heap.size wq1 W) => hcc W none (grown_of_below_ h) (fun k e => by cases e))
      clear hcc
      have hB' := Lib.hid (HB.out.trans (bc.mono HB.out.size))
      refine ⟨fun W => Below wq1.heap.size wq1 W, fun W hW => (hSc.trans (bc.mono hSc.size)).trans (hW.mono (Nat.le_trans hSc.size bc.size)), Below.refl _ _, ?_⟩
      clear hSc HB bc
      have HB := hB'
      clear hB'
      have hSc : Below wq1.heap.size wq1 wq1 := Below.refl _ _
      try simp only [Act.put, List.setIfInBounds_toArray, List.set_cons_zero, List.set_cons_succ]
      refine held_take 3 ?_ rfl (by kernel_rfl) (by kernel_rfl) (by kernel_rfl) (fun _ _ _ h => h) (by rfl) ?_ hSc ?_
      rotate_left
      · (intro W hSW; have cv := HC.out W hSW; go_simp; try rfl)
      try simp only [Act.put, List.setIfInBounds_toArray, List.set_cons_zero, List.set_cons_succ]
      refine held_take 4 ?_ rfl (by kernel_rfl) (by kernel_rfl) (by kernel_rfl) (fun _ _ _ h => h) (by rfl) ?_ hSc ?_
      rotate_left
      · (intro W hSW; go_simp; first | rfl | rw [if_neg HZ2.out])
      try simp only [Act.put, List.setIfInBounds_toArray, List.set_cons_zero, List.set_cons_succ]
      clear HC
      refine held_two 7 21 rfl rfl (by kernel_rfl) (by rfl) (by rfl) ?_ ?_
      · go_simp
        refine (refLittle_str x 4 T4 HT4.out x0 x1 (by omega) (by omega) _).mono ?_
        rintro e wq2 ⟨Ac, nc, cc, rfl, hcc, bc⟩
        have HC := Lib.hid (fun W (h : Below wq2.heap.size wq2 W) => hcc W none (grown_of_below_ h) (fun k e => by cases e))
        clear hcc
        have hB' := Lib.hid (HB.out.trans (bc.mono HB.out.size))
        refine ⟨fun W => Below wq2.heap.size wq2 W, fun W hW => (hSc.trans (bc.mono hSc.size)).trans (hW.mono (Nat.le_trans hSc.size bc.size)), Below.refl _ _, ?_⟩
        clear hSc HB bc
        have HB := hB'
        clear hB'
        have hSc : Below wq2.heap.size wq2 wq2 := Below.refl _ _
        try simp only [Act.put, List.setIfInBounds_toArray, List.set_cons_zero, List.set_cons_succ]
        refine held_take 8 ?_ rfl (by kernel_rfl) (by kernel_rfl) (by kernel_rfl) (fun _ _ _ h => h) (by rfl) ?_ hSc ?_
        rotate_left
        · (intro W hSW; have cv := HC.out W hSW; go_simp; try rfl)
        try simp only [Act.put, List.setIfInBounds_toArray, List.set_cons_zero, List.set_cons_succ]
        refine held_take 9 ?_ rfl (by kernel_rfl) (by kernel_rfl) (by kernel_rfl) (fun _ _ _ h => h) (by rfl) ?_ hSc ?_
        rotate_left
        · (intro W hSW; go_simp; first | rfl | rw [if_neg HZ4.out])
        try simp only [Act.put, List.setIfInBounds_toArray, List.set_cons_zero, List.set_cons_succ]
        clear HC
        refine held_two 12 21 rfl rfl (by kernel_rfl) (by rfl) (by rfl) ?_ ?_
        · go_simp
          refine (refLittle_str x 8 T8 HT8.out x0 x1 (by omega) (by omega) _).mono ?_
          rintro e wq3 ⟨Ac, nc, cc, rfl, hcc, bc⟩
          have HC := Lib.hid (fun W (h : Below wq3.heap.size wq3 W) => hcc W none (grown_of_below_ h) (fun k e => by cases e))
          clear hcc
          have hB' := Lib.hid (HB.out.trans (bc.mono HB.out.size))
          refine ⟨fun W => Below wq3.heap.size wq3 W, fun W hW => (hSc.trans (bc.mono hSc.size)).trans (hW.mono (Nat.le_trans hSc.size bc.size)), Below.refl _ _, ?_⟩
          clear hSc HB bc
          have HB := hB'
          clear hB'
          have hSc : Below wq3.heap.size wq3 wq3 := Below.refl _ _
          try simp only [Act.put, List.setIfInBounds_toArray, List.set_cons_zero, List.set_cons_succ]
          refine held_take 13 ?_ rfl (by kernel_rfl) (by kernel_rfl) (by kernel_rfl) (fun _ _ _ h => h) (by rfl) ?_ hSc ?_
          rotate_left
          · (intro W hSW; have cv := HC.out W hSW; go_simp; try rfl)
          try simp only [Act.put, List.setIfInBounds_toArray, List.set_cons_zero, List.set_cons_succ]
          refine held_take 14 ?_ rfl (by kernel_rfl) (by kernel_rfl) (by kernel_rfl) (fun _ _ _ h => h) (by rfl) ?_ hSc ?_
          rotate_left
          · (intro W hSW; go_simp; first | rfl | rw [if_neg HZ8.out])
          try simp only [Act.put, List.setIfInBounds_toArray, List.set_cons_zero, List.set_cons_succ]
          clear HC
          refine held_two 17 21 rfl rfl (by kernel_rfl) (by rfl) (by rfl) ?_ ?_
          · go_simp
            refine (refShort_str x TS HTS.out x0 x1 _).mono ?_
            rintro e wq4 ⟨Ac, nc, cc, rfl, hcc, bc⟩
            have HC := Lib.hid (fun W (h : Below wq4.heap.size wq4 W) => hcc W none (grown_of_below_ h) (fun k e => by cases e))
            clear hcc
            have hB' := Lib.hid (HB.out.trans (bc.mono HB.out.size))
            refine ⟨fun W => Below wq4.heap.size wq4 W, fun W hW => (hSc.trans (bc.mono hSc.size)).trans (hW.mono (Nat.le_trans hSc.size bc.size)), Below.refl _ _, ?_⟩
            clear hSc HB bc
            have HB := hB'
            clear hB'
            have hSc : Below wq4.heap.size wq4 wq4 := Below.refl _ _
            try simp only [Act.put, List.setIfInBounds_toArray, List.set_cons_zero, List.set_cons_succ]
            refine held_take 18 ?_ rfl (by kernel_rfl) (by kernel_rfl) (by kernel_rfl) (fun _ _ _ h => h) (by rfl) ?_ hSc ?_
            rotate_left
            · (intro W hSW; have cv := HC.out W hSW; go_simp; try rfl)
            try simp only [Act.put, List.setIfInBounds_toArray, List.set_cons_zero, List.set_cons_succ]
            refine held_take 19 ?_ rfl (by kernel_rfl) (by kernel_rfl) (by kernel_rfl) (fun _ _ _ h => h) (by rfl) ?_ hSc ?_
            rotate_left
            · (intro W hSW; go_simp; first | rfl | rw [if_neg HZS.out])
            try simp only [Act.put, List.setIfInBounds_toArray, List.set_cons_zero, List.set_cons_succ]
            refine held_take 20 ?_ rfl (by kernel_rfl) (by kernel_rfl) (by kernel_rfl) (fun _ _ _ h => h) (by rfl) ?_ hSc ?_
            rotate_left
            · (intro W hSW; go_simp; try rfl)
            try simp only [Act.put, List.setIfInBounds_toArray, List.set_cons_zero, List.set_cons_succ]
            clear HC
            refine held_next 21 rfl (by kernel_rfl) (by rfl) ?_
            go_simp
            generalize hwa : World.alloc _ _ = wa
            have hRow : Row wa wq4.heap.size _ _ := (by rw [← hwa]; exact Row.new _ _ _)
            have hB' : Below wL.heap.size wL wa := (by rw [← hwa]; exact HB.out.alloc HB.out.size _)
            have hS' : Below wq4.heap.size wq4 wa := (by rw [← hwa]; exact hSc.alloc hSc.size _)
            have hgW : wL.heap.size ≤ wq4.heap.size := HB.out.size
            have hgp : wq4.heap.size ≤ wq4.heap.size := hSc.size
            refine ⟨_, fun W hW => hW, hS', ?_⟩
            clear hSc HB hwa
            have HB := Lib.hid hB'
            have hSc := hS'
            clear hB' hS'
            try simp only [Act.put, List.setIfInBounds_toArray, List.set_cons_zero, List.set_cons_succ]
            have f0 := hRow.frozen 0
            have f1 := hRow.frozen 1
            have f2 := hRow.frozen 2
            have f3 := hRow.frozen 3
            have k0 := hRow.cell 0
            have k1 := hRow.cell 1
            have k2 := hRow.cell 2
            have k3 := hRow.cell 3
            refine held_next 22 rfl (by kernel_rfl) (by rfl) ?_
            go_simp
            clear f0 f1 f2 f3 k0 k1 k2 k3
            refine ⟨_, fun W hW => hW, (by first | exact (((hSc.trans (grown_set _ _ _ _)).trans (grown_set _ _ _ _)).trans (grown_set _ _ _ _)).trans (grown_set _ _ _ _) | exact (((hSc.setCell hgp _).setCell hgp _).setCell hgp _).setCell hgp _), ?_⟩
            refine wpAnyH_done (by kernel_rfl) ?_ _
            go_wp2_with fail
            go_meet
            exact ⟨_, rfl, hgW, (((hRow.set_ 0 _).set_ 1 _).set_ 2 _).set_ 3 _, (((HB.out.setCell hgW _).setCell hgW _).setCell hgW _).setCell hgW _⟩
          · go_simp
            generalize hwa : World.alloc _ _ = wa
            have hRow : Row wa wq3.heap.size _ _ := (by rw [← hwa]; exact Row.new _ _ _)
            have hB' : Below wL.heap.size wL wa := (by rw [← hwa]; exact HB.out.alloc HB.out.size _)
            have hS' : Below wq3.heap.size wq3 wa := (by rw [← hwa]; exact hSc.alloc hSc.size _)
            have hgW : wL.heap.size ≤ wq3.heap.size := HB.out.size
            have hgp : wq3.heap.size ≤ wq3.heap.size := hSc.size
            refine ⟨_, fun W hW => hW, hS', ?_⟩
            clear hSc HB hwa
            have HB := Lib.hid hB'
            have hSc := hS'
            clear hB' hS'
            try simp only [Act.put, List.setIfInBounds_toArray, List.set_cons_zero, List.set_cons_succ]
            refine held_next 17 rfl (by kernel_rfl) (by rfl) ?_
            go_simp
            refine (refShort_str x TS HTS.out x0 x1 _).mono ?_
            rintro e wq4 ⟨Ac, nc, cc, rfl, hcc, bc⟩
            have hgl := hRow.lt
            have HC := Lib.hid (fun W (h : wq4.grownBy W (some wq3.heap.size)) => hcc W (some wq3.heap.size) h (fun k e => by injection e with e; subst e; exact hgl))
            clear hgl
            have hRow' := hRow.below bc hRow.lt
            clear hRow
            have hRow := hRow'
            clear hRow'
            clear hcc
            have hB' := Lib.hid (HB.out.trans (bc.mono HB.out.size))
            refine ⟨fun W => wq4.grownBy W (some wq3.heap.size), cond_first hSc hgp bc, World.grownBy.refl _ _, ?_⟩
            clear hSc HB bc
            have HB := hB'
            clear hB'
            have hSc : wq4.grownBy wq4 (some wq3.heap.size) := World.grownBy.refl _ _
            try simp only [Act.put, List.setIfInBounds_toArray, List.set_cons_zero, List.set_cons_succ]
            refine held_take 18 ?_ rfl (by kernel_rfl) (by kernel_rfl) (by kernel_rfl) (fun _ _ _ h => h) (by rfl) ?_ hSc ?_
            rotate_left
            · (intro W hSW; have cv := HC.out W hSW; go_simp; try rfl)
            try simp only [Act.put, List.setIfInBounds_toArray, List.set_cons_zero, List.set_cons_succ]
            refine held_take 19 ?_ rfl (by kernel_rfl) (by kernel_rfl) (by kernel_rfl) (fun _ _ _ h => h) (by rfl) ?_ hSc ?_
            rotate_left
            · (intro W hSW; go_simp; first | rfl | rw [if_neg HZS.out])
            try simp only [Act.put, List.setIfInBounds_toArray, List.set_cons_zero, List.set_cons_succ]
            refine held_take 20 ?_ rfl (by kernel_rfl) (by kernel_rfl) (by kernel_rfl) (fun _ _ _ h => h) (by rfl) ?_ hSc ?_
            rotate_left
            · (intro W hSW; go_simp; try rfl)
            try simp only [Act.put, List.setIfInBounds_toArray, List.set_cons_zero, List.set_cons_succ]
            clear HC
            have f0 := hRow.frozen 0
            have f1 := hRow.frozen 1
            have f2 := hRow.frozen 2
            have f3 := hRow.frozen 3
            have k0 := hRow.cell 0
            have k1 := hRow.cell 1
            have k2 := hRow.cell 2
            have k3 := hRow.cell 3
            refine held_next 22 rfl (by kernel_rfl) (by rfl) ?_
            go_simp
            clear f0 f1 f2 f3 k0 k1 k2 k3
            refine ⟨_, fun W hW => hW, (by first | exact (((hSc.trans (grown_set _ _ _ _)).trans (grown_set _ _ _ _)).trans (grown_set _ _ _ _)).trans (grown_set _ _ _ _) | exact (((hSc.setCell hgp _).setCell hgp _).setCell hgp _).setCell hgp _), ?_⟩
            refine wpAnyH_done (by kernel_rfl) ?_ _
            go_wp2_with fail
            go_meet
            exact ⟨_, rfl, hgW, (((hRow.set_ 0 _).set_ 1 _).set_ 2 _).set_ 3 _, (((HB.out.setCell hgW _).setCell hgW _).setCell hgW _).setCell hgW _⟩
        · go_simp
          generalize hwa : World.alloc _ _ = wa
          have hRow : Row wa wq2.heap.size _ _ := (by rw [← hwa]; exact Row.new _ _ _)
          have hB' : Below wL.heap.size wL wa := (by rw [← hwa]; exact HB.out.alloc HB.out.size _)
          have hS' : Below wq2.heap.size wq2 wa := (by rw [← hwa]; exact hSc.alloc hSc.size _)
          have hgW : wL.heap.size ≤ wq2.heap.size := HB.out.size
          have hgp : wq2.heap.size ≤ wq2.heap.size := hSc.size
          refine ⟨_, fun W hW => hW, hS', ?_⟩
          clear hSc HB hwa
          have HB := Lib.hid hB'
          have hSc := hS'
          clear hB' hS'
          try simp only [Act.put, List.setIfInBounds_toArray, List.set_cons_zero, List.set_cons_succ]
          refine held_next 12 rfl (by kernel_rfl) (by rfl) ?_
          go_simp
          refine (refLittle_str x 8 T8 HT8.out x0 x1 (by omega) (by omega) _).mono ?_
          rintro e wq3 ⟨Ac, nc, cc, rfl, hcc, bc⟩
          have hgl := hRow.lt
          have HC := Lib.hid (fun W (h : wq3.grownBy W (some wq2.heap.size)) => hcc W (some wq2.heap.size) h (fun k e => by injection e with e; subst e; exact hgl))
          clear hgl
          have hRow' := hRow.below bc hRow.lt
          clear hRow
          have hRow := hRow'
          clear hRow'
          clear hcc
          have hB' := Lib.hid (HB.out.trans (bc.mono HB.out.size))
          refine ⟨fun W => wq3.grownBy W (some wq2.heap.size), cond_first hSc hgp bc, World.grownBy.refl _ _, ?_⟩
          clear hSc HB bc
          have HB := hB'
          clear hB'
          have hSc : wq3.grownBy wq3 (some wq2.heap.size) := World.grownBy.refl _ _
          try simp only [Act.put, List.setIfInBounds_toArray, List.set_cons_zero, List.set_cons_succ]
          refine held_take 13 ?_ rfl (by kernel_rfl) (by kernel_rfl) (by kernel_rfl) (fun _ _ _ h => h) (by rfl) ?_ hSc ?_
          rotate_left
          · (intro W hSW; have cv := HC.out W hSW; go_simp; try rfl)
          try simp only [Act.put, List.setIfInBounds_toArray, List.set_cons_zero, List.set_cons_succ]
          refine held_take 14 ?_ rfl (by kernel_rfl) (by kernel_rfl) (by kernel_rfl) (fun _ _ _ h => h) (by rfl) ?_ hSc ?_
          rotate_left
          · (intro W hSW; go_simp; first | rfl | rw [if_neg HZ8.out])
          try simp only [Act.put, List.setIfInBounds_toArray, List.set_cons_zero, List.set_cons_succ]
          clear HC
          refine held_next 17 rfl (by kernel_rfl) (by rfl) ?_
          go_simp
          refine (refShort_str x TS HTS.out x0 x1 _).mono ?_
          rintro e wq4 ⟨Ac, nc, cc, rfl, hcc, bc⟩
          have hgl := hRow.lt
          have HC := Lib.hid (fun W (h : wq4.grownBy W (some wq2.heap.size)) => hcc W (some wq2.heap.size) h (fun k e => by injection e with e; subst e; exact hgl))
          clear hgl
          have hRow' := hRow.below bc hRow.lt
          clear hRow
          have hRow := hRow'
          clear hRow'
          clear hcc
          have hB' := Lib.hid (HB.out.trans (bc.mono HB.out.size))
          refine ⟨fun W => wq4.grownBy W (some wq2.heap.size), cond_next hSc bc, World.grownBy.refl _ _, ?_⟩
          clear hSc HB bc
          have HB := hB'
          clear hB'
          have hSc : wq4.grownBy wq4 (some wq2.heap.size) := World.grownBy.refl _ _
          try simp only [Act.put, List.setIfInBounds_toArray, List.set_cons_zero, List.set_cons_succ]
          refine held_take 18 ?_ rfl (by kernel_rfl) (by kernel_rfl) (by kernel_rfl) (fun _ _ _ h => h) (by rfl) ?_ hSc ?_
          rotate_left
          · (intro W hSW; have cv := HC.out W hSW; go_simp; try rfl)
          try simp only [Act.put, List.setIfInBounds_toArray, List.set_cons_zero, List.set_cons_succ]
          refine held_take 19 ?_ rfl (by kernel_rfl) (by kernel_rfl) (by kernel_rfl) (fun _ _ _ h => h) (by rfl) ?_ hSc ?_
          rotate_left
          · (intro W hSW; go_simp; first | rfl | rw [if_neg HZS.out])
          try simp only [Act.put, List.setIfInBounds_toArray, List.set_cons_zero, List.set_cons_succ]
          refine held_take 20 ?_ rfl (by kernel_rfl) (by kernel_rfl) (by kernel_rfl) (fun _ _ _ h => h) (by rfl) ?_ hSc ?_
          rotate_left
          · (intro W hSW; go_simp; try rfl)
          try simp only [Act.put, List.setIfInBounds_toArray, List.set_cons_zero, List.set_cons_succ]
          clear HC
          have f0 := hRow.frozen 0
          have f1 := hRow.frozen 1
          have f2 := hRow.frozen 2
          have f3 := hRow.frozen 3
          have k0 := hRow.cell 0
          have k1 := hRow.cell 1
          have k2 := hRow.cell 2
          have k3 := hRow.cell 3
          refine held_next 22 rfl (by kernel_rfl) (by rfl) ?_
          go_simp
          clear f0 f1 f2 f3 k0 k1 k2 k3
          refine ⟨_, fun W hW => hW, (by first | exact (((hSc.trans (grown_set _ _ _ _)).trans (grown_set _ _ _ _)).trans (grown_set _ _ _ _)).trans (grown_set _ _ _ _) | exact (((hSc.setCell hgp _).setCell hgp _).setCell hgp _).setCell hgp _), ?_⟩
          refine wpAnyH_done (by kernel_rfl) ?_ _
          go_wp2_with fail
          go_meet
          exact ⟨_, rfl, hgW, (((hRow.set_ 0 _).set_ 1 _).set_ 2 _).set_ 3 _, (((HB.out.setCell hgW _).setCell hgW _).setCell hgW _).setCell hgW _⟩
      · go_simp
        generalize hwa : World.alloc _ _ = wa
        have hRow : Row wa wq1.heap.size _ _ := (by rw [← hwa]; exact Row.new _ _ _)
        have hB' : Below wL.heap.size wL wa := (by rw [← hwa]; exact HB.out.alloc HB.out.size _)
        have hS' : Below wq1.heap.size wq1 wa := (by rw [← hwa]; exact hSc.alloc hSc.size _)
        have hgW : wL.heap.size ≤ wq1.heap.size := HB.out.size
        have hgp : wq1.heap.size ≤ wq1.heap.size := hSc.size
        refine ⟨_, fun W hW => hW, hS', ?_⟩
        clear hSc HB hwa
        have HB := Lib.hid hB'
        have hSc := hS'
        clear hB' hS'
        try simp only [Act.put, List.setIfInBounds_toArray, List.set_cons_zero, List.set_cons_succ]
        refine held_next 7 rfl (by kernel_rfl) (by rfl) ?_
        go_simp
        refine (refLittle_str x 4 T4 HT4.out x0 x1 (by omega) (by omega) _).mono ?_
        rintro e wq2 ⟨Ac, nc, cc, rfl, hcc, bc⟩
        have hgl := hRow.lt
        have HC := Lib.hid (fun W (h : wq2.grownBy W (some wq1.heap.size)) => hcc W (some wq1.heap.size) h (fun k e => by injection e with e; subst e; exact hgl))
        clear hgl
        have hRow' := hRow.below bc hRow.lt
        clear hRow
        have hRow := hRow'
        clear hRow'
        clear hcc
        have hB' := Lib.hid (HB.out.trans (bc.mono HB.out.size))
        refine ⟨fun W => wq2.grownBy W (some wq1.heap.size), cond_first hSc hgp bc, World.grownBy.refl _ _, ?_⟩
        clear hSc HB bc
        have HB := hB'
        clear hB'
        have hSc : wq2.grownBy wq2 (some wq1.heap.size) := World.grownBy.refl _ _
        try simp only [Act.put, List.setIfInBounds_toArray, List.set_cons_zero, List.set_cons_succ]
        refine held_take 8 ?_ rfl (by kernel_rfl) (by kernel_rfl) (by kernel_rfl) (fun _ _ _ h => h) (by rfl) ?_ hSc ?_
        rotate_left
        · (intro W hSW; have cv := HC.out W hSW; go_simp; try rfl)
        try simp only [Act.put, List.setIfInBounds_toArray, List.set_cons_zero, List.set_cons_succ]
        refine held_take 9 ?_ rfl (by kernel_rfl) (by kernel_rfl) (by kernel_rfl) (fun _ _ _ h => h) (by rfl) ?_ hSc ?_
        rotate_left
        · (intro W hSW; go_simp; first | rfl | rw [if_neg HZ4.out])
        try simp only [Act.put, List.setIfInBounds_toArray, List.set_cons_zero, List.set_cons_succ]
        clear HC
        refine held_next 12 rfl (by kernel_rfl) (by rfl) ?_
        go_simp
        refine (refLittle_str x 8 T8 HT8.out x0 x1 (by omega) (by omega) _).mono ?_
        rintro e wq3 ⟨Ac, nc, cc, rfl, hcc, bc⟩
        have hgl := hRow.lt
        have HC := Lib.hid (fun W (h : wq3.grownBy W (some wq1.heap.size)) => hcc W (some wq1.heap.size) h (fun k e => by injection e with e; subst e; exact hgl))
        clear hgl
        have hRow' := hRow.below bc hRow.lt
        clear hRow
        have hRow := hRow'
        clear hRow'
        clear hcc
        have hB' := Lib.hid (HB.out.trans (bc.mono HB.out.size))
        refine ⟨fun W => wq3.grownBy W (some wq1.heap.size), cond_next hSc bc, World.grownBy.refl _ _, ?_⟩
        clear hSc HB bc
        have HB := hB'
        clear hB'
        have hSc : wq3.grownBy wq3 (some wq1.heap.size) := World.grownBy.refl _ _
        try simp only [Act.put, List.setIfInBounds_toArray, List.set_cons_zero, List.set_cons_succ]
        refine held_take 13 ?_ rfl (by kernel_rfl) (by kernel_rfl) (by kernel_rfl) (fun _ _ _ h => h) (by rfl) ?_ hSc ?_
        rotate_left
        · (intro W hSW; have cv := HC.out W hSW; go_simp; try rfl)
        try simp only [Act.put, List.setIfInBounds_toArray, List.set_cons_zero, List.set_cons_succ]
        refine held_take 14 ?_ rfl (by kernel_rfl) (by kernel_rfl) (by kernel_rfl) (fun _ _ _ h => h) (by rfl) ?_ hSc ?_
        rotate_left
        · (intro W hSW; go_simp; first | rfl | rw [if_neg HZ8.out])
        try simp only [Act.put, List.setIfInBounds_toArray, List.set_cons_zero, List.set_cons_succ]
        clear HC
        refine held_next 17 rfl (by kernel_rfl) (by rfl) ?_
        go_simp
        refine (refShort_str x TS HTS.out x0 x1 _).mono ?_
        rintro e wq4 ⟨Ac, nc, cc, rfl, hcc, bc⟩
        have hgl := hRow.lt
        have HC := Lib.hid (fun W (h : wq4.grownBy W (some wq1.heap.size)) => hcc W (some wq1.heap.size) h (fun k e => by injection e with e; subst e; exact hgl))
        clear hgl
        have hRow' := hRow.below bc hRow.lt
        clear hRow
        have hRow := hRow'
        clear hRow'
        clear hcc
        have hB' := Lib.hid (HB.out.trans (bc.mono HB.out.size))
        refine ⟨fun W => wq4.grownBy W (some wq1.heap.size), cond_next hSc bc, World.grownBy.refl _ _, ?_⟩
        clear hSc HB bc
        have HB := hB'
        clear hB'
        have hSc : wq4.grownBy wq4 (some wq1.heap.size) := World.grownBy.refl _ _
        try simp only [Act.put, List.setIfInBounds_toArray, List.set_cons_zero, List.set_cons_succ]
        refine held_take 18 ?_ rfl (by kernel_rfl) (by kernel_rfl) (by kernel_rfl) (fun _ _ _ h => h) (by rfl) ?_ hSc ?_
        rotate_left
        · (intro W hSW; have cv := HC.out W hSW; go_simp; try rfl)
        try simp only [Act.put, List.setIfInBounds_toArray, List.set_cons_zero, List.set_cons_succ]
        refine held_take 19 ?_ rfl (by kernel_rfl) (by kernel_rfl) (by kernel_rfl) (fun _ _ _ h => h) (by rfl) ?_ hSc ?_
        rotate_left
        · (intro W hSW; go_simp; first | rfl | rw [if_neg HZS.out])
        try simp only [Act.put, List.setIfInBounds_toArray, List.set_cons_zero, List.set_cons_succ]
        refine held_take 20 ?_ rfl (by kernel_rfl) (by kernel_rfl) (by kernel_rfl) (fun _ _ _ h => h) (by rfl) ?_ hSc ?_
        rotate_left
        · (intro W hSW; go_simp; try rfl)
        try simp only [Act.put, List.setIfInBounds_toArray, List.set_cons_zero, List.set_cons_succ]
        clear HC
        have f0 := hRow.frozen 0
        have f1 := hRow.frozen 1
        have f2 := hRow.frozen 2
        have f3 := hRow.frozen 3
        have k0 := hRow.cell 0
        have k1 := hRow.cell 1
        have k2 := hRow.cell 2
        have k3 := hRow.cell 3
        refine held_next 22 rfl (by kernel_rfl) (by rfl) ?_
        go_simp
        clear f0 f1 f2 f3 k0 k1 k2 k3
        refine ⟨_, fun W hW => hW, (by first | exact (((hSc.trans (grown_set _ _ _ _)).trans (grown_set _ _ _ _)).trans (grown_set _ _ _ _)).trans (grown_set _ _ _ _) | exact (((hSc.setCell hgp _).setCell hgp _).setCell hgp _).setCell hgp _), ?_⟩
        refine wpAnyH_done (by kernel_rfl) ?_ _
        go_wp2_with fail
        go_meet
        exact ⟨_, rfl, hgW, (((hRow.set_ 0 _).set_ 1 _).set_ 2 _).set_ 3 _, (((HB.out.setCell hgW _).setCell hgW _).setCell hgW _).setCell hgW _⟩
    · go_simp
      generalize hwa : World.alloc _ _ = wa
      have hRow : Row wa wq0.heap.size _ _ := (by rw [← hwa]; exact Row.new _ _ _)
      have hB' : Below wL.heap.size wL wa := (by rw [← hwa]; exact HB.out.alloc HB.out.size _)
      have hS' : Below wL.heap.size wL wa := (by rw [← hwa]; exact hSc.alloc hSc.size _)
      have hgW : wL.heap.size ≤ wq0.heap.size := HB.out.size
      have hgp : wL.heap.size ≤ wq0.heap.size := hSc.size
      refine ⟨_, fun W hW => hW, hS', ?_⟩
      clear hSc HB hwa
      have HB := Lib.hid hB'
      have hSc := hS'
      clear hB' hS'
      try simp only [Act.put, List.setIfInBounds_toArray, List.set_cons_zero, List.set_cons_succ]
      refine held_next 2 rfl (by kernel_rfl) (by rfl) ?_
      go_simp
      refine (refLittle_str x 2 T2 HT2.out x0 x1 (by omega) (by omega) _).mono ?_
      rintro e wq1 ⟨Ac, nc, cc, rfl, hcc, bc⟩
      have hgl := hRow.lt
      have HC := Lib.hid (fun W (h : wq1.grownBy W (some wq0.heap.size)) => hcc W (some wq0.heap.size) h (fun k e => by injection e with e; subst e; exact hgl))
      clear hgl
      have hRow' := hRow.below bc hRow.lt
      clear hRow
      have hRow := hRow'
      clear hRow'
      clear hcc
      have hB' := Lib.hid (HB.out.trans (bc.mono HB.out.size))
      refine ⟨fun W => wq1.grownBy W (some wq0.heap.size), cond_first hSc hgp bc, World.grownBy.refl _ _, ?_⟩
      clear hSc HB bc
      have HB := hB'
      clear hB'
      have hSc : wq1.grownBy wq1 (some wq0.heap.size) := World.grownBy.refl _ _
      try simp only [Act.put, List.setIfInBounds_toArray, List.set_cons_zero, List.set_cons_succ]
      refine held_take 3 ?_ rfl (by kernel_rfl) (by kernel_rfl) (by kernel_rfl) (fun _ _ _ h => h) (by rfl) ?_ hSc ?_
      rotate_left
      · (intro W hSW; have cv := HC.out W hSW; go_simp; try rfl)
      try simp only [Act.put, List.setIfInBounds_toArray, List.set_cons_zero, List.set_cons_succ]
      refine held_take 4 ?_ rfl (by kernel_rfl) (by kernel_rfl) (by kernel_rfl) (fun _ _ _ h => h) (by rfl) ?_ hSc ?_
      rotate_left
      · (intro W hSW; go_simp; first | rfl | rw [if_neg HZ2.out])
      try simp only [Act.put, List.setIfInBounds_toArray, List.set_cons_zero, List.set_cons_succ]
      clear HC
      refine held_next 7 rfl (by kernel_rfl) (by rfl) ?_
      go_simp
      refine (refLittle_str x 4 T4 HT4.out x0 x1 (by omega) (by omega) _).mono ?_
      rintro e wq2 ⟨Ac, nc, cc, rfl, hcc, bc⟩
      have hgl := hRow.lt
      have HC := Lib.hid (fun W (h : wq2.grownBy W (some wq0.heap.size)) => hcc W (some wq0.heap.size) h (fun k e => by injection e with e; subst e; exact hgl))
      clear hgl
      have hRow' := hRow.below bc hRow.lt
      clear hRow
      have hRow := hRow'
      clear hRow'
      clear hcc
      have hB' := Lib.hid (HB.out.trans (bc.mono HB.out.size))
      refine ⟨fun W => wq2.grownBy W (some wq0.heap.size), cond_next hSc bc, World.grownBy.refl _ _, ?_⟩
      clear hSc HB bc
      have HB := hB'
      clear hB'
      have hSc : wq2.grownBy wq2 (some wq0.heap.size) := World.grownBy.refl _ _
      try simp only [Act.put, List.setIfInBounds_toArray, List.set_cons_zero, List.set_cons_succ]
      refine held_take 8 ?_ rfl (by kernel_rfl) (by kernel_rfl) (by kernel_rfl) (fun _ _ _ h => h) (by rfl) ?_ hSc ?_
      rotate_left
      · (intro W hSW; have cv := HC.out W hSW; go_simp; try rfl)
      try simp only [Act.put, List.setIfInBounds_toArray, List.set_cons_zero, List.set_cons_succ]
      refine held_take 9 ?_ rfl (by kernel_rfl) (by kernel_rfl) (by kernel_rfl) (fun _ _ _ h => h) (by rfl) ?_ hSc ?_
      rotate_left
      · (intro W hSW; go_simp; first | rfl | rw [if_neg HZ4.out])
      try simp only [Act.put, List.setIfInBounds_toArray, List.set_cons_zero, List.set_cons_succ]
      clear HC
      refine held_next 12 rfl (by kernel_rfl) (by rfl) ?_
      go_simp
      refine (refLittle_str x 8 T8 HT8.out x0 x1 (by omega) (by omega) _).mono ?_
      rintro e wq3 ⟨Ac, nc, cc, rfl, hcc, bc⟩
      have hgl := hRow.lt
      have HC := Lib.hid (fun W (h : wq3.grownBy W (some wq0.heap.size)) => hcc W (some wq0.heap.size) h (fun k e => by injection e with e; subst e; exact hgl))
      clear hgl
      have hRow' := hRow.below bc hRow.lt
      clear hRow
      have hRow := hRow'
      clear hRow'
      clear hcc
      have hB' := Lib.hid (HB.out.trans (bc.mono HB.out.size))
      refine ⟨fun W => wq3.grownBy W (some wq0.heap.size), cond_next hSc bc, World.grownBy.refl _ _, ?_⟩
      clear hSc HB bc
      have HB := hB'
      clear hB'
      have hSc : wq3.grownBy wq3 (some wq0.heap.size) := World.grownBy.refl _ _
      try simp only [Act.put, List.setIfInBounds_toArray, List.set_cons_zero, List.set_cons_succ]
      refine held_take 13 ?_ rfl (by kernel_rfl) (by kernel_rfl) (by kernel_rfl) (fun _ _ _ h => h) (by rfl) ?_ hSc ?_
      rotate_left
      · (intro W hSW; have cv := HC.out W hSW; go_simp; try rfl)
      try simp only [Act.put, List.setIfInBounds_toArray, List.set_cons_zero, List.set_cons_succ]
      refine held_take 14 ?_ rfl (by kernel_rfl) (by kernel_rfl) (by kernel_rfl) (fun _ _ _ h => h) (by rfl) ?_ hSc ?_
      rotate_left
      · (intro W hSW; go_simp; first | rfl | rw [if_neg HZ8.out])
      try simp only [Act.put, List.setIfInBounds_toArray, List.set_cons_zero, List.set_cons_succ]
      clear HC
      refine held_next 17 rfl (by kernel_rfl) (by rfl) ?_
      go_simp
      refine (refShort_str x TS HTS.out x0 x1 _).mono ?_
      rintro e wq4 ⟨Ac, nc, cc, rfl, hcc, bc⟩
      have hgl := hRow.lt
      have HC := Lib.hid (fun W (h : wq4.grownBy W (some wq0.heap.size)) => hcc W (some wq0.heap.size) h (fun k e => by injection e with e; subst e; exact hgl))
      clear hgl
      have hRow' := hRow.below bc hRow.lt
      clear hRow
      have hRow := hRow'
      clear hRow'
      clear hcc
      have hB' := Lib.hid (HB.out.trans (bc.mono HB.out.size))
      refine ⟨fun W => wq4.grownBy W (some wq0.heap.size), cond_next hSc bc, World.grownBy.refl _ _, ?_⟩
      clear hSc HB bc
      have HB := hB'
      clear hB'
      have hSc : wq4.grownBy wq4 (some wq0.heap.size) := World.grownBy.refl _ _
      try simp only [Act.put, List.setIfInBounds_toArray, List.set_cons_zero, List.set_cons_succ]
      refine held_take 18 ?_ rfl (by kernel_rfl) (by kernel_rfl) (by kernel_rfl) (fun _ _ _ h => h) (by rfl) ?_ hSc ?_
      rotate_left
      · (intro W hSW; have cv := HC.out W hSW; go_simp; try rfl)
      try simp only [Act.put, List.setIfInBounds_toArray, List.set_cons_zero, List.set_cons_succ]
      refine held_take 19 ?_ rfl (by kernel_rfl) (by kernel_rfl) (by kernel_rfl) (fun _ _ _ h => h) (by rfl) ?_ hSc ?_
      rotate_left
      · (intro W hSW; go_simp; first | rfl | rw [if_neg HZS.out])
      try simp only [Act.put, List.setIfInBounds_toArray, List.set_cons_zero, List.set_cons_succ]
      refine held_take 20 ?_ rfl (by kernel_rfl) (by kernel_rfl) (by kernel_rfl) (fun _ _ _ h => h) (by rfl) ?_ hSc ?_
      rotate_left
      · (intro W hSW; go_simp; try rfl)
      try simp only [Act.put, List.setIfInBounds_toArray, List.set_cons_zero, List.set_cons_succ]
      clear HC
      have f0 := hRow.frozen 0
      have f1 := hRow.frozen 1
      have f2 := hRow.frozen 2
      have f3 := hRow.frozen 3
      have k0 := hRow.cell 0
      have k1 := hRow.cell 1
      have k2 := hRow.cell 2
      have k3 := hRow.cell 3
      refine held_next 22 rfl (by kernel_rfl) (by rfl) ?_
      go_simp
      clear f0 f1 f2 f3 k0 k1 k2 k3
      refine ⟨_, fun W hW => hW, (by first | exact (((hSc.trans (grown_set _ _ _ _)).trans (grown_set _ _ _ _)).trans (grown_set _ _ _ _)).trans (grown_set _ _ _ _) | exact (((hSc.setCell hgp _).setCell hgp _).setCell hgp _).setCell hgp _), ?_⟩
      refine wpAnyH_done (by kernel_rfl) ?_ _
      go_wp2_with fail
      go_meet
      exact ⟨_, rfl, hgW, (((hRow.set_ 0 _).set_ 1 _).set_ 2 _).set_ 3 _, (((HB.out.setCell hgW _).setCell hgW _).setCell hgW _).setCell hgW _⟩
  case rest =>
    obtain ⟨gW, rfl, hgW, rW, bW⟩ := hcut
    have u2 : S ++ T2 = ⟨L2.toArray⟩ := by rw [HS.out, HT2.out, str_cat, ← HL2.out]; congr 3; exact le_mod_int 2 x x0
    have u4 : S ++ T4 = ⟨L4.toArray⟩ := by rw [HS.out, HT4.out, str_cat, ← HL4.out]; congr 3; exact le_mod_int 4 x x0
    have u8 : S ++ T8 = ⟨L8.toArray⟩ := by rw [HS.out, HT8.out, str_cat, ← HL8.out]; rfl
    have uS : S ++ TS = ⟨LS.toArray⟩ := by rw [HS.out, HTS.out, str_cat, ← HLS.out]
    have k2 : L2.length = l.length + 2 := by rw [← HL2.out]; simp [le_length]
    have k4 : L4.length = l.length + 4 := by rw [← HL4.out]; simp [le_length]
    have k8 : L8.length = l.length + 8 := by rw [← HL8.out]; simp [le_length]
    have kS : LS.length = l.length + (short x.toNat).length := by rw [← HLS.out]; simp
    have kS1 := short_length_pos x.toNat
    have kS2 := short_length_le x.toNat (by omega)
    obtain ⟨V, Ls, U, hf, hs⟩ := ws_start (rL.below bW rL.lt) rW (s2.below bW (Nat.le_refl _)) (fun k hk => (t2.out k hk).2) (s3.below bW (Nat.le_refl _)) (fun k hk => (t3.out k hk).2) (s4.below bW (Nat.le_refl _)) (fun k hk => (t4.out k hk).2) (s5.below bW (Nat.le_refl _)) (fun k hk => (t5.out k hk).2) (s6.below bW (Nat.le_refl _))
      B2.out.size b3'.out.size b4'.out.size b5'.out.size (by rintro rfl; simp at k2) (by rintro rfl; simp at k4) (by rintro rfl; simp at k8) (by rintro rfl; simp at kS; omega) u2 u4 u8 uS (by omega) (by omega) (by omega) (by omega) (BL.out.trans (bW.mono BL.out.size))
    have HF := Lib.hid hf
    have HW := Lib.hid hs
    clear hf hs rW bW u2 u4 u8 uS k2 k4 k8 kS kS1 kS2 rL s2 s3 s4 s5 s6 t2 t3 t4 t5 B2 b3' b4' b5' b6' BL HL2 HL4 HL8 HLS HT2 HT4 HT8 HTS HZ2 HZ4 HZ8 HZS HCB HV x0 x1 hgW
    go_wp2
    go_loopw [59] (fun i wr => ∃ k : Nat, k ≤ 4 ∧ i = .int .i64 k ∧ WS w6.heap.size gW V Ls U (.slice A2 l.length c2) l w wr k) (fun i _ => 4 - (intOf i).toNat)
    case atStart => exact ⟨0, by omega, rfl, HW.out⟩
    case round =>
      clear HW
      obtain ⟨k, hk, rfl, hst⟩ := hrel
      by_cases hlt : k < 4
      · have hki : (k : Int) < 4 := by omega
        obtain ⟨b, c9, hV, hlc⟩ := HF.out.form k hlt
        obtain ⟨ms, hms⟩ : ∃ ms, ms = Ls k := ⟨_, rfl⟩
        obtain ⟨u, hu⟩ : ∃ u, u = U k := ⟨_, rfl⟩
        have hsm := HF.out.small k hlt
        have ok := hst.ow k (Nat.le_refl _) hlt
        have hcL := hst.cellL k hlt
        have hcS := hst.cellS k hlt
        rw [hV] at hcL
        rw [hV] at ok
        rw [← hms] at hV hlc hsm ok hcL
        rw [← hu] at hcS
        have hcv : ∀ n, (convert 22 9 (.slice (some ⟨b, 0, none⟩) ms.length c9)).run Try.prog (wr.drewN n) = .ok (.string u) (wr.drewN n) := fun n => by rw [hu, HF.out.str k hlt, ← hms]; exact str_sl (ok.drewN n).sl
        have hgb : some w6.heap.size ≠ some b := fun e => (ok.not_row hst.rl (by decide)) (by rw [e]; rfl)
        have OK := Lib.hid ok
        have HV9 := Lib.hid hV
        have HST := Lib.hid hst
        have HGB := Lib.hid hgb
        clear ok hV hst hms hu hgb
        go_wp2
        go_quiet (fail)
        go_wp2
        obtain ⟨wo, rfl⟩ : ∃ wo : World, wo = wr := ⟨_, rfl⟩
        clear hcv hcS
        go_loopw [74] (fun i wq => ∃ (q : Nat) (ns : List UInt8), q ≤ ms.length ∧ i = .int .i64 q ∧ ns.length = ms.length ∧ Ow wq w.heap.size (.slice (some ⟨b, 0, none⟩) ms.length c9) ns ∧ wo.grownBy wq (some b)) (fun i _ => ms.length - (intOf i).toNat)
        case atStart => exact ⟨0, ms, by omega, rfl, rfl, OK.out.drewN _, grown_drewN (World.grownBy.refl _ _) _⟩
        case round =>
          obtain ⟨q, ns, hq, rfl, hnl, on, gn⟩ := hrel
          by_cases hq2 : q < ms.length
          · have hcL' : wr.cell? ⟨w6.heap.size, k, none⟩ = some (.slice (some ⟨b, 0, none⟩) ms.length c9) := gn.cell hcL HGB.out
            have on' : Ow wr w.heap.size (.slice (some ⟨b, 0, none⟩) ns.length c9) ns := by rw [hnl]; exact on
            obtain ⟨y, hy⟩ : ∃ y, ns[q]? = some y := ⟨_, List.getElem?_eq_getElem (by omega)⟩
            have hcb : wr.cell? ⟨b, q, none⟩ = some (b8 y) := by rw [World.ownsRow.cellAt on' q (by omega), List.getElem?_map, hy]; rfl
            have hfb : wr.frozen? ⟨b, q, none⟩ = false := World.ownsRow.frozenAt on' q
            unfold b8 at hcb
            obtain ⟨z, hz⟩ : ∃ z : Int, z = (y.toNat : Int) := ⟨_, rfl⟩
            rw [← hz] at hcb
            have z0 : 0 ≤ z := by omega
            have z1 : z ≤ 255 := by have := y.toNat_lt; omega
            have ON := Lib.hid on'
            have HZ := Lib.hid hz
            have HNL := Lib.hid hnl
            have GN := Lib.hid gn
            have hcL0 := Lib.hid hcL
            clear on on' hz hnl gn hy hcL
            go_wp2
            have e9 : b8 (UInt8.ofNat (y.toNat + 1)) = .int .u8 ((z + 1) % 256) := by unfold b8; rw [u8_mod, HZ.out, Int.natCast_add]; rfl
            have hs9 := Ow.stored ON.out q (UInt8.ofNat (y.toNat + 1))
            rw [e9, HNL.out] at hs9
            go_roundw
            case rel => exact ⟨q + 1, ns.set q (UInt8.ofNat (y.toNat + 1)), by omega, by go_num, by rw [List.length_set]; exact HNL.out, hs9, GN.out.trans (grown_set _ _ _ _)⟩
            case measure => simp [intOf]; omega
          · have hge : ms.length ≤ q := by omega
            have GN := Lib.hid gn
            clear on gn
            go_wp2
            go_roundw
            case rel => exact ⟨k + 1, by omega, by go_num, HST.out.next HF.out hlt (by rw [HV9.out]; exact GN.out)⟩
            case measure => simp [intOf]; omega
      · have hcv : (convert 22 9 (.slice A2 l.length c2)).run Try.prog wr = .ok (.string S) wr := by rw [HS.out]; exact str_sl hst.inn.sl
        have hge : 4 ≤ k := by omega
        have HST := Lib.hid hst
        clear hst
        go_wp2_with (go_at_call 8; refine (known_any _).mono ?_; rintro e w9 ⟨rfl, b9⟩)
        go_ret
        exact ⟨rfl, HST.out.bel.trans (b9.mono HST.out.bel.size)⟩
end Go.Proofs.Ytmhcbfcpamkfhaa
