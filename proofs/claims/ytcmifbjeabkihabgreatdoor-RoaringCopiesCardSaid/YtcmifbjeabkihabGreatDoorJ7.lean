/- Walks: what is too much to be looked at. -/
import Derived.Test.YtcmifbjeabkihabGreatDoorMd0
import Derived.Test.YtcmifbjeabkihabGreatDoorJ5a


namespace Go.Proofs.YtcmifbjeabkihabGreatDoor
open Go.RowKit
set_option linter.unusedVariables false

set_option maxHeartbeats 8000000 in
theorem great_is (v : Value) (l : List Sn) (B : Bool) (w : World) (hg : grt l = B) (hb : l.length ≤ 8796093022209) (hv : Gs2 eSp w 0 w.heap.size v l) :
    Calls Tryz.prog 4 #[v] w fun e w' => e = .returned (.bool B) ∧ Below w.heap.size w w' := by
  have HV := Lib.hid hv
  have HG := Lib.hid hg
  have HB := Lib.hid hb
  have hlen := hv.len
  obtain ⟨A1, c1, rfl, -⟩ := hv
  clear hg
  go_enter Tryz.func4, Tryz.ntmps4
  go_wp2
  go_loopw [3, 8] (fun sn si wr => ∃ k m : Nat, k ≤ l.length ∧ sn = .int .u64 m ∧ si = .int .i64 k ∧ Hid (m = gsum (l.take k)) ∧ Hid (∀ s ∈ l.take k, gk s ≤ 200000) ∧ Below w.heap.size w wr) (fun _ si _ => l.length - (intOf si).toNat)
  case atStart => exact ⟨0, 0, Nat.zero_le _, rfl, rfl, Lib.hid (show 0 = gsum (l.take 0) from rfl), Lib.hid (fun s hs => by simp at hs), Below.refl _ _⟩
  case round =>
    obtain ⟨k, m, hk, rfl, rfl, hm, hall, hbl⟩ := hrel
    have HW := Lib.hid hbl
    by_cases hlt : k < l.length
    · obtain ⟨b, off, r, e1, -, hbk, hdr, hgt, c0, c2⟩ := gss_at HV.out hlt
      subst e1
      rw [← hbl.cell (p := ⟨b, off + k * 2, none⟩) hbk] at c0
      rw [← hbl.cell (p := ⟨b, off + k * 2 + 1, none⟩) hbk] at c2
      have hbk2 : b < wr.heap.size := Nat.lt_of_lt_of_le hbk hbl.size
      have hki : (k : Int) < l.length := by omega
      have hnx := gsum_take l k r hgt
      have hmem : r ∈ l := List.mem_of_getElem? hgt
      have hall2 : gk r ≤ 200000 → ∀ s ∈ l.take (k + 1), gk s ≤ 200000 := fun hr s hs => by
        rw [List.take_add_one, hgt] at hs
        simp at hs
        rcases hs with hs | hs
        · exact hall.out s hs
        · rw [hs]; exact hr
      have hmle : m ≤ 200000 * k := by
        have h1 := gsum_le hall.out
        rw [List.length_take, Nat.min_eq_left hk, ← hm.out] at h1
        exact h1
      have hm62 : m ≤ 1759218604441800000 := by omega
      rw [← hm.out] at hnx
      have HIT := Lib.hid (fun h : 200000 < gk r => (grt_hit hmem h).symm.trans HG.out)
      have HNX := Lib.hid hnx
      have HA2 := Lib.hid hall2
      obtain ⟨p, hp⟩ : ∃ p, p = r.1.toNat := ⟨_, rfl⟩
      obtain ⟨q, hq⟩ : ∃ q, q = r.2.toNat := ⟨_, rfl⟩
      have hp64 : p < 18446744073709551616 := by rw [hp]; exact r.1.toNat_lt
      have hq64 : q < 18446744073709551616 := by rw [hq]; exact r.2.toNat_lt
      obtain ⟨M, hM⟩ : ∃ M : Nat, M = min q 4294967296 := ⟨_, rfl⟩
      have hmin := fun W => run_minb W #[37, 37] 37 (q : Int) (M : Int) (by omega)
      have hgk : gk r = if p < q ∧ p < 4294967296 then M - p else 0 := by unfold gk; rw [← hp, ← hq, hM]
      obtain ⟨g, hgd⟩ : ∃ g, gk r = g := ⟨_, rfl⟩
      rw [hgd] at hgk HIT HNX HA2
      rw [← hp] at c0
      rw [← hq] at c2
      clear hdr hgt hnx hmem hall2 hmle hp hq hgd hm hall hb hbl
      have hm2 := hm62
      by_cases h1 : p < q
      · have d1 : decide ((q : Int) > (p : Int)) = true := decide_eq_true (by omega)
        have d1n : decide ((p : Int) < (q : Int)) = true := decide_eq_true (by omega)
        have d1m : decide (p < q) = true := decide_eq_true (by omega)
        by_cases h2 : p < 4294967296
        · have d2 : decide ((p : Int) < 4294967296) = true := decide_eq_true (by omega)
          have d2n : decide (p < 4294967296) = true := decide_eq_true (by omega)
          rw [if_pos ⟨h1, h2⟩] at hgk
          have w1 : IntKind.u64.wrap ((M : Int) - (p : Int)) = (g : Int) := by rw [IntKind.wrap_u64]; omega
          have w2 : IntKind.u64.wrap ((m : Int) + (g : Int)) = (m : Int) + (g : Int) := by rw [IntKind.wrap_u64]; omega
          by_cases h3 : 200000 < g
          · have d3 : decide ((g : Int) > 200000) = true := decide_eq_true (by omega)
            have d3n : decide (200000 < (g : Int)) = true := decide_eq_true (by omega)
            have d3m : decide (200000 < g) = true := decide_eq_true (by omega)
            have HT : Hid (true = B) := Lib.hid (HIT.out h3)
            clear HIT HNX HA2 hgk hM h1 h2 hp64 hq64
            go_wp2
            go_quiet (fail)
            go_wp2_with fail
            have hSc : Below wr.heap.size wr ((wr.drewN nq).drew) := (below_drewN (Below.refl _ _) _).drew
            refine wp_region_held_drew (S := fun W => Below wr.heap.size wr W) (by kernel_rfl) hSc (fun _ => ?_)
            refine held_take 0 ?_ rfl (by kernel_rfl) (by kernel_rfl) (by kernel_rfl) (fun _ _ _ h => h) (by rfl) ?_ hSc ?_
            rotate_left
            · (intro W hSW; go_simp; try rfl)
            try simp only [Act.put, List.setIfInBounds_toArray, List.set_cons_zero, List.set_cons_succ]
            refine held_take 1 ?_ rfl (by kernel_rfl) (by kernel_rfl) (by kernel_rfl) (fun _ _ _ h => h) (by rfl) ?_ hSc ?_
            rotate_left
            · (intro W hSW; go_simp; try rfl)
            try simp only [Act.put, List.setIfInBounds_toArray, List.set_cons_zero, List.set_cons_succ]
            refine held_take 2 ?_ rfl (by kernel_rfl) (by kernel_rfl) (by kernel_rfl) (fun _ _ _ h => h) (by rfl) ?_ hSc ?_
            rotate_left
            · (intro W hSW; go_simp; try rfl)
            try simp only [Act.put, List.setIfInBounds_toArray, List.set_cons_zero, List.set_cons_succ]
            refine held_take 3 ?_ rfl (by kernel_rfl) (by kernel_rfl) (by kernel_rfl) (fun _ _ _ h => h) (by rfl) ?_ hSc ?_
            rotate_left
            · (intro W hSW; go_simp; try rfl)
            try simp only [Act.put, List.setIfInBounds_toArray, List.set_cons_zero, List.set_cons_succ]
            refine held_take 4 ?_ rfl (by kernel_rfl) (by kernel_rfl) (by kernel_rfl) (fun _ _ _ h => h) (by rfl) ?_ hSc ?_
            rotate_left
            · (intro W hSW; have f0 := (hSW.cell (p := ⟨b, off + k * 2, none⟩) hbk2).trans c0; have f1 := (hSW.cell (p := ⟨b, off + k * 2 + 1, none⟩) hbk2).trans c2; go_simp; try rfl)
            try simp only [Act.put, List.setIfInBounds_toArray, List.set_cons_zero, List.set_cons_succ]
            refine held_take 5 ?_ rfl (by kernel_rfl) (by kernel_rfl) (by kernel_rfl) (fun _ _ _ h => h) (by rfl) ?_ hSc ?_
            rotate_left
            · (intro W hSW; go_simp; try rfl)
            try simp only [Act.put, List.setIfInBounds_toArray, List.set_cons_zero, List.set_cons_succ]
            refine held_take 6 ?_ rfl (by kernel_rfl) (by kernel_rfl) (by kernel_rfl) (fun _ _ _ h => h) (by rfl) ?_ hSc ?_
            rotate_left
            · (intro W hSW; go_simp; try rfl)
            try simp only [Act.put, List.setIfInBounds_toArray, List.set_cons_zero, List.set_cons_succ]
            refine held_take 7 ?_ rfl (by kernel_rfl) (by kernel_rfl) (by kernel_rfl) (fun _ _ _ h => h) (by rfl) ?_ hSc ?_
            rotate_left
            · (intro W hSW; go_simp; try rfl)
            try simp only [Act.put, List.setIfInBounds_toArray, List.set_cons_zero, List.set_cons_succ]
            refine held_take 8 ?_ rfl (by kernel_rfl) (by kernel_rfl) (by kernel_rfl) (fun _ _ _ h => h) (by rfl) ?_ hSc ?_
            rotate_left
            · (intro W hSW; go_simp; try rfl)
            try simp only [Act.put, List.setIfInBounds_toArray, List.set_cons_zero, List.set_cons_succ]
            refine held_take 9 ?_ rfl (by kernel_rfl) (by kernel_rfl) (by kernel_rfl) (fun _ _ _ h => h) (by rfl) ?_ hSc ?_
            rotate_left
            · (intro W hSW; go_simp; try rfl)
            try simp only [Act.put, List.setIfInBounds_toArray, List.set_cons_zero, List.set_cons_succ]
            refine held_take 10 ?_ rfl (by kernel_rfl) (by kernel_rfl) (by kernel_rfl) (fun _ _ _ h => h) (by rfl) ?_ hSc ?_
            rotate_left
            · (intro W hSW; have f0 := (hSW.cell (p := ⟨b, off + k * 2, none⟩) hbk2).trans c0; have f1 := (hSW.cell (p := ⟨b, off + k * 2 + 1, none⟩) hbk2).trans c2; go_simp; try rfl)
            try simp only [Act.put, List.setIfInBounds_toArray, List.set_cons_zero, List.set_cons_succ]
            refine held_take 11 ?_ rfl (by kernel_rfl) (by kernel_rfl) (by kernel_rfl) (fun _ _ _ h => h) (by rfl) ?_ hSc ?_
            rotate_left
            · (intro W hSW; go_simp; try rfl)
            try simp only [Act.put, List.setIfInBounds_toArray, List.set_cons_zero, List.set_cons_succ]
            refine held_next 12 rfl (by kernel_rfl) (by rfl) ?_
            go_simp
            refine ⟨fun W => Below wr.heap.size wr W, fun W hW => hW, hSc, ?_⟩
            refine wpAnyH_done (by kernel_rfl) ?_ _
            have BB := Lib.hid (HW.out.trans (hSc.mono HW.out.size))
            go_wp2
            go_ret
            exact ⟨by rw [← HT.out]; rfl, BB.out⟩
          · have d3 : decide ((g : Int) > 200000) = false := decide_eq_false (by omega)
            have d3n : decide (200000 < (g : Int)) = false := decide_eq_false (by omega)
            have d3m : decide (200000 < g) = false := decide_eq_false (by omega)
            have HA3 := Lib.hid (HA2.out (by omega))
            clear HIT HA2 hgk hM h1 h2 hp64 hq64
            go_wp2
            go_quiet (fail)
            go_wp2_with fail
            have hSc : Below wr.heap.size wr ((wr.drewN nq).drew) := (below_drewN (Below.refl _ _) _).drew
            refine wp_region_held_drew (S := fun W => Below wr.heap.size wr W) (by kernel_rfl) hSc (fun _ => ?_)
            refine held_take 0 ?_ rfl (by kernel_rfl) (by kernel_rfl) (by kernel_rfl) (fun _ _ _ h => h) (by rfl) ?_ hSc ?_
            rotate_left
            · (intro W hSW; go_simp; try rfl)
            try simp only [Act.put, List.setIfInBounds_toArray, List.set_cons_zero, List.set_cons_succ]
            refine held_take 1 ?_ rfl (by kernel_rfl) (by kernel_rfl) (by kernel_rfl) (fun _ _ _ h => h) (by rfl) ?_ hSc ?_
            rotate_left
            · (intro W hSW; go_simp; try rfl)
            try simp only [Act.put, List.setIfInBounds_toArray, List.set_cons_zero, List.set_cons_succ]
            refine held_take 2 ?_ rfl (by kernel_rfl) (by kernel_rfl) (by kernel_rfl) (fun _ _ _ h => h) (by rfl) ?_ hSc ?_
            rotate_left
            · (intro W hSW; go_simp; try rfl)
            try simp only [Act.put, List.setIfInBounds_toArray, List.set_cons_zero, List.set_cons_succ]
            refine held_take 3 ?_ rfl (by kernel_rfl) (by kernel_rfl) (by kernel_rfl) (fun _ _ _ h => h) (by rfl) ?_ hSc ?_
            rotate_left
            · (intro W hSW; go_simp; try rfl)
            try simp only [Act.put, List.setIfInBounds_toArray, List.set_cons_zero, List.set_cons_succ]
            refine held_take 4 ?_ rfl (by kernel_rfl) (by kernel_rfl) (by kernel_rfl) (fun _ _ _ h => h) (by rfl) ?_ hSc ?_
            rotate_left
            · (intro W hSW; have f0 := (hSW.cell (p := ⟨b, off + k * 2, none⟩) hbk2).trans c0; have f1 := (hSW.cell (p := ⟨b, off + k * 2 + 1, none⟩) hbk2).trans c2; go_simp; try rfl)
            try simp only [Act.put, List.setIfInBounds_toArray, List.set_cons_zero, List.set_cons_succ]
            refine held_take 5 ?_ rfl (by kernel_rfl) (by kernel_rfl) (by kernel_rfl) (fun _ _ _ h => h) (by rfl) ?_ hSc ?_
            rotate_left
            · (intro W hSW; go_simp; try rfl)
            try simp only [Act.put, List.setIfInBounds_toArray, List.set_cons_zero, List.set_cons_succ]
            refine held_take 6 ?_ rfl (by kernel_rfl) (by kernel_rfl) (by kernel_rfl) (fun _ _ _ h => h) (by rfl) ?_ hSc ?_
            rotate_left
            · (intro W hSW; go_simp; try rfl)
            try simp only [Act.put, List.setIfInBounds_toArray, List.set_cons_zero, List.set_cons_succ]
            refine held_take 7 ?_ rfl (by kernel_rfl) (by kernel_rfl) (by kernel_rfl) (fun _ _ _ h => h) (by rfl) ?_ hSc ?_
            rotate_left
            · (intro W hSW; go_simp; try rfl)
            try simp only [Act.put, List.setIfInBounds_toArray, List.set_cons_zero, List.set_cons_succ]
            refine held_take 8 ?_ rfl (by kernel_rfl) (by kernel_rfl) (by kernel_rfl) (fun _ _ _ h => h) (by rfl) ?_ hSc ?_
            rotate_left
            · (intro W hSW; go_simp; try rfl)
            try simp only [Act.put, List.setIfInBounds_toArray, List.set_cons_zero, List.set_cons_succ]
            refine held_take 9 ?_ rfl (by kernel_rfl) (by kernel_rfl) (by kernel_rfl) (fun _ _ _ h => h) (by rfl) ?_ hSc ?_
            rotate_left
            · (intro W hSW; go_simp; try rfl)
            try simp only [Act.put, List.setIfInBounds_toArray, List.set_cons_zero, List.set_cons_succ]
            refine held_take 10 ?_ rfl (by kernel_rfl) (by kernel_rfl) (by kernel_rfl) (fun _ _ _ h => h) (by rfl) ?_ hSc ?_
            rotate_left
            · (intro W hSW; have f0 := (hSW.cell (p := ⟨b, off + k * 2, none⟩) hbk2).trans c0; have f1 := (hSW.cell (p := ⟨b, off + k * 2 + 1, none⟩) hbk2).trans c2; go_simp; try rfl)
            try simp only [Act.put, List.setIfInBounds_toArray, List.set_cons_zero, List.set_cons_succ]
            refine held_take 11 ?_ rfl (by kernel_rfl) (by kernel_rfl) (by kernel_rfl) (fun _ _ _ h => h) (by rfl) ?_ hSc ?_
            rotate_left
            · (intro W hSW; go_simp; try rfl)
            try simp only [Act.put, List.setIfInBounds_toArray, List.set_cons_zero, List.set_cons_succ]
            refine held_next 12 rfl (by kernel_rfl) (by rfl) ?_
            go_simp
            refine ⟨fun W => Below wr.heap.size wr W, fun W hW => hW, hSc, ?_⟩
            refine wpAnyH_done (by kernel_rfl) ?_ _
            have BB := Lib.hid (HW.out.trans (hSc.mono HW.out.size))
            go_wp2
            exact ⟨⟨k + 1, m + g, by omega, by push_cast; rfl, by go_num, Lib.hid HNX.out.symm, HA3, BB.out⟩, by simp [intOf]; omega⟩
        · have d2 : decide ((p : Int) < 4294967296) = false := decide_eq_false (by omega)
          have d2n : decide (p < 4294967296) = false := decide_eq_false (by omega)
          rw [if_neg (by omega)] at hgk
          subst hgk
          have HA3 := Lib.hid (HA2.out (by omega))
          clear HIT HA2 hM h1 h2 hp64 hq64
          go_wp2
          go_quiet (fail)
          go_wp2
          exact ⟨⟨k + 1, m, by omega, rfl, by go_num, Lib.hid HNX.out.symm, HA3, below_drewN HW.out _⟩, by simp [intOf]; omega⟩
      · have d1 : decide ((q : Int) > (p : Int)) = false := decide_eq_false (by omega)
        have d1n : decide ((p : Int) < (q : Int)) = false := decide_eq_false (by omega)
        have d1m : decide (p < q) = false := decide_eq_false (by omega)
        rw [if_neg (by omega)] at hgk
        subst hgk
        have HA3 := Lib.hid (HA2.out (by omega))
        clear HIT HA2 hM h1 hp64 hq64
        go_wp2
        go_quiet (fail)
        go_wp2
        exact ⟨⟨k + 1, m, by omega, rfl, by go_num, Lib.hid HNX.out.symm, HA3, below_drewN HW.out _⟩, by simp [intOf]; omega⟩
    · obtain rfl : k = l.length := by omega
      have HB2 := Lib.hid hbl
      have ha := hall.out
      have hme := hm.out
      rw [List.take_length] at ha hme
      have hl := (grt_last ha).symm.trans HG.out
      rw [← hme] at hl
      by_cases h1 : 60 < l.length
      · have d1 : decide ((l.length : Int) > 60) = true := decide_eq_true (by omega)
        have d1n : decide (60 < (l.length : Int)) = true := decide_eq_true (by omega)
        have d1m : decide (60 < l.length) = true := decide_eq_true (by omega)
        rw [d1m] at hl
        have HL := Lib.hid hl
        clear hbl hl ha hme hm hall h1
        go_wp2
        go_ret
        exact ⟨by rw [← HL.out]; rfl, HB2.out⟩
      · have d1 : decide ((l.length : Int) > 60) = false := decide_eq_false (by omega)
        have d1n : decide (60 < (l.length : Int)) = false := decide_eq_false (by omega)
        have d1m : decide (60 < l.length) = false := decide_eq_false (by omega)
        rw [d1m] at hl
        by_cases h2 : 300000 < m
        · have d2 : decide ((m : Int) > 300000) = true := decide_eq_true (by omega)
          have d2n : decide (300000 < (m : Int)) = true := decide_eq_true (by omega)
          have d2m : decide (300000 < m) = true := decide_eq_true (by omega)
          rw [d2m] at hl
          have HL := Lib.hid hl
          clear hbl hl ha hme hm hall h1 h2
          go_wp2
          go_ret
          exact ⟨by rw [← HL.out]; rfl, HB2.out⟩
        · have d2 : decide ((m : Int) > 300000) = false := decide_eq_false (by omega)
          have d2n : decide (300000 < (m : Int)) = false := decide_eq_false (by omega)
          have d2m : decide (300000 < m) = false := decide_eq_false (by omega)
          rw [d2m] at hl
          have HL := Lib.hid hl
          clear hbl hl ha hme hm hall h1 h2
          go_wp2
          go_ret
          exact ⟨by rw [← HL.out]; rfl, HB2.out⟩
end Go.Proofs.YtcmifbjeabkihabGreatDoor
