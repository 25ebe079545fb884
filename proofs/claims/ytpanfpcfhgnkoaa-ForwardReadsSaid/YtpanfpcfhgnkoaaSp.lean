/- Walks: Read, where the head is right. -/
import Derived.Test.YtpanfpcfhgnkoaaSo
namespace Go.Proofs.Ytpanfpcfhgnkoaa
open Go.RowKit
set_option linter.unusedVariables false

set_option maxHeartbeats 2000000 in
set_option maxRecDepth 100000 in
theorem read_check (A : Option Addr) (c : Nat) (b : List UInt8) (rows many : Int) (w : World) (hG : Gs e8 w 0 w.heap.size (.slice A b.length c) b) (h9 : 9 ≤ b.length) (hx : ¬ 16777216 < rN b) (h1 : (rN b : Int) = rows) (h2 : (rM b : Int) = many) (h3 : mayM rows many = true) (h4 : rW b = wdm many) (hl : b.length ≤ 100000) (hE : chE (b.drop 9) (rN b) (rM b) (rW b) ≠ 0) :
    Calls Try.prog 14 #[.slice A b.length c, .int .i64 rows, .int .i64 many] w fun e w' => e = .returned (.tuple #[.pointer none, .int .i64 (chE (b.drop 9) (rN b) (rM b) (rW b))]) ∧ Below w.heap.size w w' := by
  obtain ⟨n, hn⟩ : ∃ n, rN b = n := ⟨_, rfl⟩
  obtain ⟨m, hm⟩ : ∃ m, rM b = m := ⟨_, rfl⟩
  obtain ⟨k, hk⟩ : ∃ k, rW b = k := ⟨_, rfl⟩
  have HHD := Lib.hid (head_yes A c b w hG h9)
  rw [hn, hm, hk] at HHD
  have hm32 := rM_lt b
  rw [hm] at hm32
  rw [hn] at hx
  have d1 : decide ((16777216 : Int) < (n : Int)) = false := decide_eq_false (by omega)
  rw [hn] at h1
  rw [hm] at h2
  subst h1 h2
  rw [hn, hm, hk] at hE ⊢
  have HMY := Lib.hid (fun W => isMany_any (m : Int) (n : Int) W)
  rw [h3] at HMY
  have HWO := Lib.hid (fun W => widthOf_any (m : Int) W (by omega))
  rw [hk] at h4
  rw [← h4] at HWO
  have H4 := Lib.hid h4
  have H3 := Lib.hid h3
  clear h4 h3
  have HG := Lib.hid hG
  have HN := Lib.hid hl
  have H9 := Lib.hid h9
  have hmc : b.length ≤ c := by obtain ⟨_, _, e, _, h1, _⟩ := hG; injection e with _ _ e3; omega
  have hcm : c ≤ 9223372036854775807 := by obtain ⟨_, _, e, _, _, h2, _⟩ := hG; injection e with _ _ e3; subst e3; unfold maxLen at h2; omega
  obtain ⟨b0, off, c', e, -, -, -, -, -⟩ := hG.form (by rintro rfl; simp at h9)
  injection e with e1 e2 e3
  clear e2
  subst e1 e3
  have hcut := sl_cut (p := 9) (m := b.length - 9) hG (by omega)
  simp only [Option.map_some, Addr.add_lit] at hcut
  rw [List.take_of_length_le (by rw [List.length_drop]; exact Nat.le_refl _)] at hcut
  obtain ⟨A9, hA9⟩ : ∃ A9, A9 = (if c = 9 then some (⟨b0, off, none⟩ : Addr) else some ⟨b0, off + 9, none⟩) := ⟨_, rfl⟩
  rw [← hA9] at hcut
  have G9 := Lib.hid hcut
  have HA9 := Lib.hid hA9
  clear hA9
  have HDL := Lib.hid (show (b.drop 9).length ≤ 100000 by rw [List.length_drop]; omega)
  have h9i : (9 : Int) ≤ (b.length : Int) := by omega
  have HM32 := Lib.hid hm32
  clear hcut
  obtain ⟨E, hEE⟩ : ∃ E, chE (b.drop 9) (n : Int) (m : Int) (k : Int) = E := ⟨_, rfl⟩
  have HEE := Lib.hid hEE
  rw [hEE] at hE ⊢
  have e9 : (E != 0) = true := by simp [hE]
  clear hEE hE
  clear hG
  go_enter Try.func14, Try.ntmps14
  go_wp2_with (go_at_call 34; refine HHD.out.mono ?_; rintro e w1 ⟨rfl, b1⟩; have B1 := Lib.hid b1; have hr1 := Row.new w1 41 #[.int .i64 (n : Int), .int .i64 (m : Int), .int .i64 (k : Int), .slice none 0 0]; have R1 := Lib.hid hr1; have B2 := Lib.hid (b1.alloc b1.size (.cells #[.int .i64 (n : Int), .int .i64 (m : Int), .int .i64 (k : Int), .slice none 0 0] 41)); clear b1 hr1)
  have c0 := R1.out.cell 0
  have c1 := R1.out.cell 1
  have c2 := R1.out.cell 2
  have H2 := Lib.hid (B2.out)
  go_quiet ((first | (go_at_call 24; exact quiet_eq (HMY.out _)) | (go_at_call 26; exact quiet_eq (HWO.out _))))
  clear c0 c1 c2
  go_wp2_with fail
  obtain ⟨wb, hwb⟩ : ∃ wb, wb = (w1.alloc (.cells #[.int .i64 (n : Int), .int .i64 (m : Int), .int .i64 (k : Int), .slice none 0 0] 41)).drewN nq := ⟨_, rfl⟩
  have R3 := Lib.hid (show Row wb w1.heap.size 41 #[.int .i64 (n : Int), .int .i64 (m : Int), .int .i64 (k : Int), .slice none 0 0] by rw [hwb]; exact R1.out)
  have B3 := Lib.hid (show Below w.heap.size w wb by rw [hwb]; exact below_drewN B2.out nq)
  have S3 := Lib.hid (show w.heap.size ≤ w1.heap.size from B1.out.size)
  rw [← hwb]
  clear hwb
  refine wp_only ?_
  have hSc := (Below.refl wb.heap.size wb).drew
  refine wp_region_all (S := fun W => Below wb.heap.size wb W) (by kernel_rfl) hSc (fun W0 hSc => ?_)
  refine held_take 0 ?_ rfl (by kernel_rfl) (by kernel_rfl) (by kernel_rfl) (fun _ _ _ h => h) (by rfl) ?_ hSc ?_
  rotate_left
  · (intro W hSW; go_simp; try rfl)
  try simp only [Act.put, List.setIfInBounds_toArray, List.set_cons_zero, List.set_cons_succ]
  refine held_take 2 ?_ rfl (by kernel_rfl) (by kernel_rfl) (by kernel_rfl) (fun _ _ _ h => h) (by rfl) ?_ hSc ?_
  rotate_left
  · (intro W hSW; have hr := R3.out.below hSW R3.out.lt; have c0 := hr.cell 0; have c1 := hr.cell 1; have c2 := hr.cell 2; have c3 := hr.cell 3; go_simp; try rfl)
  try simp only [Act.put, List.setIfInBounds_toArray, List.set_cons_zero, List.set_cons_succ]
  refine held_take 1 ?_ rfl (by kernel_rfl) (by kernel_rfl) (by kernel_rfl) (fun _ _ _ h => h) (by rfl) ?_ hSc ?_
  rotate_left
  · (intro W hSW; go_simp; try rfl)
  try simp only [Act.put, List.setIfInBounds_toArray, List.set_cons_zero, List.set_cons_succ]
  rw [← HA9.out]
  refine held_next 3 rfl (by kernel_rfl) (by rfl) ?_
  go_simp
  refine (check_any A9 (b.length - 9) (c - 9) (b.drop 9) n m k none 0 0 _ ((G9.out.below (B3.out.trans (hSc.mono B3.out.size))).more (Nat.zero_le _) (B3.out.trans (hSc.mono B3.out.size)).size) HDL.out (by omega) (by have := HM32.out; omega)).mono ?_
  rintro e wq1 ⟨rfl, b1⟩
  have hSd : (fun W => Below wb.heap.size wb W) wq1 := hSc.trans (b1.mono hSc.size)
  refine ⟨fun W => Below wb.heap.size wb W, fun W hW => hW, hSd, ?_⟩
  clear hSc b1
  have hSc := hSd
  clear hSd
  try simp only [Act.put, List.setIfInBounds_toArray, List.set_cons_zero, List.set_cons_succ]
  have BC := Lib.hid hSc
  have RC := Lib.hid (R3.out.below hSc R3.out.lt)
  refine held_next 4 rfl (by kernel_rfl) (by rfl) ?_
  go_simp
  refine ⟨fun W => Below wb.heap.size wb W, fun W hW => hW, hSc, ?_⟩
  refine wpAnyH_done (by kernel_rfl) ?_ _
  unfold onlyN
  clear hSc
  rw [HEE.out]
  go_wp2
  go_ret2
  exact ⟨rfl, B3.out.trans (BC.out.mono B3.out.size)⟩
set_option maxHeartbeats 2000000 in
set_option maxRecDepth 100000 in
theorem read_ok (A : Option Addr) (c : Nat) (b : List UInt8) (rows many : Int) (w : World) (hG : Gs e8 w 0 w.heap.size (.slice A b.length c) b) (h9 : 9 ≤ b.length) (hx : ¬ 16777216 < rN b) (h1 : (rN b : Int) = rows) (h2 : (rM b : Int) = many) (h3 : mayM rows many = true) (h4 : rW b = wdm many) (hl : b.length ≤ 100000) (hE : chE (b.drop 9) (rN b) (rM b) (rW b) = 0) :
    Calls Try.prog 14 #[.slice A b.length c, .int .i64 rows, .int .i64 many] w fun e w' => ∃ g A9 c9, e = .returned (.tuple #[.pointer (some ⟨g, 0, none⟩), .int .i64 0]) ∧ w.heap.size ≤ g ∧ Row w' g 41 #[.int .i64 (rN b : Int), .int .i64 (rM b : Int), .int .i64 (rW b : Int), .slice A9 (b.drop 9).length c9] ∧ Gs e8 w' w.heap.size w'.heap.size (.slice A9 (b.drop 9).length c9) (b.drop 9) ∧ Below w.heap.size w w' := by
  obtain ⟨n, hn⟩ : ∃ n, rN b = n := ⟨_, rfl⟩
  obtain ⟨m, hm⟩ : ∃ m, rM b = m := ⟨_, rfl⟩
  obtain ⟨k, hk⟩ : ∃ k, rW b = k := ⟨_, rfl⟩
  have HHD := Lib.hid (head_yes A c b w hG h9)
  rw [hn, hm, hk] at HHD
  have hm32 := rM_lt b
  rw [hm] at hm32
  rw [hn] at hx
  have d1 : decide ((16777216 : Int) < (n : Int)) = false := decide_eq_false (by omega)
  rw [hn] at h1
  rw [hm] at h2
  subst h1 h2
  rw [hn, hm, hk] at hE ⊢
  have HMY := Lib.hid (fun W => isMany_any (m : Int) (n : Int) W)
  rw [h3] at HMY
  have HWO := Lib.hid (fun W => widthOf_any (m : Int) W (by omega))
  rw [hk] at h4
  rw [← h4] at HWO
  have H4 := Lib.hid h4
  have H3 := Lib.hid h3
  clear h4 h3
  have HG := Lib.hid hG
  have HN := Lib.hid hl
  have H9 := Lib.hid h9
  have hmc : b.length ≤ c := by obtain ⟨_, _, e, _, h1, _⟩ := hG; injection e with _ _ e3; omega
  have hcm : c ≤ 9223372036854775807 := by obtain ⟨_, _, e, _, _, h2, _⟩ := hG; injection e with _ _ e3; subst e3; unfold maxLen at h2; omega
  obtain ⟨b0, off, c', e, -, -, -, -, -⟩ := hG.form (by rintro rfl; simp at h9)
  injection e with e1 e2 e3
  clear e2
  subst e1 e3
  have hcut := sl_cut (p := 9) (m := b.length - 9) hG (by omega)
  simp only [Option.map_some, Addr.add_lit] at hcut
  rw [List.take_of_length_le (by rw [List.length_drop]; exact Nat.le_refl _)] at hcut
  obtain ⟨A9, hA9⟩ : ∃ A9, A9 = (if c = 9 then some (⟨b0, off, none⟩ : Addr) else some ⟨b0, off + 9, none⟩) := ⟨_, rfl⟩
  rw [← hA9] at hcut
  have G9 := Lib.hid hcut
  have HA9 := Lib.hid hA9
  clear hA9
  have HDL := Lib.hid (show (b.drop 9).length ≤ 100000 by rw [List.length_drop]; omega)
  have h9i : (9 : Int) ≤ (b.length : Int) := by omega
  have HM32 := Lib.hid hm32
  clear hcut
  have HEE := Lib.hid hE
  clear hE
  clear hG
  go_enter Try.func14, Try.ntmps14
  go_wp2_with (go_at_call 34; refine HHD.out.mono ?_; rintro e w1 ⟨rfl, b1⟩; have B1 := Lib.hid b1; have hr1 := Row.new w1 41 #[.int .i64 (n : Int), .int .i64 (m : Int), .int .i64 (k : Int), .slice none 0 0]; have R1 := Lib.hid hr1; have B2 := Lib.hid (b1.alloc b1.size (.cells #[.int .i64 (n : Int), .int .i64 (m : Int), .int .i64 (k : Int), .slice none 0 0] 41)); clear b1 hr1)
  have c0 := R1.out.cell 0
  have c1 := R1.out.cell 1
  have c2 := R1.out.cell 2
  have H2 := Lib.hid (B2.out)
  go_quiet ((first | (go_at_call 24; exact quiet_eq (HMY.out _)) | (go_at_call 26; exact quiet_eq (HWO.out _))))
  clear c0 c1 c2
  go_wp2_with fail
  obtain ⟨wb, hwb⟩ : ∃ wb, wb = (w1.alloc (.cells #[.int .i64 (n : Int), .int .i64 (m : Int), .int .i64 (k : Int), .slice none 0 0] 41)).drewN nq := ⟨_, rfl⟩
  have R3 := Lib.hid (show Row wb w1.heap.size 41 #[.int .i64 (n : Int), .int .i64 (m : Int), .int .i64 (k : Int), .slice none 0 0] by rw [hwb]; exact R1.out)
  have B3 := Lib.hid (show Below w.heap.size w wb by rw [hwb]; exact below_drewN B2.out nq)
  have S3 := Lib.hid (show w.heap.size ≤ w1.heap.size from B1.out.size)
  rw [← hwb]
  clear hwb
  refine wp_only ?_
  have hSc := (Below.refl wb.heap.size wb).drew
  refine wp_region_all (S := fun W => Below wb.heap.size wb W) (by kernel_rfl) hSc (fun W0 hSc => ?_)
  refine held_take 0 ?_ rfl (by kernel_rfl) (by kernel_rfl) (by kernel_rfl) (fun _ _ _ h => h) (by rfl) ?_ hSc ?_
  rotate_left
  · (intro W hSW; go_simp; try rfl)
  try simp only [Act.put, List.setIfInBounds_toArray, List.set_cons_zero, List.set_cons_succ]
  refine held_take 2 ?_ rfl (by kernel_rfl) (by kernel_rfl) (by kernel_rfl) (fun _ _ _ h => h) (by rfl) ?_ hSc ?_
  rotate_left
  · (intro W hSW; have hr := R3.out.below hSW R3.out.lt; have c0 := hr.cell 0; have c1 := hr.cell 1; have c2 := hr.cell 2; have c3 := hr.cell 3; go_simp; try rfl)
  try simp only [Act.put, List.setIfInBounds_toArray, List.set_cons_zero, List.set_cons_succ]
  refine held_take 1 ?_ rfl (by kernel_rfl) (by kernel_rfl) (by kernel_rfl) (fun _ _ _ h => h) (by rfl) ?_ hSc ?_
  rotate_left
  · (intro W hSW; go_simp; try rfl)
  try simp only [Act.put, List.setIfInBounds_toArray, List.set_cons_zero, List.set_cons_succ]
  rw [← HA9.out]
  refine held_next 3 rfl (by kernel_rfl) (by rfl) ?_
  go_simp
  refine (check_any A9 (b.length - 9) (c - 9) (b.drop 9) n m k none 0 0 _ ((G9.out.below (B3.out.trans (hSc.mono B3.out.size))).more (Nat.zero_le _) (B3.out.trans (hSc.mono B3.out.size)).size) HDL.out (by omega) (by have := HM32.out; omega)).mono ?_
  rintro e wq1 ⟨rfl, b1⟩
  have hSd : (fun W => Below wb.heap.size wb W) wq1 := hSc.trans (b1.mono hSc.size)
  refine ⟨fun W => Below wb.heap.size wb W, fun W hW => hW, hSd, ?_⟩
  clear hSc b1
  have hSc := hSd
  clear hSd
  try simp only [Act.put, List.setIfInBounds_toArray, List.set_cons_zero, List.set_cons_succ]
  have BC := Lib.hid hSc
  have RC := Lib.hid (R3.out.below hSc R3.out.lt)
  refine held_next 4 rfl (by kernel_rfl) (by rfl) ?_
  go_simp
  refine ⟨fun W => Below wb.heap.size wb W, fun W hW => hW, hSc, ?_⟩
  refine wpAnyH_done (by kernel_rfl) ?_ _
  unfold onlyN
  clear hSc
  rw [HEE.out]
  have HCL := Lib.hid (fun W (h : Below w.heap.size w W) => clone_any (.slice A9 (b.length - 9) (c - 9)) (b.drop 9) 0 W ((G9.out.below h).more (Nat.zero_le _) h.size) (by have := HDL.out; omega))
  have BW := Lib.hid (B3.out.trans (BC.out.mono B3.out.size))
  go_wp2_with (go_at_call 36; rw [← HA9.out]; refine (HCL.out _ BW.out).mono ?_; rintro e w8 ⟨v8, rfl, o8, b8⟩; have B8 := Lib.hid (BW.out.trans (b8.mono BW.out.size)); have O8 := Lib.hid o8.sl; have R8 := Lib.hid (RC.out.below b8 RC.out.lt); obtain ⟨A8, d8, rfl, -⟩ := o8.sl; have f3 := R8.out.frozen 3; have c3 := R8.out.cell 3; clear o8 b8)
  go_ret2
  rw [List.length_drop] at *
  have hlt8 := RC.out.lt
  have hg8 := grown_set w8 w1.heap.size 3 (.slice A8 (b.length - 9) d8)
  refine ⟨w1.heap.size, A8, d8, rfl, S3.out, ?_, ?_, B8.out.setCell (p := ⟨w1.heap.size, 3, none⟩) S3.out _⟩
  · have := R8.out.set_ 3 (.slice A8 (b.length - 9) d8)
    exact this
  · have ho := O8.out
    exact (ho.grown hg8 (Nat.le_refl _) (fun k e => .inl (by injection e with e; omega))).more BW.out.size hg8.size
end Go.Proofs.Ytpanfpcfhgnkoaa
