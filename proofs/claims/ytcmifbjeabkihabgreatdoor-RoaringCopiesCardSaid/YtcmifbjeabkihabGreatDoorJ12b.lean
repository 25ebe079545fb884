/- Walks: slices.Insert of one entry, in place. -/
import Derived.Test.YtcmifbjeabkihabGreatDoorJ11
namespace Go.Proofs.YtcmifbjeabkihabGreatDoor
open Go.RowKit
set_option linter.unusedVariables false

theorem ins_arith (n i c : Nat) (hi : i < n) (hc : n + 1 ≤ c) (hcm : c ≤ maxLen) : ¬ ((i : Int) = (n : Int)) ∧ c ≤ 9223372036854775807 ∧ IntKind.i64.wrap ((i : Int) + 1) = (i : Int) + 1 ∧ IntKind.i64.wrap ((n : Int) + 1) = (n : Int) + 1 ∧ wrap64 ((i : Int) + 1) = (i : Int) + 1 ∧ wrap64 ((n : Int) + 1) = (n : Int) + 1 ∧
    ¬ ((n : Int) + 1 > c) ∧ (0 : Int) ≤ (i : Int) + 1 ∧ ((i : Int) + 1).toNat = i + 1 ∧ ((n : Int) + 1).toNat = n + 1 ∧ ¬ (c = i + 1) ∧ (i : Int) ≤ (n : Int) + 1 ∧ ¬ (c = i) := by
  unfold maxLen at hcm
  refine ⟨by omega, by omega, by rw [IntKind.wrap_i64]; omega, by rw [IntKind.wrap_i64]; omega, by unfold wrap64; omega, by unfold wrap64; omega, by omega, by omega, by omega, by omega, by omega, by omega, by omega⟩
set_option maxHeartbeats 4000000 in
set_option maxRecDepth 100000 in
theorem insert_in (g n c i vb : Nat) (cur : Array Value) (es : List En) (e : En) (w : World) (hn : es.length = n) (hi : i < n) (hc : n + 1 ≤ c) (hcm : c ≤ maxLen) (hg : w.heap[g]? = some (.cells cur eN.E)) (hcs : cur.size = c * 5) (ht : cur.toList.take (n * 5) = eN.row es)
    (hv : Row w vb eN.E (eN.cs e).toArray) (hne : vb ≠ g) :
    Calls Tryz.prog 37 #[.slice (some ⟨g, 0, none⟩) n c, .int .i64 (i : Int), .slice (some ⟨vb, 0, none⟩) 1 1] w fun r w' => r = .returned (.slice (some ⟨g, 0, none⟩) (n + 1) c) ∧
      ∃ cur2 : Array Value, w'.heap[g]? = some (.cells cur2 eN.E) ∧ cur2.size = c * 5 ∧ cur2.toList.take ((n + 1) * 5) = eN.row (es.take i ++ [e] ++ es.drop i) ∧ w.grownBy w' (some g) := by
  obtain ⟨i0, hi0, hz0, hzs, hzb⟩ := info_parts infN
  have hsz : (Tryz.prog.info? eN.E).map (·.size) = some 5 := by rw [hi0]; simp [hzs]; rfl
  have hz5 : ∀ w, (Go.sizeOf eN.E).run Tryz.prog w = .ok 5 w := fun w => by simp [sizeOf, typeInfo, hi0, hzs]; rfl
  have hR : (n + 1) * 5 ≤ cur.toList.length := by simp; omega
  have hl : (eN.row (es.drop i)).length = (n - i) * 5 := by rw [rowv_len, List.length_drop, hn]; rfl
  have hfin := ins_in cur.toList es i n e hn hi hR ht
  obtain ⟨R1, hR1⟩ : ∃ R1, R1 = over cur.toList ((i + 1) * 5) (eN.row (es.drop i)) := ⟨_, rfl⟩
  obtain ⟨R2, hR2⟩ : ∃ R2, R2 = over R1 (i * 5) (eN.cs e) := ⟨_, rfl⟩
  have hR1l : R1.length = c * 5 := by rw [hR1, over_len _ _ _ (by rw [hl]; omega)]; simpa using hcs
  have hR2l : R2.length = c * 5 := by rw [hR2, over_len _ _ _ (by rw [hR1l]; show _ + 5 ≤ _; omega), hR1l]
  rw [← hR1, ← hR2] at hfin
  have hov : ∀ lb cb, (callFunc 67 #[.slice (some ⟨vb, 0, none⟩) 1 1, .slice (some ⟨g, (i + 1) * 5, none⟩) lb cb]).run Tryz.prog w = .ok (.value (.bool false)) w := fun lb cb => by
    rw [run_callFunc_extern Tryz.func67 (by kernel_rfl) (by kernel_rfl) (by kernel_rfl) (e := Extern.SlicesOverlaps.overlaps #[58, 58] #[4]) (by kernel_rfl),
      Lib.run_overlaps_apart w 58 4 eN.E sliN 5 hz5 ⟨vb, 0, none⟩ ⟨g, (i + 1) * 5, none⟩ 1 1 lb cb hne eN.E eN.E 5 cur.size (by have h := hv; unfold Row at h; simp [World.shape?, h]; rfl) (by simp [World.shape?, hg]) (by omega) (hv.frozen 0) (hv.frozen 5)]
    rfl
  have hcell : ∀ j x, (eN.row (es.drop i))[j]? = some x → w.drew.cell? ((⟨g, i * 5, none⟩ : Addr).add j) = some x := fun j x hx => by
    rw [← row_drop, ← ht, List.getElem?_drop, List.getElem?_take] at hx
    split at hx
    · rw [addr_add]
      show w.cell? _ = _
      simp [World.cell?, hg]
      simpa using hx
    · cases hx
  have hcp1 : ∀ ty dc sc, (Builtin.copy_ #[58, 58] ty #[.slice (some ⟨g, (i + 1) * 5, none⟩) (n - i) dc, .slice (some ⟨g, i * 5, none⟩) (n + 1 - i) sc]).run Tryz.prog w.drew = .ok (goInt (Nat.min (n + 1 - i) (n - i))) (w.drew.setRow g R1.toArray) := fun ty dc sc => by
    have h := run_copy_rown (P := Tryz.prog) w.drew 58 58 ty eN.E 5 g ((i + 1) * 5) (n - i) dc ⟨g, i * 5, none⟩ (n + 1 - i) sc cur eN.E (eN.row (es.drop i)) sliN hsz hg (by rw [hl]; simp only [Nat.min_def]; split <;> omega) hcell (by rw [hl]; omega) (rowv_one eN _)
    rw [h, hR1]
    rfl
  have hg1 : (w.drew.setRow g R1.toArray).heap[g]? = some (.cells R1.toArray eN.E) := setRow_heap _ g cur _ _ _ hg
  have hv1 : ∀ j x, (eN.cs e)[j]? = some x → (w.drew.setRow g R1.toArray).cell? ((⟨vb, 0, none⟩ : Addr).add j) = some x := fun j x hx => by
    rw [addr_add, cell_setRow_other _ _ _ _ hne]
    show w.cell? _ = _
    rw [hv.cell]
    simpa using hx
  have hcp2 : ∀ ty dc, (Builtin.copy_ #[58, 58] ty #[.slice (some ⟨g, i * 5, none⟩) (n + 1 - i) dc, .slice (some ⟨vb, 0, none⟩) 1 1]).run Tryz.prog (w.drew.setRow g R1.toArray) = .ok (goInt (Nat.min 1 (n + 1 - i))) ((w.drew.setRow g R1.toArray).setRow g R2.toArray) := fun ty dc => by
    have h := run_copy_rown (P := Tryz.prog) (w.drew.setRow g R1.toArray) 58 58 ty eN.E 5 g (i * 5) (n + 1 - i) dc ⟨vb, 0, none⟩ 1 1 R1.toArray eN.E (eN.cs e) sliN hsz hg1 (by show 5 = _; simp only [Nat.min_def]; split <;> omega) hv1 (by simp [hR1l]; show _ + 5 ≤ _; omega) (fun x hx => rowv_one eN [e] x (by simpa [ElemV.row] using hx))
    rw [h, hR2]
    rfl
  have hg2 : ((w.drew.setRow g R1.toArray).setRow g R2.toArray).heap[g]? = some (.cells R2.toArray eN.E) := setRow_heap _ g _ _ _ _ hg1
  have hgr : w.grownBy ((w.drew.setRow g R1.toArray).setRow g R2.toArray) (some g) := ⟨rfl, rfl, rfl, by simp, fun k hk hne => by
    have hkg : k ≠ g := fun e => hne (by rw [e])
    rw [setRow_other _ _ _ _ hkg, setRow_other _ _ _ _ hkg]; rfl⟩
  have FIN := Lib.hid (⟨R2.toArray, hg2, by simpa using hR2l, by simpa using hfin, hgr⟩ : ∃ cur2 : Array Value, ((w.drew.setRow g R1.toArray).setRow g R2.toArray).heap[g]? = some (.cells cur2 eN.E) ∧ cur2.size = c * 5 ∧ cur2.toList.take ((n + 1) * 5) = eN.row (es.take i ++ [e] ++ es.drop i) ∧ w.grownBy ((w.drew.setRow g R1.toArray).setRow g R2.toArray) (some g))
  have hin : i ≤ n := Nat.le_of_lt hi
  obtain ⟨hz2, hcm2, hw1, hw2, hw1b, hw2b, hb0, hb1, htn, htn2, hb2, hb3, hb4⟩ := ins_arith n i c hi hc hcm
  clear hfin hgr hg2 hv1 hg1 hcell hl hR hR1l hR2l hR1 hR2 hz5 hsz hi0 hz0 hzs hzb hg hcs ht hv
  go_enter Tryz.func37, Tryz.ntmps37
  go_wp2_with (simp only [hov])
  refine wp_region_held_drew (S := fun W => w.heap.size ≤ W.heap.size) (by kernel_rfl) (Nat.le_refl _) (fun _ => ?_)
  refine held_take 0 ?_ rfl (by kernel_rfl) (by kernel_rfl) (by kernel_rfl) (fun _ _ _ h => h) (by rfl) ?_ (Nat.le_refl _) ?_
  rotate_left
  · (intro W hSW; go_simp; try rfl)
  try simp only [Act.put, List.setIfInBounds_toArray, List.set_cons_zero, List.set_cons_succ]
  refine held_take 1 ?_ rfl (by kernel_rfl) (by kernel_rfl) (by kernel_rfl) (fun _ _ _ h => h) (by rfl) ?_ (Nat.le_refl _) ?_
  rotate_left
  · (intro W hSW; go_simp; try rfl)
  try simp only [Act.put, List.setIfInBounds_toArray, List.set_cons_zero, List.set_cons_succ]
  refine held_take 2 ?_ rfl (by kernel_rfl) (by kernel_rfl) (by kernel_rfl) (fun _ _ _ h => h) (by rfl) ?_ (Nat.le_refl _) ?_
  rotate_left
  · (intro W hSW; go_simp; try rfl)
  try simp only [Act.put, List.setIfInBounds_toArray, List.set_cons_zero, List.set_cons_succ]
  refine held_take 3 ?_ rfl (by kernel_rfl) (by kernel_rfl) (by kernel_rfl) (fun _ _ _ h => h) (by rfl) ?_ (Nat.le_refl _) ?_
  rotate_left
  · (intro W hSW; go_simp; try rfl)
  try simp only [Act.put, List.setIfInBounds_toArray, List.set_cons_zero, List.set_cons_succ]
  refine held_take 4 ?_ rfl (by kernel_rfl) (by kernel_rfl) (by kernel_rfl) (fun _ _ _ h => h) (by rfl) ?_ (Nat.le_refl _) ?_
  rotate_left
  · (intro W hSW; go_simp; try rfl)
  try simp only [Act.put, List.setIfInBounds_toArray, List.set_cons_zero, List.set_cons_succ]
  refine held_take 5 ?_ rfl (by kernel_rfl) (by kernel_rfl) (by kernel_rfl) (fun _ _ _ h => h) (by rfl) ?_ (Nat.le_refl _) ?_
  rotate_left
  · (intro W hSW; go_simp; try rfl)
  try simp only [Act.put, List.setIfInBounds_toArray, List.set_cons_zero, List.set_cons_succ]
  refine held_take 6 ?_ rfl (by kernel_rfl) (by kernel_rfl) (by kernel_rfl) (fun _ _ _ h => h) (by rfl) ?_ (Nat.le_refl _) ?_
  rotate_left
  · (intro W hSW; go_simp; try rfl)
  try simp only [Act.put, List.setIfInBounds_toArray, List.set_cons_zero, List.set_cons_succ]
  refine held_take 7 ?_ rfl (by kernel_rfl) (by kernel_rfl) (by kernel_rfl) (fun _ _ _ h => h) (by rfl) ?_ (Nat.le_refl _) ?_
  rotate_left
  · (intro W hSW; go_simp; try rfl)
  try simp only [Act.put, List.setIfInBounds_toArray, List.set_cons_zero, List.set_cons_succ]
  refine held_next 8 rfl (by kernel_rfl) (by rfl) ?_
  refine wp_copy_run5 _ _ _ _ _ rfl _ _ rfl rfl (hcp1 _ _ _) ?_
  refine ⟨fun W => w.heap.size ≤ W.heap.size, fun W hW => hW, by simp, ?_⟩
  try simp only [Act.put, List.setIfInBounds_toArray, List.set_cons_zero, List.set_cons_succ]
  refine wpAnyH_done (by kernel_rfl) ?_ _
  go_wp2_with (at_builtin; refine wpList_copy_run5 _ rfl _ _ _ _ rfl _ _ rfl rfl (hcp2 _ _) ?_)
  go_ret
  exact ⟨rfl, FIN.out⟩
end Go.Proofs.YtcmifbjeabkihabGreatDoor
