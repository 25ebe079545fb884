/- Walks: slices.Insert of one entry, into a new row. -/
import Derived.Test.YtcmifbjeabkihabGreatDoorJ11
namespace Go.Proofs.YtcmifbjeabkihabGreatDoor
open Go.RowKit
set_option linter.unusedVariables false

theorem insn_arith (n i : Nat) (hi : i < n) (hl : n ≤ 100000) : ¬ ((i : Int) = (n : Int)) ∧ IntKind.i64.wrap ((i : Int) + 1) = (i : Int) + 1 ∧ IntKind.i64.wrap ((n : Int) + 1) = (n : Int) + 1 ∧ wrap64 ((i : Int) + 1) = (i : Int) + 1 ∧ wrap64 ((n : Int) + 1) = (n : Int) + 1 ∧
    (n : Int) < (n : Int) + 1 ∧ (0 : Int) ≤ (i : Int) + 1 ∧ ((i : Int) + 1).toNat = i + 1 ∧ ((n : Int) + 1).toNat = n + 1 ∧ (i : Int) ≤ (n : Int) + 1 ∧ IntKind.i64.wrap ((n : Int) + 1 - (i : Int)) = ((n + 1 - i : Nat) : Int) ∧ wrap64 ((n : Int) + 1 - (i : Int)) = ((n + 1 - i : Nat) : Int) := by
  refine ⟨by omega, by rw [IntKind.wrap_i64]; omega, by rw [IntKind.wrap_i64]; omega, by unfold wrap64; omega, by unfold wrap64; omega, by omega, by omega, by omega, by omega, by omega, by rw [IntKind.wrap_i64]; omega, by unfold wrap64; omega⟩
theorem insn_arith2 (G n i : Nat) (hi : i < n) (hGn : n + 1 ≤ G) (hGm : G ≤ maxLen) : ¬ (G = i) ∧ ¬ (G = i + 1) ∧ ¬ (n = i) ∧ i ≤ G ∧ n ≤ 9223372036854775807 ∧ G ≤ 9223372036854775807 := by
  unfold maxLen at hGm
  omega
set_option maxHeartbeats 4000000 in
set_option maxRecDepth 100000 in
theorem insert_new (g n i vb : Nat) (cur : Array Value) (es : List En) (e : En) (w : World) (hn : es.length = n) (hi : i < n) (hl : n ≤ 100000) (hg : w.heap[g]? = some (.cells cur eN.E)) (hcs : cur.size = n * 5) (ht : cur.toList.take (n * 5) = eN.row es)
    (hv : Row w vb eN.E (eN.cs e).toArray) :
    Calls Tryz.prog 37 #[.slice (some ⟨g, 0, none⟩) n n, .int .i64 (i : Int), .slice (some ⟨vb, 0, none⟩) 1 1] w fun r w' => ∃ (G : Nat) (cur2 : Array Value), r = .returned (.slice (some ⟨w.heap.size, 0, none⟩) (n + 1) G) ∧
      w'.heap[w.heap.size]? = some (.cells cur2 eN.E) ∧ n + 1 ≤ G ∧ G ≤ maxLen ∧ cur2.size = G * 5 ∧ cur2.toList.take ((n + 1) * 5) = eN.row (es.take i ++ [e] ++ es.drop i) ∧ Below w.heap.size w w' := by
  obtain ⟨i0, hi0, hz0, hzs, hzb⟩ := info_parts infN
  have hsz : (Tryz.prog.info? eN.E).map (·.size) = some 5 := by rw [hi0]; simp [hzs]; rfl
  have hs5 : i0.size = 5 := hzs
  have hb88 : i0.bytes = 88 := hzb
  have hgl : g < w.heap.size := (Array.getElem?_eq_some_iff.1 hg).1
  have hvl : vb < w.heap.size := hv.lt
  have hrd : (eN.row (es.drop i)).length = (n - i) * 5 := by rw [rowv_len, List.length_drop, hn]; rfl
  have hrt : (eN.row (es.take i)).length = i * 5 := by rw [rowv_len, List.length_take, hn, Nat.min_eq_left (by omega)]; rfl
  have hcurT : ∀ j x, (eN.row (es.take i))[j]? = some x → w.cell? ((⟨g, 0, none⟩ : Addr).add j) = some x := fun j x hx => by
    rw [← row_take, ← ht, List.getElem?_take, List.getElem?_take] at hx
    split at hx
    · split at hx
      · rw [addr_add]
        simp [World.cell?, hg]
        simpa using hx
      · cases hx
    · cases hx
  have hcurD : ∀ j x, (eN.row (es.drop i))[j]? = some x → w.cell? ((⟨g, i * 5, none⟩ : Addr).add j) = some x := fun j x hx => by
    rw [← row_drop, ← ht, List.getElem?_drop, List.getElem?_take] at hx
    split at hx
    · rw [addr_add]
      simp [World.cell?, hg]
      simpa using hx
    · cases hx
  obtain ⟨G, hG⟩ : ∃ G, G = grownCap w (n + 1) n eN.E := ⟨_, rfl⟩
  have hGn : n + 1 ≤ G := by rw [hG]; exact grownCap_ge w _ _ _
  have hGm : G ≤ maxLen := by rw [hG]; exact grownCap_le_maxLen w _ _ _ (by unfold maxLen; omega)
  obtain ⟨ROW, hROW⟩ : ∃ ROW : Array Value, ROW = (eN.row (es.take i)).toArray ++ Builtin.zeroCells (eN.val eN.zero).cells (n + 1 - i) ++ Builtin.zeroCells (eN.val eN.zero).cells (G - (n + 1)) := ⟨_, rfl⟩
  have hz5 : (eN.val eN.zero).cells.size = 5 := rfl
  have hRs : ROW.size = G * 5 := by rw [hROW]; simp only [Array.size_append, size_zeroCells, hz5, List.size_toArray, hrt]; omega
  have hRt : ROW.toList.take (i * 5) = eN.row (es.take i) := by
    rw [hROW, Array.toList_append, Array.toList_append, List.append_assoc, List.take_append_of_le_length (by simp [hrt]), List.take_of_length_le (by simp [hrt])]
  obtain ⟨W1, hW1⟩ : ∃ W1, W1 = w.drew.alloc (.cells ROW eN.E) := ⟨_, rfl⟩
  have hrz : ∀ ty, (Builtin.append_ #[58, 3] ty #[.slice (some ⟨g, 0, none⟩) i n, .int .i64 ((n + 1 - i : Nat) : Int)]).run Tryz.prog w = .ok (.slice (some ⟨w.heap.size, 0, none⟩) (n + 1) G) W1 := fun ty => by
    have h := Lib.run_append_grow_zeros w 58 3 ty eN.E i0 (eN.val eN.zero) .i64 .i64 sliN Tryz.underlying3 hi0 hz0 (some ⟨g, 0, none⟩) i n (eN.row (es.take i)) (by rw [hs5]; exact run_firstCells_some w.drew 5 i ⟨g, 0, none⟩ i n _ hrt hcurT) (n + 1 - i) (by omega) (by rw [hs5]; omega) (by omega) (by omega) (by rw [hb88]; omega) (by rw [hb88, show i + (n + 1 - i) = n + 1 by omega]; exact growslice_fits (by omega) (by omega))
    rw [show i + (n + 1 - i) = n + 1 by omega] at h
    rw [h, hW1, hROW, hG]
  have h1s : w.heap.size < W1.heap.size := by rw [hW1]; simp
  have h1g : W1.heap[w.heap.size]? = some (.cells ROW eN.E) := by rw [hW1]; exact heap_alloc_new w.drew _
  have h1b : Below w.heap.size w W1 := by rw [hW1]; exact ((Below.refl w.heap.size w).drew).alloc (Nat.le_refl _) _
  obtain ⟨A, hA⟩ : ∃ A, A = over ROW.toList (i * 5) (eN.cs e) := ⟨_, rfl⟩
  obtain ⟨B, hB⟩ : ∃ B, B = over A ((i + 1) * 5) (eN.row (es.drop i)) := ⟨_, rfl⟩
  have hAl : A.length = G * 5 := by rw [hA, over_len _ _ _ (by simp [hRs]; show _ + 5 ≤ _; omega)]; simpa using hRs
  have hBl : B.length = G * 5 := by rw [hB, over_len _ _ _ (by rw [hAl, hrd]; omega), hAl]
  have hfin := ins_out ROW.toList es i n e hn hi (by simp [hRs]; omega) hRt
  rw [← hA, ← hB] at hfin
  have hv1 : ∀ j x, (eN.cs e)[j]? = some x → W1.cell? ((⟨vb, 0, none⟩ : Addr).add j) = some x := fun j x hx => by
    rw [addr_add, h1b.cell (p := ⟨vb, 0 + j, none⟩) hvl, hv.cell]
    simpa using hx
  have hcpA : ∀ ty dc, (Builtin.copy_ #[58, 58] ty #[.slice (some ⟨w.heap.size, i * 5, none⟩) (n + 1 - i) dc, .slice (some ⟨vb, 0, none⟩) 1 1]).run Tryz.prog W1 = .ok (goInt (Nat.min 1 (n + 1 - i))) (W1.setRow w.heap.size A.toArray) := fun ty dc => by
    have h := run_copy_rown (P := Tryz.prog) W1 58 58 ty eN.E 5 w.heap.size (i * 5) (n + 1 - i) dc ⟨vb, 0, none⟩ 1 1 ROW eN.E (eN.cs e) sliN hsz h1g (by show 5 = _; simp only [Nat.min_def]; split <;> omega) hv1 (by rw [hRs]; show _ + 5 ≤ _; omega) (fun x hx => rowv_one eN [e] x (by simpa [ElemV.row] using hx))
    rw [h, hA]
    rfl
  have h2g : (W1.setRow w.heap.size A.toArray).heap[w.heap.size]? = some (.cells A.toArray eN.E) := setRow_heap _ _ _ _ _ _ h1g
  have h2b : Below w.heap.size w (W1.setRow w.heap.size A.toArray) := ⟨h1b.os, h1b.tape, h1b.output, by simpa using h1b.size, fun k hk => (setRow_other _ _ _ _ (by omega)).trans (h1b.block k hk)⟩
  obtain ⟨W2, hW2⟩ : ∃ W2, W2 = W1.setRow w.heap.size A.toArray := ⟨_, rfl⟩
  rw [← hW2] at hcpA h2g h2b
  have hcpB : ∀ ty dc sc, (Builtin.copy_ #[58, 58] ty #[.slice (some ⟨w.heap.size, (i + 1) * 5, none⟩) (n - i) dc, .slice (some ⟨g, i * 5, none⟩) (n - i) sc]).run Tryz.prog W2.drew = .ok (goInt (Nat.min (n - i) (n - i))) (W2.drew.setRow w.heap.size B.toArray) := fun ty dc sc => by
    have h := run_copy_rown (P := Tryz.prog) W2.drew 58 58 ty eN.E 5 w.heap.size ((i + 1) * 5) (n - i) dc ⟨g, i * 5, none⟩ (n - i) sc A.toArray eN.E (eN.row (es.drop i)) sliN hsz h2g (by rw [hrd]; simp) (fun j x hx => by
      have h3 := hcurD j x hx
      rw [addr_add] at h3 ⊢
      exact (h2b.cell (p := ⟨g, i * 5 + j, none⟩) hgl).trans h3) (by simp [hAl, hrd]; omega) (rowv_one eN _)
    rw [h, hB]
    rfl
  have h3g : (W2.drew.setRow w.heap.size B.toArray).heap[w.heap.size]? = some (.cells B.toArray eN.E) := setRow_heap _ _ _ _ _ _ (show W2.drew.heap[w.heap.size]? = _ from h2g)
  have h3b : Below w.heap.size w (W2.drew.setRow w.heap.size B.toArray) := ⟨h2b.os, h2b.tape, h2b.output, by simpa using h2b.size, fun k hk => (setRow_other _ _ _ _ (by omega)).trans (h2b.block k hk)⟩
  have FIN := Lib.hid (⟨h3g, hGn, hGm, by simpa using hBl, by simpa using hfin, h3b⟩ : (W2.drew.setRow w.heap.size B.toArray).heap[w.heap.size]? = some (.cells B.toArray eN.E) ∧ n + 1 ≤ G ∧ G ≤ maxLen ∧ B.toArray.size = G * 5 ∧ B.toArray.toList.take ((n + 1) * 5) = eN.row (es.take i ++ [e] ++ es.drop i) ∧ Below w.heap.size w (W2.drew.setRow w.heap.size B.toArray))
  have hin : i ≤ n := Nat.le_of_lt hi
  obtain ⟨hGi, hGi1, hni, hG0, hnl, hGl⟩ := insn_arith2 G n i hi hGn hGm
  have h2s : w.heap.size ≤ W2.heap.size := h2b.size
  obtain ⟨hz2, hw1, hw2, hw1b, hw2b, hb0, hb1, htn, htn2, hb3, hw3, hw3b⟩ := insn_arith n i hi hl
  clear h3g h3b hBl hfin h2g h2b hv1 hAl hA hB h1g h1b h1s hRt hRs hROW hz5 hGm hG hcurT hcurD hrd hrt hvl hgl hb88 hs5 hsz hi0 hz0 hzs hzb hg hcs ht hv hW1 hW2 hl
  go_enter Tryz.func37, Tryz.ntmps37
  go_wp2_with (first
    | (at_builtin; refine Lib.wpList_append_run _ rfl _ _ _ _ rfl _ _ rfl rfl _ _ (hrz _) ?_)
    | (at_builtin; refine wpList_copy_run5 _ rfl _ _ _ _ rfl _ _ rfl rfl (hcpA _ _) ?_))
  refine wp_region_held_drew (S := fun W => w.heap.size ≤ W.heap.size) (by kernel_rfl) h2s (fun _ => ?_)
  refine held_take 0 ?_ rfl (by kernel_rfl) (by kernel_rfl) (by kernel_rfl) (fun _ _ _ h => h) (by rfl) ?_ h2s ?_
  rotate_left
  · (intro W hSW; go_simp; try rfl)
  try simp only [Act.put, List.setIfInBounds_toArray, List.set_cons_zero, List.set_cons_succ]
  refine held_take 1 ?_ rfl (by kernel_rfl) (by kernel_rfl) (by kernel_rfl) (fun _ _ _ h => h) (by rfl) ?_ h2s ?_
  rotate_left
  · (intro W hSW; go_simp; try rfl)
  try simp only [Act.put, List.setIfInBounds_toArray, List.set_cons_zero, List.set_cons_succ]
  refine held_take 2 ?_ rfl (by kernel_rfl) (by kernel_rfl) (by kernel_rfl) (fun _ _ _ h => h) (by rfl) ?_ h2s ?_
  rotate_left
  · (intro W hSW; go_simp; try rfl)
  try simp only [Act.put, List.setIfInBounds_toArray, List.set_cons_zero, List.set_cons_succ]
  refine held_take 3 ?_ rfl (by kernel_rfl) (by kernel_rfl) (by kernel_rfl) (fun _ _ _ h => h) (by rfl) ?_ h2s ?_
  rotate_left
  · (intro W hSW; go_simp; try rfl)
  try simp only [Act.put, List.setIfInBounds_toArray, List.set_cons_zero, List.set_cons_succ]
  refine held_take 4 ?_ rfl (by kernel_rfl) (by kernel_rfl) (by kernel_rfl) (fun _ _ _ h => h) (by rfl) ?_ h2s ?_
  rotate_left
  · (intro W hSW; go_simp; try rfl)
  try simp only [Act.put, List.setIfInBounds_toArray, List.set_cons_zero, List.set_cons_succ]
  refine held_take 5 ?_ rfl (by kernel_rfl) (by kernel_rfl) (by kernel_rfl) (fun _ _ _ h => h) (by rfl) ?_ h2s ?_
  rotate_left
  · (intro W hSW; go_simp; try rfl)
  try simp only [Act.put, List.setIfInBounds_toArray, List.set_cons_zero, List.set_cons_succ]
  refine held_take 6 ?_ rfl (by kernel_rfl) (by kernel_rfl) (by kernel_rfl) (fun _ _ _ h => h) (by rfl) ?_ h2s ?_
  rotate_left
  · (intro W hSW; go_simp; try rfl)
  try simp only [Act.put, List.setIfInBounds_toArray, List.set_cons_zero, List.set_cons_succ]
  refine held_take 7 ?_ rfl (by kernel_rfl) (by kernel_rfl) (by kernel_rfl) (fun _ _ _ h => h) (by rfl) ?_ h2s ?_
  rotate_left
  · (intro W hSW; go_simp; try rfl)
  try simp only [Act.put, List.setIfInBounds_toArray, List.set_cons_zero, List.set_cons_succ]
  refine held_next 8 rfl (by kernel_rfl) (by rfl) ?_
  refine wp_copy_run5 _ _ _ _ _ rfl _ _ rfl rfl (hcpB _ _ _) ?_
  refine ⟨fun W => w.heap.size ≤ W.heap.size, fun W hW => hW, by simpa using h2s, ?_⟩
  try simp only [Act.put, List.setIfInBounds_toArray, List.set_cons_zero, List.set_cons_succ]
  refine wpAnyH_done (by kernel_rfl) ?_ _
  go_wp2
  go_ret
  exact ⟨G, B.toArray, rfl, FIN.out⟩
end Go.Proofs.YtcmifbjeabkihabGreatDoor
