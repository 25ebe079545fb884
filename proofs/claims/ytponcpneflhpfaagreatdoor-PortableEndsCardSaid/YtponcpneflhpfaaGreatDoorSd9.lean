/- Walks: a container of an image is read. -/
import Derived.Test.YtponcpneflhpfaaGreatDoorSd8
import Derived.BigQuiet
namespace Go.Proofs.YtponcpneflhpfaaGreatDoor
open Go.RowKit
set_option linter.unusedVariables false

set_option maxHeartbeats 8000000 in
theorem icontainer_1 {g q i : Nat} {A : Option Addr} {c : Nat} {vf vk vc vo : Value} {L rest : List UInt8} (cs : List Ct) (d : Ct) (w : World) (h : Ih w g (.slice A L.length c) q cs vf vk vc vo) (hb : Gs e8 w 0 g (.slice A L.length c) L) (hq : q ≤ L.length) (hl : L.length ≤ 10000000) (hk : d.k = 1) (hd : cs[i]? = some d) (hn : cs.length ≤ 65536) (ha : Ag (L.drop q) (d.body ++ rest)) :
    Calls Tryz.prog 256 #[.pointer (some ⟨g, 0, none⟩), .int .i64 i] w (CtAns w g (.slice A L.length c) L q cs vf vk vc vo d) := by
  have hg := h.row.lt
  have hi := (List.getElem?_eq_some_iff.1 hd).1
  have T := two_blocks w #[.int .u8 0, .slice none 0 0, .slice none 0 0, .slice none 0 0] #[.nilFunc, .func (.func 303) #[.pointer (some ⟨g, 0, none⟩)] #[], .func (.func 304) #[.pointer (some ⟨g, 0, none⟩)] #[], .func (.func 305) #[.pointer (some ⟨g, 0, none⟩)] #[]] 65 297
  obtain ⟨n, hnn⟩ : ∃ n, n = cs.length := ⟨_, rfl⟩
  have hin : (i : Int) < n := by omega
  have hns := h.ns
  obtain ⟨A6, d6, rfl, -⟩ := h.ns
  obtain ⟨b6, off6, y6, e6, -, hb6, hb6l, hy6, cy6⟩ := gse_at hns (k := i) (by rw [List.length_map]; exact hi)
  subst e6
  rw [List.getElem?_map, hd] at hy6
  injection hy6 with hy6
  have cy : w.cell? ⟨b6, off6 + i, none⟩ = some (.int .i64 d.n) := by rw [hy6]; exact cy6
  have c6 := h.row.cell 6
  rw [List.length_map, ← hnn] at h c6 ⊢
  have H := Lib.hid h
  have HB := Lib.hid hb
  have HD := Lib.hid hd
  have HK := Lib.hid hk
  have HA := Lib.hid ha
  have HGW := Lib.hid hg
  have HB6 := Lib.hid (show g < b6 ∧ b6 < w.heap.size from ⟨hb6, hb6l⟩)
  clear h hb ha hd hk hns hy6 cy6 hb6 hb6l hi hnn
  go_enter Tryz.func256, Tryz.ntmps256
  go_wp2_with fail
  generalize (w.alloc (.cells #[.int .u8 0, .slice none 0 0, .slice none 0 0, .slice none 0 0] 65)).alloc (.cells #[.nilFunc, .func (.func 303) #[.pointer (some ⟨g, 0, none⟩)] #[], .func (.func 304) #[.pointer (some ⟨g, 0, none⟩)] #[], .func (.func 305) #[.pointer (some ⟨g, 0, none⟩)] #[]] 297) = W0 at *
  obtain ⟨b0, r0, r1⟩ := T
  have H0 := Lib.hid (H.out.step b0)
  have HB0 := Lib.hid (HB.out.below (b0.mono (Nat.le_of_lt hg)))
  have RR := Lib.hid r0
  have B0 := Lib.hid b0
  have c6 := (b0.cell (p := ⟨g, 6, none⟩) hg).trans c6
  have cn := (b0.cell (p := ⟨b6, off6 + i, none⟩) HB6.out.2).trans cy
  clear b0 r0 cy
  have hSc := (show (fun W => W.cell? ⟨g, 6, none⟩ = some (.slice (some ⟨b6, off6, none⟩) n d6) ∧ W.cell? ⟨b6, off6 + i, none⟩ = some (.int .i64 d.n) ∧ Row W (w.heap.size + 1) 297 #[.nilFunc, .func (.func 303) #[.pointer (some ⟨g, 0, none⟩)] #[], .func (.func 304) #[.pointer (some ⟨g, 0, none⟩)] #[], .func (.func 305) #[.pointer (some ⟨g, 0, none⟩)] #[]]) W0.drew from ⟨c6, cn, r1⟩)
  refine wp_region_held_drew (S := fun W => W.cell? ⟨g, 6, none⟩ = some (.slice (some ⟨b6, off6, none⟩) n d6) ∧ W.cell? ⟨b6, off6 + i, none⟩ = some (.int .i64 d.n) ∧ Row W (w.heap.size + 1) 297 #[.nilFunc, .func (.func 303) #[.pointer (some ⟨g, 0, none⟩)] #[], .func (.func 304) #[.pointer (some ⟨g, 0, none⟩)] #[], .func (.func 305) #[.pointer (some ⟨g, 0, none⟩)] #[]]) (by kernel_rfl) hSc (fun _ => ?_)
  refine held_take 0 ?_ rfl (by kernel_rfl) (by kernel_rfl) (by kernel_rfl) (fun _ _ _ h => h) (by rfl) ?_ hSc ?_
  rotate_left
  · (intro W hSW; go_simp; try rfl)
  try simp only [Act.put, List.setIfInBounds_toArray, List.set_cons_zero, List.set_cons_succ]
  refine held_take 1 ?_ rfl (by kernel_rfl) (by kernel_rfl) (by kernel_rfl) (fun _ _ _ h => h) (by rfl) ?_ hSc ?_
  rotate_left
  · (intro W hSW; go_simp; try rfl)
  try simp only [Act.put, List.setIfInBounds_toArray, List.set_cons_zero, List.set_cons_succ]
  refine held_take 5 ?_ rfl (by kernel_rfl) (by kernel_rfl) (by kernel_rfl) (fun _ _ _ h => h) (by rfl) ?_ hSc ?_
  rotate_left
  · (intro W hSW; go_simp; try rfl)
  try simp only [Act.put, List.setIfInBounds_toArray, List.set_cons_zero, List.set_cons_succ]
  refine held_take 6 ?_ rfl (by kernel_rfl) (by kernel_rfl) (by kernel_rfl) (fun _ _ _ h => h) (by rfl) ?_ hSc ?_
  rotate_left
  · (intro W hSW; go_simp; try rfl)
  try simp only [Act.put, List.setIfInBounds_toArray, List.set_cons_zero, List.set_cons_succ]
  refine held_take 7 ?_ rfl (by kernel_rfl) (by kernel_rfl) (by kernel_rfl) (fun _ _ _ h => h) (by rfl) ?_ hSc ?_
  rotate_left
  · (intro W hSW; go_simp; try rfl)
  try simp only [Act.put, List.setIfInBounds_toArray, List.set_cons_zero, List.set_cons_succ]
  refine held_take 8 ?_ rfl (by kernel_rfl) (by kernel_rfl) (by kernel_rfl) (fun _ _ _ h => h) (by rfl) ?_ hSc ?_
  rotate_left
  · (intro W hSW; have k6 := hSW.1; go_simp; try rfl)
  try simp only [Act.put, List.setIfInBounds_toArray, List.set_cons_zero, List.set_cons_succ]
  refine held_take 9 ?_ rfl (by kernel_rfl) (by kernel_rfl) (by kernel_rfl) (fun _ _ _ h => h) (by rfl) ?_ hSc ?_
  rotate_left
  · (intro W hSW; go_simp; try rfl)
  try simp only [Act.put, List.setIfInBounds_toArray, List.set_cons_zero, List.set_cons_succ]
  refine held_take 10 ?_ rfl (by kernel_rfl) (by kernel_rfl) (by kernel_rfl) (fun _ _ _ h => h) (by rfl) ?_ hSc ?_
  rotate_left
  · (intro W hSW; go_simp; try rfl)
  try simp only [Act.put, List.setIfInBounds_toArray, List.set_cons_zero, List.set_cons_succ]
  refine held_take 11 ?_ rfl (by kernel_rfl) (by kernel_rfl) (by kernel_rfl) (fun _ _ _ h => h) (by rfl) ?_ hSc ?_
  rotate_left
  · (intro W hSW; have k6 := hSW.2.1; go_simp; try rfl)
  try simp only [Act.put, List.setIfInBounds_toArray, List.set_cons_zero, List.set_cons_succ]
  refine held_next 2 rfl (by kernel_rfl) (by rfl) ?_
  go_simp
  refine (ikind_c cs d W0.drew (H0.out.step (Below.refl _ _).drew) HD.out hn).mono ?_
  rintro e wq1 ⟨rfl, bq⟩
  rw [HK.out]
  have B1 := Lib.hid (below_both (Below.refl W0.heap.size W0).drew bq)
  have hSd : (fun W => W.cell? ⟨g, 6, none⟩ = some (.slice (some ⟨b6, off6, none⟩) n d6) ∧ W.cell? ⟨b6, off6 + i, none⟩ = some (.int .i64 d.n) ∧ Row W (w.heap.size + 1) 297 #[.nilFunc, .func (.func 303) #[.pointer (some ⟨g, 0, none⟩)] #[], .func (.func 304) #[.pointer (some ⟨g, 0, none⟩)] #[], .func (.func 305) #[.pointer (some ⟨g, 0, none⟩)] #[]]) wq1 := ⟨(bq.cell (World.block_lt_of_cell? _ _ hSc.1)).trans hSc.1, (bq.cell (World.block_lt_of_cell? _ _ hSc.2.1)).trans hSc.2.1, hSc.2.2.below bq hSc.2.2.lt⟩
  refine ⟨fun W => W.cell? ⟨g, 6, none⟩ = some (.slice (some ⟨b6, off6, none⟩) n d6) ∧ W.cell? ⟨b6, off6 + i, none⟩ = some (.int .i64 d.n) ∧ Row W (w.heap.size + 1) 297 #[.nilFunc, .func (.func 303) #[.pointer (some ⟨g, 0, none⟩)] #[], .func (.func 304) #[.pointer (some ⟨g, 0, none⟩)] #[], .func (.func 305) #[.pointer (some ⟨g, 0, none⟩)] #[]], fun W hW => hW, hSd, ?_⟩
  clear hSc bq
  have hSc := hSd
  clear hSd
  try simp only [Act.put, List.setIfInBounds_toArray, List.set_cons_zero, List.set_cons_succ]
  refine held_take 3 ?_ rfl (by kernel_rfl) (by kernel_rfl) (by kernel_rfl) (fun _ _ _ h => h) (by rfl) ?_ hSc ?_
  rotate_left
  · (intro W hSW; go_simp; try rfl)
  try simp only [Act.put, List.setIfInBounds_toArray, List.set_cons_zero, List.set_cons_succ]
  refine held_take 4 ?_ rfl (by kernel_rfl) (by kernel_rfl) (by kernel_rfl) (fun _ _ _ h => h) (by rfl) ?_ hSc ?_
  rotate_left
  · (intro W hSW; have k0 := hSW.2.2.cell 1; go_simp; try rfl)
  try simp only [Act.put, List.setIfInBounds_toArray, List.set_cons_zero, List.set_cons_succ]
  refine held_next 12 rfl (by kernel_rfl) (by rfl) ?_
  go_simp
  refine (iarray_c cs d wq1 (H0.out.step B1.out) (HB0.out.below (B1.out.mono (Nat.le_of_lt H0.out.row.lt))) hq hl HK.out HA.out).mono ?_
  intro e w2 hP
  have hx : ∃ (x : Bd) (z : Int), e = .returned (.tuple #[.agg #[.int .u8 x.κ, .slice x.A x.n x.c, .slice x.A2 x.n2 x.c2, .slice x.A3 x.n3 x.c3], .int .i64 z]) ∧ wq1.grownBy w2 (some g) ∧ ∃ q' : Nat, Row w2 g 169 #[.slice A L.length c, .int .i64 q', .int .i64 cs.length, .bool (anyr cs), vf, vk, .slice (some ⟨b6, off6, none⟩) n d6, vo] := by
    rcases hP with ⟨_, ⟨x, e1⟩, ⟨q', hr⟩, hg⟩ | ⟨_, ⟨x, e1, _⟩, hi, hg⟩
    · exact ⟨x, 4, e1, hg, q', hr⟩
    · exact ⟨x, 0, e1, hg, _, hi.row⟩
  obtain ⟨x, z, rfl, hg2, q2, hr2⟩ := hx
  have HP := Lib.hid hP
  have hS2 : (fun W => W.cell? ⟨g, 6, none⟩ = some (.slice (some ⟨b6, off6, none⟩) n d6) ∧ W.cell? ⟨b6, off6 + i, none⟩ = some (.int .i64 d.n) ∧ Row W (w.heap.size + 1) 297 #[.nilFunc, .func (.func 303) #[.pointer (some ⟨g, 0, none⟩)] #[], .func (.func 304) #[.pointer (some ⟨g, 0, none⟩)] #[], .func (.func 305) #[.pointer (some ⟨g, 0, none⟩)] #[]]) w2 := ⟨hr2.cell 6, (hg2.cell_far _ (World.block_lt_of_cell? _ _ hSc.2.1) (fun e => by injection e with e; have := HB6.out; simp at e; omega)).trans hSc.2.1, hSc.2.2.grown hg2 (fun e => by injection e with e; have := HGW.out; omega)⟩
  have RR2 := (RR.out.below B1.out RR.out.lt).grown hg2 (fun e => by injection e with e; have := HGW.out; omega)
  refine ⟨fun W => W.cell? ⟨g, 6, none⟩ = some (.slice (some ⟨b6, off6, none⟩) n d6) ∧ W.cell? ⟨b6, off6 + i, none⟩ = some (.int .i64 d.n) ∧ Row W (w.heap.size + 1) 297 #[.nilFunc, .func (.func 303) #[.pointer (some ⟨g, 0, none⟩)] #[], .func (.func 304) #[.pointer (some ⟨g, 0, none⟩)] #[], .func (.func 305) #[.pointer (some ⟨g, 0, none⟩)] #[]], fun W hW => hW, hS2, ?_⟩
  clear hSc hP
  have hSc := hS2
  clear hS2
  try simp only [Act.put, List.setIfInBounds_toArray, List.set_cons_zero, List.set_cons_succ]
  refine held_take 13 ?_ rfl (by kernel_rfl) (by kernel_rfl) (by kernel_rfl) (fun _ _ _ h => h) (by rfl) ?_ hSc ?_
  rotate_left
  · (intro W hSW; go_simp; try rfl)
  try simp only [Act.put, List.setIfInBounds_toArray, List.set_cons_zero, List.set_cons_succ]
  refine held_take 14 ?_ rfl (by kernel_rfl) (by kernel_rfl) (by kernel_rfl) (fun _ _ _ h => h) (by rfl) ?_ hSc ?_
  rotate_left
  · (intro W hSW; go_simp; try rfl)
  try simp only [Act.put, List.setIfInBounds_toArray, List.set_cons_zero, List.set_cons_succ]
  have d0 := RR2.cell 0
  have d1 := RR2.cell 1
  have d2 := RR2.cell 2
  have d3 := RR2.cell 3
  have e0 := RR2.frozen 0
  have e1 := RR2.frozen 1
  have e2 := RR2.frozen 2
  have e3 := RR2.frozen 3
  have S4 := set4 (a' := .int .u8 x.κ) (b' := .slice x.A x.n x.c) (c' := .slice x.A2 x.n2 x.c2) (d' := .slice x.A3 x.n3 x.c3) RR2
  have hS4 : (fun W => W.cell? ⟨g, 6, none⟩ = some (.slice (some ⟨b6, off6, none⟩) n d6) ∧ W.cell? ⟨b6, off6 + i, none⟩ = some (.int .i64 d.n) ∧ Row W (w.heap.size + 1) 297 #[.nilFunc, .func (.func 303) #[.pointer (some ⟨g, 0, none⟩)] #[], .func (.func 304) #[.pointer (some ⟨g, 0, none⟩)] #[], .func (.func 305) #[.pointer (some ⟨g, 0, none⟩)] #[]]) _ := ⟨(S4.2.cell_far _ (World.block_lt_of_cell? _ _ hSc.1) (fun e => by injection e with e; have := HGW.out; simp at e; omega)).trans hSc.1, (S4.2.cell_far _ (World.block_lt_of_cell? _ _ hSc.2.1) (fun e => by injection e with e; have := HB6.out; simp at e; omega)).trans hSc.2.1, hSc.2.2.grown S4.2 (fun e => by injection e with e; omega)⟩
  refine held_next 15 rfl (by kernel_rfl) (by rfl) ?_
  go_simp
  refine ⟨fun W => W.cell? ⟨g, 6, none⟩ = some (.slice (some ⟨b6, off6, none⟩) n d6) ∧ W.cell? ⟨b6, off6 + i, none⟩ = some (.int .i64 d.n) ∧ Row W (w.heap.size + 1) 297 #[.nilFunc, .func (.func 303) #[.pointer (some ⟨g, 0, none⟩)] #[], .func (.func 304) #[.pointer (some ⟨g, 0, none⟩)] #[], .func (.func 305) #[.pointer (some ⟨g, 0, none⟩)] #[]], fun W hW => hW, hS4, ?_⟩
  clear hSc
  have hSc := hS4
  clear hS4
  try simp only [Act.put, List.setIfInBounds_toArray, List.set_cons_zero, List.set_cons_succ]
  refine held_next 16 rfl (by kernel_rfl) (by rfl) ?_
  go_simp
  refine ⟨fun W => W.cell? ⟨g, 6, none⟩ = some (.slice (some ⟨b6, off6, none⟩) n d6) ∧ W.cell? ⟨b6, off6 + i, none⟩ = some (.int .i64 d.n) ∧ Row W (w.heap.size + 1) 297 #[.nilFunc, .func (.func 303) #[.pointer (some ⟨g, 0, none⟩)] #[], .func (.func 304) #[.pointer (some ⟨g, 0, none⟩)] #[], .func (.func 305) #[.pointer (some ⟨g, 0, none⟩)] #[]], fun W hW => hW, hSc, ?_⟩
  refine wpAnyH_done (by kernel_rfl) ?_ _
  have GF := grown_new ((grown_start (below_both B0.out B1.out) hg2)) S4.2 (Nat.le_refl _)
  have HX : Hid (CtAns w g (.slice A L.length c) L q cs vf vk (.slice (some ⟨b6, off6, none⟩) n d6) vo d (.returned (.tuple #[.agg #[.int .u8 x.κ, .slice x.A x.n x.c, .slice x.A2 x.n2 x.c2, .slice x.A3 x.n3 x.c3], .int .i64 z])) ((((w2.setCell ⟨w.heap.size, 0, none⟩ (.int .u8 x.κ)).setCell ⟨w.heap.size, 1, none⟩ (.slice x.A x.n x.c)).setCell ⟨w.heap.size, 2, none⟩ (.slice x.A2 x.n2 x.c2)).setCell ⟨w.heap.size, 3, none⟩ (.slice x.A3 x.n3 x.c3))) := Lib.hid (by
    have hne : (some w.heap.size : Option Nat) ≠ some g := fun e => by injection e with e; have := HGW.out; omega
    have hlw : w.heap.size < wq1.heap.size := Nat.lt_of_lt_of_le RR.out.lt B1.out.size
    rcases HP.out with ⟨h1, h2, ⟨q', hr⟩, _⟩ | ⟨h1, ⟨y, e1, cn⟩, hi, _⟩
    · exact .inl ⟨h1, h2, ⟨q', hr.grown S4.2 hne⟩, GF⟩
    · exact .inr ⟨h1, ⟨y, e1, (cn.grown S4.2 (by omega)).mono fun b _ hb => Nat.le_trans (Nat.le_of_lt hlw) hb⟩, H.out.next GF (hi.row.grown S4.2 hne), GF⟩)
  have HS4 := Lib.hid S4.1
  clear hSc GF S4 RR2 d0 d1 d2 d3 e0 e1 e2 e3 c6 cn r1 hg2 hr2
  go_wp2
  exact bodyPost_ret (ret_row2 (p := 4) (u := 5) (y := .int .i64 z) rfl rfl rfl HS4.out) rfl HX.out
set_option maxHeartbeats 8000000 in
theorem icontainer_2 {g q i : Nat} {A : Option Addr} {c : Nat} {vf vk vc vo : Value} {L rest : List UInt8} (cs : List Ct) (d : Ct) (w : World) (h : Ih w g (.slice A L.length c) q cs vf vk vc vo) (hb : Gs e8 w 0 g (.slice A L.length c) L) (hq : q ≤ L.length) (hl : L.length ≤ 10000000) (hk : d.k = 2) (hd : cs[i]? = some d) (hn : cs.length ≤ 65536) (ha : Ag (L.drop q) (d.body ++ rest)) :
    Calls Tryz.prog 256 #[.pointer (some ⟨g, 0, none⟩), .int .i64 i] w (CtAns w g (.slice A L.length c) L q cs vf vk vc vo d) := by
  have hg := h.row.lt
  have hi := (List.getElem?_eq_some_iff.1 hd).1
  have T := two_blocks w #[.int .u8 0, .slice none 0 0, .slice none 0 0, .slice none 0 0] #[.nilFunc, .func (.func 303) #[.pointer (some ⟨g, 0, none⟩)] #[], .func (.func 304) #[.pointer (some ⟨g, 0, none⟩)] #[], .func (.func 305) #[.pointer (some ⟨g, 0, none⟩)] #[]] 65 297
  obtain ⟨n, hnn⟩ : ∃ n, n = cs.length := ⟨_, rfl⟩
  have hin : (i : Int) < n := by omega
  have hns := h.ns
  obtain ⟨A6, d6, rfl, -⟩ := h.ns
  obtain ⟨b6, off6, y6, e6, -, hb6, hb6l, hy6, cy6⟩ := gse_at hns (k := i) (by rw [List.length_map]; exact hi)
  subst e6
  rw [List.getElem?_map, hd] at hy6
  injection hy6 with hy6
  have cy : w.cell? ⟨b6, off6 + i, none⟩ = some (.int .i64 d.n) := by rw [hy6]; exact cy6
  have c6 := h.row.cell 6
  rw [List.length_map, ← hnn] at h c6 ⊢
  have H := Lib.hid h
  have HB := Lib.hid hb
  have HD := Lib.hid hd
  have HK := Lib.hid hk
  have HA := Lib.hid ha
  have HGW := Lib.hid hg
  have HB6 := Lib.hid (show g < b6 ∧ b6 < w.heap.size from ⟨hb6, hb6l⟩)
  clear h hb ha hd hk hns hy6 cy6 hb6 hb6l hi hnn
  go_enter Tryz.func256, Tryz.ntmps256
  go_wp2_with fail
  generalize (w.alloc (.cells #[.int .u8 0, .slice none 0 0, .slice none 0 0, .slice none 0 0] 65)).alloc (.cells #[.nilFunc, .func (.func 303) #[.pointer (some ⟨g, 0, none⟩)] #[], .func (.func 304) #[.pointer (some ⟨g, 0, none⟩)] #[], .func (.func 305) #[.pointer (some ⟨g, 0, none⟩)] #[]] 297) = W0 at *
  obtain ⟨b0, r0, r1⟩ := T
  have H0 := Lib.hid (H.out.step b0)
  have HB0 := Lib.hid (HB.out.below (b0.mono (Nat.le_of_lt hg)))
  have RR := Lib.hid r0
  have B0 := Lib.hid b0
  have c6 := (b0.cell (p := ⟨g, 6, none⟩) hg).trans c6
  have cn := (b0.cell (p := ⟨b6, off6 + i, none⟩) HB6.out.2).trans cy
  clear b0 r0 cy
  have hSc := (show (fun W => W.cell? ⟨g, 6, none⟩ = some (.slice (some ⟨b6, off6, none⟩) n d6) ∧ W.cell? ⟨b6, off6 + i, none⟩ = some (.int .i64 d.n) ∧ Row W (w.heap.size + 1) 297 #[.nilFunc, .func (.func 303) #[.pointer (some ⟨g, 0, none⟩)] #[], .func (.func 304) #[.pointer (some ⟨g, 0, none⟩)] #[], .func (.func 305) #[.pointer (some ⟨g, 0, none⟩)] #[]]) W0.drew from ⟨c6, cn, r1⟩)
  refine wp_region_held_drew (S := fun W => W.cell? ⟨g, 6, none⟩ = some (.slice (some ⟨b6, off6, none⟩) n d6) ∧ W.cell? ⟨b6, off6 + i, none⟩ = some (.int .i64 d.n) ∧ Row W (w.heap.size + 1) 297 #[.nilFunc, .func (.func 303) #[.pointer (some ⟨g, 0, none⟩)] #[], .func (.func 304) #[.pointer (some ⟨g, 0, none⟩)] #[], .func (.func 305) #[.pointer (some ⟨g, 0, none⟩)] #[]]) (by kernel_rfl) hSc (fun _ => ?_)
  refine held_take 0 ?_ rfl (by kernel_rfl) (by kernel_rfl) (by kernel_rfl) (fun _ _ _ h => h) (by rfl) ?_ hSc ?_
  rotate_left
  · (intro W hSW; go_simp; try rfl)
  try simp only [Act.put, List.setIfInBounds_toArray, List.set_cons_zero, List.set_cons_succ]
  refine held_take 1 ?_ rfl (by kernel_rfl) (by kernel_rfl) (by kernel_rfl) (fun _ _ _ h => h) (by rfl) ?_ hSc ?_
  rotate_left
  · (intro W hSW; go_simp; try rfl)
  try simp only [Act.put, List.setIfInBounds_toArray, List.set_cons_zero, List.set_cons_succ]
  refine held_take 5 ?_ rfl (by kernel_rfl) (by kernel_rfl) (by kernel_rfl) (fun _ _ _ h => h) (by rfl) ?_ hSc ?_
  rotate_left
  · (intro W hSW; go_simp; try rfl)
  try simp only [Act.put, List.setIfInBounds_toArray, List.set_cons_zero, List.set_cons_succ]
  refine held_take 6 ?_ rfl (by kernel_rfl) (by kernel_rfl) (by kernel_rfl) (fun _ _ _ h => h) (by rfl) ?_ hSc ?_
  rotate_left
  · (intro W hSW; go_simp; try rfl)
  try simp only [Act.put, List.setIfInBounds_toArray, List.set_cons_zero, List.set_cons_succ]
  refine held_take 7 ?_ rfl (by kernel_rfl) (by kernel_rfl) (by kernel_rfl) (fun _ _ _ h => h) (by rfl) ?_ hSc ?_
  rotate_left
  · (intro W hSW; go_simp; try rfl)
  try simp only [Act.put, List.setIfInBounds_toArray, List.set_cons_zero, List.set_cons_succ]
  refine held_take 8 ?_ rfl (by kernel_rfl) (by kernel_rfl) (by kernel_rfl) (fun _ _ _ h => h) (by rfl) ?_ hSc ?_
  rotate_left
  · (intro W hSW; have k6 := hSW.1; go_simp; try rfl)
  try simp only [Act.put, List.setIfInBounds_toArray, List.set_cons_zero, List.set_cons_succ]
  refine held_take 9 ?_ rfl (by kernel_rfl) (by kernel_rfl) (by kernel_rfl) (fun _ _ _ h => h) (by rfl) ?_ hSc ?_
  rotate_left
  · (intro W hSW; go_simp; try rfl)
  try simp only [Act.put, List.setIfInBounds_toArray, List.set_cons_zero, List.set_cons_succ]
  refine held_take 10 ?_ rfl (by kernel_rfl) (by kernel_rfl) (by kernel_rfl) (fun _ _ _ h => h) (by rfl) ?_ hSc ?_
  rotate_left
  · (intro W hSW; go_simp; try rfl)
  try simp only [Act.put, List.setIfInBounds_toArray, List.set_cons_zero, List.set_cons_succ]
  refine held_take 11 ?_ rfl (by kernel_rfl) (by kernel_rfl) (by kernel_rfl) (fun _ _ _ h => h) (by rfl) ?_ hSc ?_
  rotate_left
  · (intro W hSW; have k6 := hSW.2.1; go_simp; try rfl)
  try simp only [Act.put, List.setIfInBounds_toArray, List.set_cons_zero, List.set_cons_succ]
  refine held_next 2 rfl (by kernel_rfl) (by rfl) ?_
  go_simp
  refine (ikind_c cs d W0.drew (H0.out.step (Below.refl _ _).drew) HD.out hn).mono ?_
  rintro e wq1 ⟨rfl, bq⟩
  rw [HK.out]
  have B1 := Lib.hid (below_both (Below.refl W0.heap.size W0).drew bq)
  have hSd : (fun W => W.cell? ⟨g, 6, none⟩ = some (.slice (some ⟨b6, off6, none⟩) n d6) ∧ W.cell? ⟨b6, off6 + i, none⟩ = some (.int .i64 d.n) ∧ Row W (w.heap.size + 1) 297 #[.nilFunc, .func (.func 303) #[.pointer (some ⟨g, 0, none⟩)] #[], .func (.func 304) #[.pointer (some ⟨g, 0, none⟩)] #[], .func (.func 305) #[.pointer (some ⟨g, 0, none⟩)] #[]]) wq1 := ⟨(bq.cell (World.block_lt_of_cell? _ _ hSc.1)).trans hSc.1, (bq.cell (World.block_lt_of_cell? _ _ hSc.2.1)).trans hSc.2.1, hSc.2.2.below bq hSc.2.2.lt⟩
  refine ⟨fun W => W.cell? ⟨g, 6, none⟩ = some (.slice (some ⟨b6, off6, none⟩) n d6) ∧ W.cell? ⟨b6, off6 + i, none⟩ = some (.int .i64 d.n) ∧ Row W (w.heap.size + 1) 297 #[.nilFunc, .func (.func 303) #[.pointer (some ⟨g, 0, none⟩)] #[], .func (.func 304) #[.pointer (some ⟨g, 0, none⟩)] #[], .func (.func 305) #[.pointer (some ⟨g, 0, none⟩)] #[]], fun W hW => hW, hSd, ?_⟩
  clear hSc bq
  have hSc := hSd
  clear hSd
  try simp only [Act.put, List.setIfInBounds_toArray, List.set_cons_zero, List.set_cons_succ]
  refine held_take 3 ?_ rfl (by kernel_rfl) (by kernel_rfl) (by kernel_rfl) (fun _ _ _ h => h) (by rfl) ?_ hSc ?_
  rotate_left
  · (intro W hSW; go_simp; try rfl)
  try simp only [Act.put, List.setIfInBounds_toArray, List.set_cons_zero, List.set_cons_succ]
  refine held_take 4 ?_ rfl (by kernel_rfl) (by kernel_rfl) (by kernel_rfl) (fun _ _ _ h => h) (by rfl) ?_ hSc ?_
  rotate_left
  · (intro W hSW; have k0 := hSW.2.2.cell 2; go_simp; try rfl)
  try simp only [Act.put, List.setIfInBounds_toArray, List.set_cons_zero, List.set_cons_succ]
  refine held_next 12 rfl (by kernel_rfl) (by rfl) ?_
  go_simp
  refine (iwords_c cs d wq1 (H0.out.step B1.out) (HB0.out.below (B1.out.mono (Nat.le_of_lt H0.out.row.lt))) hq hl HK.out HA.out).mono ?_
  intro e w2 hP
  have hx : ∃ (x : Bd) (z : Int), e = .returned (.tuple #[.agg #[.int .u8 x.κ, .slice x.A x.n x.c, .slice x.A2 x.n2 x.c2, .slice x.A3 x.n3 x.c3], .int .i64 z]) ∧ wq1.grownBy w2 (some g) ∧ ∃ q' : Nat, Row w2 g 169 #[.slice A L.length c, .int .i64 q', .int .i64 cs.length, .bool (anyr cs), vf, vk, .slice (some ⟨b6, off6, none⟩) n d6, vo] := by
    rcases hP with ⟨_, ⟨x, e1⟩, ⟨q', hr⟩, hg⟩ | ⟨_, ⟨x, e1, _⟩, hi, hg⟩
    · exact ⟨x, 4, e1, hg, q', hr⟩
    · exact ⟨x, 0, e1, hg, _, hi.row⟩
  obtain ⟨x, z, rfl, hg2, q2, hr2⟩ := hx
  have HP := Lib.hid hP
  have hS2 : (fun W => W.cell? ⟨g, 6, none⟩ = some (.slice (some ⟨b6, off6, none⟩) n d6) ∧ W.cell? ⟨b6, off6 + i, none⟩ = some (.int .i64 d.n) ∧ Row W (w.heap.size + 1) 297 #[.nilFunc, .func (.func 303) #[.pointer (some ⟨g, 0, none⟩)] #[], .func (.func 304) #[.pointer (some ⟨g, 0, none⟩)] #[], .func (.func 305) #[.pointer (some ⟨g, 0, none⟩)] #[]]) w2 := ⟨hr2.cell 6, (hg2.cell_far _ (World.block_lt_of_cell? _ _ hSc.2.1) (fun e => by injection e with e; have := HB6.out; simp at e; omega)).trans hSc.2.1, hSc.2.2.grown hg2 (fun e => by injection e with e; have := HGW.out; omega)⟩
  have RR2 := (RR.out.below B1.out RR.out.lt).grown hg2 (fun e => by injection e with e; have := HGW.out; omega)
  refine ⟨fun W => W.cell? ⟨g, 6, none⟩ = some (.slice (some ⟨b6, off6, none⟩) n d6) ∧ W.cell? ⟨b6, off6 + i, none⟩ = some (.int .i64 d.n) ∧ Row W (w.heap.size + 1) 297 #[.nilFunc, .func (.func 303) #[.pointer (some ⟨g, 0, none⟩)] #[], .func (.func 304) #[.pointer (some ⟨g, 0, none⟩)] #[], .func (.func 305) #[.pointer (some ⟨g, 0, none⟩)] #[]], fun W hW => hW, hS2, ?_⟩
  clear hSc hP
  have hSc := hS2
  clear hS2
  try simp only [Act.put, List.setIfInBounds_toArray, List.set_cons_zero, List.set_cons_succ]
  refine held_take 13 ?_ rfl (by kernel_rfl) (by kernel_rfl) (by kernel_rfl) (fun _ _ _ h => h) (by rfl) ?_ hSc ?_
  rotate_left
  · (intro W hSW; go_simp; try rfl)
  try simp only [Act.put, List.setIfInBounds_toArray, List.set_cons_zero, List.set_cons_succ]
  refine held_take 14 ?_ rfl (by kernel_rfl) (by kernel_rfl) (by kernel_rfl) (fun _ _ _ h => h) (by rfl) ?_ hSc ?_
  rotate_left
  · (intro W hSW; go_simp; try rfl)
  try simp only [Act.put, List.setIfInBounds_toArray, List.set_cons_zero, List.set_cons_succ]
  have d0 := RR2.cell 0
  have d1 := RR2.cell 1
  have d2 := RR2.cell 2
  have d3 := RR2.cell 3
  have e0 := RR2.frozen 0
  have e1 := RR2.frozen 1
  have e2 := RR2.frozen 2
  have e3 := RR2.frozen 3
  have S4 := set4 (a' := .int .u8 x.κ) (b' := .slice x.A x.n x.c) (c' := .slice x.A2 x.n2 x.c2) (d' := .slice x.A3 x.n3 x.c3) RR2
  have hS4 : (fun W => W.cell? ⟨g, 6, none⟩ = some (.slice (some ⟨b6, off6, none⟩) n d6) ∧ W.cell? ⟨b6, off6 + i, none⟩ = some (.int .i64 d.n) ∧ Row W (w.heap.size + 1) 297 #[.nilFunc, .func (.func 303) #[.pointer (some ⟨g, 0, none⟩)] #[], .func (.func 304) #[.pointer (some ⟨g, 0, none⟩)] #[], .func (.func 305) #[.pointer (some ⟨g, 0, none⟩)] #[]]) _ := ⟨(S4.2.cell_far _ (World.block_lt_of_cell? _ _ hSc.1) (fun e => by injection e with e; have := HGW.out; simp at e; omega)).trans hSc.1, (S4.2.cell_far _ (World.block_lt_of_cell? _ _ hSc.2.1) (fun e => by injection e with e; have := HB6.out; simp at e; omega)).trans hSc.2.1, hSc.2.2.grown S4.2 (fun e => by injection e with e; omega)⟩
  refine held_next 15 rfl (by kernel_rfl) (by rfl) ?_
  go_simp
  refine ⟨fun W => W.cell? ⟨g, 6, none⟩ = some (.slice (some ⟨b6, off6, none⟩) n d6) ∧ W.cell? ⟨b6, off6 + i, none⟩ = some (.int .i64 d.n) ∧ Row W (w.heap.size + 1) 297 #[.nilFunc, .func (.func 303) #[.pointer (some ⟨g, 0, none⟩)] #[], .func (.func 304) #[.pointer (some ⟨g, 0, none⟩)] #[], .func (.func 305) #[.pointer (some ⟨g, 0, none⟩)] #[]], fun W hW => hW, hS4, ?_⟩
  clear hSc
  have hSc := hS4
  clear hS4
  try simp only [Act.put, List.setIfInBounds_toArray, List.set_cons_zero, List.set_cons_succ]
  refine held_next 16 rfl (by kernel_rfl) (by rfl) ?_
  go_simp
  refine ⟨fun W => W.cell? ⟨g, 6, none⟩ = some (.slice (some ⟨b6, off6, none⟩) n d6) ∧ W.cell? ⟨b6, off6 + i, none⟩ = some (.int .i64 d.n) ∧ Row W (w.heap.size + 1) 297 #[.nilFunc, .func (.func 303) #[.pointer (some ⟨g, 0, none⟩)] #[], .func (.func 304) #[.pointer (some ⟨g, 0, none⟩)] #[], .func (.func 305) #[.pointer (some ⟨g, 0, none⟩)] #[]], fun W hW => hW, hSc, ?_⟩
  refine wpAnyH_done (by kernel_rfl) ?_ _
  have GF := grown_new ((grown_start (below_both B0.out B1.out) hg2)) S4.2 (Nat.le_refl _)
  have HX : Hid (CtAns w g (.slice A L.length c) L q cs vf vk (.slice (some ⟨b6, off6, none⟩) n d6) vo d (.returned (.tuple #[.agg #[.int .u8 x.κ, .slice x.A x.n x.c, .slice x.A2 x.n2 x.c2, .slice x.A3 x.n3 x.c3], .int .i64 z])) ((((w2.setCell ⟨w.heap.size, 0, none⟩ (.int .u8 x.κ)).setCell ⟨w.heap.size, 1, none⟩ (.slice x.A x.n x.c)).setCell ⟨w.heap.size, 2, none⟩ (.slice x.A2 x.n2 x.c2)).setCell ⟨w.heap.size, 3, none⟩ (.slice x.A3 x.n3 x.c3))) := Lib.hid (by
    have hne : (some w.heap.size : Option Nat) ≠ some g := fun e => by injection e with e; have := HGW.out; omega
    have hlw : w.heap.size < wq1.heap.size := Nat.lt_of_lt_of_le RR.out.lt B1.out.size
    rcases HP.out with ⟨h1, h2, ⟨q', hr⟩, _⟩ | ⟨h1, ⟨y, e1, cn⟩, hi, _⟩
    · exact .inl ⟨h1, h2, ⟨q', hr.grown S4.2 hne⟩, GF⟩
    · exact .inr ⟨h1, ⟨y, e1, (cn.grown S4.2 (by omega)).mono fun b _ hb => Nat.le_trans (Nat.le_of_lt hlw) hb⟩, H.out.next GF (hi.row.grown S4.2 hne), GF⟩)
  have HS4 := Lib.hid S4.1
  clear hSc GF S4 RR2 d0 d1 d2 d3 e0 e1 e2 e3 c6 cn r1 hg2 hr2
  go_wp2
  exact bodyPost_ret (ret_row2 (p := 4) (u := 5) (y := .int .i64 z) rfl rfl rfl HS4.out) rfl HX.out
set_option maxHeartbeats 8000000 in
theorem icontainer_3 {g q i : Nat} {A : Option Addr} {c : Nat} {vf vk vc vo : Value} {L rest : List UInt8} (cs : List Ct) (d : Ct) (w : World) (h : Ih w g (.slice A L.length c) q cs vf vk vc vo) (hb : Gs e8 w 0 g (.slice A L.length c) L) (hq : q ≤ L.length) (hl : L.length ≤ 10000000) (hk : d.k = 3) (hd : cs[i]? = some d) (hn : cs.length ≤ 65536) (ha : Ag (L.drop q) (d.body ++ rest)) :
    Calls Tryz.prog 256 #[.pointer (some ⟨g, 0, none⟩), .int .i64 i] w (CtAns w g (.slice A L.length c) L q cs vf vk vc vo d) := by
  have hg := h.row.lt
  have hi := (List.getElem?_eq_some_iff.1 hd).1
  have T := two_blocks w #[.int .u8 0, .slice none 0 0, .slice none 0 0, .slice none 0 0] #[.nilFunc, .func (.func 303) #[.pointer (some ⟨g, 0, none⟩)] #[], .func (.func 304) #[.pointer (some ⟨g, 0, none⟩)] #[], .func (.func 305) #[.pointer (some ⟨g, 0, none⟩)] #[]] 65 297
  obtain ⟨n, hnn⟩ : ∃ n, n = cs.length := ⟨_, rfl⟩
  have hin : (i : Int) < n := by omega
  have hns := h.ns
  obtain ⟨A6, d6, rfl, -⟩ := h.ns
  obtain ⟨b6, off6, y6, e6, -, hb6, hb6l, hy6, cy6⟩ := gse_at hns (k := i) (by rw [List.length_map]; exact hi)
  subst e6
  rw [List.getElem?_map, hd] at hy6
  injection hy6 with hy6
  have cy : w.cell? ⟨b6, off6 + i, none⟩ = some (.int .i64 d.n) := by rw [hy6]; exact cy6
  have c6 := h.row.cell 6
  rw [List.length_map, ← hnn] at h c6 ⊢
  have H := Lib.hid h
  have HB := Lib.hid hb
  have HD := Lib.hid hd
  have HK := Lib.hid hk
  have HA := Lib.hid ha
  have HGW := Lib.hid hg
  have HB6 := Lib.hid (show g < b6 ∧ b6 < w.heap.size from ⟨hb6, hb6l⟩)
  clear h hb ha hd hk hns hy6 cy6 hb6 hb6l hi hnn
  go_enter Tryz.func256, Tryz.ntmps256
  go_wp2_with fail
  generalize (w.alloc (.cells #[.int .u8 0, .slice none 0 0, .slice none 0 0, .slice none 0 0] 65)).alloc (.cells #[.nilFunc, .func (.func 303) #[.pointer (some ⟨g, 0, none⟩)] #[], .func (.func 304) #[.pointer (some ⟨g, 0, none⟩)] #[], .func (.func 305) #[.pointer (some ⟨g, 0, none⟩)] #[]] 297) = W0 at *
  obtain ⟨b0, r0, r1⟩ := T
  have H0 := Lib.hid (H.out.step b0)
  have HB0 := Lib.hid (HB.out.below (b0.mono (Nat.le_of_lt hg)))
  have RR := Lib.hid r0
  have B0 := Lib.hid b0
  have c6 := (b0.cell (p := ⟨g, 6, none⟩) hg).trans c6
  have cn := (b0.cell (p := ⟨b6, off6 + i, none⟩) HB6.out.2).trans cy
  clear b0 r0 cy
  have hSc := (show (fun W => W.cell? ⟨g, 6, none⟩ = some (.slice (some ⟨b6, off6, none⟩) n d6) ∧ W.cell? ⟨b6, off6 + i, none⟩ = some (.int .i64 d.n) ∧ Row W (w.heap.size + 1) 297 #[.nilFunc, .func (.func 303) #[.pointer (some ⟨g, 0, none⟩)] #[], .func (.func 304) #[.pointer (some ⟨g, 0, none⟩)] #[], .func (.func 305) #[.pointer (some ⟨g, 0, none⟩)] #[]]) W0.drew from ⟨c6, cn, r1⟩)
  refine wp_region_held_drew (S := fun W => W.cell? ⟨g, 6, none⟩ = some (.slice (some ⟨b6, off6, none⟩) n d6) ∧ W.cell? ⟨b6, off6 + i, none⟩ = some (.int .i64 d.n) ∧ Row W (w.heap.size + 1) 297 #[.nilFunc, .func (.func 303) #[.pointer (some ⟨g, 0, none⟩)] #[], .func (.func 304) #[.pointer (some ⟨g, 0, none⟩)] #[], .func (.func 305) #[.pointer (some ⟨g, 0, none⟩)] #[]]) (by kernel_rfl) hSc (fun _ => ?_)
  refine held_take 0 ?_ rfl (by kernel_rfl) (by kernel_rfl) (by kernel_rfl) (fun _ _ _ h => h) (by rfl) ?_ hSc ?_
  rotate_left
  · (intro W hSW; go_simp; try rfl)
  try simp only [Act.put, List.setIfInBounds_toArray, List.set_cons_zero, List.set_cons_succ]
  refine held_take 1 ?_ rfl (by kernel_rfl) (by kernel_rfl) (by kernel_rfl) (fun _ _ _ h => h) (by rfl) ?_ hSc ?_
  rotate_left
  · (intro W hSW; go_simp; try rfl)
  try simp only [Act.put, List.setIfInBounds_toArray, List.set_cons_zero, List.set_cons_succ]
  refine held_take 5 ?_ rfl (by kernel_rfl) (by kernel_rfl) (by kernel_rfl) (fun _ _ _ h => h) (by rfl) ?_ hSc ?_
  rotate_left
  · (intro W hSW; go_simp; try rfl)
  try simp only [Act.put, List.setIfInBounds_toArray, List.set_cons_zero, List.set_cons_succ]
  refine held_take 6 ?_ rfl (by kernel_rfl) (by kernel_rfl) (by kernel_rfl) (fun _ _ _ h => h) (by rfl) ?_ hSc ?_
  rotate_left
  · (intro W hSW; go_simp; try rfl)
  try simp only [Act.put, List.setIfInBounds_toArray, List.set_cons_zero, List.set_cons_succ]
  refine held_take 7 ?_ rfl (by kernel_rfl) (by kernel_rfl) (by kernel_rfl) (fun _ _ _ h => h) (by rfl) ?_ hSc ?_
  rotate_left
  · (intro W hSW; go_simp; try rfl)
  try simp only [Act.put, List.setIfInBounds_toArray, List.set_cons_zero, List.set_cons_succ]
  refine held_take 8 ?_ rfl (by kernel_rfl) (by kernel_rfl) (by kernel_rfl) (fun _ _ _ h => h) (by rfl) ?_ hSc ?_
  rotate_left
  · (intro W hSW; have k6 := hSW.1; go_simp; try rfl)
  try simp only [Act.put, List.setIfInBounds_toArray, List.set_cons_zero, List.set_cons_succ]
  refine held_take 9 ?_ rfl (by kernel_rfl) (by kernel_rfl) (by kernel_rfl) (fun _ _ _ h => h) (by rfl) ?_ hSc ?_
  rotate_left
  · (intro W hSW; go_simp; try rfl)
  try simp only [Act.put, List.setIfInBounds_toArray, List.set_cons_zero, List.set_cons_succ]
  refine held_take 10 ?_ rfl (by kernel_rfl) (by kernel_rfl) (by kernel_rfl) (fun _ _ _ h => h) (by rfl) ?_ hSc ?_
  rotate_left
  · (intro W hSW; go_simp; try rfl)
  try simp only [Act.put, List.setIfInBounds_toArray, List.set_cons_zero, List.set_cons_succ]
  refine held_take 11 ?_ rfl (by kernel_rfl) (by kernel_rfl) (by kernel_rfl) (fun _ _ _ h => h) (by rfl) ?_ hSc ?_
  rotate_left
  · (intro W hSW; have k6 := hSW.2.1; go_simp; try rfl)
  try simp only [Act.put, List.setIfInBounds_toArray, List.set_cons_zero, List.set_cons_succ]
  refine held_next 2 rfl (by kernel_rfl) (by rfl) ?_
  go_simp
  refine (ikind_c cs d W0.drew (H0.out.step (Below.refl _ _).drew) HD.out hn).mono ?_
  rintro e wq1 ⟨rfl, bq⟩
  rw [HK.out]
  have B1 := Lib.hid (below_both (Below.refl W0.heap.size W0).drew bq)
  have hSd : (fun W => W.cell? ⟨g, 6, none⟩ = some (.slice (some ⟨b6, off6, none⟩) n d6) ∧ W.cell? ⟨b6, off6 + i, none⟩ = some (.int .i64 d.n) ∧ Row W (w.heap.size + 1) 297 #[.nilFunc, .func (.func 303) #[.pointer (some ⟨g, 0, none⟩)] #[], .func (.func 304) #[.pointer (some ⟨g, 0, none⟩)] #[], .func (.func 305) #[.pointer (some ⟨g, 0, none⟩)] #[]]) wq1 := ⟨(bq.cell (World.block_lt_of_cell? _ _ hSc.1)).trans hSc.1, (bq.cell (World.block_lt_of_cell? _ _ hSc.2.1)).trans hSc.2.1, hSc.2.2.below bq hSc.2.2.lt⟩
  refine ⟨fun W => W.cell? ⟨g, 6, none⟩ = some (.slice (some ⟨b6, off6, none⟩) n d6) ∧ W.cell? ⟨b6, off6 + i, none⟩ = some (.int .i64 d.n) ∧ Row W (w.heap.size + 1) 297 #[.nilFunc, .func (.func 303) #[.pointer (some ⟨g, 0, none⟩)] #[], .func (.func 304) #[.pointer (some ⟨g, 0, none⟩)] #[], .func (.func 305) #[.pointer (some ⟨g, 0, none⟩)] #[]], fun W hW => hW, hSd, ?_⟩
  clear hSc bq
  have hSc := hSd
  clear hSd
  try simp only [Act.put, List.setIfInBounds_toArray, List.set_cons_zero, List.set_cons_succ]
  refine held_take 3 ?_ rfl (by kernel_rfl) (by kernel_rfl) (by kernel_rfl) (fun _ _ _ h => h) (by rfl) ?_ hSc ?_
  rotate_left
  · (intro W hSW; go_simp; try rfl)
  try simp only [Act.put, List.setIfInBounds_toArray, List.set_cons_zero, List.set_cons_succ]
  refine held_take 4 ?_ rfl (by kernel_rfl) (by kernel_rfl) (by kernel_rfl) (fun _ _ _ h => h) (by rfl) ?_ hSc ?_
  rotate_left
  · (intro W hSW; have k0 := hSW.2.2.cell 3; go_simp; try rfl)
  try simp only [Act.put, List.setIfInBounds_toArray, List.set_cons_zero, List.set_cons_succ]
  refine held_next 12 rfl (by kernel_rfl) (by rfl) ?_
  go_simp
  refine (iruns_c cs d wq1 (H0.out.step B1.out) (HB0.out.below (B1.out.mono (Nat.le_of_lt H0.out.row.lt))) hq hl HK.out HA.out).mono ?_
  intro e w2 hP
  have hx : ∃ (x : Bd) (z : Int), e = .returned (.tuple #[.agg #[.int .u8 x.κ, .slice x.A x.n x.c, .slice x.A2 x.n2 x.c2, .slice x.A3 x.n3 x.c3], .int .i64 z]) ∧ wq1.grownBy w2 (some g) ∧ ∃ q' : Nat, Row w2 g 169 #[.slice A L.length c, .int .i64 q', .int .i64 cs.length, .bool (anyr cs), vf, vk, .slice (some ⟨b6, off6, none⟩) n d6, vo] := by
    rcases hP with ⟨_, ⟨x, e1⟩, ⟨q', hr⟩, hg⟩ | ⟨_, ⟨x, e1, _⟩, hi, hg⟩
    · exact ⟨x, 4, e1, hg, q', hr⟩
    · exact ⟨x, 0, e1, hg, _, hi.row⟩
  obtain ⟨x, z, rfl, hg2, q2, hr2⟩ := hx
  have HP := Lib.hid hP
  have hS2 : (fun W => W.cell? ⟨g, 6, none⟩ = some (.slice (some ⟨b6, off6, none⟩) n d6) ∧ W.cell? ⟨b6, off6 + i, none⟩ = some (.int .i64 d.n) ∧ Row W (w.heap.size + 1) 297 #[.nilFunc, .func (.func 303) #[.pointer (some ⟨g, 0, none⟩)] #[], .func (.func 304) #[.pointer (some ⟨g, 0, none⟩)] #[], .func (.func 305) #[.pointer (some ⟨g, 0, none⟩)] #[]]) w2 := ⟨hr2.cell 6, (hg2.cell_far _ (World.block_lt_of_cell? _ _ hSc.2.1) (fun e => by injection e with e; have := HB6.out; simp at e; omega)).trans hSc.2.1, hSc.2.2.grown hg2 (fun e => by injection e with e; have := HGW.out; omega)⟩
  have RR2 := (RR.out.below B1.out RR.out.lt).grown hg2 (fun e => by injection e with e; have := HGW.out; omega)
  refine ⟨fun W => W.cell? ⟨g, 6, none⟩ = some (.slice (some ⟨b6, off6, none⟩) n d6) ∧ W.cell? ⟨b6, off6 + i, none⟩ = some (.int .i64 d.n) ∧ Row W (w.heap.size + 1) 297 #[.nilFunc, .func (.func 303) #[.pointer (some ⟨g, 0, none⟩)] #[], .func (.func 304) #[.pointer (some ⟨g, 0, none⟩)] #[], .func (.func 305) #[.pointer (some ⟨g, 0, none⟩)] #[]], fun W hW => hW, hS2, ?_⟩
  clear hSc hP
  have hSc := hS2
  clear hS2
  try simp only [Act.put, List.setIfInBounds_toArray, List.set_cons_zero, List.set_cons_succ]
  refine held_take 13 ?_ rfl (by kernel_rfl) (by kernel_rfl) (by kernel_rfl) (fun _ _ _ h => h) (by rfl) ?_ hSc ?_
  rotate_left
  · (intro W hSW; go_simp; try rfl)
  try simp only [Act.put, List.setIfInBounds_toArray, List.set_cons_zero, List.set_cons_succ]
  refine held_take 14 ?_ rfl (by kernel_rfl) (by kernel_rfl) (by kernel_rfl) (fun _ _ _ h => h) (by rfl) ?_ hSc ?_
  rotate_left
  · (intro W hSW; go_simp; try rfl)
  try simp only [Act.put, List.setIfInBounds_toArray, List.set_cons_zero, List.set_cons_succ]
  have d0 := RR2.cell 0
  have d1 := RR2.cell 1
  have d2 := RR2.cell 2
  have d3 := RR2.cell 3
  have e0 := RR2.frozen 0
  have e1 := RR2.frozen 1
  have e2 := RR2.frozen 2
  have e3 := RR2.frozen 3
  have S4 := set4 (a' := .int .u8 x.κ) (b' := .slice x.A x.n x.c) (c' := .slice x.A2 x.n2 x.c2) (d' := .slice x.A3 x.n3 x.c3) RR2
  have hS4 : (fun W => W.cell? ⟨g, 6, none⟩ = some (.slice (some ⟨b6, off6, none⟩) n d6) ∧ W.cell? ⟨b6, off6 + i, none⟩ = some (.int .i64 d.n) ∧ Row W (w.heap.size + 1) 297 #[.nilFunc, .func (.func 303) #[.pointer (some ⟨g, 0, none⟩)] #[], .func (.func 304) #[.pointer (some ⟨g, 0, none⟩)] #[], .func (.func 305) #[.pointer (some ⟨g, 0, none⟩)] #[]]) _ := ⟨(S4.2.cell_far _ (World.block_lt_of_cell? _ _ hSc.1) (fun e => by injection e with e; have := HGW.out; simp at e; omega)).trans hSc.1, (S4.2.cell_far _ (World.block_lt_of_cell? _ _ hSc.2.1) (fun e => by injection e with e; have := HB6.out; simp at e; omega)).trans hSc.2.1, hSc.2.2.grown S4.2 (fun e => by injection e with e; omega)⟩
  refine held_next 15 rfl (by kernel_rfl) (by rfl) ?_
  go_simp
  refine ⟨fun W => W.cell? ⟨g, 6, none⟩ = some (.slice (some ⟨b6, off6, none⟩) n d6) ∧ W.cell? ⟨b6, off6 + i, none⟩ = some (.int .i64 d.n) ∧ Row W (w.heap.size + 1) 297 #[.nilFunc, .func (.func 303) #[.pointer (some ⟨g, 0, none⟩)] #[], .func (.func 304) #[.pointer (some ⟨g, 0, none⟩)] #[], .func (.func 305) #[.pointer (some ⟨g, 0, none⟩)] #[]], fun W hW => hW, hS4, ?_⟩
  clear hSc
  have hSc := hS4
  clear hS4
  try simp only [Act.put, List.setIfInBounds_toArray, List.set_cons_zero, List.set_cons_succ]
  refine held_next 16 rfl (by kernel_rfl) (by rfl) ?_
  go_simp
  refine ⟨fun W => W.cell? ⟨g, 6, none⟩ = some (.slice (some ⟨b6, off6, none⟩) n d6) ∧ W.cell? ⟨b6, off6 + i, none⟩ = some (.int .i64 d.n) ∧ Row W (w.heap.size + 1) 297 #[.nilFunc, .func (.func 303) #[.pointer (some ⟨g, 0, none⟩)] #[], .func (.func 304) #[.pointer (some ⟨g, 0, none⟩)] #[], .func (.func 305) #[.pointer (some ⟨g, 0, none⟩)] #[]], fun W hW => hW, hSc, ?_⟩
  refine wpAnyH_done (by kernel_rfl) ?_ _
  have GF := grown_new ((grown_start (below_both B0.out B1.out) hg2)) S4.2 (Nat.le_refl _)
  have HX : Hid (CtAns w g (.slice A L.length c) L q cs vf vk (.slice (some ⟨b6, off6, none⟩) n d6) vo d (.returned (.tuple #[.agg #[.int .u8 x.κ, .slice x.A x.n x.c, .slice x.A2 x.n2 x.c2, .slice x.A3 x.n3 x.c3], .int .i64 z])) ((((w2.setCell ⟨w.heap.size, 0, none⟩ (.int .u8 x.κ)).setCell ⟨w.heap.size, 1, none⟩ (.slice x.A x.n x.c)).setCell ⟨w.heap.size, 2, none⟩ (.slice x.A2 x.n2 x.c2)).setCell ⟨w.heap.size, 3, none⟩ (.slice x.A3 x.n3 x.c3))) := Lib.hid (by
    have hne : (some w.heap.size : Option Nat) ≠ some g := fun e => by injection e with e; have := HGW.out; omega
    have hlw : w.heap.size < wq1.heap.size := Nat.lt_of_lt_of_le RR.out.lt B1.out.size
    rcases HP.out with ⟨h1, h2, ⟨q', hr⟩, _⟩ | ⟨h1, ⟨y, e1, cn⟩, hi, _⟩
    · exact .inl ⟨h1, h2, ⟨q', hr.grown S4.2 hne⟩, GF⟩
    · exact .inr ⟨h1, ⟨y, e1, (cn.grown S4.2 (by omega)).mono fun b _ hb => Nat.le_trans (Nat.le_of_lt hlw) hb⟩, H.out.next GF (hi.row.grown S4.2 hne), GF⟩)
  have HS4 := Lib.hid S4.1
  clear hSc GF S4 RR2 d0 d1 d2 d3 e0 e1 e2 e3 c6 cn r1 hg2 hr2
  go_wp2
  exact bodyPost_ret (ret_row2 (p := 4) (u := 5) (y := .int .i64 z) rfl rfl rfl HS4.out) rfl HX.out
theorem icontainer_c {g q i : Nat} {A : Option Addr} {c : Nat} {vf vk vc vo : Value} {L rest : List UInt8} (cs : List Ct) (d : Ct) (w : World) (h : Ih w g (.slice A L.length c) q cs vf vk vc vo) (hb : Gs e8 w 0 g (.slice A L.length c) L) (hq : q ≤ L.length) (hl : L.length ≤ 10000000) (hd : cs[i]? = some d) (hn : cs.length ≤ 65536) (ha : Ag (L.drop q) (d.body ++ rest)) :
    Calls Tryz.prog 256 #[.pointer (some ⟨g, 0, none⟩), .int .i64 i] w (CtAns w g (.slice A L.length c) L q cs vf vk vc vo d) := by
  have hk : d.k = 1 ∨ d.k = 2 ∨ d.k = 3 := by unfold Ct.k; split <;> (try split) <;> omega
  rcases hk with hk | hk | hk
  · exact icontainer_1 cs d w h hb hq hl hk hd hn ha
  · exact icontainer_2 cs d w h hb hq hl hk hd hn ha
  · exact icontainer_3 cs d w h hb hq hl hk hd hn ha
end Go.Proofs.YtponcpneflhpfaaGreatDoor
