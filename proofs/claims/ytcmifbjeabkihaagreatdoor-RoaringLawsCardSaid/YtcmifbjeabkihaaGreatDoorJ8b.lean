/- Walks: one number added to the empty set. -/
import Derived.Test.YtcmifbjeabkihaaGreatDoorJ8
namespace Go.Proofs.YtcmifbjeabkihaaGreatDoor
open Go.RowKit
set_option linter.unusedVariables false

theorem off_grown {w w' : World} {g : Nat} (h : w.grownBy w' (some g)) : Off (fun x => x = g) w w' :=
  ⟨h.os, h.tape, h.output, h.size, fun k hk hm => h.block k hk fun e => hm (by injection e)⟩
theorem set4r {w : World} {g : Nat} {t : TypeId} {cur : Array Value} (h : Row w g t cur) (hs : 5 ≤ cur.size) (k a b c d : Value) (hk : cur[0]? = some k) :
    Hid (∀ i u, [k, a, b, c, d][i]? = some u → ((((w.setCell ⟨g, 1, none⟩ a).setCell ⟨g, 2, none⟩ b).setCell ⟨g, 3, none⟩ c).setCell ⟨g, 4, none⟩ d).cell? ⟨g, i, none⟩ = some u) ∧
    w.grownBy ((((w.setCell ⟨g, 1, none⟩ a).setCell ⟨g, 2, none⟩ b).setCell ⟨g, 3, none⟩ c).setCell ⟨g, 4, none⟩ d) (some g) := by
  have R := (((h.set_ 1 a).set_ 2 b).set_ 3 c).set_ 4 d
  refine ⟨Lib.hid fun i u hu => ?_, ?_⟩
  · rw [R.cell]
    match i, hu with
    | 0, hu => simpa [Array.getElem?_setIfInBounds, hk] using hu
    | 1, hu => simp at hu; subst hu; simp [Array.getElem?_setIfInBounds]; omega
    | 2, hu => simp at hu; subst hu; simp [Array.getElem?_setIfInBounds]; omega
    | 3, hu => simp at hu; subst hu; simp [Array.getElem?_setIfInBounds]; omega
    | 4, hu => simp at hu; subst hu; simp [Array.getElem?_setIfInBounds]; omega
    | n + 5, hu => simp at hu
  · have a1 := grown_set w g 1 a
    have a2 := grown_set (w.setCell ⟨g, 1, none⟩ a) g 2 b
    have a3 := grown_set ((w.setCell ⟨g, 1, none⟩ a).setCell ⟨g, 2, none⟩ b) g 3 c
    have a4 := grown_set (((w.setCell ⟨g, 1, none⟩ a).setCell ⟨g, 2, none⟩ b).setCell ⟨g, 3, none⟩ c) g 4 d
    have tr : ∀ {x y z : World}, x.grownBy y (some g) → y.grownBy z (some g) → x.grownBy z (some g) := fun a c =>
      ⟨c.os.trans a.os, c.tape.trans a.tape, c.output.trans a.output, Nat.le_trans a.size c.size, fun k hk hne => (c.block k (Nat.lt_of_lt_of_le hk a.size) hne).trans (a.block k hk hne)⟩
    exact tr (tr (tr a1 a2) a3) a4
theorem has_none (b x : Nat) (w : World) (h : Row w b 82 #[.slice none 0 0]) (hx : x < 4294967296) :
    Calls Tryz.prog 33 #[.pointer (some ⟨b, 0, none⟩), .int .u32 (x : Int)] w fun e w' => e = .returned (.bool false) ∧ Below w.heap.size w w' :=
  sethas_c (N := fun _ => True) _ (fun _ => false) x w (st_empty h fun _ _ => rfl) hx
theorem find_zero (b y : Nat) (w : World) (h : Row w b 82 #[.slice none 0 0]) (hy : y < 65536) :
    Calls Tryz.prog 54 #[.pointer (some ⟨b, 0, none⟩), .int .u16 (y : Int)] w fun e w' => e = .returned (.tuple #[.int .i64 0, .bool false]) ∧ Below w.heap.size w w' := by
  refine (find_c (N := fun _ => True) (fun _ => false) b y (.slice none 0 0) [] w h (GsV.nil_ _ _ _) ((Dir.nil_ (N := fun _ => True) (w := w) (P := fun _ => false) (lo := 0)).skip (by omega) fun k _ hk => nz_not.2 fun _ _ => rfl) hy).mono ?_
  rintro e w' ⟨i, rfl, F, B⟩
  have hi : i = 0 := by have := F.le; simp at this; exact this
  have hn : nz (fun _ => false) y = false := nz_not.2 fun _ _ => rfl
  rw [hn, hi]
  exact ⟨rfl, B⟩
theorem with_zero {N : Nat → Prop} (x : Nat) (w : World) (hT : Tb w) (hN : ∀ b, w.heap.size ≤ b → N b) (hx : x < 65536) :
    Calls Tryz.prog 57 #[.agg #[.int .u8 0, .slice none 0 0, .slice none 0 0, .slice none 0 0], .int .u16 (x : Int)] w fun e w' => ∃ v', e = .returned v' ∧ Cn N w' v' (pls (fun _ => false) x) (ck (pls (fun _ => false) x)) ∧ Below w.heap.size w w' := by
  have hc : ct (fun _ : Nat => false) 65536 = 0 := ct_zero fun _ _ => rfl
  have hl : ls (fun _ => false) 65536 = [] := List.eq_nil_of_length_eq_zero (by rw [ls_ct, hc])
  exact with_1 0 none 0 0 (fun _ => false) x w hT hN hx (.inl rfl) hc ⟨by rw [hl]; exact Gs.nil_ _ _ _, fun h => absurd hl h⟩
/-- The one number's set. -/
theorem one_st {b g n c x : Nat} {κ : UInt16} {nb : Bd} {w : World} (hx : x < 4294967296) (hR : Row w b 82 #[.slice (some ⟨g, 0, none⟩) 1 c]) (hg : g < w.heap.size) (hc : 1 ≤ c) (hm : c ≤ maxLen)
    (hcell : ∀ i u, (eN.cs ⟨UInt16.ofNat (x / 65536), nb⟩)[i]? = some u → w.cell? ⟨g, i, none⟩ = some u)
    (hcn : Cn (fun _ => True) w nb.val (pls (fun _ => false) (x % 65536)) (ck (pls (fun _ => false) (x % 65536)))) : St (fun _ => True) w (.pointer (some ⟨b, 0, none⟩)) (pl (fun _ => false) x) := by
  have hk : (UInt16.ofNat (x / 65536)).toNat = x / 65536 := u16_of _ (by omega)
  have hz : ∀ k, nz (fun _ : Nat => false) k = false := fun k => nz_not.2 fun _ _ => rfl
  have hbl : ∀ y, y < 65536 → pls (fun _ => false) (x % 65536) y = blk (pl (fun _ => false) x) (x / 65536) y := fun y hy => by
    rw [blk_pl_at _ x y hy]
    unfold pls blk
    simp
  have D0 : Dir (fun _ => True) w (pl (fun _ => false) x) 0 (x / 65536) [] := (Dir.nil_ (lo := 0)).skip (Nat.zero_le _) fun k _ hk => by rw [nz_pl_off _ x (by omega)]; exact hz k
  have D1 := D0.snoc (e := ⟨UInt16.ofNat (x / 65536), nb⟩) (Nat.zero_le _) hk (nz_pl_at _ x) (by rw [← ck_ext hbl]; exact hcn.ext hbl)
  have D2 := D1.skip (hi := 65536) (by omega) fun k h1 _ => by rw [nz_pl_off _ x (by omega)]; exact hz k
  refine .some b _ [⟨UInt16.ofNat (x / 65536), nb⟩] hR ⟨some ⟨g, 0, none⟩, c, rfl, fun e => (by cases e), hc, hm, fun _ => ⟨g, 0, rfl, Nat.zero_le _, hg, fun j y hj i u hu => ?_⟩⟩ (fun h => absurd h (by simp)) D2
  match j, hj with
  | 0, hj =>
    simp at hj
    subst hj
    have := hcell i u hu
    simpa using this
  | j + 1, hj => simp at hj
set_option maxHeartbeats 8000000 in
set_option maxRecDepth 100000 in
theorem add_zero (b x : Nat) (w : World) (hT : Tb w) (hb : Row w b 82 #[.slice none 0 0]) (hx : x < 4294967296) (hTO : ∀ W, Off (fun y => y = b) w W → Tb W) :
    Calls Tryz.prog 15 #[.pointer (some ⟨b, 0, none⟩), .int .u32 (x : Int)] w fun e w' => e = .returned (.tuple #[]) ∧ St (fun _ => True) w' (.pointer (some ⟨b, 0, none⟩)) (pl (fun _ => false) x) ∧ Off (fun y => y = b) w w' := by
  have HB := Lib.hid hb
  have HTO := Lib.hid hTO
  clear hb hT hTO
  go_enter Tryz.func15, Tryz.ntmps15
  go_wp2_with fail
  refine (has_none b x w HB.out hx).mono ?_
  rintro e u1 ⟨rfl, b1⟩
  have R1 := Lib.hid (HB.out.below b1 HB.out.lt)
  have B1 := Lib.hid b1
  clear b1
  go_wp2_with fail
  refine (high_c x _ hx).mono ?_
  rintro e wq ⟨rfl, hz⟩
  have hz := hz.symm
  subst hz
  go_wp2_with fail
  refine (find_zero b (x / 65536) u1 R1.out (by omega)).mono ?_
  rintro e u2 ⟨rfl, b2⟩
  have RB0 := Lib.hid (R1.out.below b2 R1.out.lt)
  have BU := Lib.hid (below_both B1.out b2)
  clear b2 R1
  have ONE : Hid (#[.int .u16 ((x / 65536 : Nat) : Int), .int .u8 0, .slice none 0 0, .slice none 0 0, .slice none 0 0] = (eN.cs ⟨UInt16.ofNat (x / 65536), zB⟩).toArray) := Lib.hid (by show _ = #[Value.int .u16 (((UInt16.ofNat (x / 65536)).toNat : Nat) : Int), .int .u8 0, .slice none 0 0, .slice none 0 0, .slice none 0 0]; rw [show (UInt16.ofNat (x / 65536)).toNat = x / 65536 from u16_of _ (by omega)])
  have c0 : u2.cell? ⟨b, 0, none⟩ = some (.slice none 0 0) := RB0.out.cell 0
  go_wp2_with fail
  refine wp_region_held_drew (S := fun W => u2.heap.size ≤ W.heap.size) (by kernel_rfl) (Nat.le_refl _) (fun _ => ?_)
  refine held_take 0 ?_ rfl (by kernel_rfl) (by kernel_rfl) (by kernel_rfl) (fun _ _ _ h => h) (by rfl) ?_ (Nat.le_refl _) ?_
  rotate_left
  · (intro W hSW; go_simp; try rfl)
  try simp only [Act.put, List.setIfInBounds_toArray, List.set_cons_zero, List.set_cons_succ]
  refine held_take 1 ?_ rfl (by kernel_rfl) (by kernel_rfl) (by kernel_rfl) (fun _ _ _ h => h) (by rfl) ?_ (Nat.le_refl _) ?_
  rotate_left
  · (intro W hSW; go_simp; try rfl)
  try simp only [Act.put, List.setIfInBounds_toArray, List.set_cons_zero, List.set_cons_succ]
  refine held_take 2 ?_ rfl (by kernel_rfl) (by kernel_rfl) (by kernel_rfl) (fun _ _ _ h => h) (by rfl) ?_ (Nat.le_refl _) ?_
  rotate_left
  · (intro W hSW; go_simp; try rfl)
  try simp only [Act.put, List.setIfInBounds_toArray, List.set_cons_zero, List.set_cons_succ]
  refine held_take 3 ?_ rfl (by kernel_rfl) (by kernel_rfl) (by kernel_rfl) (fun _ _ _ h => h) (by rfl) ?_ (Nat.le_refl _) ?_
  rotate_left
  · (intro W hSW; go_simp; try rfl)
  try simp only [Act.put, List.setIfInBounds_toArray, List.set_cons_zero, List.set_cons_succ]
  refine held_take 5 ?_ rfl (by kernel_rfl) (by kernel_rfl) (by kernel_rfl) (fun _ _ _ h => h) (by rfl) ?_ (Nat.le_refl _) ?_
  rotate_left
  · (intro W hSW; go_simp; try rfl)
  try simp only [Act.put, List.setIfInBounds_toArray, List.set_cons_zero, List.set_cons_succ]
  refine held_take 6 ?_ rfl (by kernel_rfl) (by kernel_rfl) (by kernel_rfl) (fun _ _ _ h => h) (by rfl) ?_ (Nat.le_refl _) ?_
  rotate_left
  · (intro W hSW; go_simp; try rfl)
  try simp only [Act.put, List.setIfInBounds_toArray, List.set_cons_zero, List.set_cons_succ]
  refine held_two 4 7 rfl rfl (by kernel_rfl) (by rfl) (by rfl) ?_ ?_
  · skip
    go_simp
    refine ⟨fun W => u2.heap.size ≤ W.heap.size, fun W hW => hW, (by simp), ?_⟩
    try simp only [Act.put, List.setIfInBounds_toArray, List.set_cons_zero, List.set_cons_succ]
    refine held_next 7 rfl (by kernel_rfl) (by rfl) ?_
    go_simp
    refine (high_c x _ hx).mono ?_
    rintro e wq ⟨rfl, hz⟩
    have hz := hz.symm
    subst hz
    refine ⟨fun W => u2.heap.size ≤ W.heap.size, fun W hW => hW, (Nat.le_refl _), ?_⟩
    try simp only [Act.put, List.setIfInBounds_toArray, List.set_cons_zero, List.set_cons_succ]
    refine held_take 8 ?_ rfl (by kernel_rfl) (by kernel_rfl) (by kernel_rfl) (fun _ _ _ h => h) (by rfl) ?_ (Nat.le_refl _) ?_
    rotate_left
    · (intro W hSW; go_simp; try rfl)
    try simp only [Act.put, List.setIfInBounds_toArray, List.set_cons_zero, List.set_cons_succ]
    refine held_next 9 rfl (by kernel_rfl) (by rfl) ?_
    go_simp
    refine ⟨fun W => u2.heap.size ≤ W.heap.size, fun W hW => hW, (by simp), ?_⟩
    try simp only [Act.put, List.setIfInBounds_toArray, List.set_cons_zero, List.set_cons_succ]
    refine held_next 10 rfl (by kernel_rfl) (by rfl) ?_
    go_simp
    refine (insert_nil _ ⟨UInt16.ofNat (x / 65536), zB⟩ _ _ _ (GsV.one eN u2.drew _ _ ONE.out)).mono ?_
    rintro e w2 ⟨A2, c, rfl, gi, bi⟩
    have BIS : u2.heap.size ≤ w2.heap.size := Nat.le_trans (by simp) bi.size
    refine ⟨fun W => u2.heap.size ≤ W.heap.size, fun W hW => hW, BIS, ?_⟩
    try simp only [Act.put, List.setIfInBounds_toArray, List.set_cons_zero, List.set_cons_succ]
    have BI : Below u2.heap.size u2 w2 := (((Below.refl u2.heap.size u2).drew).alloc (Nat.le_refl _) _).trans (bi.mono (by simp))
    have RB2 := RB0.out.below BI RB0.out.lt
    obtain ⟨hlen, h2⟩ := id gi
    rcases h2 with ⟨e2, -⟩ | ⟨g, cap, cur, e2, hgb, hgr, hgn, hgm, hgs, hgt⟩
    · cases e2
    have e3 := e2
    injection e3 with e3 e3b e4
    clear e3b
    subst e3 e4
    have d0 : w2.cell? ⟨b, 0, none⟩ = some (.slice none 0 0) := RB2.cell 0
    have f0 := RB2.frozen 0
    have QB := Lib.hid hgb
    have QR := Lib.hid hgr
    have QN := Lib.hid hgn
    have QM := Lib.hid hgm
    have QS := Lib.hid hgs
    have QT := Lib.hid hgt
    have QI := Lib.hid BI
    clear hgb hgr hgn hgm hgs hgt e2 gi bi hlen BI
    refine held_take 11 ?_ rfl (by kernel_rfl) (by kernel_rfl) (by kernel_rfl) (fun _ _ _ h => h) (by rfl) ?_ BIS ?_
    rotate_left
    · (intro W hSW; go_simp; try rfl)
    try simp only [Act.put, List.setIfInBounds_toArray, List.set_cons_zero, List.set_cons_succ]
    refine held_take 12 ?_ rfl (by kernel_rfl) (by kernel_rfl) (by kernel_rfl) (fun _ _ _ h => h) (by rfl) ?_ BIS ?_
    rotate_left
    · (intro W hSW; go_simp; try rfl)
    try simp only [Act.put, List.setIfInBounds_toArray, List.set_cons_zero, List.set_cons_succ]
    refine held_next 13 rfl (by kernel_rfl) (by rfl) ?_
    
    go_simp
    have G3 := grown_set w2 b 0 (.slice (some ⟨g, 0, none⟩) 1 c)
    have RB3 := RB2.one_set (.slice (some ⟨g, 0, none⟩) 1 c)
    have hgb := QB.out
    have hgr := QR.out
    have hgn := QN.out
    have hgm := QM.out
    have hgs := QS.out
    have hgt := QT.out
    have BI := QI.out
    have hgu : u2.heap.size ≤ g := by simp at hgb; omega
    have hne : b ≠ g := by have := RB0.out.lt; omega
    have RG3 : Row (w2.setCell ⟨b, 0, none⟩ (.slice (some ⟨g, 0, none⟩) 1 c)) g 96 cur := Row.grown (show Row w2 g 96 cur from hgr) G3 (fun e => by injection e with e; exact hne e)
    have OF3 : Off (fun y => y = b) w (w2.setCell ⟨b, 0, none⟩ (.slice (some ⟨g, 0, none⟩) 1 c)) := (Off.of (below_both BU.out BI)).trans (off_grown G3) (fun y _ h => absurd h id) (fun y _ h => h)
    have HNE := Lib.hid hne
    have HGW : Hid (w.heap.size ≤ g) := Lib.hid (Nat.le_trans BU.out.size hgu)
    have CSZ : Hid (5 ≤ cur.size) := Lib.hid (by rw [hgs]; have h1 : 1 ≤ c := hgn; show 5 ≤ c * 5; omega)
    have CUR : Hid (∀ i u, [Value.int .u16 ((x / 65536 : Nat) : Int), .int .u8 0, .slice none 0 0, .slice none 0 0, .slice none 0 0][i]? = some u → cur[i]? = some u) := Lib.hid (fun i u hu => by
      have hi : i < 5 := by have := (List.getElem?_eq_some_iff.1 hu).1; simpa using this
      have h4 : (cur.toList.take ([(⟨UInt16.ofNat (x / 65536), zB⟩ : En)].length * eN.n))[i]? = some u := by
        rw [hgt, ← hu]
        show (eN.row [⟨UInt16.ofNat (x / 65536), zB⟩])[i]? = _
        rw [show eN.row [⟨UInt16.ofNat (x / 65536), zB⟩] = eN.cs ⟨UInt16.ofNat (x / 65536), zB⟩ from by simp [ElemV.row]]
        show [Value.int .u16 (((UInt16.ofNat (x / 65536)).toNat : Nat) : Int), .int .u8 0, .slice none 0 0, .slice none 0 0, .slice none 0 0][i]? = _
        rw [show (UInt16.ofNat (x / 65536)).toNat = x / 65536 from u16_of _ (by omega)]
      change (cur.toList.take (1 * 5))[i]? = some u at h4
      rw [List.getElem?_take_of_lt (by omega)] at h4
      simpa using h4)
    have HCC : Hid (1 ≤ c ∧ c ≤ maxLen) := Lib.hid ⟨hgn, hgm⟩
    clear hgb hgr hgn hgm hgs hgt RB2 d0 f0 QB QR QN QM QS QT QI
    refine ⟨fun W => u2.heap.size ≤ W.heap.size, fun W hW => hW, (Nat.le_trans BIS G3.size), ?_⟩
    generalize w2.setCell ⟨b, 0, none⟩ (.slice (some ⟨g, 0, none⟩) 1 c) = w3 at *
    have RG := Lib.hid RG3
    have RB := Lib.hid RB3
    have OFF := Lib.hid OF3
    have HG3 := Lib.hid RG3.lt
    have HBL := Lib.hid RB3.lt
    have T3 := Lib.hid (HTO.out w3 OF3)
    clear RG3 RB3 OF3 G3 BI
    refine wpAnyH_done (by kernel_rfl) ?_ _
    have hS4 : w3.cell? ⟨b, 0, none⟩ = some (.slice (some ⟨g, 0, none⟩) 1 c) := RB.out.cell 0
    have k0 : w3.cell? ⟨g, 1, none⟩ = some (.int .u8 0) := (RG.out.cell 1).trans (CUR.out 1 _ rfl)
    have k1 : w3.cell? ⟨g, 2, none⟩ = some (.slice none 0 0) := (RG.out.cell 2).trans (CUR.out 2 _ rfl)
    have k2 : w3.cell? ⟨g, 3, none⟩ = some (.slice none 0 0) := (RG.out.cell 3).trans (CUR.out 3 _ rfl)
    have k3 : w3.cell? ⟨g, 4, none⟩ = some (.slice none 0 0) := (RG.out.cell 4).trans (CUR.out 4 _ rfl)
    go_wp2_with fail
    refine wp_region_held_drew (S := fun W => W.cell? ⟨b, 0, none⟩ = some (.slice (some ⟨g, 0, none⟩) 1 c)) (by kernel_rfl) hS4 (fun _ => ?_)
    refine held_take 0 ?_ rfl (by kernel_rfl) (by kernel_rfl) (by kernel_rfl) (fun _ _ _ h => h) (by rfl) ?_ hS4 ?_
    rotate_left
    · (intro W hSW; go_simp; try rfl)
    try simp only [Act.put, List.setIfInBounds_toArray, List.set_cons_zero, List.set_cons_succ]
    refine held_take 1 ?_ rfl (by kernel_rfl) (by kernel_rfl) (by kernel_rfl) (fun _ _ _ h => h) (by rfl) ?_ hS4 ?_
    rotate_left
    · (intro W hSW; go_simp; try rfl)
    try simp only [Act.put, List.setIfInBounds_toArray, List.set_cons_zero, List.set_cons_succ]
    refine held_take 2 ?_ rfl (by kernel_rfl) (by kernel_rfl) (by kernel_rfl) (fun _ _ _ h => h) (by rfl) ?_ hS4 ?_
    rotate_left
    · (intro W hSW; go_simp; try rfl)
    try simp only [Act.put, List.setIfInBounds_toArray, List.set_cons_zero, List.set_cons_succ]
    refine held_take 3 ?_ rfl (by kernel_rfl) (by kernel_rfl) (by kernel_rfl) (fun _ _ _ h => h) (by rfl) ?_ hS4 ?_
    rotate_left
    · (intro W hSW; have hc := hSW; go_simp; try rfl)
    try simp only [Act.put, List.setIfInBounds_toArray, List.set_cons_zero, List.set_cons_succ]
    refine held_take 4 ?_ rfl (by kernel_rfl) (by kernel_rfl) (by kernel_rfl) (fun _ _ _ h => h) (by rfl) ?_ hS4 ?_
    rotate_left
    · (intro W hSW; go_simp; try rfl)
    try simp only [Act.put, List.setIfInBounds_toArray, List.set_cons_zero, List.set_cons_succ]
    refine held_take 5 ?_ rfl (by kernel_rfl) (by kernel_rfl) (by kernel_rfl) (fun _ _ _ h => h) (by rfl) ?_ hS4 ?_
    rotate_left
    · (intro W hSW; go_simp; try rfl)
    try simp only [Act.put, List.setIfInBounds_toArray, List.set_cons_zero, List.set_cons_succ]
    refine held_take 6 ?_ rfl (by kernel_rfl) (by kernel_rfl) (by kernel_rfl) (fun _ _ _ h => h) (by rfl) ?_ hS4 ?_
    rotate_left
    · (intro W hSW; go_simp; try rfl)
    try simp only [Act.put, List.setIfInBounds_toArray, List.set_cons_zero, List.set_cons_succ]
    refine held_take 7 ?_ rfl (by kernel_rfl) (by kernel_rfl) (by kernel_rfl) (fun _ _ _ h => h) (by rfl) ?_ hS4 ?_
    rotate_left
    · (intro W hSW; go_simp; try rfl)
    try simp only [Act.put, List.setIfInBounds_toArray, List.set_cons_zero, List.set_cons_succ]
    refine held_take 8 ?_ rfl (by kernel_rfl) (by kernel_rfl) (by kernel_rfl) (fun _ _ _ h => h) (by rfl) ?_ hS4 ?_
    rotate_left
    · (intro W hSW; have hc := hSW; go_simp; try rfl)
    try simp only [Act.put, List.setIfInBounds_toArray, List.set_cons_zero, List.set_cons_succ]
    refine held_take 9 ?_ rfl (by kernel_rfl) (by kernel_rfl) (by kernel_rfl) (fun _ _ _ h => h) (by rfl) ?_ hS4 ?_
    rotate_left
    · (intro W hSW; go_simp; try rfl)
    try simp only [Act.put, List.setIfInBounds_toArray, List.set_cons_zero, List.set_cons_succ]
    refine held_take 10 ?_ rfl (by kernel_rfl) (by kernel_rfl) (by kernel_rfl) (fun _ _ _ h => h) (by rfl) ?_ hS4 ?_
    rotate_left
    · (intro W hSW; go_simp; try rfl)
    try simp only [Act.put, List.setIfInBounds_toArray, List.set_cons_zero, List.set_cons_succ]
    refine held_take 11 ?_ rfl (by kernel_rfl) (by kernel_rfl) (by kernel_rfl) (fun _ _ _ h => h) (by rfl) ?_ hS4 ?_
    rotate_left
    · (intro W hSW; go_simp; try rfl)
    try simp only [Act.put, List.setIfInBounds_toArray, List.set_cons_zero, List.set_cons_succ]
    refine held_take 13 ?_ rfl (by kernel_rfl) (by kernel_rfl) (by kernel_rfl) (fun _ _ _ h => h) (by rfl) ?_ hS4 ?_
    rotate_left
    · (intro W hSW; go_simp; try rfl)
    try simp only [Act.put, List.setIfInBounds_toArray, List.set_cons_zero, List.set_cons_succ]
    refine held_two 12 14 rfl rfl (by kernel_rfl) (by rfl) (by rfl) ?_ ?_
    · skip
      
      go_simp
      refine ⟨fun W => W.cell? ⟨b, 0, none⟩ = some (.slice (some ⟨g, 0, none⟩) 1 c), fun W hW => hW, hS4, ?_⟩
      try simp only [Act.put, List.setIfInBounds_toArray, List.set_cons_zero, List.set_cons_succ]
      refine held_next 14 rfl (by kernel_rfl) (by rfl) ?_
      go_simp
      refine (low_c x _ hx).mono ?_
      rintro e wq ⟨rfl, hz⟩
      have hz := hz.symm
      subst hz
      refine ⟨fun W => W.cell? ⟨b, 0, none⟩ = some (.slice (some ⟨g, 0, none⟩) 1 c), fun W hW => hW, hS4, ?_⟩
      try simp only [Act.put, List.setIfInBounds_toArray, List.set_cons_zero, List.set_cons_succ]
      refine held_next 15 rfl (by kernel_rfl) (by rfl) ?_
      go_simp
      refine (with_zero (N := fun k => k ≠ g) (x % 65536) w3.drew T3.out (fun k hk => by have h1 : g < w3.heap.size := HG3.out; have h2 : w3.heap.size ≤ k := hk; omega) (Nat.mod_lt _ (by omega))).mono ?_
      rintro e w5 ⟨v5, rfl, cn, b5⟩
      obtain ⟨κ5, A5, n5, c5, A6, n6, c6, A7, n7, c7, rfl⟩ := cn.form
      have hS5 : w5.cell? ⟨b, 0, none⟩ = some (.slice (some ⟨g, 0, none⟩) 1 c) := (b5.cell (p := ⟨b, 0, none⟩) HBL.out).trans hS4
      refine ⟨fun W => W.cell? ⟨b, 0, none⟩ = some (.slice (some ⟨g, 0, none⟩) 1 c), fun W hW => hW, hS5, ?_⟩
      try simp only [Act.put, List.setIfInBounds_toArray, List.set_cons_zero, List.set_cons_succ]
      refine held_take 16 ?_ rfl (by kernel_rfl) (by kernel_rfl) (by kernel_rfl) (fun _ _ _ h => h) (by rfl) ?_ hS5 ?_
      rotate_left
      · (intro W hSW; go_simp; try rfl)
      try simp only [Act.put, List.setIfInBounds_toArray, List.set_cons_zero, List.set_cons_succ]
      refine held_take 17 ?_ rfl (by kernel_rfl) (by kernel_rfl) (by kernel_rfl) (fun _ _ _ h => h) (by rfl) ?_ hS5 ?_
      rotate_left
      · (intro W hSW; go_simp; try rfl)
      try simp only [Act.put, List.setIfInBounds_toArray, List.set_cons_zero, List.set_cons_succ]
      have RG5 := Lib.hid (Row.below (show Row w3.drew g 96 cur from RG.out) b5 HG3.out)
      have RB5 := Lib.hid (Row.below (show Row w3.drew b 82 #[.slice (some ⟨g, 0, none⟩) 1 c] from RB.out) b5 HBL.out)
      have k0 : w5.cell? ⟨g, 1, none⟩ = some (.int .u8 0) := (RG5.out.cell 1).trans (CUR.out 1 _ rfl)
      have k1 : w5.cell? ⟨g, 2, none⟩ = some (.slice none 0 0) := (RG5.out.cell 2).trans (CUR.out 2 _ rfl)
      have k2 : w5.cell? ⟨g, 3, none⟩ = some (.slice none 0 0) := (RG5.out.cell 3).trans (CUR.out 3 _ rfl)
      have k3 : w5.cell? ⟨g, 4, none⟩ = some (.slice none 0 0) := (RG5.out.cell 4).trans (CUR.out 4 _ rfl)
      have z0 := RG5.out.frozen 1
      have z1 := RG5.out.frozen 2
      have z2 := RG5.out.frozen 3
      have z3 := RG5.out.frozen 4
      have S4 := set4r RG5.out CSZ.out _ (.int .u8 κ5) (.slice A5 n5 c5) (.slice A6 n6 c6) (.slice A7 n7 c7) (CUR.out 0 _ rfl)
      refine held_next 18 rfl (by kernel_rfl) (by rfl) ?_
      go_simp
      have hS6 : ((((w5.setCell ⟨g, 1, none⟩ (.int .u8 κ5)).setCell ⟨g, 2, none⟩ (.slice A5 n5 c5)).setCell ⟨g, 3, none⟩ (.slice A6 n6 c6)).setCell ⟨g, 4, none⟩ (.slice A7 n7 c7)).cell? ⟨b, 0, none⟩ = some (.slice (some ⟨g, 0, none⟩) 1 c) :=
        (World.cell?_of_block (S4.2.block b (Nat.lt_of_lt_of_le HBL.out b5.size) (fun e => by injection e with e; exact HNE.out e))).trans hS5
      refine ⟨fun W => W.cell? ⟨b, 0, none⟩ = some (.slice (some ⟨g, 0, none⟩) 1 c), fun W hW => hW, hS6, ?_⟩
      refine wpAnyH_done (by kernel_rfl) ?_ _
      have FIN : Hid (St (fun _ => True) ((((w5.setCell ⟨g, 1, none⟩ (.int .u8 κ5)).setCell ⟨g, 2, none⟩ (.slice A5 n5 c5)).setCell ⟨g, 3, none⟩ (.slice A6 n6 c6)).setCell ⟨g, 4, none⟩ (.slice A7 n7 c7)) (.pointer (some ⟨b, 0, none⟩)) (pl (fun _ => false) x) ∧ Off (fun y => y = b) w ((((w5.setCell ⟨g, 1, none⟩ (.int .u8 κ5)).setCell ⟨g, 2, none⟩ (.slice A5 n5 c5)).setCell ⟨g, 3, none⟩ (.slice A6 n6 c6)).setCell ⟨g, 4, none⟩ (.slice A7 n7 c7))) := Lib.hid ⟨
        one_st (κ := 0) (n := 0) (nb := ⟨κ5, A5, n5, c5, A6, n6, c6, A7, n7, c7⟩) hx (RB5.out.grown S4.2 (fun e => by injection e with e; exact HNE.out e.symm)) (Nat.lt_of_lt_of_le (Nat.lt_of_lt_of_le HG3.out b5.size) S4.2.size) HCC.out.1 HCC.out.2
          (fun i u hu => S4.1.out i u (by rw [← hu]; show _ = [Value.int .u16 (((UInt16.ofNat (x / 65536)).toNat : Nat) : Int), .int .u8 κ5, .slice A5 n5 c5, .slice A6 n6 c6, .slice A7 n7 c7][i]?; rw [show (UInt16.ofNat (x / 65536)).toNat = x / 65536 from u16_of _ (by omega)]))
          ((cn.keep S4.2.size fun q hq hb => World.cell?_of_block (S4.2.block _ hb fun e => by injection e with e; exact hq e)).mono fun _ _ _ => trivial),
        Off.trans (show Off (fun y => y = b) w w3.drew from ⟨OFF.out.os, OFF.out.tape, OFF.out.output, OFF.out.size, OFF.out.block⟩) ((Off.of b5).trans (off_grown S4.2) (M'' := fun y => y = b ∨ y = g) (fun y hy h => absurd h id) (fun y _ h => .inr h)) (fun y _ h => h) (fun y hy h => h.elim id fun h => by have := HGW.out; omega)⟩
      clear S4 k0 k1 k2 k3 z0 z1 z2 z3 cn b5 hS5 hS6 RG5 RB5
      generalize ((((w5.setCell ⟨g, 1, none⟩ (.int .u8 κ5)).setCell ⟨g, 2, none⟩ (.slice A5 n5 c5)).setCell ⟨g, 3, none⟩ (.slice A6 n6 c6)).setCell ⟨g, 4, none⟩ (.slice A7 n7 c7)) = w6 at *
      go_wp2
      go_end0
      exact ⟨rfl, FIN.out.1, FIN.out.2⟩
    · skip
      
      go_simp
      refine (low_c x _ hx).mono ?_
      rintro e wq ⟨rfl, hz⟩
      have hz := hz.symm
      subst hz
      refine ⟨fun W => W.cell? ⟨b, 0, none⟩ = some (.slice (some ⟨g, 0, none⟩) 1 c), fun W hW => hW, hS4, ?_⟩
      try simp only [Act.put, List.setIfInBounds_toArray, List.set_cons_zero, List.set_cons_succ]
      refine held_next 12 rfl (by kernel_rfl) (by rfl) ?_
      go_simp
      refine ⟨fun W => W.cell? ⟨b, 0, none⟩ = some (.slice (some ⟨g, 0, none⟩) 1 c), fun W hW => hW, hS4, ?_⟩
      try simp only [Act.put, List.setIfInBounds_toArray, List.set_cons_zero, List.set_cons_succ]
      refine held_next 15 rfl (by kernel_rfl) (by rfl) ?_
      go_simp
      refine (with_zero (N := fun k => k ≠ g) (x % 65536) w3.drew T3.out (fun k hk => by have h1 : g < w3.heap.size := HG3.out; have h2 : w3.heap.size ≤ k := hk; omega) (Nat.mod_lt _ (by omega))).mono ?_
      rintro e w5 ⟨v5, rfl, cn, b5⟩
      obtain ⟨κ5, A5, n5, c5, A6, n6, c6, A7, n7, c7, rfl⟩ := cn.form
      have hS5 : w5.cell? ⟨b, 0, none⟩ = some (.slice (some ⟨g, 0, none⟩) 1 c) := (b5.cell (p := ⟨b, 0, none⟩) HBL.out).trans hS4
      refine ⟨fun W => W.cell? ⟨b, 0, none⟩ = some (.slice (some ⟨g, 0, none⟩) 1 c), fun W hW => hW, hS5, ?_⟩
      try simp only [Act.put, List.setIfInBounds_toArray, List.set_cons_zero, List.set_cons_succ]
      refine held_take 16 ?_ rfl (by kernel_rfl) (by kernel_rfl) (by kernel_rfl) (fun _ _ _ h => h) (by rfl) ?_ hS5 ?_
      rotate_left
      · (intro W hSW; go_simp; try rfl)
      try simp only [Act.put, List.setIfInBounds_toArray, List.set_cons_zero, List.set_cons_succ]
      refine held_take 17 ?_ rfl (by kernel_rfl) (by kernel_rfl) (by kernel_rfl) (fun _ _ _ h => h) (by rfl) ?_ hS5 ?_
      rotate_left
      · (intro W hSW; go_simp; try rfl)
      try simp only [Act.put, List.setIfInBounds_toArray, List.set_cons_zero, List.set_cons_succ]
      have RG5 := Lib.hid (Row.below (show Row w3.drew g 96 cur from RG.out) b5 HG3.out)
      have RB5 := Lib.hid (Row.below (show Row w3.drew b 82 #[.slice (some ⟨g, 0, none⟩) 1 c] from RB.out) b5 HBL.out)
      have k0 : w5.cell? ⟨g, 1, none⟩ = some (.int .u8 0) := (RG5.out.cell 1).trans (CUR.out 1 _ rfl)
      have k1 : w5.cell? ⟨g, 2, none⟩ = some (.slice none 0 0) := (RG5.out.cell 2).trans (CUR.out 2 _ rfl)
      have k2 : w5.cell? ⟨g, 3, none⟩ = some (.slice none 0 0) := (RG5.out.cell 3).trans (CUR.out 3 _ rfl)
      have k3 : w5.cell? ⟨g, 4, none⟩ = some (.slice none 0 0) := (RG5.out.cell 4).trans (CUR.out 4 _ rfl)
      have z0 := RG5.out.frozen 1
      have z1 := RG5.out.frozen 2
      have z2 := RG5.out.frozen 3
      have z3 := RG5.out.frozen 4
      have S4 := set4r RG5.out CSZ.out _ (.int .u8 κ5) (.slice A5 n5 c5) (.slice A6 n6 c6) (.slice A7 n7 c7) (CUR.out 0 _ rfl)
      refine held_next 18 rfl (by kernel_rfl) (by rfl) ?_
      go_simp
      have hS6 : ((((w5.setCell ⟨g, 1, none⟩ (.int .u8 κ5)).setCell ⟨g, 2, none⟩ (.slice A5 n5 c5)).setCell ⟨g, 3, none⟩ (.slice A6 n6 c6)).setCell ⟨g, 4, none⟩ (.slice A7 n7 c7)).cell? ⟨b, 0, none⟩ = some (.slice (some ⟨g, 0, none⟩) 1 c) :=
        (World.cell?_of_block (S4.2.block b (Nat.lt_of_lt_of_le HBL.out b5.size) (fun e => by injection e with e; exact HNE.out e))).trans hS5
      refine ⟨fun W => W.cell? ⟨b, 0, none⟩ = some (.slice (some ⟨g, 0, none⟩) 1 c), fun W hW => hW, hS6, ?_⟩
      refine wpAnyH_done (by kernel_rfl) ?_ _
      have FIN : Hid (St (fun _ => True) ((((w5.setCell ⟨g, 1, none⟩ (.int .u8 κ5)).setCell ⟨g, 2, none⟩ (.slice A5 n5 c5)).setCell ⟨g, 3, none⟩ (.slice A6 n6 c6)).setCell ⟨g, 4, none⟩ (.slice A7 n7 c7)) (.pointer (some ⟨b, 0, none⟩)) (pl (fun _ => false) x) ∧ Off (fun y => y = b) w ((((w5.setCell ⟨g, 1, none⟩ (.int .u8 κ5)).setCell ⟨g, 2, none⟩ (.slice A5 n5 c5)).setCell ⟨g, 3, none⟩ (.slice A6 n6 c6)).setCell ⟨g, 4, none⟩ (.slice A7 n7 c7))) := Lib.hid ⟨
        one_st (κ := 0) (n := 0) (nb := ⟨κ5, A5, n5, c5, A6, n6, c6, A7, n7, c7⟩) hx (RB5.out.grown S4.2 (fun e => by injection e with e; exact HNE.out e.symm)) (Nat.lt_of_lt_of_le (Nat.lt_of_lt_of_le HG3.out b5.size) S4.2.size) HCC.out.1 HCC.out.2
          (fun i u hu => S4.1.out i u (by rw [← hu]; show _ = [Value.int .u16 (((UInt16.ofNat (x / 65536)).toNat : Nat) : Int), .int .u8 κ5, .slice A5 n5 c5, .slice A6 n6 c6, .slice A7 n7 c7][i]?; rw [show (UInt16.ofNat (x / 65536)).toNat = x / 65536 from u16_of _ (by omega)]))
          ((cn.keep S4.2.size fun q hq hb => World.cell?_of_block (S4.2.block _ hb fun e => by injection e with e; exact hq e)).mono fun _ _ _ => trivial),
        Off.trans (show Off (fun y => y = b) w w3.drew from ⟨OFF.out.os, OFF.out.tape, OFF.out.output, OFF.out.size, OFF.out.block⟩) ((Off.of b5).trans (off_grown S4.2) (M'' := fun y => y = b ∨ y = g) (fun y hy h => absurd h id) (fun y _ h => .inr h)) (fun y _ h => h) (fun y hy h => h.elim id fun h => by have := HGW.out; omega)⟩
      clear S4 k0 k1 k2 k3 z0 z1 z2 z3 cn b5 hS5 hS6 RG5 RB5
      generalize ((((w5.setCell ⟨g, 1, none⟩ (.int .u8 κ5)).setCell ⟨g, 2, none⟩ (.slice A5 n5 c5)).setCell ⟨g, 3, none⟩ (.slice A6 n6 c6)).setCell ⟨g, 4, none⟩ (.slice A7 n7 c7)) = w6 at *
      go_wp2
      go_end0
      exact ⟨rfl, FIN.out.1, FIN.out.2⟩
  · skip
    go_simp
    refine (high_c x _ hx).mono ?_
    rintro e wq ⟨rfl, hz⟩
    have hz := hz.symm
    subst hz
    refine ⟨fun W => u2.heap.size ≤ W.heap.size, fun W hW => hW, (Nat.le_refl _), ?_⟩
    try simp only [Act.put, List.setIfInBounds_toArray, List.set_cons_zero, List.set_cons_succ]
    refine held_take 8 ?_ rfl (by kernel_rfl) (by kernel_rfl) (by kernel_rfl) (fun _ _ _ h => h) (by rfl) ?_ (Nat.le_refl _) ?_
    rotate_left
    · (intro W hSW; go_simp; try rfl)
    try simp only [Act.put, List.setIfInBounds_toArray, List.set_cons_zero, List.set_cons_succ]
    refine held_two 4 9 rfl rfl (by kernel_rfl) (by rfl) (by rfl) ?_ ?_
    · skip
      go_simp
      refine ⟨fun W => u2.heap.size ≤ W.heap.size, fun W hW => hW, (by simp), ?_⟩
      try simp only [Act.put, List.setIfInBounds_toArray, List.set_cons_zero, List.set_cons_succ]
      refine held_next 9 rfl (by kernel_rfl) (by rfl) ?_
      go_simp
      refine ⟨fun W => u2.heap.size ≤ W.heap.size, fun W hW => hW, (by simp), ?_⟩
      try simp only [Act.put, List.setIfInBounds_toArray, List.set_cons_zero, List.set_cons_succ]
      refine held_next 10 rfl (by kernel_rfl) (by rfl) ?_
      go_simp
      refine (insert_nil _ ⟨UInt16.ofNat (x / 65536), zB⟩ _ _ _ (GsV.one eN u2.drew _ _ ONE.out)).mono ?_
      rintro e w2 ⟨A2, c, rfl, gi, bi⟩
      have BIS : u2.heap.size ≤ w2.heap.size := Nat.le_trans (by simp) bi.size
      refine ⟨fun W => u2.heap.size ≤ W.heap.size, fun W hW => hW, BIS, ?_⟩
      try simp only [Act.put, List.setIfInBounds_toArray, List.set_cons_zero, List.set_cons_succ]
      have BI : Below u2.heap.size u2 w2 := (((Below.refl u2.heap.size u2).drew).alloc (Nat.le_refl _) _).trans (bi.mono (by simp))
      have RB2 := RB0.out.below BI RB0.out.lt
      obtain ⟨hlen, h2⟩ := id gi
      rcases h2 with ⟨e2, -⟩ | ⟨g, cap, cur, e2, hgb, hgr, hgn, hgm, hgs, hgt⟩
      · cases e2
      have e3 := e2
      injection e3 with e3 e3b e4
      clear e3b
      subst e3 e4
      have d0 : w2.cell? ⟨b, 0, none⟩ = some (.slice none 0 0) := RB2.cell 0
      have f0 := RB2.frozen 0
      have QB := Lib.hid hgb
      have QR := Lib.hid hgr
      have QN := Lib.hid hgn
      have QM := Lib.hid hgm
      have QS := Lib.hid hgs
      have QT := Lib.hid hgt
      have QI := Lib.hid BI
      clear hgb hgr hgn hgm hgs hgt e2 gi bi hlen BI
      refine held_take 11 ?_ rfl (by kernel_rfl) (by kernel_rfl) (by kernel_rfl) (fun _ _ _ h => h) (by rfl) ?_ BIS ?_
      rotate_left
      · (intro W hSW; go_simp; try rfl)
      try simp only [Act.put, List.setIfInBounds_toArray, List.set_cons_zero, List.set_cons_succ]
      refine held_take 12 ?_ rfl (by kernel_rfl) (by kernel_rfl) (by kernel_rfl) (fun _ _ _ h => h) (by rfl) ?_ BIS ?_
      rotate_left
      · (intro W hSW; go_simp; try rfl)
      try simp only [Act.put, List.setIfInBounds_toArray, List.set_cons_zero, List.set_cons_succ]
      refine held_next 13 rfl (by kernel_rfl) (by rfl) ?_
      
      go_simp
      have G3 := grown_set w2 b 0 (.slice (some ⟨g, 0, none⟩) 1 c)
      have RB3 := RB2.one_set (.slice (some ⟨g, 0, none⟩) 1 c)
      have hgb := QB.out
      have hgr := QR.out
      have hgn := QN.out
      have hgm := QM.out
      have hgs := QS.out
      have hgt := QT.out
      have BI := QI.out
      have hgu : u2.heap.size ≤ g := by simp at hgb; omega
      have hne : b ≠ g := by have := RB0.out.lt; omega
      have RG3 : Row (w2.setCell ⟨b, 0, none⟩ (.slice (some ⟨g, 0, none⟩) 1 c)) g 96 cur := Row.grown (show Row w2 g 96 cur from hgr) G3 (fun e => by injection e with e; exact hne e)
      have OF3 : Off (fun y => y = b) w (w2.setCell ⟨b, 0, none⟩ (.slice (some ⟨g, 0, none⟩) 1 c)) := (Off.of (below_both BU.out BI)).trans (off_grown G3) (fun y _ h => absurd h id) (fun y _ h => h)
      have HNE := Lib.hid hne
      have HGW : Hid (w.heap.size ≤ g) := Lib.hid (Nat.le_trans BU.out.size hgu)
      have CSZ : Hid (5 ≤ cur.size) := Lib.hid (by rw [hgs]; have h1 : 1 ≤ c := hgn; show 5 ≤ c * 5; omega)
      have CUR : Hid (∀ i u, [Value.int .u16 ((x / 65536 : Nat) : Int), .int .u8 0, .slice none 0 0, .slice none 0 0, .slice none 0 0][i]? = some u → cur[i]? = some u) := Lib.hid (fun i u hu => by
        have hi : i < 5 := by have := (List.getElem?_eq_some_iff.1 hu).1; simpa using this
        have h4 : (cur.toList.take ([(⟨UInt16.ofNat (x / 65536), zB⟩ : En)].length * eN.n))[i]? = some u := by
          rw [hgt, ← hu]
          show (eN.row [⟨UInt16.ofNat (x / 65536), zB⟩])[i]? = _
          rw [show eN.row [⟨UInt16.ofNat (x / 65536), zB⟩] = eN.cs ⟨UInt16.ofNat (x / 65536), zB⟩ from by simp [ElemV.row]]
          show [Value.int .u16 (((UInt16.ofNat (x / 65536)).toNat : Nat) : Int), .int .u8 0, .slice none 0 0, .slice none 0 0, .slice none 0 0][i]? = _
          rw [show (UInt16.ofNat (x / 65536)).toNat = x / 65536 from u16_of _ (by omega)]
        change (cur.toList.take (1 * 5))[i]? = some u at h4
        rw [List.getElem?_take_of_lt (by omega)] at h4
        simpa using h4)
      have HCC : Hid (1 ≤ c ∧ c ≤ maxLen) := Lib.hid ⟨hgn, hgm⟩
      clear hgb hgr hgn hgm hgs hgt RB2 d0 f0 QB QR QN QM QS QT QI
      refine ⟨fun W => u2.heap.size ≤ W.heap.size, fun W hW => hW, (Nat.le_trans BIS G3.size), ?_⟩
      generalize w2.setCell ⟨b, 0, none⟩ (.slice (some ⟨g, 0, none⟩) 1 c) = w3 at *
      have RG := Lib.hid RG3
      have RB := Lib.hid RB3
      have OFF := Lib.hid OF3
      have HG3 := Lib.hid RG3.lt
      have HBL := Lib.hid RB3.lt
      have T3 := Lib.hid (HTO.out w3 OF3)
      clear RG3 RB3 OF3 G3 BI
      refine wpAnyH_done (by kernel_rfl) ?_ _
      have hS4 : w3.cell? ⟨b, 0, none⟩ = some (.slice (some ⟨g, 0, none⟩) 1 c) := RB.out.cell 0
      have k0 : w3.cell? ⟨g, 1, none⟩ = some (.int .u8 0) := (RG.out.cell 1).trans (CUR.out 1 _ rfl)
      have k1 : w3.cell? ⟨g, 2, none⟩ = some (.slice none 0 0) := (RG.out.cell 2).trans (CUR.out 2 _ rfl)
      have k2 : w3.cell? ⟨g, 3, none⟩ = some (.slice none 0 0) := (RG.out.cell 3).trans (CUR.out 3 _ rfl)
      have k3 : w3.cell? ⟨g, 4, none⟩ = some (.slice none 0 0) := (RG.out.cell 4).trans (CUR.out 4 _ rfl)
      go_wp2_with fail
      refine wp_region_held_drew (S := fun W => W.cell? ⟨b, 0, none⟩ = some (.slice (some ⟨g, 0, none⟩) 1 c)) (by kernel_rfl) hS4 (fun _ => ?_)
      refine held_take 0 ?_ rfl (by kernel_rfl) (by kernel_rfl) (by kernel_rfl) (fun _ _ _ h => h) (by rfl) ?_ hS4 ?_
      rotate_left
      · (intro W hSW; go_simp; try rfl)
      try simp only [Act.put, List.setIfInBounds_toArray, List.set_cons_zero, List.set_cons_succ]
      refine held_take 1 ?_ rfl (by kernel_rfl) (by kernel_rfl) (by kernel_rfl) (fun _ _ _ h => h) (by rfl) ?_ hS4 ?_
      rotate_left
      · (intro W hSW; go_simp; try rfl)
      try simp only [Act.put, List.setIfInBounds_toArray, List.set_cons_zero, List.set_cons_succ]
      refine held_take 2 ?_ rfl (by kernel_rfl) (by kernel_rfl) (by kernel_rfl) (fun _ _ _ h => h) (by rfl) ?_ hS4 ?_
      rotate_left
      · (intro W hSW; go_simp; try rfl)
      try simp only [Act.put, List.setIfInBounds_toArray, List.set_cons_zero, List.set_cons_succ]
      refine held_take 3 ?_ rfl (by kernel_rfl) (by kernel_rfl) (by kernel_rfl) (fun _ _ _ h => h) (by rfl) ?_ hS4 ?_
      rotate_left
      · (intro W hSW; have hc := hSW; go_simp; try rfl)
      try simp only [Act.put, List.setIfInBounds_toArray, List.set_cons_zero, List.set_cons_succ]
      refine held_take 4 ?_ rfl (by kernel_rfl) (by kernel_rfl) (by kernel_rfl) (fun _ _ _ h => h) (by rfl) ?_ hS4 ?_
      rotate_left
      · (intro W hSW; go_simp; try rfl)
      try simp only [Act.put, List.setIfInBounds_toArray, List.set_cons_zero, List.set_cons_succ]
      refine held_take 5 ?_ rfl (by kernel_rfl) (by kernel_rfl) (by kernel_rfl) (fun _ _ _ h => h) (by rfl) ?_ hS4 ?_
      rotate_left
      · (intro W hSW; go_simp; try rfl)
      try simp only [Act.put, List.setIfInBounds_toArray, List.set_cons_zero, List.set_cons_succ]
      refine held_take 6 ?_ rfl (by kernel_rfl) (by kernel_rfl) (by kernel_rfl) (fun _ _ _ h => h) (by rfl) ?_ hS4 ?_
      rotate_left
      · (intro W hSW; go_simp; try rfl)
      try simp only [Act.put, List.setIfInBounds_toArray, List.set_cons_zero, List.set_cons_succ]
      refine held_take 7 ?_ rfl (by kernel_rfl) (by kernel_rfl) (by kernel_rfl) (fun _ _ _ h => h) (by rfl) ?_ hS4 ?_
      rotate_left
      · (intro W hSW; go_simp; try rfl)
      try simp only [Act.put, List.setIfInBounds_toArray, List.set_cons_zero, List.set_cons_succ]
      refine held_take 8 ?_ rfl (by kernel_rfl) (by kernel_rfl) (by kernel_rfl) (fun _ _ _ h => h) (by rfl) ?_ hS4 ?_
      rotate_left
      · (intro W hSW; have hc := hSW; go_simp; try rfl)
      try simp only [Act.put, List.setIfInBounds_toArray, List.set_cons_zero, List.set_cons_succ]
      refine held_take 9 ?_ rfl (by kernel_rfl) (by kernel_rfl) (by kernel_rfl) (fun _ _ _ h => h) (by rfl) ?_ hS4 ?_
      rotate_left
      · (intro W hSW; go_simp; try rfl)
      try simp only [Act.put, List.setIfInBounds_toArray, List.set_cons_zero, List.set_cons_succ]
      refine held_take 10 ?_ rfl (by kernel_rfl) (by kernel_rfl) (by kernel_rfl) (fun _ _ _ h => h) (by rfl) ?_ hS4 ?_
      rotate_left
      · (intro W hSW; go_simp; try rfl)
      try simp only [Act.put, List.setIfInBounds_toArray, List.set_cons_zero, List.set_cons_succ]
      refine held_take 11 ?_ rfl (by kernel_rfl) (by kernel_rfl) (by kernel_rfl) (fun _ _ _ h => h) (by rfl) ?_ hS4 ?_
      rotate_left
      · (intro W hSW; go_simp; try rfl)
      try simp only [Act.put, List.setIfInBounds_toArray, List.set_cons_zero, List.set_cons_succ]
      refine held_take 13 ?_ rfl (by kernel_rfl) (by kernel_rfl) (by kernel_rfl) (fun _ _ _ h => h) (by rfl) ?_ hS4 ?_
      rotate_left
      · (intro W hSW; go_simp; try rfl)
      try simp only [Act.put, List.setIfInBounds_toArray, List.set_cons_zero, List.set_cons_succ]
      refine held_two 12 14 rfl rfl (by kernel_rfl) (by rfl) (by rfl) ?_ ?_
      · skip
        
        go_simp
        refine ⟨fun W => W.cell? ⟨b, 0, none⟩ = some (.slice (some ⟨g, 0, none⟩) 1 c), fun W hW => hW, hS4, ?_⟩
        try simp only [Act.put, List.setIfInBounds_toArray, List.set_cons_zero, List.set_cons_succ]
        refine held_next 14 rfl (by kernel_rfl) (by rfl) ?_
        go_simp
        refine (low_c x _ hx).mono ?_
        rintro e wq ⟨rfl, hz⟩
        have hz := hz.symm
        subst hz
        refine ⟨fun W => W.cell? ⟨b, 0, none⟩ = some (.slice (some ⟨g, 0, none⟩) 1 c), fun W hW => hW, hS4, ?_⟩
        try simp only [Act.put, List.setIfInBounds_toArray, List.set_cons_zero, List.set_cons_succ]
        refine held_next 15 rfl (by kernel_rfl) (by rfl) ?_
        go_simp
        refine (with_zero (N := fun k => k ≠ g) (x % 65536) w3.drew T3.out (fun k hk => by have h1 : g < w3.heap.size := HG3.out; have h2 : w3.heap.size ≤ k := hk; omega) (Nat.mod_lt _ (by omega))).mono ?_
        rintro e w5 ⟨v5, rfl, cn, b5⟩
        obtain ⟨κ5, A5, n5, c5, A6, n6, c6, A7, n7, c7, rfl⟩ := cn.form
        have hS5 : w5.cell? ⟨b, 0, none⟩ = some (.slice (some ⟨g, 0, none⟩) 1 c) := (b5.cell (p := ⟨b, 0, none⟩) HBL.out).trans hS4
        refine ⟨fun W => W.cell? ⟨b, 0, none⟩ = some (.slice (some ⟨g, 0, none⟩) 1 c), fun W hW => hW, hS5, ?_⟩
        try simp only [Act.put, List.setIfInBounds_toArray, List.set_cons_zero, List.set_cons_succ]
        refine held_take 16 ?_ rfl (by kernel_rfl) (by kernel_rfl) (by kernel_rfl) (fun _ _ _ h => h) (by rfl) ?_ hS5 ?_
        rotate_left
        · (intro W hSW; go_simp; try rfl)
        try simp only [Act.put, List.setIfInBounds_toArray, List.set_cons_zero, List.set_cons_succ]
        refine held_take 17 ?_ rfl (by kernel_rfl) (by kernel_rfl) (by kernel_rfl) (fun _ _ _ h => h) (by rfl) ?_ hS5 ?_
        rotate_left
        · (intro W hSW; go_simp; try rfl)
        try simp only [Act.put, List.setIfInBounds_toArray, List.set_cons_zero, List.set_cons_succ]
        have RG5 := Lib.hid (Row.below (show Row w3.drew g 96 cur from RG.out) b5 HG3.out)
        have RB5 := Lib.hid (Row.below (show Row w3.drew b 82 #[.slice (some ⟨g, 0, none⟩) 1 c] from RB.out) b5 HBL.out)
        have k0 : w5.cell? ⟨g, 1, none⟩ = some (.int .u8 0) := (RG5.out.cell 1).trans (CUR.out 1 _ rfl)
        have k1 : w5.cell? ⟨g, 2, none⟩ = some (.slice none 0 0) := (RG5.out.cell 2).trans (CUR.out 2 _ rfl)
        have k2 : w5.cell? ⟨g, 3, none⟩ = some (.slice none 0 0) := (RG5.out.cell 3).trans (CUR.out 3 _ rfl)
        have k3 : w5.cell? ⟨g, 4, none⟩ = some (.slice none 0 0) := (RG5.out.cell 4).trans (CUR.out 4 _ rfl)
        have z0 := RG5.out.frozen 1
        have z1 := RG5.out.frozen 2
        have z2 := RG5.out.frozen 3
        have z3 := RG5.out.frozen 4
        have S4 := set4r RG5.out CSZ.out _ (.int .u8 κ5) (.slice A5 n5 c5) (.slice A6 n6 c6) (.slice A7 n7 c7) (CUR.out 0 _ rfl)
        refine held_next 18 rfl (by kernel_rfl) (by rfl) ?_
        go_simp
        have hS6 : ((((w5.setCell ⟨g, 1, none⟩ (.int .u8 κ5)).setCell ⟨g, 2, none⟩ (.slice A5 n5 c5)).setCell ⟨g, 3, none⟩ (.slice A6 n6 c6)).setCell ⟨g, 4, none⟩ (.slice A7 n7 c7)).cell? ⟨b, 0, none⟩ = some (.slice (some ⟨g, 0, none⟩) 1 c) :=
          (World.cell?_of_block (S4.2.block b (Nat.lt_of_lt_of_le HBL.out b5.size) (fun e => by injection e with e; exact HNE.out e))).trans hS5
        refine ⟨fun W => W.cell? ⟨b, 0, none⟩ = some (.slice (some ⟨g, 0, none⟩) 1 c), fun W hW => hW, hS6, ?_⟩
        refine wpAnyH_done (by kernel_rfl) ?_ _
        have FIN : Hid (St (fun _ => True) ((((w5.setCell ⟨g, 1, none⟩ (.int .u8 κ5)).setCell ⟨g, 2, none⟩ (.slice A5 n5 c5)).setCell ⟨g, 3, none⟩ (.slice A6 n6 c6)).setCell ⟨g, 4, none⟩ (.slice A7 n7 c7)) (.pointer (some ⟨b, 0, none⟩)) (pl (fun _ => false) x) ∧ Off (fun y => y = b) w ((((w5.setCell ⟨g, 1, none⟩ (.int .u8 κ5)).setCell ⟨g, 2, none⟩ (.slice A5 n5 c5)).setCell ⟨g, 3, none⟩ (.slice A6 n6 c6)).setCell ⟨g, 4, none⟩ (.slice A7 n7 c7))) := Lib.hid ⟨
          one_st (κ := 0) (n := 0) (nb := ⟨κ5, A5, n5, c5, A6, n6, c6, A7, n7, c7⟩) hx (RB5.out.grown S4.2 (fun e => by injection e with e; exact HNE.out e.symm)) (Nat.lt_of_lt_of_le (Nat.lt_of_lt_of_le HG3.out b5.size) S4.2.size) HCC.out.1 HCC.out.2
            (fun i u hu => S4.1.out i u (by rw [← hu]; show _ = [Value.int .u16 (((UInt16.ofNat (x / 65536)).toNat : Nat) : Int), .int .u8 κ5, .slice A5 n5 c5, .slice A6 n6 c6, .slice A7 n7 c7][i]?; rw [show (UInt16.ofNat (x / 65536)).toNat = x / 65536 from u16_of _ (by omega)]))
            ((cn.keep S4.2.size fun q hq hb => World.cell?_of_block (S4.2.block _ hb fun e => by injection e with e; exact hq e)).mono fun _ _ _ => trivial),
          Off.trans (show Off (fun y => y = b) w w3.drew from ⟨OFF.out.os, OFF.out.tape, OFF.out.output, OFF.out.size, OFF.out.block⟩) ((Off.of b5).trans (off_grown S4.2) (M'' := fun y => y = b ∨ y = g) (fun y hy h => absurd h id) (fun y _ h => .inr h)) (fun y _ h => h) (fun y hy h => h.elim id fun h => by have := HGW.out; omega)⟩
        clear S4 k0 k1 k2 k3 z0 z1 z2 z3 cn b5 hS5 hS6 RG5 RB5
        generalize ((((w5.setCell ⟨g, 1, none⟩ (.int .u8 κ5)).setCell ⟨g, 2, none⟩ (.slice A5 n5 c5)).setCell ⟨g, 3, none⟩ (.slice A6 n6 c6)).setCell ⟨g, 4, none⟩ (.slice A7 n7 c7)) = w6 at *
        go_wp2
        go_end0
        exact ⟨rfl, FIN.out.1, FIN.out.2⟩
      · skip
        
        go_simp
        refine (low_c x _ hx).mono ?_
        rintro e wq ⟨rfl, hz⟩
        have hz := hz.symm
        subst hz
        refine ⟨fun W => W.cell? ⟨b, 0, none⟩ = some (.slice (some ⟨g, 0, none⟩) 1 c), fun W hW => hW, hS4, ?_⟩
        try simp only [Act.put, List.setIfInBounds_toArray, List.set_cons_zero, List.set_cons_succ]
        refine held_next 12 rfl (by kernel_rfl) (by rfl) ?_
        go_simp
        refine ⟨fun W => W.cell? ⟨b, 0, none⟩ = some (.slice (some ⟨g, 0, none⟩) 1 c), fun W hW => hW, hS4, ?_⟩
        try simp only [Act.put, List.setIfInBounds_toArray, List.set_cons_zero, List.set_cons_succ]
        refine held_next 15 rfl (by kernel_rfl) (by rfl) ?_
        go_simp
        refine (with_zero (N := fun k => k ≠ g) (x % 65536) w3.drew T3.out (fun k hk => by have h1 : g < w3.heap.size := HG3.out; have h2 : w3.heap.size ≤ k := hk; omega) (Nat.mod_lt _ (by omega))).mono ?_
        rintro e w5 ⟨v5, rfl, cn, b5⟩
        obtain ⟨κ5, A5, n5, c5, A6, n6, c6, A7, n7, c7, rfl⟩ := cn.form
        have hS5 : w5.cell? ⟨b, 0, none⟩ = some (.slice (some ⟨g, 0, none⟩) 1 c) := (b5.cell (p := ⟨b, 0, none⟩) HBL.out).trans hS4
        refine ⟨fun W => W.cell? ⟨b, 0, none⟩ = some (.slice (some ⟨g, 0, none⟩) 1 c), fun W hW => hW, hS5, ?_⟩
        try simp only [Act.put, List.setIfInBounds_toArray, List.set_cons_zero, List.set_cons_succ]
        refine held_take 16 ?_ rfl (by kernel_rfl) (by kernel_rfl) (by kernel_rfl) (fun _ _ _ h => h) (by rfl) ?_ hS5 ?_
        rotate_left
        · (intro W hSW; go_simp; try rfl)
        try simp only [Act.put, List.setIfInBounds_toArray, List.set_cons_zero, List.set_cons_succ]
        refine held_take 17 ?_ rfl (by kernel_rfl) (by kernel_rfl) (by kernel_rfl) (fun _ _ _ h => h) (by rfl) ?_ hS5 ?_
        rotate_left
        · (intro W hSW; go_simp; try rfl)
        try simp only [Act.put, List.setIfInBounds_toArray, List.set_cons_zero, List.set_cons_succ]
        have RG5 := Lib.hid (Row.below (show Row w3.drew g 96 cur from RG.out) b5 HG3.out)
        have RB5 := Lib.hid (Row.below (show Row w3.drew b 82 #[.slice (some ⟨g, 0, none⟩) 1 c] from RB.out) b5 HBL.out)
        have k0 : w5.cell? ⟨g, 1, none⟩ = some (.int .u8 0) := (RG5.out.cell 1).trans (CUR.out 1 _ rfl)
        have k1 : w5.cell? ⟨g, 2, none⟩ = some (.slice none 0 0) := (RG5.out.cell 2).trans (CUR.out 2 _ rfl)
        have k2 : w5.cell? ⟨g, 3, none⟩ = some (.slice none 0 0) := (RG5.out.cell 3).trans (CUR.out 3 _ rfl)
        have k3 : w5.cell? ⟨g, 4, none⟩ = some (.slice none 0 0) := (RG5.out.cell 4).trans (CUR.out 4 _ rfl)
        have z0 := RG5.out.frozen 1
        have z1 := RG5.out.frozen 2
        have z2 := RG5.out.frozen 3
        have z3 := RG5.out.frozen 4
        have S4 := set4r RG5.out CSZ.out _ (.int .u8 κ5) (.slice A5 n5 c5) (.slice A6 n6 c6) (.slice A7 n7 c7) (CUR.out 0 _ rfl)
        refine held_next 18 rfl (by kernel_rfl) (by rfl) ?_
        go_simp
        have hS6 : ((((w5.setCell ⟨g, 1, none⟩ (.int .u8 κ5)).setCell ⟨g, 2, none⟩ (.slice A5 n5 c5)).setCell ⟨g, 3, none⟩ (.slice A6 n6 c6)).setCell ⟨g, 4, none⟩ (.slice A7 n7 c7)).cell? ⟨b, 0, none⟩ = some (.slice (some ⟨g, 0, none⟩) 1 c) :=
          (World.cell?_of_block (S4.2.block b (Nat.lt_of_lt_of_le HBL.out b5.size) (fun e => by injection e with e; exact HNE.out e))).trans hS5
        refine ⟨fun W => W.cell? ⟨b, 0, none⟩ = some (.slice (some ⟨g, 0, none⟩) 1 c), fun W hW => hW, hS6, ?_⟩
        refine wpAnyH_done (by kernel_rfl) ?_ _
        have FIN : Hid (St (fun _ => True) ((((w5.setCell ⟨g, 1, none⟩ (.int .u8 κ5)).setCell ⟨g, 2, none⟩ (.slice A5 n5 c5)).setCell ⟨g, 3, none⟩ (.slice A6 n6 c6)).setCell ⟨g, 4, none⟩ (.slice A7 n7 c7)) (.pointer (some ⟨b, 0, none⟩)) (pl (fun _ => false) x) ∧ Off (fun y => y = b) w ((((w5.setCell ⟨g, 1, none⟩ (.int .u8 κ5)).setCell ⟨g, 2, none⟩ (.slice A5 n5 c5)).setCell ⟨g, 3, none⟩ (.slice A6 n6 c6)).setCell ⟨g, 4, none⟩ (.slice A7 n7 c7))) := Lib.hid ⟨
          one_st (κ := 0) (n := 0) (nb := ⟨κ5, A5, n5, c5, A6, n6, c6, A7, n7, c7⟩) hx (RB5.out.grown S4.2 (fun e => by injection e with e; exact HNE.out e.symm)) (Nat.lt_of_lt_of_le (Nat.lt_of_lt_of_le HG3.out b5.size) S4.2.size) HCC.out.1 HCC.out.2
            (fun i u hu => S4.1.out i u (by rw [← hu]; show _ = [Value.int .u16 (((UInt16.ofNat (x / 65536)).toNat : Nat) : Int), .int .u8 κ5, .slice A5 n5 c5, .slice A6 n6 c6, .slice A7 n7 c7][i]?; rw [show (UInt16.ofNat (x / 65536)).toNat = x / 65536 from u16_of _ (by omega)]))
            ((cn.keep S4.2.size fun q hq hb => World.cell?_of_block (S4.2.block _ hb fun e => by injection e with e; exact hq e)).mono fun _ _ _ => trivial),
          Off.trans (show Off (fun y => y = b) w w3.drew from ⟨OFF.out.os, OFF.out.tape, OFF.out.output, OFF.out.size, OFF.out.block⟩) ((Off.of b5).trans (off_grown S4.2) (M'' := fun y => y = b ∨ y = g) (fun y hy h => absurd h id) (fun y _ h => .inr h)) (fun y _ h => h) (fun y hy h => h.elim id fun h => by have := HGW.out; omega)⟩
        clear S4 k0 k1 k2 k3 z0 z1 z2 z3 cn b5 hS5 hS6 RG5 RB5
        generalize ((((w5.setCell ⟨g, 1, none⟩ (.int .u8 κ5)).setCell ⟨g, 2, none⟩ (.slice A5 n5 c5)).setCell ⟨g, 3, none⟩ (.slice A6 n6 c6)).setCell ⟨g, 4, none⟩ (.slice A7 n7 c7)) = w6 at *
        go_wp2
        go_end0
        exact ⟨rfl, FIN.out.1, FIN.out.2⟩
    · skip
      go_simp
      refine ⟨fun W => u2.heap.size ≤ W.heap.size, fun W hW => hW, (by simp), ?_⟩
      try simp only [Act.put, List.setIfInBounds_toArray, List.set_cons_zero, List.set_cons_succ]
      have c9 : (u2.alloc (.cells #[.int .u16 ((x : Int) / 65536), .int .u8 0, .slice none 0 0, .slice none 0 0, .slice none 0 0] 96)).cell? ⟨b, 0, none⟩ = some (.slice none 0 0) := (World.cell?_alloc_lt u2 _ ⟨b, 0, none⟩ RB0.out.lt).trans c0
      refine held_next 4 rfl (by kernel_rfl) (by rfl) ?_
      go_simp
      refine ⟨fun W => u2.heap.size ≤ W.heap.size, fun W hW => hW, (by simp), ?_⟩
      try simp only [Act.put, List.setIfInBounds_toArray, List.set_cons_zero, List.set_cons_succ]
      clear c9
      refine held_next 10 rfl (by kernel_rfl) (by rfl) ?_
      go_simp
      refine (insert_nil _ ⟨UInt16.ofNat (x / 65536), zB⟩ _ _ _ (GsV.one eN u2.drew _ _ ONE.out)).mono ?_
      rintro e w2 ⟨A2, c, rfl, gi, bi⟩
      have BIS : u2.heap.size ≤ w2.heap.size := Nat.le_trans (by simp) bi.size
      refine ⟨fun W => u2.heap.size ≤ W.heap.size, fun W hW => hW, BIS, ?_⟩
      try simp only [Act.put, List.setIfInBounds_toArray, List.set_cons_zero, List.set_cons_succ]
      have BI : Below u2.heap.size u2 w2 := (((Below.refl u2.heap.size u2).drew).alloc (Nat.le_refl _) _).trans (bi.mono (by simp))
      have RB2 := RB0.out.below BI RB0.out.lt
      obtain ⟨hlen, h2⟩ := id gi
      rcases h2 with ⟨e2, -⟩ | ⟨g, cap, cur, e2, hgb, hgr, hgn, hgm, hgs, hgt⟩
      · cases e2
      have e3 := e2
      injection e3 with e3 e3b e4
      clear e3b
      subst e3 e4
      have d0 : w2.cell? ⟨b, 0, none⟩ = some (.slice none 0 0) := RB2.cell 0
      have f0 := RB2.frozen 0
      have QB := Lib.hid hgb
      have QR := Lib.hid hgr
      have QN := Lib.hid hgn
      have QM := Lib.hid hgm
      have QS := Lib.hid hgs
      have QT := Lib.hid hgt
      have QI := Lib.hid BI
      clear hgb hgr hgn hgm hgs hgt e2 gi bi hlen BI
      refine held_take 11 ?_ rfl (by kernel_rfl) (by kernel_rfl) (by kernel_rfl) (fun _ _ _ h => h) (by rfl) ?_ BIS ?_
      rotate_left
      · (intro W hSW; go_simp; try rfl)
      try simp only [Act.put, List.setIfInBounds_toArray, List.set_cons_zero, List.set_cons_succ]
      refine held_take 12 ?_ rfl (by kernel_rfl) (by kernel_rfl) (by kernel_rfl) (fun _ _ _ h => h) (by rfl) ?_ BIS ?_
      rotate_left
      · (intro W hSW; go_simp; try rfl)
      try simp only [Act.put, List.setIfInBounds_toArray, List.set_cons_zero, List.set_cons_succ]
      refine held_next 13 rfl (by kernel_rfl) (by rfl) ?_
      
      go_simp
      have G3 := grown_set w2 b 0 (.slice (some ⟨g, 0, none⟩) 1 c)
      have RB3 := RB2.one_set (.slice (some ⟨g, 0, none⟩) 1 c)
      have hgb := QB.out
      have hgr := QR.out
      have hgn := QN.out
      have hgm := QM.out
      have hgs := QS.out
      have hgt := QT.out
      have BI := QI.out
      have hgu : u2.heap.size ≤ g := by simp at hgb; omega
      have hne : b ≠ g := by have := RB0.out.lt; omega
      have RG3 : Row (w2.setCell ⟨b, 0, none⟩ (.slice (some ⟨g, 0, none⟩) 1 c)) g 96 cur := Row.grown (show Row w2 g 96 cur from hgr) G3 (fun e => by injection e with e; exact hne e)
      have OF3 : Off (fun y => y = b) w (w2.setCell ⟨b, 0, none⟩ (.slice (some ⟨g, 0, none⟩) 1 c)) := (Off.of (below_both BU.out BI)).trans (off_grown G3) (fun y _ h => absurd h id) (fun y _ h => h)
      have HNE := Lib.hid hne
      have HGW : Hid (w.heap.size ≤ g) := Lib.hid (Nat.le_trans BU.out.size hgu)
      have CSZ : Hid (5 ≤ cur.size) := Lib.hid (by rw [hgs]; have h1 : 1 ≤ c := hgn; show 5 ≤ c * 5; omega)
      have CUR : Hid (∀ i u, [Value.int .u16 ((x / 65536 : Nat) : Int), .int .u8 0, .slice none 0 0, .slice none 0 0, .slice none 0 0][i]? = some u → cur[i]? = some u) := Lib.hid (fun i u hu => by
        have hi : i < 5 := by have := (List.getElem?_eq_some_iff.1 hu).1; simpa using this
        have h4 : (cur.toList.take ([(⟨UInt16.ofNat (x / 65536), zB⟩ : En)].length * eN.n))[i]? = some u := by
          rw [hgt, ← hu]
          show (eN.row [⟨UInt16.ofNat (x / 65536), zB⟩])[i]? = _
          rw [show eN.row [⟨UInt16.ofNat (x / 65536), zB⟩] = eN.cs ⟨UInt16.ofNat (x / 65536), zB⟩ from by simp [ElemV.row]]
          show [Value.int .u16 (((UInt16.ofNat (x / 65536)).toNat : Nat) : Int), .int .u8 0, .slice none 0 0, .slice none 0 0, .slice none 0 0][i]? = _
          rw [show (UInt16.ofNat (x / 65536)).toNat = x / 65536 from u16_of _ (by omega)]
        change (cur.toList.take (1 * 5))[i]? = some u at h4
        rw [List.getElem?_take_of_lt (by omega)] at h4
        simpa using h4)
      have HCC : Hid (1 ≤ c ∧ c ≤ maxLen) := Lib.hid ⟨hgn, hgm⟩
      clear hgb hgr hgn hgm hgs hgt RB2 d0 f0 QB QR QN QM QS QT QI
      refine ⟨fun W => u2.heap.size ≤ W.heap.size, fun W hW => hW, (Nat.le_trans BIS G3.size), ?_⟩
      generalize w2.setCell ⟨b, 0, none⟩ (.slice (some ⟨g, 0, none⟩) 1 c) = w3 at *
      have RG := Lib.hid RG3
      have RB := Lib.hid RB3
      have OFF := Lib.hid OF3
      have HG3 := Lib.hid RG3.lt
      have HBL := Lib.hid RB3.lt
      have T3 := Lib.hid (HTO.out w3 OF3)
      clear RG3 RB3 OF3 G3 BI
      refine wpAnyH_done (by kernel_rfl) ?_ _
      have hS4 : w3.cell? ⟨b, 0, none⟩ = some (.slice (some ⟨g, 0, none⟩) 1 c) := RB.out.cell 0
      have k0 : w3.cell? ⟨g, 1, none⟩ = some (.int .u8 0) := (RG.out.cell 1).trans (CUR.out 1 _ rfl)
      have k1 : w3.cell? ⟨g, 2, none⟩ = some (.slice none 0 0) := (RG.out.cell 2).trans (CUR.out 2 _ rfl)
      have k2 : w3.cell? ⟨g, 3, none⟩ = some (.slice none 0 0) := (RG.out.cell 3).trans (CUR.out 3 _ rfl)
      have k3 : w3.cell? ⟨g, 4, none⟩ = some (.slice none 0 0) := (RG.out.cell 4).trans (CUR.out 4 _ rfl)
      go_wp2_with fail
      refine wp_region_held_drew (S := fun W => W.cell? ⟨b, 0, none⟩ = some (.slice (some ⟨g, 0, none⟩) 1 c)) (by kernel_rfl) hS4 (fun _ => ?_)
      refine held_take 0 ?_ rfl (by kernel_rfl) (by kernel_rfl) (by kernel_rfl) (fun _ _ _ h => h) (by rfl) ?_ hS4 ?_
      rotate_left
      · (intro W hSW; go_simp; try rfl)
      try simp only [Act.put, List.setIfInBounds_toArray, List.set_cons_zero, List.set_cons_succ]
      refine held_take 1 ?_ rfl (by kernel_rfl) (by kernel_rfl) (by kernel_rfl) (fun _ _ _ h => h) (by rfl) ?_ hS4 ?_
      rotate_left
      · (intro W hSW; go_simp; try rfl)
      try simp only [Act.put, List.setIfInBounds_toArray, List.set_cons_zero, List.set_cons_succ]
      refine held_take 2 ?_ rfl (by kernel_rfl) (by kernel_rfl) (by kernel_rfl) (fun _ _ _ h => h) (by rfl) ?_ hS4 ?_
      rotate_left
      · (intro W hSW; go_simp; try rfl)
      try simp only [Act.put, List.setIfInBounds_toArray, List.set_cons_zero, List.set_cons_succ]
      refine held_take 3 ?_ rfl (by kernel_rfl) (by kernel_rfl) (by kernel_rfl) (fun _ _ _ h => h) (by rfl) ?_ hS4 ?_
      rotate_left
      · (intro W hSW; have hc := hSW; go_simp; try rfl)
      try simp only [Act.put, List.setIfInBounds_toArray, List.set_cons_zero, List.set_cons_succ]
      refine held_take 4 ?_ rfl (by kernel_rfl) (by kernel_rfl) (by kernel_rfl) (fun _ _ _ h => h) (by rfl) ?_ hS4 ?_
      rotate_left
      · (intro W hSW; go_simp; try rfl)
      try simp only [Act.put, List.setIfInBounds_toArray, List.set_cons_zero, List.set_cons_succ]
      refine held_take 5 ?_ rfl (by kernel_rfl) (by kernel_rfl) (by kernel_rfl) (fun _ _ _ h => h) (by rfl) ?_ hS4 ?_
      rotate_left
      · (intro W hSW; go_simp; try rfl)
      try simp only [Act.put, List.setIfInBounds_toArray, List.set_cons_zero, List.set_cons_succ]
      refine held_take 6 ?_ rfl (by kernel_rfl) (by kernel_rfl) (by kernel_rfl) (fun _ _ _ h => h) (by rfl) ?_ hS4 ?_
      rotate_left
      · (intro W hSW; go_simp; try rfl)
      try simp only [Act.put, List.setIfInBounds_toArray, List.set_cons_zero, List.set_cons_succ]
      refine held_take 7 ?_ rfl (by kernel_rfl) (by kernel_rfl) (by kernel_rfl) (fun _ _ _ h => h) (by rfl) ?_ hS4 ?_
      rotate_left
      · (intro W hSW; go_simp; try rfl)
      try simp only [Act.put, List.setIfInBounds_toArray, List.set_cons_zero, List.set_cons_succ]
      refine held_take 8 ?_ rfl (by kernel_rfl) (by kernel_rfl) (by kernel_rfl) (fun _ _ _ h => h) (by rfl) ?_ hS4 ?_
      rotate_left
      · (intro W hSW; have hc := hSW; go_simp; try rfl)
      try simp only [Act.put, List.setIfInBounds_toArray, List.set_cons_zero, List.set_cons_succ]
      refine held_take 9 ?_ rfl (by kernel_rfl) (by kernel_rfl) (by kernel_rfl) (fun _ _ _ h => h) (by rfl) ?_ hS4 ?_
      rotate_left
      · (intro W hSW; go_simp; try rfl)
      try simp only [Act.put, List.setIfInBounds_toArray, List.set_cons_zero, List.set_cons_succ]
      refine held_take 10 ?_ rfl (by kernel_rfl) (by kernel_rfl) (by kernel_rfl) (fun _ _ _ h => h) (by rfl) ?_ hS4 ?_
      rotate_left
      · (intro W hSW; go_simp; try rfl)
      try simp only [Act.put, List.setIfInBounds_toArray, List.set_cons_zero, List.set_cons_succ]
      refine held_take 11 ?_ rfl (by kernel_rfl) (by kernel_rfl) (by kernel_rfl) (fun _ _ _ h => h) (by rfl) ?_ hS4 ?_
      rotate_left
      · (intro W hSW; go_simp; try rfl)
      try simp only [Act.put, List.setIfInBounds_toArray, List.set_cons_zero, List.set_cons_succ]
      refine held_take 13 ?_ rfl (by kernel_rfl) (by kernel_rfl) (by kernel_rfl) (fun _ _ _ h => h) (by rfl) ?_ hS4 ?_
      rotate_left
      · (intro W hSW; go_simp; try rfl)
      try simp only [Act.put, List.setIfInBounds_toArray, List.set_cons_zero, List.set_cons_succ]
      refine held_two 12 14 rfl rfl (by kernel_rfl) (by rfl) (by rfl) ?_ ?_
      · skip
        
        go_simp
        refine ⟨fun W => W.cell? ⟨b, 0, none⟩ = some (.slice (some ⟨g, 0, none⟩) 1 c), fun W hW => hW, hS4, ?_⟩
        try simp only [Act.put, List.setIfInBounds_toArray, List.set_cons_zero, List.set_cons_succ]
        refine held_next 14 rfl (by kernel_rfl) (by rfl) ?_
        go_simp
        refine (low_c x _ hx).mono ?_
        rintro e wq ⟨rfl, hz⟩
        have hz := hz.symm
        subst hz
        refine ⟨fun W => W.cell? ⟨b, 0, none⟩ = some (.slice (some ⟨g, 0, none⟩) 1 c), fun W hW => hW, hS4, ?_⟩
        try simp only [Act.put, List.setIfInBounds_toArray, List.set_cons_zero, List.set_cons_succ]
        refine held_next 15 rfl (by kernel_rfl) (by rfl) ?_
        go_simp
        refine (with_zero (N := fun k => k ≠ g) (x % 65536) w3.drew T3.out (fun k hk => by have h1 : g < w3.heap.size := HG3.out; have h2 : w3.heap.size ≤ k := hk; omega) (Nat.mod_lt _ (by omega))).mono ?_
        rintro e w5 ⟨v5, rfl, cn, b5⟩
        obtain ⟨κ5, A5, n5, c5, A6, n6, c6, A7, n7, c7, rfl⟩ := cn.form
        have hS5 : w5.cell? ⟨b, 0, none⟩ = some (.slice (some ⟨g, 0, none⟩) 1 c) := (b5.cell (p := ⟨b, 0, none⟩) HBL.out).trans hS4
        refine ⟨fun W => W.cell? ⟨b, 0, none⟩ = some (.slice (some ⟨g, 0, none⟩) 1 c), fun W hW => hW, hS5, ?_⟩
        try simp only [Act.put, List.setIfInBounds_toArray, List.set_cons_zero, List.set_cons_succ]
        refine held_take 16 ?_ rfl (by kernel_rfl) (by kernel_rfl) (by kernel_rfl) (fun _ _ _ h => h) (by rfl) ?_ hS5 ?_
        rotate_left
        · (intro W hSW; go_simp; try rfl)
        try simp only [Act.put, List.setIfInBounds_toArray, List.set_cons_zero, List.set_cons_succ]
        refine held_take 17 ?_ rfl (by kernel_rfl) (by kernel_rfl) (by kernel_rfl) (fun _ _ _ h => h) (by rfl) ?_ hS5 ?_
        rotate_left
        · (intro W hSW; go_simp; try rfl)
        try simp only [Act.put, List.setIfInBounds_toArray, List.set_cons_zero, List.set_cons_succ]
        have RG5 := Lib.hid (Row.below (show Row w3.drew g 96 cur from RG.out) b5 HG3.out)
        have RB5 := Lib.hid (Row.below (show Row w3.drew b 82 #[.slice (some ⟨g, 0, none⟩) 1 c] from RB.out) b5 HBL.out)
        have k0 : w5.cell? ⟨g, 1, none⟩ = some (.int .u8 0) := (RG5.out.cell 1).trans (CUR.out 1 _ rfl)
        have k1 : w5.cell? ⟨g, 2, none⟩ = some (.slice none 0 0) := (RG5.out.cell 2).trans (CUR.out 2 _ rfl)
        have k2 : w5.cell? ⟨g, 3, none⟩ = some (.slice none 0 0) := (RG5.out.cell 3).trans (CUR.out 3 _ rfl)
        have k3 : w5.cell? ⟨g, 4, none⟩ = some (.slice none 0 0) := (RG5.out.cell 4).trans (CUR.out 4 _ rfl)
        have z0 := RG5.out.frozen 1
        have z1 := RG5.out.frozen 2
        have z2 := RG5.out.frozen 3
        have z3 := RG5.out.frozen 4
        have S4 := set4r RG5.out CSZ.out _ (.int .u8 κ5) (.slice A5 n5 c5) (.slice A6 n6 c6) (.slice A7 n7 c7) (CUR.out 0 _ rfl)
        refine held_next 18 rfl (by kernel_rfl) (by rfl) ?_
        go_simp
        have hS6 : ((((w5.setCell ⟨g, 1, none⟩ (.int .u8 κ5)).setCell ⟨g, 2, none⟩ (.slice A5 n5 c5)).setCell ⟨g, 3, none⟩ (.slice A6 n6 c6)).setCell ⟨g, 4, none⟩ (.slice A7 n7 c7)).cell? ⟨b, 0, none⟩ = some (.slice (some ⟨g, 0, none⟩) 1 c) :=
          (World.cell?_of_block (S4.2.block b (Nat.lt_of_lt_of_le HBL.out b5.size) (fun e => by injection e with e; exact HNE.out e))).trans hS5
        refine ⟨fun W => W.cell? ⟨b, 0, none⟩ = some (.slice (some ⟨g, 0, none⟩) 1 c), fun W hW => hW, hS6, ?_⟩
        refine wpAnyH_done (by kernel_rfl) ?_ _
        have FIN : Hid (St (fun _ => True) ((((w5.setCell ⟨g, 1, none⟩ (.int .u8 κ5)).setCell ⟨g, 2, none⟩ (.slice A5 n5 c5)).setCell ⟨g, 3, none⟩ (.slice A6 n6 c6)).setCell ⟨g, 4, none⟩ (.slice A7 n7 c7)) (.pointer (some ⟨b, 0, none⟩)) (pl (fun _ => false) x) ∧ Off (fun y => y = b) w ((((w5.setCell ⟨g, 1, none⟩ (.int .u8 κ5)).setCell ⟨g, 2, none⟩ (.slice A5 n5 c5)).setCell ⟨g, 3, none⟩ (.slice A6 n6 c6)).setCell ⟨g, 4, none⟩ (.slice A7 n7 c7))) := Lib.hid ⟨
          one_st (κ := 0) (n := 0) (nb := ⟨κ5, A5, n5, c5, A6, n6, c6, A7, n7, c7⟩) hx (RB5.out.grown S4.2 (fun e => by injection e with e; exact HNE.out e.symm)) (Nat.lt_of_lt_of_le (Nat.lt_of_lt_of_le HG3.out b5.size) S4.2.size) HCC.out.1 HCC.out.2
            (fun i u hu => S4.1.out i u (by rw [← hu]; show _ = [Value.int .u16 (((UInt16.ofNat (x / 65536)).toNat : Nat) : Int), .int .u8 κ5, .slice A5 n5 c5, .slice A6 n6 c6, .slice A7 n7 c7][i]?; rw [show (UInt16.ofNat (x / 65536)).toNat = x / 65536 from u16_of _ (by omega)]))
            ((cn.keep S4.2.size fun q hq hb => World.cell?_of_block (S4.2.block _ hb fun e => by injection e with e; exact hq e)).mono fun _ _ _ => trivial),
          Off.trans (show Off (fun y => y = b) w w3.drew from ⟨OFF.out.os, OFF.out.tape, OFF.out.output, OFF.out.size, OFF.out.block⟩) ((Off.of b5).trans (off_grown S4.2) (M'' := fun y => y = b ∨ y = g) (fun y hy h => absurd h id) (fun y _ h => .inr h)) (fun y _ h => h) (fun y hy h => h.elim id fun h => by have := HGW.out; omega)⟩
        clear S4 k0 k1 k2 k3 z0 z1 z2 z3 cn b5 hS5 hS6 RG5 RB5
        generalize ((((w5.setCell ⟨g, 1, none⟩ (.int .u8 κ5)).setCell ⟨g, 2, none⟩ (.slice A5 n5 c5)).setCell ⟨g, 3, none⟩ (.slice A6 n6 c6)).setCell ⟨g, 4, none⟩ (.slice A7 n7 c7)) = w6 at *
        go_wp2
        go_end0
        exact ⟨rfl, FIN.out.1, FIN.out.2⟩
      · skip
        
        go_simp
        refine (low_c x _ hx).mono ?_
        rintro e wq ⟨rfl, hz⟩
        have hz := hz.symm
        subst hz
        refine ⟨fun W => W.cell? ⟨b, 0, none⟩ = some (.slice (some ⟨g, 0, none⟩) 1 c), fun W hW => hW, hS4, ?_⟩
        try simp only [Act.put, List.setIfInBounds_toArray, List.set_cons_zero, List.set_cons_succ]
        refine held_next 12 rfl (by kernel_rfl) (by rfl) ?_
        go_simp
        refine ⟨fun W => W.cell? ⟨b, 0, none⟩ = some (.slice (some ⟨g, 0, none⟩) 1 c), fun W hW => hW, hS4, ?_⟩
        try simp only [Act.put, List.setIfInBounds_toArray, List.set_cons_zero, List.set_cons_succ]
        refine held_next 15 rfl (by kernel_rfl) (by rfl) ?_
        go_simp
        refine (with_zero (N := fun k => k ≠ g) (x % 65536) w3.drew T3.out (fun k hk => by have h1 : g < w3.heap.size := HG3.out; have h2 : w3.heap.size ≤ k := hk; omega) (Nat.mod_lt _ (by omega))).mono ?_
        rintro e w5 ⟨v5, rfl, cn, b5⟩
        obtain ⟨κ5, A5, n5, c5, A6, n6, c6, A7, n7, c7, rfl⟩ := cn.form
        have hS5 : w5.cell? ⟨b, 0, none⟩ = some (.slice (some ⟨g, 0, none⟩) 1 c) := (b5.cell (p := ⟨b, 0, none⟩) HBL.out).trans hS4
        refine ⟨fun W => W.cell? ⟨b, 0, none⟩ = some (.slice (some ⟨g, 0, none⟩) 1 c), fun W hW => hW, hS5, ?_⟩
        try simp only [Act.put, List.setIfInBounds_toArray, List.set_cons_zero, List.set_cons_succ]
        refine held_take 16 ?_ rfl (by kernel_rfl) (by kernel_rfl) (by kernel_rfl) (fun _ _ _ h => h) (by rfl) ?_ hS5 ?_
        rotate_left
        · (intro W hSW; go_simp; try rfl)
        try simp only [Act.put, List.setIfInBounds_toArray, List.set_cons_zero, List.set_cons_succ]
        refine held_take 17 ?_ rfl (by kernel_rfl) (by kernel_rfl) (by kernel_rfl) (fun _ _ _ h => h) (by rfl) ?_ hS5 ?_
        rotate_left
        · (intro W hSW; go_simp; try rfl)
        try simp only [Act.put, List.setIfInBounds_toArray, List.set_cons_zero, List.set_cons_succ]
        have RG5 := Lib.hid (Row.below (show Row w3.drew g 96 cur from RG.out) b5 HG3.out)
        have RB5 := Lib.hid (Row.below (show Row w3.drew b 82 #[.slice (some ⟨g, 0, none⟩) 1 c] from RB.out) b5 HBL.out)
        have k0 : w5.cell? ⟨g, 1, none⟩ = some (.int .u8 0) := (RG5.out.cell 1).trans (CUR.out 1 _ rfl)
        have k1 : w5.cell? ⟨g, 2, none⟩ = some (.slice none 0 0) := (RG5.out.cell 2).trans (CUR.out 2 _ rfl)
        have k2 : w5.cell? ⟨g, 3, none⟩ = some (.slice none 0 0) := (RG5.out.cell 3).trans (CUR.out 3 _ rfl)
        have k3 : w5.cell? ⟨g, 4, none⟩ = some (.slice none 0 0) := (RG5.out.cell 4).trans (CUR.out 4 _ rfl)
        have z0 := RG5.out.frozen 1
        have z1 := RG5.out.frozen 2
        have z2 := RG5.out.frozen 3
        have z3 := RG5.out.frozen 4
        have S4 := set4r RG5.out CSZ.out _ (.int .u8 κ5) (.slice A5 n5 c5) (.slice A6 n6 c6) (.slice A7 n7 c7) (CUR.out 0 _ rfl)
        refine held_next 18 rfl (by kernel_rfl) (by rfl) ?_
        go_simp
        have hS6 : ((((w5.setCell ⟨g, 1, none⟩ (.int .u8 κ5)).setCell ⟨g, 2, none⟩ (.slice A5 n5 c5)).setCell ⟨g, 3, none⟩ (.slice A6 n6 c6)).setCell ⟨g, 4, none⟩ (.slice A7 n7 c7)).cell? ⟨b, 0, none⟩ = some (.slice (some ⟨g, 0, none⟩) 1 c) :=
          (World.cell?_of_block (S4.2.block b (Nat.lt_of_lt_of_le HBL.out b5.size) (fun e => by injection e with e; exact HNE.out e))).trans hS5
        refine ⟨fun W => W.cell? ⟨b, 0, none⟩ = some (.slice (some ⟨g, 0, none⟩) 1 c), fun W hW => hW, hS6, ?_⟩
        refine wpAnyH_done (by kernel_rfl) ?_ _
        have FIN : Hid (St (fun _ => True) ((((w5.setCell ⟨g, 1, none⟩ (.int .u8 κ5)).setCell ⟨g, 2, none⟩ (.slice A5 n5 c5)).setCell ⟨g, 3, none⟩ (.slice A6 n6 c6)).setCell ⟨g, 4, none⟩ (.slice A7 n7 c7)) (.pointer (some ⟨b, 0, none⟩)) (pl (fun _ => false) x) ∧ Off (fun y => y = b) w ((((w5.setCell ⟨g, 1, none⟩ (.int .u8 κ5)).setCell ⟨g, 2, none⟩ (.slice A5 n5 c5)).setCell ⟨g, 3, none⟩ (.slice A6 n6 c6)).setCell ⟨g, 4, none⟩ (.slice A7 n7 c7))) := Lib.hid ⟨
          one_st (κ := 0) (n := 0) (nb := ⟨κ5, A5, n5, c5, A6, n6, c6, A7, n7, c7⟩) hx (RB5.out.grown S4.2 (fun e => by injection e with e; exact HNE.out e.symm)) (Nat.lt_of_lt_of_le (Nat.lt_of_lt_of_le HG3.out b5.size) S4.2.size) HCC.out.1 HCC.out.2
            (fun i u hu => S4.1.out i u (by rw [← hu]; show _ = [Value.int .u16 (((UInt16.ofNat (x / 65536)).toNat : Nat) : Int), .int .u8 κ5, .slice A5 n5 c5, .slice A6 n6 c6, .slice A7 n7 c7][i]?; rw [show (UInt16.ofNat (x / 65536)).toNat = x / 65536 from u16_of _ (by omega)]))
            ((cn.keep S4.2.size fun q hq hb => World.cell?_of_block (S4.2.block _ hb fun e => by injection e with e; exact hq e)).mono fun _ _ _ => trivial),
          Off.trans (show Off (fun y => y = b) w w3.drew from ⟨OFF.out.os, OFF.out.tape, OFF.out.output, OFF.out.size, OFF.out.block⟩) ((Off.of b5).trans (off_grown S4.2) (M'' := fun y => y = b ∨ y = g) (fun y hy h => absurd h id) (fun y _ h => .inr h)) (fun y _ h => h) (fun y hy h => h.elim id fun h => by have := HGW.out; omega)⟩
        clear S4 k0 k1 k2 k3 z0 z1 z2 z3 cn b5 hS5 hS6 RG5 RB5
        generalize ((((w5.setCell ⟨g, 1, none⟩ (.int .u8 κ5)).setCell ⟨g, 2, none⟩ (.slice A5 n5 c5)).setCell ⟨g, 3, none⟩ (.slice A6 n6 c6)).setCell ⟨g, 4, none⟩ (.slice A7 n7 c7)) = w6 at *
        go_wp2
        go_end0
        exact ⟨rfl, FIN.out.1, FIN.out.2⟩
end Go.Proofs.YtcmifbjeabkihaaGreatDoor
