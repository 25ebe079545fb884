/- Walks: a container's bytes are read: runs. -/
import Derived.Test.YtponcpneflhpfaaGreatDoorSd7
import Derived.Test.YtponcpneflhpfaaGreatDoorSb9
namespace Go.Proofs.YtponcpneflhpfaaGreatDoor
open Go.RowKit
set_option linter.unusedVariables false

/-- What reading a container's bytes has come to. -/
def CtAns (w : World) (g : Nat) (vb : Value) (L : List UInt8) (q : Nat) (cs : List Ct) (vf vk vc vo : Value) (d : Ct) (e : Ending) (w' : World) : Prop :=
  (L.length < q + d.sz ∧ (∃ x : Bd, e = .returned (.tuple #[.agg #[.int .u8 x.κ, .slice x.A x.n x.c, .slice x.A2 x.n2 x.c2, .slice x.A3 x.n3 x.c3], .int .i64 4])) ∧ (∃ q' : Nat, Row w' g 169 #[vb, .int .i64 q', .int .i64 cs.length, .bool (anyr cs), vf, vk, vc, vo]) ∧ w.grownBy w' (some g)) ∨
  (q + d.sz ≤ L.length ∧ (∃ x : Bd, e = .returned (.tuple #[.agg #[.int .u8 x.κ, .slice x.A x.n x.c, .slice x.A2 x.n2 x.c2, .slice x.A3 x.n3 x.c3], .int .i64 0]) ∧ Cn (fun b => w.heap.size ≤ b) w' x.val d.p d.k) ∧ Ih w' g vb (q + d.sz) cs vf vk vc vo ∧ w.grownBy w' (some g))
theorem grown_of_below' {w W : World} {g : Nat} (h : Below w.heap.size w W) : w.grownBy W (some g) := ⟨h.os, h.tape, h.output, h.size, fun k hk _ => h.block k hk⟩
set_option maxHeartbeats 8000000 in
theorem iarray_c {g q : Nat} {A : Option Addr} {c : Nat} {vf vk vc vo : Value} {L rest : List UInt8} (cs : List Ct) (d : Ct) (w : World) (h : Ih w g (.slice A L.length c) q cs vf vk vc vo) (hb : Gs e8 w 0 g (.slice A L.length c) L) (hq : q ≤ L.length) (hl : L.length ≤ 10000000) (hk : d.k = 1) (ha : Ag (L.drop q) (d.body ++ rest)) :
    Calls Tryz.prog 303 #[.pointer (some ⟨g, 0, none⟩), .int .i64 d.n] w (CtAns w g (.slice A L.length c) L q cs vf vk vc vo d) := by
  have hg := h.row.lt
  have hd : d.r = false ∧ d.n ≤ 4096 := by
    unfold Ct.k at hk
    cases hr : d.r with
    | true => rw [hr] at hk; simp at hk
    | false => rw [hr, if_neg (by simp)] at hk; refine ⟨rfl, ?_⟩; split at hk <;> omega
  obtain ⟨N, hN⟩ : ∃ N, d.n = N := ⟨_, rfl⟩
  obtain ⟨s, hs2⟩ : ∃ s, s = 2 * N := ⟨_, rfl⟩
  have hsz : d.sz = s := by unfold Ct.sz; rw [hd.1, if_neg (by simp), if_pos hd.2, hN, hs2]
  have hbody : d.body = bdA (ls d.p 65536) := by unfold Ct.body; rw [hd.1, if_neg (by simp), if_pos hd.2]
  have hbl : (bdA (ls d.p 65536)).length = s := by rw [bdA_len, ls_ct, hs2, ← hN]; rfl
  rw [hbody] at ha
  unfold CtAns
  rw [hN, hsz, hk]
  have hNi : (N : Int) ≤ 4096 := by omega
  have h2s : 2 * (N : Int) = (s : Int) := by omega
  have bz := bxr w 65 #[.int .u8 0, .slice none 0 0, .slice none 0 0, .slice none 0 0]
  have R0 := Row.new w 65 #[.int .u8 0, .slice none 0 0, .slice none 0 0, .slice none 0 0]
  have H0 := Lib.hid (h.step bz)
  have H := Lib.hid h
  have HB0 := Lib.hid (hb.below (bz.mono (Nat.le_of_lt hg)))
  have RR0 := Lib.hid R0
  have BZ := Lib.hid bz
  have HGW := Lib.hid hg
  by_cases hs : L.length < q + s
  · have HC := Lib.hid (fun (W : World) (hR : Ih W g (.slice A L.length c) q cs vf vk vc vo) => next_no (s := s) W hR.row hq hs hl)
    clear h hb ha bz R0 hd hN hs2 hsz hbody hbl hk
    go_enter Tryz.func303, Tryz.ntmps303
    go_wp2_with fail
    generalize w.alloc (.cells #[.int .u8 0, .slice none 0 0, .slice none 0 0, .slice none 0 0] 65) = W0 at *
    refine (HC.out W0 H0.out).mono ?_
    rintro e w1 ⟨rfl, b1⟩
    have R1 := RR0.out.below b1 RR0.out.lt
    have B1 := below_both BZ.out b1
    have d0 : w1.cell? ⟨w.heap.size, 0, none⟩ = some (.int .u8 0) := R1.cell 0
    have d1 : w1.cell? ⟨w.heap.size, 1, none⟩ = some (.slice none 0 0) := R1.cell 1
    have d2 : w1.cell? ⟨w.heap.size, 2, none⟩ = some (.slice none 0 0) := R1.cell 2
    have d3 : w1.cell? ⟨w.heap.size, 3, none⟩ = some (.slice none 0 0) := R1.cell 3
    have e0 := R1.frozen 0
    have e1 := R1.frozen 1
    have e2 := R1.frozen 2
    have e3 := R1.frozen 3
    have S4 := set4 (a' := .int .u8 0) (b' := .slice none 0 0) (c' := .slice none 0 0) (d' := .slice none 0 0) R1
    have HG := Lib.hid (grown_new (grown_of_below' (g := g) B1) S4.2 (Nat.le_refl _))
    have HS4 := Lib.hid S4.1
    have HRS := Lib.hid ((H0.out.row.below b1 H0.out.row.lt).grown S4.2 (fun e => by injection e with e; have := HGW.out; omega))
    clear b1 R1 B1 S4
    go_wp2
    exact bodyPost_ret (ret_row2 rfl rfl rfl HS4.out) rfl (.inl ⟨hs, ⟨zB, rfl⟩, ⟨q, HRS.out⟩, HG.out⟩)
  · have HC := Lib.hid (fun (W : World) (hR : Ih W g (.slice A L.length c) q cs vf vk vc vo) (hD : Gs e8 W 0 g (.slice A L.length c) L) => next_yes (s := s) W hR.row hD (by omega) hl)
    have hp := (ha.cut_at (n := s) hbl (by rw [List.length_drop]; omega)).1
    have HP := Lib.hid hp
    have HMS := Lib.hid hs
    have hnm := nmb_bdA (ls d.p 65536)
    rw [show (ls d.p 65536).length = N from (ls_ct _ _).trans hN] at hnm
    have HNM := Lib.hid hnm
    have HBL := Lib.hid hbl
    have HCT := Lib.hid (show ct d.p 65536 = N from hN)
    clear h hb ha bz R0 hp hs hd hN hs2 hsz hbody hbl hk
    go_enter Tryz.func303, Tryz.ntmps303
    go_wp2_with fail
    generalize w.alloc (.cells #[.int .u8 0, .slice none 0 0, .slice none 0 0, .slice none 0 0] 65) = W0 at *
    refine (HC.out W0 H0.out HB0.out).mono ?_
    rintro e w1 ⟨gr, vr, rfl, r1, rd1, g1⟩
    rw [HP.out] at rd1
    have hgr := rd1.ge
    have HR1 := Lib.hid r1
    have RD1 := Lib.hid rd1
    have G1 := Lib.hid g1
    have RR1 := Lib.hid (RR0.out.grown g1 (fun e => by injection e with e; have := HGW.out; omega))
    clear r1 rd1 g1
    go_wp2_with fail
    refine (row16_c N w1 RD1.out (by rw [HBL.out]; omega) (by omega)).mono ?_
    rintro e w2 ⟨A2, c2, rfl, o2, -, g2⟩
    rw [HNM.out] at o2
    have hgr2 : gr ≠ g := by have := HGW.out; have := BZ.out.size; omega
    have RR2 := RR1.out.grown g2 (fun e => by injection e with e; have := RR0.out.lt; omega)
    have G2 := grown_two (grown_start BZ.out G1.out) g2 (Nat.le_trans BZ.out.size hgr)
    have R2 := HR1.out.grown g2 (fun e => by injection e with e; omega)
    have hw02 : w.heap.size < w2.heap.size := Nat.lt_of_lt_of_le RR0.out.lt (Nat.le_trans G1.out.size g2.size)
    have O2 := Lib.hid (o2.sl.more (lo' := 0) (Nat.zero_le _) (Nat.le_refl _))
    have HR2 := Lib.hid R2
    have HG2 := Lib.hid G2
    have HRR2 := Lib.hid RR2
    have HW02 := Lib.hid hw02
    clear o2 g2 hgr hgr2 RR2 G2 R2 hw02
    go_wp2_with fail
    refine (ofArray_yes (N := fun x => w.heap.size < x) _ (ls d.p 65536) d.p w2 (fun x hx => by have := HW02.out; omega) O2.out (ris_ls _ _ (Nat.le_refl _)) (ls_len _ _) rfl).mono ?_
    rintro e w3 ⟨v3, rfl, g3, b3⟩
    obtain ⟨κ, A3, n3, c3, A4, n4, c4, A5, n5, c5, rfl⟩ := g3.form
    have bz3 := bxr w3 65 #[.int .u8 κ, .slice A3 n3 c3, .slice A4 n4 c4, .slice A5 n5 c5]
    have R4 := (HRR2.out.below b3 HRR2.out.lt).below bz3 (Nat.lt_of_lt_of_le HRR2.out.lt b3.size)
    have d0 := R4.cell 0
    have d1 := R4.cell 1
    have d2 := R4.cell 2
    have d3 := R4.cell 3
    have e0 := R4.frozen 0
    have e1 := R4.frozen 1
    have e2 := R4.frozen 2
    have e3 := R4.frozen 3
    have S4 := set4 (a' := .int .u8 κ) (b' := .slice A3 n3 c3) (c' := .slice A4 n4 c4) (d' := .slice A5 n5 c5) R4
    have b4 := below_both b3 bz3
    have G4 := grown_new (grown_below HG2.out b4) S4.2 (Nat.le_refl _)
    have RF := ((HR2.out.below b4 HR2.out.lt).grown S4.2 (fun e => by injection e with e; have := HGW.out; omega))
    have CF := ((g3.step bz3).grown S4.2 (Nat.lt_irrefl _)).mono (N' := fun x => w.heap.size ≤ x) (fun _ _ h => Nat.le_of_lt h)
    have HF := Lib.hid (H.out.next G4 RF)
    have HG4 := Lib.hid G4
    have HCF := Lib.hid CF
    have HS4 := Lib.hid S4.1
    clear g3 b3 bz3 b4 R4 S4 G4 RF CF
    go_wp2
    exact bodyPost_ret (ret_row2 rfl rfl rfl HS4.out) rfl (.inr ⟨by have := HMS.out; omega, ⟨⟨κ, A3, n3, c3, A4, n4, c4, A5, n5, c5⟩, rfl, HCF.out⟩, HF.out, HG4.out⟩)
set_option maxHeartbeats 8000000 in
theorem iwords_c {g q : Nat} {A : Option Addr} {c : Nat} {vf vk vc vo : Value} {L rest : List UInt8} (cs : List Ct) (d : Ct) (w : World) (h : Ih w g (.slice A L.length c) q cs vf vk vc vo) (hb : Gs e8 w 0 g (.slice A L.length c) L) (hq : q ≤ L.length) (hl : L.length ≤ 10000000) (hk : d.k = 2) (ha : Ag (L.drop q) (d.body ++ rest)) :
    Calls Tryz.prog 304 #[.pointer (some ⟨g, 0, none⟩), .int .i64 d.n] w (CtAns w g (.slice A L.length c) L q cs vf vk vc vo d) := by
  have hg := h.row.lt
  have hd : d.r = false ∧ ¬ d.n ≤ 4096 := by
    unfold Ct.k at hk
    cases hr : d.r with
    | true => rw [hr] at hk; simp at hk
    | false => rw [hr, if_neg (by simp)] at hk; refine ⟨rfl, ?_⟩; split at hk <;> omega
  obtain ⟨N, hN⟩ : ∃ N, d.n = N := ⟨_, rfl⟩
  obtain ⟨s, hs2⟩ : ∃ s, s = 8192 := ⟨_, rfl⟩
  have hsz : d.sz = s := by unfold Ct.sz; rw [hd.1, if_neg (by simp), if_neg hd.2, hs2]
  have hbody : d.body = bdW (wm d.p) := by unfold Ct.body; rw [hd.1, if_neg (by simp), if_neg hd.2]
  have hbl : (bdW (wm d.p)).length = s := by rw [bdW_len, wm_length, hs2]
  rw [hbody] at ha
  unfold CtAns
  rw [hN, hsz, hk]
  subst hs2
  have bz := bxr w 65 #[.int .u8 0, .slice none 0 0, .slice none 0 0, .slice none 0 0]
  have R0 := Row.new w 65 #[.int .u8 0, .slice none 0 0, .slice none 0 0, .slice none 0 0]
  have H0 := Lib.hid (h.step bz)
  have H := Lib.hid h
  have HB0 := Lib.hid (hb.below (bz.mono (Nat.le_of_lt hg)))
  have RR0 := Lib.hid R0
  have BZ := Lib.hid bz
  have HGW := Lib.hid hg
  by_cases hs : L.length < q + 8192
  · have HC := Lib.hid (fun (W : World) (hR : Ih W g (.slice A L.length c) q cs vf vk vc vo) => next_no (s := 8192) W hR.row hq hs hl)
    clear h hb ha bz R0 hd hN hsz hbody hbl hk
    go_enter Tryz.func304, Tryz.ntmps304
    go_wp2_with fail
    generalize w.alloc (.cells #[.int .u8 0, .slice none 0 0, .slice none 0 0, .slice none 0 0] 65) = W0 at *
    refine (HC.out W0 H0.out).mono ?_
    rintro e w1 ⟨rfl, b1⟩
    have R1 := RR0.out.below b1 RR0.out.lt
    have B1 := below_both BZ.out b1
    have d0 : w1.cell? ⟨w.heap.size, 0, none⟩ = some (.int .u8 0) := R1.cell 0
    have d1 : w1.cell? ⟨w.heap.size, 1, none⟩ = some (.slice none 0 0) := R1.cell 1
    have d2 : w1.cell? ⟨w.heap.size, 2, none⟩ = some (.slice none 0 0) := R1.cell 2
    have d3 : w1.cell? ⟨w.heap.size, 3, none⟩ = some (.slice none 0 0) := R1.cell 3
    have e0 := R1.frozen 0
    have e1 := R1.frozen 1
    have e2 := R1.frozen 2
    have e3 := R1.frozen 3
    have S4 := set4 (a' := .int .u8 0) (b' := .slice none 0 0) (c' := .slice none 0 0) (d' := .slice none 0 0) R1
    have HG := Lib.hid (grown_new (grown_of_below' (g := g) B1) S4.2 (Nat.le_refl _))
    have HS4 := Lib.hid S4.1
    have HRS := Lib.hid ((H0.out.row.below b1 H0.out.row.lt).grown S4.2 (fun e => by injection e with e; have := HGW.out; omega))
    clear b1 R1 B1 S4
    go_wp2
    exact bodyPost_ret (ret_row2 rfl rfl rfl HS4.out) rfl (.inl ⟨hs, ⟨zB, rfl⟩, ⟨q, HRS.out⟩, HG.out⟩)
  · have HC := Lib.hid (fun (W : World) (hR : Ih W g (.slice A L.length c) q cs vf vk vc vo) (hD : Gs e8 W 0 g (.slice A L.length c) L) => next_yes (s := 8192) W hR.row hD (by omega) hl)
    have hp := (ha.cut_at (n := 8192) hbl (by rw [List.length_drop]; omega)).1
    have HP := Lib.hid hp
    have HMS := Lib.hid hs
    have hnm := nmb_bdW (wm d.p)
    rw [wm_length] at hnm
    have HNM := Lib.hid hnm
    have HBL := Lib.hid hbl
    clear h hb ha bz R0 hp hs hd hN hsz hbody hbl hk
    go_enter Tryz.func304, Tryz.ntmps304
    go_wp2_with fail
    generalize w.alloc (.cells #[.int .u8 0, .slice none 0 0, .slice none 0 0, .slice none 0 0] 65) = W0 at *
    refine (HC.out W0 H0.out HB0.out).mono ?_
    rintro e w1 ⟨gr, vr, rfl, r1, rd1, g1⟩
    rw [HP.out] at rd1
    have hgr := rd1.ge
    have HR1 := Lib.hid r1
    have RD1 := Lib.hid rd1
    have G1 := Lib.hid g1
    have RR1 := Lib.hid (RR0.out.grown g1 (fun e => by injection e with e; have := HGW.out; omega))
    clear r1 rd1 g1
    go_wp2_with fail
    refine (row64_c 1024 w1 RD1.out (by rw [HBL.out]; omega) (by omega)).mono ?_
    rintro e w2 ⟨A2, c2, rfl, o2, -, g2⟩
    rw [HNM.out] at o2
    have hgr2 : gr ≠ g := by have := HGW.out; have := BZ.out.size; omega
    have RR2 := RR1.out.grown g2 (fun e => by injection e with e; have := RR0.out.lt; omega)
    have G2 := grown_two (grown_start BZ.out G1.out) g2 (Nat.le_trans BZ.out.size hgr)
    have R2 := HR1.out.grown g2 (fun e => by injection e with e; omega)
    have hw02 : w.heap.size < w2.heap.size := Nat.lt_of_lt_of_le RR0.out.lt (Nat.le_trans G1.out.size g2.size)
    have O2 := Lib.hid (o2.sl.more (lo' := 0) (Nat.zero_le _) (Nat.le_refl _))
    have HR2 := Lib.hid R2
    have HG2 := Lib.hid G2
    have HRR2 := Lib.hid RR2
    have HW02 := Lib.hid hw02
    clear o2 g2 hgr hgr2 RR2 G2 R2 hw02
    go_wp2_with fail
    refine (ofWords_yes_ (N := fun x => w.heap.size < x) _ 1024 _ d.p w2 (fun x hx => by have := HW02.out; omega) O2.out).mono ?_
    rintro e w3 ⟨v3, rfl, g3, b3⟩
    obtain ⟨κ, A3, n3, c3, A4, n4, c4, A5, n5, c5, rfl⟩ := g3.form
    have bz3 := bxr w3 65 #[.int .u8 κ, .slice A3 n3 c3, .slice A4 n4 c4, .slice A5 n5 c5]
    have R4 := (HRR2.out.below b3 HRR2.out.lt).below bz3 (Nat.lt_of_lt_of_le HRR2.out.lt b3.size)
    have d0 := R4.cell 0
    have d1 := R4.cell 1
    have d2 := R4.cell 2
    have d3 := R4.cell 3
    have e0 := R4.frozen 0
    have e1 := R4.frozen 1
    have e2 := R4.frozen 2
    have e3 := R4.frozen 3
    have S4 := set4 (a' := .int .u8 κ) (b' := .slice A3 n3 c3) (c' := .slice A4 n4 c4) (d' := .slice A5 n5 c5) R4
    have b4 := below_both b3 bz3
    have G4 := grown_new (grown_below HG2.out b4) S4.2 (Nat.le_refl _)
    have RF := ((HR2.out.below b4 HR2.out.lt).grown S4.2 (fun e => by injection e with e; have := HGW.out; omega))
    have CF := ((g3.step bz3).grown S4.2 (Nat.lt_irrefl _)).mono (N' := fun x => w.heap.size ≤ x) (fun _ _ h => Nat.le_of_lt h)
    have HF := Lib.hid (H.out.next G4 RF)
    have HG4 := Lib.hid G4
    have HCF := Lib.hid CF
    have HS4 := Lib.hid S4.1
    clear g3 b3 bz3 b4 R4 S4 G4 RF CF
    go_wp2
    exact bodyPost_ret (ret_row2 rfl rfl rfl HS4.out) rfl (.inr ⟨by have := HMS.out; omega, ⟨⟨κ, A3, n3, c3, A4, n4, c4, A5, n5, c5⟩, rfl, HCF.out⟩, HF.out, HG4.out⟩)
end Go.Proofs.YtponcpneflhpfaaGreatDoor
namespace Go.Proofs.YtponcpneflhpfaaGreatDoor
open Go.RowKit
set_option linter.unusedVariables false

theorem Row.one {w : World} {g : Nat} {t : TypeId} {x : Value} (h : Row w g t #[x]) : w.cell? ⟨g, 0, none⟩ = some x := by have := h.cell 0; exact this
set_option maxHeartbeats 16000000 in
theorem iruns_c {g q : Nat} {A : Option Addr} {c : Nat} {vf vk vc vo z : Value} {L rest : List UInt8} (cs : List Ct) (d : Ct) (w : World) (h : Ih w g (.slice A L.length c) q cs vf vk vc vo) (hb : Gs e8 w 0 g (.slice A L.length c) L) (hq : q ≤ L.length) (hl : L.length ≤ 10000000) (hk : d.k = 3) (ha : Ag (L.drop q) (d.body ++ rest)) :
    Calls Tryz.prog 305 #[.pointer (some ⟨g, 0, none⟩), z] w (CtAns w g (.slice A L.length c) L q cs vf vk vc vo d) := by
  have hg := h.row.lt
  have hd : d.r = true := by
    unfold Ct.k at hk
    cases hr : d.r with
    | true => rfl
    | false => rw [hr, if_neg (by simp)] at hk; split at hk <;> omega
  obtain ⟨m, hdm⟩ : ∃ m, d.m = m := ⟨_, rfl⟩
  have hm3 : m ≤ 32768 := by rw [← hdm]; exact d.m_le
  have hsz : d.sz = 2 + 4 * m := by unfold Ct.sz; rw [hd, if_pos rfl, hdm]
  have hbody : d.body = le 2 m ++ bdP (rs d.p 65536) := by unfold Ct.body; rw [hd, if_pos rfl, hdm]
  have hbl : (bdP (rs d.p 65536)).length = 4 * m := by rw [bdP_len, rs_len]; unfold Ct.m at hdm; rw [hdm]
  rw [hbody, List.append_assoc] at ha
  unfold CtAns
  rw [hsz, hk]
  have hmi : (m : Int) ≤ 32768 := by omega
  obtain ⟨s, hs4⟩ : ∃ s, s = 4 * m := ⟨_, rfl⟩
  have h4m : 4 * (m : Int) = (s : Int) := by omega
  have bz := bxr w 65 #[.int .u8 0, .slice none 0 0, .slice none 0 0, .slice none 0 0]
  have R0 := Row.new w 65 #[.int .u8 0, .slice none 0 0, .slice none 0 0, .slice none 0 0]
  have H := Lib.hid h
  have H0 := Lib.hid (h.step bz)
  have HB := Lib.hid hb
  have HB0 := Lib.hid (hb.below (bz.mono (Nat.le_of_lt hg)))
  have RR0 := Lib.hid R0
  have BZ := Lib.hid bz
  have HGW := Lib.hid hg
  have HBL := Lib.hid hbl
  have HS4E := Lib.hid hs4
  have HCM := Lib.hid (show ct (hm d.p) 65536 = m from hdm)
  by_cases hs : L.length < q + 2
  · have HC := Lib.hid (fun (W : World) (hR : Ih W g (.slice A L.length c) q cs vf vk vc vo) => next_no (s := 2) W hR.row hq hs hl)
    clear h hb ha bz R0 hd hdm hsz hbody hbl hk hs4
    go_enter Tryz.func305, Tryz.ntmps305
    go_wp2_with fail
    generalize w.alloc (.cells #[.int .u8 0, .slice none 0 0, .slice none 0 0, .slice none 0 0] 65) = W0 at *
    refine (HC.out W0 H0.out).mono ?_
    rintro e w1 ⟨rfl, b1⟩
    have bz1 := bxr w1 255 #[.pointer none]
    have R1 := (RR0.out.below b1 RR0.out.lt).below bz1 (Nat.lt_of_lt_of_le RR0.out.lt b1.size)
    have B1 := below_both BZ.out (below_both b1 bz1)
    have d0 := R1.cell 0
    have d1 := R1.cell 1
    have d2 := R1.cell 2
    have d3 := R1.cell 3
    have e0 := R1.frozen 0
    have e1 := R1.frozen 1
    have e2 := R1.frozen 2
    have e3 := R1.frozen 3
    have S4 := set4 (a' := .int .u8 0) (b' := .slice none 0 0) (c' := .slice none 0 0) (d' := .slice none 0 0) R1
    have HG := Lib.hid (grown_new (grown_of_below' (g := g) B1) S4.2 (Nat.le_refl _))
    have HS4 := Lib.hid S4.1
    have hb1 := below_both b1 bz1
    have HRS := Lib.hid ((H0.out.row.below hb1 H0.out.row.lt).grown S4.2 (fun e => by injection e with e; have := HGW.out; omega))
    clear b1 bz1 R1 B1 S4 hb1
    go_wp2
    exact bodyPost_ret (ret_row2 rfl rfl rfl HS4.out) rfl (.inl ⟨by omega, ⟨zB, rfl⟩, ⟨q, HRS.out⟩, HG.out⟩)
  · have HC := Lib.hid (fun (W : World) (hR : Ih W g (.slice A L.length c) q cs vf vk vc vo) (hD : Gs e8 W 0 g (.slice A L.length c) L) => next_yes (s := 2) W hR.row hD (by omega) hl)
    obtain ⟨hp, ha2⟩ := ha.cut_at (n := 2) (le_length 2 m) (by rw [List.length_drop]; omega)
    rw [List.drop_drop] at ha2
    have HP := Lib.hid hp
    have HMS := Lib.hid hs
    by_cases hs2 : L.length < q + 2 + s
    · have HC2 := Lib.hid (fun (W : World) (n : Nat) (r : Bool) (hR : Row W g 169 #[.slice A L.length c, .int .i64 (q + 2 : Nat), .int .i64 n, .bool r, vf, vk, vc, vo]) => next_no (s := s) W hR (by omega) hs2 hl)
      clear h hb ha bz R0 hp hs hd hdm hsz hbody hbl hk hs4 ha2
      go_enter Tryz.func305, Tryz.ntmps305
      go_wp2_with fail
      generalize w.alloc (.cells #[.int .u8 0, .slice none 0 0, .slice none 0 0, .slice none 0 0] 65) = W0 at *
      refine (HC.out W0 H0.out HB0.out).mono ?_
      rintro e w1 ⟨gr, vr, rfl, r1, rd1, g1⟩
      rw [HP.out] at rd1
      have hgr := rd1.ge
      have bz1 := bxr w1 255 #[.pointer (some ⟨gr, 0, none⟩)]
      have HR1 := Lib.hid (r1.below bz1 r1.lt)
      have RD1 := Lib.hid (rd1.below bz1 (Nat.le_refl _))
      have RR1 := Lib.hid ((RR0.out.grown g1 (fun e => by injection e with e; have := HGW.out; omega)).below bz1 (Nat.lt_of_lt_of_le RR0.out.lt g1.size))
      have RB1 := Lib.hid (Row.new w1 255 #[.pointer (some ⟨gr, 0, none⟩)])
      have G1 := Lib.hid (grown_below (grown_start BZ.out g1) bz1)
      have GRL := Lib.hid rd1.lt
      have HGR := Lib.hid hgr
      have HW1 := Lib.hid (Nat.lt_of_lt_of_le RR0.out.lt g1.size)
      clear r1 rd1 g1 bz1 hgr
      go_wp2_with fail
      generalize w1.alloc (.cells #[.pointer (some ⟨gr, 0, none⟩)] 255) = W1 at *
      refine (rd16_c W1 RD1.out (by omega)).mono ?_
      rintro e w2 ⟨rfl, -, g2⟩
      have hq1 := HGR.out
      have hq2 := RR0.out.lt
      have hq3 := HGW.out
      have HR2 := Lib.hid (HR1.out.grown g2 (fun e => by injection e with e; omega))
      have RR2 := Lib.hid (RR1.out.grown g2 (fun e => by injection e with e; omega))
      have RB2 := Lib.hid (RB1.out.grown g2 (fun e => by injection e with e; have := GRL.out; omega))
      have G2 := Lib.hid (grown_new G1.out g2 (by omega))
      clear g2 hq1 hq2 hq3
      go_wp2_with fail
      refine (HC2.out w2 _ _ HR2.out).mono ?_
      rintro e w3 ⟨rfl, b3⟩
      have RB3 := RB2.out.below b3 RB2.out.lt
      have x0 := RB3.one
      have y0 := RB3.frozen 0
      have gs := grown_set w3 w1.heap.size 0 (.pointer none)
      have R3 := (RR2.out.below b3 RR2.out.lt).grown gs (fun e => by injection e with e; have := HW1.out; omega)
      have d0 := R3.cell 0
      have d1 := R3.cell 1
      have d2 := R3.cell 2
      have d3 := R3.cell 3
      have e0 := R3.frozen 0
      have e1 := R3.frozen 1
      have e2 := R3.frozen 2
      have e3 := R3.frozen 3
      have S4 := set4 (a' := .int .u8 0) (b' := .slice none 0 0) (c' := .slice none 0 0) (d' := .slice none 0 0) R3
      have HG := Lib.hid (grown_new (grown_new (grown_below G2.out b3) gs (Nat.le_of_lt HW1.out)) S4.2 (Nat.le_refl _))
      have HS4 := Lib.hid S4.1
      have HRS := Lib.hid (((HR2.out.below b3 HR2.out.lt).grown gs (fun e => by injection e with e; have := HGW.out; have := HW1.out; omega)).grown S4.2 (fun e => by injection e with e; have := HGW.out; omega))
      clear b3 RB3 R3 S4 gs
      go_wp2
      exact bodyPost_ret (ret_row2 rfl rfl rfl HS4.out) rfl (.inl ⟨by have := HS4E.out; omega, ⟨zB, rfl⟩, ⟨_, HRS.out⟩, HG.out⟩)
    · have HC2 := Lib.hid (fun (W : World) (n : Nat) (r : Bool) (hR : Row W g 169 #[.slice A L.length c, .int .i64 (q + 2 : Nat), .int .i64 n, .bool r, vf, vk, vc, vo]) (hD : Gs e8 W 0 g (.slice A L.length c) L) => next_yes (s := s) W hR hD (by omega) hl)
      have hp2 := (ha2.cut_at (n := s) (by rw [hbl, hs4]) (by rw [List.length_drop]; omega)).1
      have hnr := nrn_bdP (rs d.p 65536)
      rw [show (rs d.p 65536).length = m from (rs_len _).trans HCM.out] at hnr
      have HNR := Lib.hid hnr
      have HP2 := Lib.hid hp2
      have HMS2 := Lib.hid hs2
      clear h hb ha bz R0 hp hs hd hdm hsz hbody hbl hk hs4 ha2 hs2 hp2 hnr
      go_enter Tryz.func305, Tryz.ntmps305
      go_wp2_with fail
      generalize w.alloc (.cells #[.int .u8 0, .slice none 0 0, .slice none 0 0, .slice none 0 0] 65) = W0 at *
      refine (HC.out W0 H0.out HB0.out).mono ?_
      rintro e w1 ⟨gr, vr, rfl, r1, rd1, g1⟩
      rw [HP.out] at rd1
      have hgr := rd1.ge
      have bz1 := bxr w1 255 #[.pointer (some ⟨gr, 0, none⟩)]
      have HR1 := Lib.hid (r1.below bz1 r1.lt)
      have RD1 := Lib.hid (rd1.below bz1 (Nat.le_refl _))
      have RR1 := Lib.hid ((RR0.out.grown g1 (fun e => by injection e with e; have := HGW.out; omega)).below bz1 (Nat.lt_of_lt_of_le RR0.out.lt g1.size))
      have RB1 := Lib.hid (Row.new w1 255 #[.pointer (some ⟨gr, 0, none⟩)])
      have G1 := Lib.hid (grown_below (grown_start BZ.out g1) bz1)
      have GRL := Lib.hid rd1.lt
      have HGR := Lib.hid hgr
      have HW1 := Lib.hid (Nat.lt_of_lt_of_le RR0.out.lt g1.size)
      clear r1 rd1 g1 bz1 hgr
      go_wp2_with fail
      generalize w1.alloc (.cells #[.pointer (some ⟨gr, 0, none⟩)] 255) = W1 at *
      refine (rd16_c W1 RD1.out (by omega)).mono ?_
      rintro e w2 ⟨rfl, -, g2⟩
      have hq1 := HGR.out
      have hq2 := RR0.out.lt
      have hq3 := HGW.out
      have HR2 := Lib.hid (HR1.out.grown g2 (fun e => by injection e with e; omega))
      have RR2 := Lib.hid (RR1.out.grown g2 (fun e => by injection e with e; omega))
      have RB2 := Lib.hid (RB1.out.grown g2 (fun e => by injection e with e; have := GRL.out; omega))
      have G2 := Lib.hid (grown_new G1.out g2 (by omega))
      clear g2 hq1 hq2 hq3
      go_wp2_with fail
      have hb2 := HB.out.grown G2.out (Nat.le_of_lt HGW.out) (fun j e => by injection e with e; exact .inr (Nat.le_of_eq e))
      refine (HC2.out w2 _ _ HR2.out hb2).mono ?_
      rintro e w3 ⟨gr2, vr2, rfl, r3, rd3, g3⟩
      rw [HP2.out] at rd3
      have hge2 := rd3.ge
      have hgb2 := RB2.out.lt
      have RB3 := RB2.out.grown g3 (fun e => by injection e with e; have := HGW.out; have := HW1.out; omega)
      have x0 := RB3.one
      have y0 := RB3.frozen 0
      have gs := grown_set w3 w1.heap.size 0 (.pointer (some ⟨gr2, 0, none⟩))
      have RB4 := Lib.hid (RB3.one_set (.pointer (some ⟨gr2, 0, none⟩)))
      have hq3 := HGW.out
      have hq4 := HW1.out
      have RD4 := Lib.hid (rd3.kept gs (fun e => by injection e with e; omega) (fun k hk e => by injection e with e; have := (rd3.own.lt k hk).1; omega))
      have HR4 := Lib.hid (r3.grown gs (fun e => by injection e with e; omega))
      have RR4 := Lib.hid ((RR2.out.grown g3 (fun e => by injection e with e; omega)).grown gs (fun e => by injection e with e; omega))
      have G4 := Lib.hid (grown_new (G2.out.trans g3) gs (Nat.le_of_lt hq4))
      have HNE := Lib.hid (show w1.heap.size ≠ gr2 by omega)
      have HW2 := Lib.hid (show w.heap.size ≤ w2.heap.size by omega)
      have HGE2 := Lib.hid hge2
      clear r3 rd3 g3 RB3 gs hq3 hq4 hge2 hgb2 hb2
      go_wp2_with fail
      generalize w3.setCell ⟨w1.heap.size, 0, none⟩ (.pointer (some ⟨gr2, 0, none⟩)) = W3 at *
      refine (rowR_c m W3 RD4.out RB4.out HNE.out (by rw [HBL.out]; omega) (by omega)).mono ?_
      rintro e w4 ⟨A2, c2, rfl, o4, -, g4⟩
      rw [HNR.out] at o4
      have hq5 := HGE2.out
      have hq6 := HW2.out
      have hq3 := HGW.out
      have hq7 := RR4.out.lt
      have HR5 := Lib.hid (HR4.out.grown g4 (fun e => by injection e with e; omega))
      have RR5 := Lib.hid (RR4.out.grown g4 (fun e => by injection e with e; have := RR2.out.lt; omega))
      have G5 := Lib.hid (grown_new G4.out g4 (by omega))
      have O4 := Lib.hid (o4.sl.more (lo' := 0) (Nat.zero_le _) (Nat.le_refl _))
      have HW4 := Lib.hid (show w.heap.size < w4.heap.size from Nat.lt_of_lt_of_le hq7 g4.size)
      clear o4 g4 hq5 hq6 hq3 hq7
      go_wp2_with fail
      refine (ofRuns_yes_ (N := fun x => w.heap.size < x) _ m _ d.p w4 (fun x hx => by have := HW4.out; omega) HCM.out O4.out).mono ?_
      rintro e w5 ⟨v5, rfl, g5, b5⟩
      obtain ⟨κ, A3, n3, c3, A4, n4, c4, A5, n5, c5, rfl⟩ := g5.form
      have bz5 := bxr w5 65 #[.int .u8 κ, .slice A3 n3 c3, .slice A4 n4 c4, .slice A5 n5 c5]
      have R6 := (RR5.out.below b5 RR5.out.lt).below bz5 (Nat.lt_of_lt_of_le RR5.out.lt b5.size)
      have d0 := R6.cell 0
      have d1 := R6.cell 1
      have d2 := R6.cell 2
      have d3 := R6.cell 3
      have e0 := R6.frozen 0
      have e1 := R6.frozen 1
      have e2 := R6.frozen 2
      have e3 := R6.frozen 3
      have S4 := set4 (a' := .int .u8 κ) (b' := .slice A3 n3 c3) (c' := .slice A4 n4 c4) (d' := .slice A5 n5 c5) R6
      have b6 := below_both b5 bz5
      have G6 := grown_new (grown_below G5.out b6) S4.2 (Nat.le_refl _)
      have RF := (HR5.out.below b6 HR5.out.lt).grown S4.2 (fun e => by injection e with e; have := HGW.out; omega)
      have CF := ((g5.step bz5).grown S4.2 (Nat.lt_irrefl _)).mono (N' := fun x => w.heap.size ≤ x) (fun _ _ h => Nat.le_of_lt h)
      have hqq : q + 2 + s = q + (2 + 4 * m) := by have := HS4E.out; omega
      rw [hqq] at RF
      have HF := Lib.hid (H.out.next G6 RF)
      have HG6 := Lib.hid G6
      have HCF := Lib.hid CF
      have HS4 := Lib.hid S4.1
      clear g5 b5 bz5 b6 R6 S4 G6 RF CF hqq
      go_wp2
      exact bodyPost_ret (ret_row2 rfl rfl rfl HS4.out) rfl (.inr ⟨by have := HMS2.out; have := HS4E.out; omega, ⟨⟨κ, A3, n3, c3, A4, n4, c4, A5, n5, c5⟩, rfl, HCF.out⟩, HF.out, HG6.out⟩)
end Go.Proofs.YtponcpneflhpfaaGreatDoor
