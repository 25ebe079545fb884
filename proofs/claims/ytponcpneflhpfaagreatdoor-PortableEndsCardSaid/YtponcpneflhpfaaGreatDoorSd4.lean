/- Walks: a row of runs, read one by one. -/
import Derived.Test.YtponcpneflhpfaaGreatDoorSd3
import Derived.BigRegion
import Derived.BigQuiet
import Derived.Test.YtponcpneflhpfaaGreatDoorSd2
namespace Go.Proofs.YtponcpneflhpfaaGreatDoor
open Go.RowKit
set_option linter.unusedVariables false

theorem wu16_z {base g n : Nat} {r : Bool} {v : Value} {l : List UInt8} (z : Int) (N : Nat) (w : World) (h : Wr w base g n r v l) (hz : z = (N : Int)) (hN : N < 65536) (hb : l.length ≤ 50000000) :
    Calls Tryz.prog 187 #[.pointer (some ⟨g, 0, none⟩), .int .u16 z] w (Wo w base g n r v (l ++ le 2 N)) := by
  subst hz; exact wu16_c N w h hN hb
theorem wu32_z {base g n : Nat} {r : Bool} {v : Value} {l : List UInt8} (z : Int) (N : Nat) (w : World) (h : Wr w base g n r v l) (hz : z = (N : Int)) (hN : N < 4294967296) (hb : l.length ≤ 50000000) :
    Calls Tryz.prog 186 #[.pointer (some ⟨g, 0, none⟩), .int .u32 z] w (Wo w base g n r v (l ++ le 4 N)) := by
  subst hz; exact wu32_c N w h hN hb
/-- Containers that are older than the writer. -/
structure Cb (base : Nat) (w : World) (v : Value) (bs : List Bd) (cs : List Ct) : Prop where
  sl : GsV eC w 0 base v bs
  len : bs.length = cs.length
  cn : ∀ (i : Nat) (b : Bd) (c : Ct), bs[i]? = some b → cs[i]? = some c → Cn (fun x => x < base) w b.val c.p c.k
theorem Cb.keep {base : Nat} {w w' : World} {v : Value} {bs : List Bd} {cs : List Ct} (h : Cb base w v bs cs) (b : Below base w w') : Cb base w' v bs cs :=
  ⟨h.sl.below b, h.len, fun i x c h1 h2 => (h.cn i x c h1 h2).keep b.size fun q hq _ => b.cell hq⟩
theorem Cl.cb {N : Nat → Prop} {w : World} {v : Value} {bs : List Bd} {cs : List Ct} (h : Cl N w v bs cs) : Cb w.heap.size w v bs cs :=
  ⟨h.sl, h.len, fun i x c h1 h2 => (h.cn i x c h1 h2).mono fun b hb _ => hb⟩
theorem Cb.at {base : Nat} {w : World} {A : Option Addr} {n c : Nat} {bs : List Bd} {cs : List Ct} (h : Cb base w (.slice A n c) bs cs) {k : Nat} (hk : k < cs.length) :
    ∃ (b off : Nat) (x : Bd) (d : Ct), A = some ⟨b, off, none⟩ ∧ n = cs.length ∧ b < base ∧ cs[k]? = some d ∧ Cn (fun x => x < base) w x.val d.p d.k ∧ w.cell? ⟨b, off + k * 4, none⟩ = some (.int .u8 x.κ) ∧
      w.cell? ⟨b, off + k * 4 + 1, none⟩ = some (.slice x.A x.n x.c) ∧ w.cell? ⟨b, off + k * 4 + 2, none⟩ = some (.slice x.A2 x.n2 x.c2) ∧ w.cell? ⟨b, off + k * 4 + 3, none⟩ = some (.slice x.A3 x.n3 x.c3) := by
  obtain ⟨b, off, x, e1, e2, e3, e4, c0, c1, c2, c3⟩ := gsc_at h.sl (k := k) (by rw [h.len]; exact hk)
  have hd := List.getElem?_eq_getElem hk
  exact ⟨b, off, x, _, e1, by rw [e2, h.len], e3, hd, h.cn k x _ e4 hd, c0, c1, c2, c3⟩
theorem or8_bit : ∀ (a : Fin 256) (t : Fin 8), a.val / 2 ^ t.val % 2 = 0 → ((UInt8.ofNat (a.val + 2 ^ t.val)).toNat : Int) = bits BinOp.or IntKind.u8 (a.val : Int) (2 ^ t.val % 256) := by decide +kernel
theorem wn_add (p : Nat → Bool) (t : Nat) (h : p t = false) : ∀ c, wn (fun i => p i || decide (i = t)) c = wn p c + (if t < c then 2 ^ t else 0)
  | 0 => by simp [wn]
  | c + 1 => by
    rw [wn, wn, wn_add p t h c]
    by_cases e : c = t
    · subst e
      rw [h, if_neg (by omega), if_pos (by omega)]
      simp
    · rw [decide_eq_false e, Bool.or_false]
      by_cases e2 : t < c
      · rw [if_pos e2, if_pos (by omega)]; omega
      · rw [if_neg e2, if_neg (by omega)]; omega
theorem flg_or (f : Nat → Bool) {k m : Nat} (hk : k < 8 * m) (hf : f k = false) :
    wn (fun i => f (8 * (k / 8) + i)) 8 + 2 ^ (k % 8) < 256 ∧ wn (fun i => f (8 * (k / 8) + i)) 8 / 2 ^ (k % 8) % 2 = 0 ∧
    flg (fun i => f i || decide (i = k)) m = (flg f m).set (k / 8) (UInt8.ofNat (wn (fun i => f (8 * (k / 8) + i)) 8 + 2 ^ (k % 8))) := by
  have hb := fbyte_bit f (k / 8) (k % 8) (by omega)
  rw [show 8 * (k / 8) + k % 8 = k by omega, hf] at hb
  have ha : wn (fun i => f (8 * (k / 8) + i) || decide (i = k % 8)) 8 = wn (fun i => f (8 * (k / 8) + i)) 8 + 2 ^ (k % 8) := by
    rw [wn_add _ _ (by show f (8 * (k / 8) + k % 8) = false; rw [show 8 * (k / 8) + k % 8 = k by omega]; exact hf), if_pos (by omega)]
  have hlt := wn_lt (fun i => f (8 * (k / 8) + i) || decide (i = k % 8)) 8
  rw [ha] at hlt
  refine ⟨hlt, hb, ?_⟩
  refine List.ext_getElem? fun j => ?_
  rw [List.getElem?_set, flg_len]
  by_cases hj : j < m
  · rw [flg_at _ hj]
    by_cases e : k / 8 = j
    · subst e
      rw [if_pos rfl, if_pos hj, ← ha]
      congr 3
      funext i
      congr 1
      exact decide_eq_decide.2 (by omega)
    · rw [if_neg e, flg_at _ hj]
      congr 2
      have hx : ∀ c, c ≤ 8 → wn (fun i => f (8 * j + i) || decide (8 * j + i = k)) c = wn (fun i => f (8 * j + i)) c := fun c => by
        induction c with
        | zero => intro _; rfl
        | succ c ih =>
          intro hc
          rw [wn, wn, ih (by omega), decide_eq_false (show ¬ 8 * j + c = k by omega), Bool.or_false]
      exact hx 8 (Nat.le_refl _)
  · rw [List.getElem?_eq_none (by rw [flg_len]; omega)]
    rw [if_neg (by omega), List.getElem?_eq_none (by rw [flg_len]; omega)]
theorem flg_none (m : Nat) : flg (fun _ => false) m = List.replicate m 0 := by
  refine List.ext_getElem? fun j => ?_
  rw [List.getElem?_replicate]
  by_cases hj : j < m
  · rw [flg_at _ hj, if_pos hj]; rfl
  · rw [List.getElem?_eq_none (by rw [flg_len]; omega), if_neg hj]
def fup (cs : List Ct) (k i : Nat) : Bool := decide (i < k) && fbit cs i
theorem fup_zero (cs : List Ct) : fup cs 0 = fun _ => false := funext fun i => by simp [fup]
theorem fup_no {cs : List Ct} {k : Nat} (h : fbit cs k = false) : fup cs (k + 1) = fup cs k := funext fun i => by
  unfold fup
  by_cases e : i = k
  · subst e; rw [h]; simp
  · congr 1; exact decide_eq_decide.2 (by omega)
theorem fup_yes {cs : List Ct} {k : Nat} (h : fbit cs k = true) : fup cs (k + 1) = fun i => fup cs k i || decide (i = k) := funext fun i => by
  unfold fup
  by_cases e : i = k
  · subst e; rw [h]; simp
  · rw [decide_eq_false e, Bool.or_false]; congr 1; exact decide_eq_decide.2 (by omega)
theorem fup_self (cs : List Ct) (k : Nat) : fup cs k k = false := by simp [fup]
theorem fup_all (cs : List Ct) (m : Nat) : flg (fup cs cs.length) m = flg (fbit cs) m := flg_ext fun i _ => by
  unfold fup
  by_cases h : i < cs.length
  · rw [decide_eq_true h, Bool.true_and]
  · rw [decide_eq_false h, fbit_off (by omega)]; rfl

theorem gw_cell {α : Type} {e : Elem α} {w : World} {base b n c : Nat} {l : List α} (h : Gw e w base (.slice (some ⟨b, 0, none⟩) n c) l) {j : Nat} {y : α} (hy : l[j]? = some y) : w.cell? ⟨b, j, none⟩ = some (e.val y) ∧ w.frozen? ⟨b, j, none⟩ = false := by
  obtain ⟨b', c', e1, -, -, -, -, hc, hf⟩ := h.form (by rintro rfl; simp at hy)
  injection e1 with e1 e2 e3
  injection e1 with e1
  injection e1 with e1
  subst e1
  exact ⟨hc j y hy, hf j⟩
set_option maxHeartbeats 4000000 in
theorem wcookie_no {base g n : Nat} {v u : Value} {l : List UInt8} (w : World) (h : Wr w base g n false v l) (hn : n ≤ 65536) (hb : l.length ≤ 40000000) :
    Calls Tryz.prog 115 #[.pointer (some ⟨g, 0, none⟩), u] w (Wo w base g n false v (l ++ (le 4 12346 ++ le 4 n))) := by
  have k1 := h.row.cell 1
  have hw : IntKind.u32.wrap (n : Int) = (n : Int) := by rw [IntKind.wrap_u32]; omega
  have H := Lib.hid h
  clear h
  go_enter Tryz.func115, Tryz.ntmps115
  go_wp2_with fail
  refine (wu32_z 12346 12346 w H.out rfl (by omega) (by omega)).mono ?_
  rintro e w1 ⟨rfl, v1, h1, s1⟩
  have k0 := h1.row.cell 0
  have H1 := Lib.hid h1
  have S1 := Lib.hid s1
  clear h1 s1
  go_wp2_with fail
  refine (wu32_c n w1 H1.out (by omega) (by rw [List.length_append, le_length]; omega)).mono ?_
  rintro e w2 ⟨rfl, v2, h2, s2⟩
  have HX : Hid (Wr w2 base g n false v2 (l ++ (le 4 12346 ++ le 4 n)) ∧ Ws g w v w2 v2) := Lib.hid ⟨by rw [← List.append_assoc]; exact h2, S1.out.trans s2⟩
  clear h2 s2
  go_wp2
  go_end0
  exact ⟨rfl, v2, HX.out⟩
set_option maxHeartbeats 4000000 in
theorem wcookie_yes {base g n : Nat} {v u : Value} {l : List UInt8} (bs : List Bd) (cs : List Ct) (w : World) (hc : Cb base w u bs cs) (hcn : cs.length = n) (h : Wr w base g n true v l) (hn : n ≤ 65536) (hn1 : 1 ≤ n) (hb : l.length ≤ 40000000) :
    Calls Tryz.prog 115 #[.pointer (some ⟨g, 0, none⟩), u] w (Wo w base g n true v (l ++ (le 2 12347 ++ (le 2 (n - 1) ++ flg (fbit cs) ((n + 7) / 8))))) := by
  have k1 := h.row.cell 1
  have hni : (n : Int) ≤ 65536 := by omega
  have hni1 : (1 : Int) ≤ n := by omega
  have hw : IntKind.u16.wrap ((n : Int) - 1) = (n : Int) - 1 := by rw [IntKind.wrap_u16]; omega
  have HC := Lib.hid hc
  have HCN := Lib.hid hcn
  have HNB := Lib.hid hn
  obtain ⟨A, c, rfl, -⟩ := hc.sl
  have hbl := hc.len
  rw [hbl, hcn] at HC ⊢
  have H := Lib.hid h
  clear h hc hcn hbl hn
  go_enter Tryz.func115, Tryz.ntmps115
  go_wp2_with fail
  refine (wu16_z 12347 12347 w H.out rfl (by omega) (by omega)).mono ?_
  rintro e w1 ⟨rfl, v1, h1, s1⟩
  have k0 := h1.row.cell 0
  have H1 := Lib.hid h1
  have S1 := Lib.hid s1
  clear h1 s1
  go_wp2_with fail
  refine (wu16_z ((n : Int) - 1) (n - 1) w1 H1.out (by omega) (by omega) (by rw [List.length_append, le_length]; omega)).mono ?_
  rintro e w2 ⟨rfl, v2, h2, s2⟩
  have k2 := h2.row.cell 0
  have k3 := h2.row.cell 1
  have H2 := Lib.hid h2
  have S2 := Lib.hid (S1.out.trans s2)
  clear h2 s2
  go_wp2_with fail
  refine (shflags_c n true w2 (by omega)).mono ?_
  rintro e w3 ⟨rfl, b3⟩
  obtain ⟨m, hm⟩ : ∃ m, m = (n + 7) / 8 := ⟨_, rfl⟩
  have hm8 : (m : Int) ≤ 8192 := by omega
  have HM := Lib.hid hm
  rw [← hm]
  have H3 := Lib.hid (H2.out.step b3)
  have S3 := Lib.hid (S2.out.then b3)
  clear b3 hm
  go_wp2_with (at_make; refine wpList_gfull e8 _ rfl _ _ _ rfl sli8 inf8 _ _ _ _ m rfl rfl rfl rfl (by omega) ?_; intro w4 o4 g4; have O4 := Lib.hid o4; have G4 := Lib.hid (below_of_grown g4 (fun k h => by cases h)); clear o4 g4)
  have HB0 : Hid (base ≤ w.heap.size) := Lib.hid (Nat.le_of_lt (Nat.lt_of_le_of_lt H.out.ge H.out.lt))
  have HL8 : Hid (n ≤ 8 * m) := Lib.hid (by rw [HM.out]; omega)
  go_loopw [42] (fun s9 wr => ∃ (k : Nat), k ≤ n ∧ s9 = .int .i64 k ∧ Hid (Gw e8 wr w3.heap.size (.slice (some ⟨w3.heap.size, 0, none⟩) m m) (flg (fup cs k) m) ∧ Below w3.heap.size w3 wr)) (fun s9 _ => n - (intOf s9).toNat)
  case atStart => exact ⟨0, Nat.zero_le _, rfl, Lib.hid ⟨by rw [fup_zero, flg_none]; exact O4.out, G4.out⟩⟩
  case round =>
    obtain ⟨k, hk, rfl, hj⟩ := hrel
    have HJ := Lib.hid hj.out
    by_cases hlt : k < n
    · have BB := (S3.out.below H.out HB0.out).trans (hj.out.2.mono (Nat.le_trans HB0.out S3.out.size))
      obtain ⟨b, off, x, d, e1, -, hb1, hd, cn, c0, c1, c2, c3⟩ := (HC.out.keep BB).at (k := k) (by rw [HCN.out]; exact hlt)
      subst e1
      have hkl : (k : Int) < n := by omega
      have hki : (k : Int) ≤ 65536 := by omega
      have bz := bxr wr 65 #[.int .u8 x.κ, .slice x.A x.n x.c, .slice x.A2 x.n2 x.c2, .slice x.A3 x.n3 x.c3]
      obtain ⟨bb, hbb⟩ : ∃ bb, d.r = bb := ⟨_, rfl⟩
      have HD := Lib.hid ((fbit_at hd).trans hbb)
      have CN := Lib.hid (cn.step bz)
      have BZ := Lib.hid bz
      have HBB := Lib.hid hbb
      clear BB hb1 hd cn hj bz hbb
      go_wp2_with fail
      generalize wr.alloc (.cells #[.int .u8 x.κ, .slice x.A x.n x.c, .slice x.A2 x.n2 x.c2, .slice x.A3 x.n3 x.c3] 65) = W0 at *
      refine (isRuns_c x d bb W0 CN.out HBB.out).mono ?_
      rintro e w5 ⟨rfl, b5⟩
      have B5 := Lib.hid (below_both BZ.out b5)
      clear b5 c0 c1 c2 c3
      cases bb with
      | true =>
        obtain ⟨q, hq⟩ : ∃ q, q = k / 8 := ⟨_, rfl⟩
        obtain ⟨t, ht⟩ : ∃ t, t = k % 8 := ⟨_, rfl⟩
        obtain ⟨a, ha⟩ : ∃ a, a = wn (fun i => fup cs k (8 * (k / 8) + i)) 8 := ⟨_, rfl⟩
        have ha6 : a < 256 := by rw [ha]; exact fbyte_lt (fup cs k) (k / 8)
        have hF := flg_or (fup cs k) (k := k) (m := m) (by have := HL8.out; omega) (fup_self cs k)
        rw [← ha, ← hq, ← ht] at hF
        have hgw := HJ.out.1.below B5.out (Nat.le_refl _)
        have hqm : q < m := by have := HL8.out; omega
        obtain ⟨cq, fq⟩ := gw_cell hgw (flg_at (fup cs k) hqm)
        have c0 : w5.cell? ⟨w3.heap.size, q, none⟩ = some (.int .u8 a) := by rw [cq, hq, ← ha]; show some (Value.int .u8 ((UInt8.ofNat a).toNat : Int)) = _; rw [UInt8.toNat_ofNat', Nat.mod_eq_of_lt ha6]
        have hq1 : (k : Int) / 8 = (q : Int) := by omega
        have ht1 : (k : Int) % 8 = (t : Int) := by omega
        have hqi : (q : Int) < m := by omega
        have hti : (t : Int) < 8 := by omega
        have HST := Lib.hid (hgw.stored q (UInt8.ofNat (a + 2 ^ t)))
        have HF := Lib.hid hF
        have HK := Lib.hid (fup_yes HD.out)
        clear hF hgw cq ha hq ht hqm
        have ev : e8.val (UInt8.ofNat (a + 2 ^ t)) = .int .u8 (bits BinOp.or IntKind.u8 (a : Int) (2 ^ t % 256)) := by
          show Value.int .u8 _ = _
          rw [or8_bit ⟨a, ha6⟩ ⟨t, by omega⟩ HF.out.2.1]
        rw [ev] at HST
        have HX : Hid (Gw e8 (w5.setCell ⟨w3.heap.size, q, none⟩ (.int .u8 (bits BinOp.or IntKind.u8 (a : Int) (2 ^ t % 256)))).drew w3.heap.size (.slice (some ⟨w3.heap.size, 0, none⟩) m m) (flg (fup cs (k + 1)) m) ∧ Below w3.heap.size w3 (w5.setCell ⟨w3.heap.size, q, none⟩ (.int .u8 (bits BinOp.or IntKind.u8 (a : Int) (2 ^ t % 256)))).drew) := Lib.hid ⟨by
            rw [HK.out, HF.out.2.2]
            exact HST.out.drewN 1, by
            have e1 := HJ.out.2.trans (B5.out.mono HJ.out.2.size)
            exact below_drewN (e1.grown (grown_set w5 w3.heap.size q _) e1.size (fun j e => by injection e with e; subst e; exact Nat.le_refl _)) 1⟩
        clear ev ha6
        go_wp2_with fail
        go_region
        go_wp2
        exact ⟨⟨k + 1, by omega, by go_num, HX⟩, by simp [intOf]; omega⟩
      | false =>
        have HX : Hid (Gw e8 w5 w3.heap.size (.slice (some ⟨w3.heap.size, 0, none⟩) m m) (flg (fup cs (k + 1)) m) ∧ Below w3.heap.size w3 w5) := Lib.hid ⟨by rw [fup_no HD.out]; exact HJ.out.1.below B5.out (Nat.le_refl _), HJ.out.2.trans (B5.out.mono HJ.out.2.size)⟩
        go_wp2
        exact ⟨⟨k + 1, by omega, by go_num, HX⟩, by simp [intOf]; omega⟩
    · obtain rfl : k = n := by omega
      have HW := Lib.hid (H3.out.step hj.out.2)
      have SW := Lib.hid (S3.out.then hj.out.2)
      obtain ⟨A2, n2, d2, rfl⟩ := gw_slice HW.out.own
      have c2 : wr.cell? ⟨g, 2, none⟩ = some (.slice A2 n2 d2) := HW.out.row.cell 2
      have f2 := HW.out.row.frozen 2
      have hfl := hj.out.1
      rw [← HCN.out, fup_all] at hfl
      have HFL := Lib.hid hfl
      have hb2 : (l ++ le 2 12347 ++ le 2 (k - 1)).length + (flg (fbit cs) m).length ≤ 1000000000 := by
        rw [List.length_append, List.length_append, le_length, le_length, flg_len]; omega
      have HLB := Lib.hid hb2
      clear hj hfl hb2
      go_wp2_with (at_builtin; refine wpList_gapp e8 _ rfl _ _ _ rfl base sli8 inf8 _ (l ++ le 2 12347 ++ le 2 (k - 1)) rfl HW.out.own _ _ _ (flg (fbit cs) m) rfl HFL.out.sl HLB.out (Nat.le_of_lt (Nat.lt_of_le_of_lt HW.out.ge HW.out.lt)) ?_; intro v6 w6 o6 g6 e6; obtain ⟨A6, n6, d6, rfl⟩ := gw_slice o6; have HP := Lib.hid (wr_put HW.out (Below.refl _ _) o6 g6 e6); have R6 := HW.out.row.grown g6 HW.out.ne; have c2 := R6.cell 2; have f2 := R6.frozen 2; clear o6 g6 e6 R6)
      go_end0
      have hl : l ++ (le 2 12347 ++ (le 2 (k - 1) ++ flg (fbit cs) ((k + 7) / 8))) = l ++ le 2 12347 ++ le 2 (k - 1) ++ flg (fbit cs) m := by rw [HM.out]; simp only [List.append_assoc]
      exact ⟨rfl, _, by rw [hl]; exact HP.out.1, SW.out.trans HP.out.2⟩
end Go.Proofs.YtponcpneflhpfaaGreatDoor
namespace Go.Proofs.YtponcpneflhpfaaGreatDoor
open Go.RowKit
set_option linter.unusedVariables false

/-- The numbers of s bytes each that stand in l from p on. -/
def nmb {α : Type} (s : Nat) (f : Nat → α) (l : List UInt8) (p n : Nat) : List α := (List.range n).map fun i => f (leVal ((l.drop (p + s * i)).take s))
theorem nmb_succ {α : Type} (s : Nat) (f : Nat → α) (l : List UInt8) (p n : Nat) : nmb s f l p (n + 1) = nmb s f l p n ++ [f (leVal ((l.drop (p + s * n)).take s))] := by
  unfold nmb; rw [List.range_succ, List.map_append]; rfl
theorem nmb_len {α : Type} (s : Nat) (f : Nat → α) (l : List UInt8) (p n : Nat) : (nmb s f l p n).length = n := by simp [nmb]
theorem fill_at {α : Type} (a : List α) (z : α) {k n : Nat} (ha : a.length = k) (hk : k < n) : (a ++ List.replicate (n - k) z)[k]? = some z := by
  rw [List.getElem?_append_right (by omega), List.getElem?_replicate, if_pos (by omega)]
theorem fill_set {α : Type} (a : List α) (y z : α) {k n : Nat} (ha : a.length = k) (hk : k < n) : (a ++ List.replicate (n - k) z).set k y = a ++ [y] ++ List.replicate (n - (k + 1)) z := by
  rw [show n - k = (n - (k + 1)) + 1 by omega, List.replicate_succ, List.set_append_right _ _ (by omega), ha, Nat.sub_self, List.set_cons_zero, List.append_assoc]
  rfl
theorem leVal_take (l : List UInt8) (s : Nat) : leVal (l.take s) < 2 ^ (8 * s) := Nat.lt_of_lt_of_le (leVal_lt _) (Nat.pow_le_pow_right (by omega) (by rw [List.length_take]; omega))
theorem row_arith {p s n k L : Nat} (hp : p + s * n ≤ L) (hk : k < n) : p + s * k + s ≤ L ∧ p + s * (k + 1) = p + s * k + s := by
  have h1 : s * (k + 1) ≤ s * n := Nat.mul_le_mul_left s hk
  rw [Nat.mul_add, Nat.mul_one] at h1
  rw [Nat.mul_add, Nat.mul_one]
  omega
def RowAns16 (w : World) (base gr : Nat) (v : Value) (l : List UInt8) (p n : Nat) (e : Ending) (w' : World) : Prop :=
  ∃ A c, e = .returned (.slice A n c) ∧ Gw e16 w' w.heap.size (.slice A n c) (nmb 2 UInt16.ofNat l p n) ∧ Rd w' base gr v l (p + 2 * n) false ∧ w.grownBy w' (some gr)
set_option maxHeartbeats 4000000 in
theorem row16_c {base gr : Nat} {v : Value} {l : List UInt8} {p : Nat} (n : Nat) (w : World) (h : Rd w base gr v l p false) (hp : p + 2 * n ≤ l.length) (hn : n ≤ 65536) :
    Calls Tryz.prog 329 #[.int .i64 n, .func (.func 254) #[.pointer (some ⟨gr, 0, none⟩)] #[]] w (RowAns16 w base gr v l p n) := by
  have HE : Enters Tryz.prog 254 := enters_of Tryz.func254 (by kernel_rfl) rfl
  unfold Enters at HE
  have hni : (n : Int) ≤ 65536 := by omega
  have HP := Lib.hid hp
  have HB := Lib.hid (fun x hx => (h.own.lt x hx).2)
  have HGR := Lib.hid h.lt
  have H := Lib.hid h
  clear h hp hn
  go_enter Tryz.func329, Tryz.ntmps329
  go_wp2_with (at_make; refine wpList_gfull e16 _ rfl _ _ _ rfl sli16 inf16 _ _ _ _ n rfl rfl rfl rfl (by omega) ?_; intro w1 o1 g1; have O1 := Lib.hid o1; have G1 := Lib.hid g1; clear o1 g1)
  go_loopw [11] (fun s9 wr => ∃ (k : Nat), k ≤ n ∧ s9 = .int .i64 k ∧ Hid (Gw e16 wr w.heap.size (.slice (some ⟨w.heap.size, 0, none⟩) n n) (nmb 2 UInt16.ofNat l p k ++ List.replicate (n - k) e16.zero) ∧ Rd wr base gr v l (p + 2 * k) false ∧ w.grownBy wr (some gr))) (fun s9 _ => n - (intOf s9).toNat)
  case atStart => exact ⟨0, Nat.zero_le _, rfl, Lib.hid ⟨by simpa [nmb] using O1.out, by simpa using H.out.grown G1.out (fun k h => by cases h), ⟨G1.out.os, G1.out.tape, G1.out.output, G1.out.size, fun j hj _ => G1.out.block j hj (fun e => by cases e)⟩⟩⟩
  case round =>
    obtain ⟨k, hk, rfl, hj⟩ := hrel
    have HJ := Lib.hid hj.out
    by_cases hlt : k < n
    · have hkl : (k : Int) < n := by omega
      have HA := Lib.hid (row_arith HP.out hlt)
      clear hj
      go_wp2_with fail
      refine (U16_yes wr HJ.out.2.1 HA.out.1).mono ?_
      rintro e w3 ⟨rfl, rd, g3⟩
      obtain ⟨x, hx⟩ : ∃ x, x = leVal ((l.drop (p + 2 * k)).take 2) := ⟨_, rfl⟩
      have hx6 : x < 65536 := by rw [hx]; exact leVal_take _ _
      rw [← hx]
      have own := HJ.out.1.kept g3 (fun j hj e => by have h1 : w.heap.size = j := Option.some.inj hj; have h2 : gr = j := Option.some.inj e; have := HGR.out; omega)
      obtain ⟨c0, f0⟩ := gw_cell own (fill_at _ _ (nmb_len _ _ _ _ _) hlt)
      have ST := own.stored k (UInt16.ofNat x)
      rw [fill_set _ _ _ (nmb_len _ _ _ _ _) hlt, hx, ← nmb_succ, ← hx] at ST
      have ev : e16.val (UInt16.ofNat x) = .int .u16 x := by
        show Value.int .u16 ((UInt16.ofNat x).toNat : Int) = _
        rw [UInt16.toNat_ofNat', Nat.mod_eq_of_lt hx6]
      rw [ev] at ST
      have gs := grown_set w3 w.heap.size k (.int .u16 (x : Int))
      have HX : Hid (Gw e16 (w3.setCell ⟨w.heap.size, k, none⟩ (.int .u16 (x : Int))) w.heap.size (.slice (some ⟨w.heap.size, 0, none⟩) n n) (nmb 2 UInt16.ofNat l p (k + 1) ++ List.replicate (n - (k + 1)) e16.zero) ∧ Rd (w3.setCell ⟨w.heap.size, k, none⟩ (.int .u16 (x : Int))) base gr v l (p + 2 * (k + 1)) false ∧ w.grownBy (w3.setCell ⟨w.heap.size, k, none⟩ (.int .u16 (x : Int))) (some gr)) := Lib.hid ⟨ST, by
          rw [HA.out.2]
          exact rd.far gs (by have := HGR.out; omega) (fun e => by have := HB.out _ e; omega), by
          have t := HJ.out.2.2.trans g3
          exact ⟨gs.os.trans t.os, gs.tape.trans t.tape, gs.output.trans t.output, Nat.le_trans t.size gs.size, fun j hj hne => (gs.block j (Nat.lt_of_lt_of_le hj t.size) (fun e => by injection e with e; omega)).trans (t.block j hj hne)⟩⟩
      have hxi : (x : Int) < 65536 := by omega
      clear own ST ev gs rd g3 hx6 hx
      go_wp2
      exact ⟨⟨k + 1, by omega, by go_num, HX⟩, by simp [intOf]; omega⟩
    · obtain rfl : k = n := by omega
      have HX := HJ.out
      rw [Nat.sub_self, List.replicate_zero, List.append_nil] at HX
      have HX := Lib.hid HX
      clear hj
      go_wp2
      go_ret
      exact ⟨_, _, rfl, HX.out⟩
def RowAns32 (w : World) (base gr : Nat) (v : Value) (l : List UInt8) (p n : Nat) (e : Ending) (w' : World) : Prop :=
  ∃ A c, e = .returned (.slice A n c) ∧ Gw e32 w' w.heap.size (.slice A n c) (nmb 4 UInt32.ofNat l p n) ∧ Rd w' base gr v l (p + 4 * n) false ∧ w.grownBy w' (some gr)
set_option maxHeartbeats 4000000 in
theorem row32_c {base gr : Nat} {v : Value} {l : List UInt8} {p : Nat} (n : Nat) (w : World) (h : Rd w base gr v l p false) (hp : p + 4 * n ≤ l.length) (hn : n ≤ 65536) :
    Calls Tryz.prog 255 #[.int .i64 n, .func (.func 251) #[.pointer (some ⟨gr, 0, none⟩)] #[]] w (RowAns32 w base gr v l p n) := by
  have HE : Enters Tryz.prog 251 := enters_of Tryz.func251 (by kernel_rfl) rfl
  unfold Enters at HE
  have hni : (n : Int) ≤ 65536 := by omega
  have HP := Lib.hid hp
  have HB := Lib.hid (fun x hx => (h.own.lt x hx).2)
  have HGR := Lib.hid h.lt
  have H := Lib.hid h
  clear h hp hn
  go_enter Tryz.func255, Tryz.ntmps255
  go_wp2_with (at_make; refine wpList_gfull e32 _ rfl _ _ _ rfl sli32 inf32 _ _ _ _ n rfl rfl rfl rfl (by omega) ?_; intro w1 o1 g1; have O1 := Lib.hid o1; have G1 := Lib.hid g1; clear o1 g1)
  go_loopw [11] (fun s9 wr => ∃ (k : Nat), k ≤ n ∧ s9 = .int .i64 k ∧ Hid (Gw e32 wr w.heap.size (.slice (some ⟨w.heap.size, 0, none⟩) n n) (nmb 4 UInt32.ofNat l p k ++ List.replicate (n - k) e32.zero) ∧ Rd wr base gr v l (p + 4 * k) false ∧ w.grownBy wr (some gr))) (fun s9 _ => n - (intOf s9).toNat)
  case atStart => exact ⟨0, Nat.zero_le _, rfl, Lib.hid ⟨by simpa [nmb] using O1.out, by simpa using H.out.grown G1.out (fun k h => by cases h), ⟨G1.out.os, G1.out.tape, G1.out.output, G1.out.size, fun j hj _ => G1.out.block j hj (fun e => by cases e)⟩⟩⟩
  case round =>
    obtain ⟨k, hk, rfl, hj⟩ := hrel
    have HJ := Lib.hid hj.out
    by_cases hlt : k < n
    · have hkl : (k : Int) < n := by omega
      have HA := Lib.hid (row_arith HP.out hlt)
      clear hj
      go_wp2_with fail
      refine (U32_yes wr HJ.out.2.1 HA.out.1).mono ?_
      rintro e w3 ⟨rfl, rd, g3⟩
      obtain ⟨x, hx⟩ : ∃ x, x = leVal ((l.drop (p + 4 * k)).take 4) := ⟨_, rfl⟩
      have hx6 : x < 4294967296 := by rw [hx]; exact leVal_take _ _
      rw [← hx]
      have own := HJ.out.1.kept g3 (fun j hj e => by have h1 : w.heap.size = j := Option.some.inj hj; have h2 : gr = j := Option.some.inj e; have := HGR.out; omega)
      obtain ⟨c0, f0⟩ := gw_cell own (fill_at _ _ (nmb_len _ _ _ _ _) hlt)
      have ST := own.stored k (UInt32.ofNat x)
      rw [fill_set _ _ _ (nmb_len _ _ _ _ _) hlt, hx, ← nmb_succ, ← hx] at ST
      have ev : e32.val (UInt32.ofNat x) = .int .u32 x := by
        show Value.int .u32 ((UInt32.ofNat x).toNat : Int) = _
        rw [UInt32.toNat_ofNat', Nat.mod_eq_of_lt hx6]
      rw [ev] at ST
      have gs := grown_set w3 w.heap.size k (.int .u32 (x : Int))
      have HX : Hid (Gw e32 (w3.setCell ⟨w.heap.size, k, none⟩ (.int .u32 (x : Int))) w.heap.size (.slice (some ⟨w.heap.size, 0, none⟩) n n) (nmb 4 UInt32.ofNat l p (k + 1) ++ List.replicate (n - (k + 1)) e32.zero) ∧ Rd (w3.setCell ⟨w.heap.size, k, none⟩ (.int .u32 (x : Int))) base gr v l (p + 4 * (k + 1)) false ∧ w.grownBy (w3.setCell ⟨w.heap.size, k, none⟩ (.int .u32 (x : Int))) (some gr)) := Lib.hid ⟨ST, by
          rw [HA.out.2]
          exact rd.far gs (by have := HGR.out; omega) (fun e => by have := HB.out _ e; omega), by
          have t := HJ.out.2.2.trans g3
          exact ⟨gs.os.trans t.os, gs.tape.trans t.tape, gs.output.trans t.output, Nat.le_trans t.size gs.size, fun j hj hne => (gs.block j (Nat.lt_of_lt_of_le hj t.size) (fun e => by injection e with e; omega)).trans (t.block j hj hne)⟩⟩
      have hxi : (x : Int) < 4294967296 := by omega
      clear own ST ev gs rd g3 hx6 hx
      go_wp2
      exact ⟨⟨k + 1, by omega, by go_num, HX⟩, by simp [intOf]; omega⟩
    · obtain rfl : k = n := by omega
      have HX := HJ.out
      rw [Nat.sub_self, List.replicate_zero, List.append_nil] at HX
      have HX := Lib.hid HX
      clear hj
      go_wp2
      go_ret
      exact ⟨_, _, rfl, HX.out⟩
def RowAns64 (w : World) (base gr : Nat) (v : Value) (l : List UInt8) (p n : Nat) (e : Ending) (w' : World) : Prop :=
  ∃ A c, e = .returned (.slice A n c) ∧ Gw e64 w' w.heap.size (.slice A n c) (nmb 8 UInt64.ofNat l p n) ∧ Rd w' base gr v l (p + 8 * n) false ∧ w.grownBy w' (some gr)
set_option maxHeartbeats 4000000 in
theorem row64_c {base gr : Nat} {v : Value} {l : List UInt8} {p : Nat} (n : Nat) (w : World) (h : Rd w base gr v l p false) (hp : p + 8 * n ≤ l.length) (hn : n ≤ 65536) :
    Calls Tryz.prog 330 #[.int .i64 n, .func (.func 331) #[.pointer (some ⟨gr, 0, none⟩)] #[]] w (RowAns64 w base gr v l p n) := by
  have HE : Enters Tryz.prog 331 := enters_of Tryz.func331 (by kernel_rfl) rfl
  unfold Enters at HE
  have hni : (n : Int) ≤ 65536 := by omega
  have HP := Lib.hid hp
  have HB := Lib.hid (fun x hx => (h.own.lt x hx).2)
  have HGR := Lib.hid h.lt
  have H := Lib.hid h
  clear h hp hn
  go_enter Tryz.func330, Tryz.ntmps330
  go_wp2_with (at_make; refine wpList_gfull e64 _ rfl _ _ _ rfl sli64 inf64 _ _ _ _ n rfl rfl rfl rfl (by omega) ?_; intro w1 o1 g1; have O1 := Lib.hid o1; have G1 := Lib.hid g1; clear o1 g1)
  go_loopw [11] (fun s9 wr => ∃ (k : Nat), k ≤ n ∧ s9 = .int .i64 k ∧ Hid (Gw e64 wr w.heap.size (.slice (some ⟨w.heap.size, 0, none⟩) n n) (nmb 8 UInt64.ofNat l p k ++ List.replicate (n - k) e64.zero) ∧ Rd wr base gr v l (p + 8 * k) false ∧ w.grownBy wr (some gr))) (fun s9 _ => n - (intOf s9).toNat)
  case atStart => exact ⟨0, Nat.zero_le _, rfl, Lib.hid ⟨by simpa [nmb] using O1.out, by simpa using H.out.grown G1.out (fun k h => by cases h), ⟨G1.out.os, G1.out.tape, G1.out.output, G1.out.size, fun j hj _ => G1.out.block j hj (fun e => by cases e)⟩⟩⟩
  case round =>
    obtain ⟨k, hk, rfl, hj⟩ := hrel
    have HJ := Lib.hid hj.out
    by_cases hlt : k < n
    · have hkl : (k : Int) < n := by omega
      have HA := Lib.hid (row_arith HP.out hlt)
      clear hj
      go_wp2_with fail
      refine (U64_yes wr HJ.out.2.1 HA.out.1).mono ?_
      rintro e w3 ⟨rfl, rd, g3⟩
      obtain ⟨x, hx⟩ : ∃ x, x = leVal ((l.drop (p + 8 * k)).take 8) := ⟨_, rfl⟩
      have hx6 : x < 18446744073709551616 := by rw [hx]; exact leVal_take _ _
      rw [← hx]
      have own := HJ.out.1.kept g3 (fun j hj e => by have h1 : w.heap.size = j := Option.some.inj hj; have h2 : gr = j := Option.some.inj e; have := HGR.out; omega)
      obtain ⟨c0, f0⟩ := gw_cell own (fill_at _ _ (nmb_len _ _ _ _ _) hlt)
      have ST := own.stored k (UInt64.ofNat x)
      rw [fill_set _ _ _ (nmb_len _ _ _ _ _) hlt, hx, ← nmb_succ, ← hx] at ST
      have ev : e64.val (UInt64.ofNat x) = .int .u64 x := by
        show Value.int .u64 ((UInt64.ofNat x).toNat : Int) = _
        rw [UInt64.toNat_ofNat', Nat.mod_eq_of_lt hx6]
      rw [ev] at ST
      have gs := grown_set w3 w.heap.size k (.int .u64 (x : Int))
      have HX : Hid (Gw e64 (w3.setCell ⟨w.heap.size, k, none⟩ (.int .u64 (x : Int))) w.heap.size (.slice (some ⟨w.heap.size, 0, none⟩) n n) (nmb 8 UInt64.ofNat l p (k + 1) ++ List.replicate (n - (k + 1)) e64.zero) ∧ Rd (w3.setCell ⟨w.heap.size, k, none⟩ (.int .u64 (x : Int))) base gr v l (p + 8 * (k + 1)) false ∧ w.grownBy (w3.setCell ⟨w.heap.size, k, none⟩ (.int .u64 (x : Int))) (some gr)) := Lib.hid ⟨ST, by
          rw [HA.out.2]
          exact rd.far gs (by have := HGR.out; omega) (fun e => by have := HB.out _ e; omega), by
          have t := HJ.out.2.2.trans g3
          exact ⟨gs.os.trans t.os, gs.tape.trans t.tape, gs.output.trans t.output, Nat.le_trans t.size gs.size, fun j hj hne => (gs.block j (Nat.lt_of_lt_of_le hj t.size) (fun e => by injection e with e; omega)).trans (t.block j hj hne)⟩⟩
      have hxi : (x : Int) < 18446744073709551616 := by omega
      clear own ST ev gs rd g3 hx6 hx
      go_wp2
      exact ⟨⟨k + 1, by omega, by go_num, HX⟩, by simp [intOf]; omega⟩
    · obtain rfl : k = n := by omega
      have HX := HJ.out
      rw [Nat.sub_self, List.replicate_zero, List.append_nil] at HX
      have HX := Lib.hid HX
      clear hj
      go_wp2
      go_ret
      exact ⟨_, _, rfl, HX.out⟩
end Go.Proofs.YtponcpneflhpfaaGreatDoor
namespace Go.Proofs.YtponcpneflhpfaaGreatDoor
open Go.RowKit
set_option linter.unusedVariables false

theorem szRun : (Tryz.prog.info? 130).map (·.size) = some 2 := by kernel_rfl
theorem ret_run {fn : Func} {p : Tmp} (hf : fn.results = #[.cell p 130]) {tmps : Array Value} {w : World} {g : Nat} {a b : Value} (hp : tmps.getD p undef = .pointer (some ⟨g, 0, none⟩)) (R : Row w g 130 #[a, b]) :
    (results fn tmps).run Tryz.prog w = .ok (.agg #[a, b]) w :=
  results_cell_row hf _ w g _ _ (0, 0) _ hp R Tryz.underlying130 rfl szRun
theorem grown_new {a b c : World} {gr q : Nat} (h : a.grownBy b (some gr)) (g : b.grownBy c (some q)) (hq : a.heap.size ≤ q) : a.grownBy c (some gr) :=
  ⟨g.os.trans h.os, g.tape.trans h.tape, g.output.trans h.output, Nat.le_trans h.size g.size, fun j hj hne => (g.block j (Nat.lt_of_lt_of_le hj h.size) (fun e => by injection e with e; omega)).trans (h.block j hj hne)⟩
theorem grown_drewS {a b : World} {row : Option Nat} (h : a.drew.grownBy b row) : a.grownBy b row := ⟨h.os, h.tape, h.output, h.size, h.block⟩
def rnAt (l : List UInt8) (p : Nat) : Rn := (UInt16.ofNat (leVal ((l.drop p).take 2)), UInt16.ofNat (leVal ((l.drop (p + 2)).take 2)))
set_option maxHeartbeats 4000000 in
theorem oneRun_c {base gr gb : Nat} {v : Value} {l : List UInt8} {p : Nat} (w : World) (h : Rd w base gr v l p false) (hr : Row w gb 255 #[.pointer (some ⟨gr, 0, none⟩)]) (hp : p + 4 ≤ l.length) :
    Calls Tryz.prog 333 #[.pointer (some ⟨gb, 0, none⟩)] w fun e w' => e = .returned (.agg #[.int .u16 (leVal ((l.drop p).take 2)), .int .u16 (leVal ((l.drop (p + 2)).take 2))]) ∧ Rd w' base gr v l (p + 4) false ∧ w.grownBy w' (some gr) := by
  have bz := bxr w 130 #[.int .u16 0, .int .u16 0]
  have R0 := Row.new w 130 #[.int .u16 0, .int .u16 0]
  have hgr := h.lt
  have hgb := hr.lt
  have hob := fun x hx => (h.own.lt x hx).2
  have hneb : gb ≠ gr := fun e => by
    subst e
    have h1 := h.row
    unfold Row at h1 hr
    rw [h1] at hr
    injection hr with hr
    injection hr with _ h2
    revert h2; decide
  have hne : (some gr : Option Nat) ≠ some gb := fun e => hneb (Option.some.inj e).symm
  have hne2 : (some gr : Option Nat) ≠ some w.heap.size := fun e => by injection e with e; omega
  have RD0 := Lib.hid (h.below bz (Nat.le_refl _))
  have RB0 := Lib.hid (hr.below bz hr.lt)
  have RR0 := Lib.hid R0
  have BZ := Lib.hid bz
  have hp1 : p + 2 ≤ l.length := by omega
  have hp2 : p + 2 + 2 ≤ l.length := by omega
  have hgb0 : gb < w.heap.size := hgb
  clear h hr bz R0 hgb
  go_enter Tryz.func333, Tryz.ntmps333
  go_wp2_with fail
  generalize w.alloc (.cells #[.int .u16 0, .int .u16 0] 130) = W0 at *
  have hSc := (show Row W0.drew gb 255 #[.pointer (some ⟨gr, 0, none⟩)] from RB0.out)
  refine wp_region_held_drew (S := fun W => Row W gb 255 #[.pointer (some ⟨gr, 0, none⟩)]) (by kernel_rfl) hSc (fun _ => ?_)
  refine held_take 0 ?_ rfl (by kernel_rfl) (by kernel_rfl) (by kernel_rfl) (fun _ _ _ h => h) (by rfl) ?_ hSc ?_
  rotate_left
  · (intro W hSW; have k0 := Row.cell hSW 0; go_simp; try rfl)
  try simp only [Act.put, List.setIfInBounds_toArray, List.set_cons_zero, List.set_cons_succ]
  refine held_take 2 ?_ rfl (by kernel_rfl) (by kernel_rfl) (by kernel_rfl) (fun _ _ _ h => h) (by rfl) ?_ hSc ?_
  rotate_left
  · (intro W hSW; have k0 := Row.cell hSW 0; go_simp; try rfl)
  try simp only [Act.put, List.setIfInBounds_toArray, List.set_cons_zero, List.set_cons_succ]
  refine held_next 1 rfl (by kernel_rfl) (by rfl) ?_
  go_simp
  refine (U16_yes W0.drew (RD0.out.drewN 1) hp1).mono ?_
  rintro e wq1 ⟨rfl, rd1, g1⟩
  have RD1 := Lib.hid rd1
  have G1 := Lib.hid g1
  have hSd : (fun W => Row W gb 255 #[.pointer (some ⟨gr, 0, none⟩)]) wq1 := hSc.grown g1 hne
  refine ⟨fun W => Row W gb 255 #[.pointer (some ⟨gr, 0, none⟩)], fun W hW => hW, hSd, ?_⟩
  clear hSc rd1 g1
  have hSc := hSd
  clear hSd
  try simp only [Act.put, List.setIfInBounds_toArray, List.set_cons_zero, List.set_cons_succ]
  refine held_next 3 rfl (by kernel_rfl) (by rfl) ?_
  go_simp
  refine (U16_yes wq1 RD1.out hp2).mono ?_
  rintro e wq2 ⟨rfl, rd2, g2⟩
  have RD2 := Lib.hid rd2
  have G2 := Lib.hid g2
  have hSd : (fun W => Row W gb 255 #[.pointer (some ⟨gr, 0, none⟩)]) wq2 := hSc.grown g2 hne
  refine ⟨fun W => Row W gb 255 #[.pointer (some ⟨gr, 0, none⟩)], fun W hW => hW, hSd, ?_⟩
  clear hSc rd2 g2
  have hSc := hSd
  clear hSd
  try simp only [Act.put, List.setIfInBounds_toArray, List.set_cons_zero, List.set_cons_succ]
  refine held_take 4 ?_ rfl (by kernel_rfl) (by kernel_rfl) (by kernel_rfl) (fun _ _ _ h => h) (by rfl) ?_ hSc ?_
  rotate_left
  · (intro W hSW; go_simp; try rfl)
  try simp only [Act.put, List.setIfInBounds_toArray, List.set_cons_zero, List.set_cons_succ]
  have R2 := ((show Row W0.drew w.heap.size 130 #[.int .u16 0, .int .u16 0] from RR0.out).grown G1.out hne2).grown G2.out hne2
  have d0 := R2.cell 0
  have d1 := R2.cell 1
  have f0 := R2.frozen 0
  have f1 := R2.frozen 1
  have S2 := set2 (a' := .int .u16 (leVal ((l.drop p).take 2))) (b' := .int .u16 (leVal ((l.drop (p + 2)).take 2))) R2
  have hS3 := hSc.grown S2.2 (fun e => by injection e with e; have := hgb0; omega)
  have HR := Lib.hid (RD2.out.far S2.2 (by omega) (fun e => by have := hob _ e; omega))
  have HG := Lib.hid (grown_new ((grown_start BZ.out (grown_drewS G1.out)).trans G2.out) S2.2 (Nat.le_refl _))
  have HS2 := Lib.hid S2.1
  refine held_next 5 rfl (by kernel_rfl) (by rfl) ?_
  go_simp
  refine ⟨fun W => Row W gb 255 #[.pointer (some ⟨gr, 0, none⟩)], fun W hW => hW, hS3, ?_⟩
  refine wpAnyH_done (by kernel_rfl) ?_ _
  clear hSc hS3 S2 R2 d0 d1 f0 f1
  go_wp2
  exact bodyPost_ret (ret_run rfl rfl HS2.out) rfl ⟨rfl, HR.out, HG.out⟩
def nrn (l : List UInt8) (p n : Nat) : List Rn := (List.range n).map fun i => rnAt l (p + 4 * i)
theorem nrn_succ (l : List UInt8) (p n : Nat) : nrn l p (n + 1) = nrn l p n ++ [rnAt l (p + 4 * n)] := by
  unfold nrn; rw [List.range_succ, List.map_append]; rfl
theorem nrn_len (l : List UInt8) (p n : Nat) : (nrn l p n).length = n := by simp [nrn]
def RowAnsR (w : World) (base gr : Nat) (v : Value) (l : List UInt8) (p n : Nat) (e : Ending) (w' : World) : Prop :=
  ∃ A c, e = .returned (.slice A n c) ∧ Gw2 eR w' w.heap.size (.slice A n c) (nrn l p n) ∧ Rd w' base gr v l (p + 4 * n) false ∧ w.grownBy w' (some gr)
set_option maxHeartbeats 4000000 in
theorem rowR_c {base gr gb : Nat} {v : Value} {l : List UInt8} {p : Nat} (n : Nat) (w : World) (h : Rd w base gr v l p false) (hr : Row w gb 255 #[.pointer (some ⟨gr, 0, none⟩)]) (hne : gb ≠ gr) (hp : p + 4 * n ≤ l.length) (hn : n ≤ 65536) :
    Calls Tryz.prog 332 #[.int .i64 n, .func (.func 333) #[] #[.pointer (some ⟨gb, 0, none⟩)]] w (RowAnsR w base gr v l p n) := by
  have HE : Enters Tryz.prog 333 := enters_of Tryz.func333 (by kernel_rfl) rfl
  unfold Enters at HE
  have hni : (n : Int) ≤ 65536 := by omega
  have HP := Lib.hid hp
  have HB := Lib.hid (fun x hx => (h.own.lt x hx).2)
  have HGR := Lib.hid h.lt
  have HGB := Lib.hid hr.lt
  have HNE := Lib.hid (show (some gr : Option Nat) ≠ some gb from fun e => hne (Option.some.inj e).symm)
  have H := Lib.hid h
  have HR := Lib.hid hr
  clear h hp hn hr hne
  go_enter Tryz.func332, Tryz.ntmps332
  go_wp2_with (at_make; refine wpList_gfull2 eR _ rfl _ _ _ rfl sliR infR _ _ _ _ n rfl rfl rfl rfl (by omega) ?_; intro w1 o1 g1; have O1 := Lib.hid o1; have G1 := Lib.hid g1; clear o1 g1)
  go_loopw [11] (fun s9 wr => ∃ (k : Nat), k ≤ n ∧ s9 = .int .i64 k ∧ Hid (Gw2 eR wr w.heap.size (.slice (some ⟨w.heap.size, 0, none⟩) n n) (nrn l p k ++ List.replicate (n - k) eR.zero) ∧ Rd wr base gr v l (p + 4 * k) false ∧ w.grownBy wr (some gr))) (fun s9 _ => n - (intOf s9).toNat)
  case atStart => exact ⟨0, Nat.zero_le _, rfl, Lib.hid ⟨by simpa [nrn] using O1.out, by simpa using H.out.grown G1.out (fun k h => by cases h), ⟨G1.out.os, G1.out.tape, G1.out.output, G1.out.size, fun j hj _ => G1.out.block j hj (fun e => by cases e)⟩⟩⟩
  case round =>
    obtain ⟨k, hk, rfl, hj⟩ := hrel
    have HJ := Lib.hid hj.out
    by_cases hlt : k < n
    · have hkl : (k : Int) < n := by omega
      have HA := Lib.hid (row_arith HP.out hlt)
      clear hj
      go_wp2_with fail
      refine (oneRun_c wr HJ.out.2.1 (HR.out.grown HJ.out.2.2 HNE.out) HA.out.1).mono ?_
      rintro e w3 ⟨rfl, rd, g3⟩
      obtain ⟨x, hx⟩ : ∃ x, x = leVal ((l.drop (p + 4 * k)).take 2) := ⟨_, rfl⟩
      obtain ⟨y, hy⟩ : ∃ y, y = leVal ((l.drop (p + 4 * k + 2)).take 2) := ⟨_, rfl⟩
      have hx6 : x < 65536 := by rw [hx]; exact leVal_take _ _
      have hy6 : y < 65536 := by rw [hy]; exact leVal_take _ _
      have hrn : rnAt l (p + 4 * k) = (UInt16.ofNat x, UInt16.ofNat y) := by unfold rnAt; rw [hx, hy]
      rw [← hx, ← hy]
      have own := HJ.out.1.kept g3 (fun j hj e => by have h1 : w.heap.size = j := Option.some.inj hj; have h2 : gr = j := Option.some.inj e; have := HGR.out; omega)
      have hfa := fill_at (nrn l p k) eR.zero (nrn_len _ _ _) hlt
      obtain ⟨_, _, e0, -, -, -, -, hcl, hfz⟩ := own.form (by intro e; rw [e] at hfa; simp at hfa)
      injection e0 with e0 e01 e02
      injection e0 with e0
      injection e0 with e0
      subst e0
      have d0 := (hcl k _ hfa).1
      have d1 := (hcl k _ hfa).2
      have f0 := hfz (2 * k)
      have f1 := hfz (2 * k + 1)
      rw [Nat.mul_comm 2 k] at d0 d1 f0 f1
      have d0 : w3.cell? ⟨w.heap.size, k * 2, none⟩ = some (.int .u16 0) := d0
      have d1 : w3.cell? ⟨w.heap.size, k * 2 + 1, none⟩ = some (.int .u16 0) := d1
      have ST := own.stored12 eR k _ (rnAt l (p + 4 * k)) hfa
      rw [fill_set _ _ _ (nrn_len _ _ _) hlt, ← nrn_succ] at ST
      have ev : eR.fst (rnAt l (p + 4 * k)) = .int .u16 x := by
        rw [hrn]; show Value.int .u16 ((UInt16.ofNat x).toNat : Int) = _
        rw [UInt16.toNat_ofNat', Nat.mod_eq_of_lt hx6]
      have ew : eR.snd (rnAt l (p + 4 * k)) = .int .u16 y := by
        rw [hrn]; show Value.int .u16 ((UInt16.ofNat y).toNat : Int) = _
        rw [UInt16.toNat_ofNat', Nat.mod_eq_of_lt hy6]
      rw [ev, ew, Nat.mul_comm 2 k] at ST
      have gs := (grown_set w3 w.heap.size (k * 2) (.int .u16 (x : Int))).trans (grown_set _ w.heap.size (k * 2 + 1) (.int .u16 (y : Int)))
      have HX : Hid (Gw2 eR ((w3.setCell ⟨w.heap.size, k * 2, none⟩ (.int .u16 (x : Int))).setCell ⟨w.heap.size, k * 2 + 1, none⟩ (.int .u16 (y : Int))) w.heap.size (.slice (some ⟨w.heap.size, 0, none⟩) n n) (nrn l p (k + 1) ++ List.replicate (n - (k + 1)) eR.zero) ∧ Rd ((w3.setCell ⟨w.heap.size, k * 2, none⟩ (.int .u16 (x : Int))).setCell ⟨w.heap.size, k * 2 + 1, none⟩ (.int .u16 (y : Int))) base gr v l (p + 4 * (k + 1)) false ∧ w.grownBy ((w3.setCell ⟨w.heap.size, k * 2, none⟩ (.int .u16 (x : Int))).setCell ⟨w.heap.size, k * 2 + 1, none⟩ (.int .u16 (y : Int))) (some gr)) := Lib.hid ⟨ST, by
          rw [HA.out.2]
          exact rd.far gs (by have := HGR.out; omega) (fun e => by have := HB.out _ e; omega), grown_new (HJ.out.2.2.trans g3) gs (Nat.le_refl _)⟩
      have hxi : (x : Int) < 65536 := by omega
      have hyi : (y : Int) < 65536 := by omega
      clear own ST ev ew gs rd g3 hx6 hy6 hx hy hrn hfa hcl hfz e01 e02
      go_wp2
      exact ⟨⟨k + 1, by omega, by go_num, HX⟩, by simp [intOf]; omega⟩
    · obtain rfl : k = n := by omega
      have HX := HJ.out
      rw [Nat.sub_self, List.replicate_zero, List.append_nil] at HX
      have HX := Lib.hid HX
      clear hj
      go_wp2
      go_ret
      exact ⟨_, _, rfl, HX.out⟩
end Go.Proofs.YtponcpneflhpfaaGreatDoor
