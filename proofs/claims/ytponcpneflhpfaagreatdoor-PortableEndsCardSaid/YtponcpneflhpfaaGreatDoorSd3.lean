/- Walks: a container's bytes, as its kind has them, are put behind a writer's. -/
import Derived.Test.YtponcpneflhpfaaGreatDoorSd0
import Derived.Test.YtponcpneflhpfaaGreatDoorSc7
import Derived.Test.YtponcpneflhpfaaGreatDoorSb9
import Derived.Test.YtponcpneflhpfaaGreatDoorSd2
import Derived.Test.YtponcpneflhpfaaGreatDoorSb3
import Derived.Test.YtponcpneflhpfaaGreatDoorSa8
import Derived.BigQuiet
namespace Go.Proofs.YtponcpneflhpfaaGreatDoor
open Go.RowKit
set_option linter.unusedVariables false

theorem kindz_c {N : Nat → Prop} (v : Value) (p : Nat → Bool) (k : Nat) (z : Int) (w : World) (h : Cn N w v p k) (hz : (k : Int) = z) :
    Calls Tryz.prog 82 #[v] w fun e w' => e = .returned (.int .u8 z) ∧ Below w.heap.size w w' := by
  rw [← hz]; exact kind_c v p k w h
theorem Ct.k_r (c : Ct) : decide (c.k = 3) = c.r := by
  unfold Ct.k
  cases c.r
  · by_cases h : c.n ≤ 4096
    · simp [h]
    · simp [h]
  · simp
set_option maxHeartbeats 400000 in
theorem isRuns_k {N : Nat → Prop} (x : Bd) (p : Nat → Bool) (k : Nat) (z : Int) (b : Bool) (w : World) (h : Cn N w x.val p k) (hz : (k : Int) = z) (hb : (z == 3) = b) :
    Calls Tryz.prog 185 #[x.val] w fun e w' => e = .returned (.bool b) ∧ Below w.heap.size w w' := by
  have bz := bxr w 65 #[.int .u8 x.κ, .slice x.A x.n x.c, .slice x.A2 x.n2 x.c2, .slice x.A3 x.n3 x.c3]
  have H := Lib.hid (h.step bz)
  have BZ := Lib.hid bz
  clear h bz
  go_enter Tryz.func185, Tryz.ntmps185
  go_wp2_with fail
  refine (kindz_c _ p k z _ H.out hz).mono ?_
  rintro e w1 ⟨rfl, b1⟩
  have B1 := Lib.hid (below_both BZ.out b1)
  clear b1 hz
  go_wp2
  go_ret
  exact ⟨by rw [← hb]; rfl, B1.out⟩
theorem isRuns_c {N : Nat → Prop} (x : Bd) (c : Ct) (b : Bool) (w : World) (h : Cn N w x.val c.p c.k) (hb : c.r = b) :
    Calls Tryz.prog 185 #[x.val] w fun e w' => e = .returned (.bool b) ∧ Below w.heap.size w w' := by
  refine isRuns_k x c.p c.k c.k b w h rfl ?_
  rw [← hb, ← c.k_r, Bool.eq_iff_iff, beq_iff_eq, decide_eq_true_eq]
  omega
theorem clf_at {N : Nat → Prop} {w wr : World} {A : Option Addr} {n c : Nat} {bs : List Bd} {cs : List Ct} (h : Cl N w (.slice A n c) bs cs) (B : Below w.heap.size w wr) {k : Nat} (hk : k < cs.length) :
    ∃ b off x d, A = some ⟨b, off, none⟩ ∧ n = cs.length ∧ b < w.heap.size ∧ bs[k]? = some x ∧ cs[k]? = some d ∧ Cn N wr x.val d.p d.k ∧ wr.cell? ⟨b, off + k * 4, none⟩ = some (.int .u8 x.κ) ∧
      wr.cell? ⟨b, off + k * 4 + 1, none⟩ = some (.slice x.A x.n x.c) ∧ wr.cell? ⟨b, off + k * 4 + 2, none⟩ = some (.slice x.A2 x.n2 x.c2) ∧ wr.cell? ⟨b, off + k * 4 + 3, none⟩ = some (.slice x.A3 x.n3 x.c3) := by
  obtain ⟨b, off, x, e1, e2, e3, e4, c0, c1, c2, c3⟩ := gsc_at h.sl (k := k) (by rw [h.len]; exact hk)
  have hd := List.getElem?_eq_getElem hk
  exact ⟨b, off, x, _, e1, by rw [e2, h.len], e3, e4, hd, (h.cn k x _ e4 hd).step B, (B.cell (p := ⟨b, off + k * 4, none⟩) e3).trans c0, (B.cell (p := ⟨b, off + k * 4 + 1, none⟩) e3).trans c1, (B.cell (p := ⟨b, off + k * 4 + 2, none⟩) e3).trans c2, (B.cell (p := ⟨b, off + k * 4 + 3, none⟩) e3).trans c3⟩
set_option maxHeartbeats 4000000 in
theorem indexC_c {N : Nat → Prop} (v : Value) (bs : List Bd) (cs : List Ct) (w : World) (hv : Cl N w v bs cs) (hl : cs.length ≤ 65536) :
    Calls Tryz.prog 246 #[v, .func (.func 185) #[] #[]] w fun e w' => ∃ z : Int, e = .returned (.int .i64 z) ∧ (decide (0 ≤ z) = anyr cs) ∧ Below w.heap.size w w' := by
  have HE : Enters Tryz.prog 185 := enters_of Tryz.func185 (by kernel_rfl) rfl
  unfold Enters at HE
  have HV := Lib.hid hv
  have hbl := hv.len
  obtain ⟨A, c, rfl, -⟩ := hv.sl
  rw [hbl] at HV ⊢
  clear hv hbl
  go_enter Tryz.func246, Tryz.ntmps246
  go_wp2
  go_loopw [8] (fun s8 wr => ∃ i : Nat, i ≤ cs.length ∧ s8 = .int .i64 i ∧ Hid ((∀ j, j < i → fbit cs j = false) ∧ Below w.heap.size w wr)) (fun s8 _ => cs.length - (intOf s8).toNat)
  case atStart => exact ⟨0, Nat.zero_le _, rfl, Lib.hid ⟨fun j h => absurd h (Nat.not_lt_zero _), Below.refl _ _⟩⟩
  case round =>
    obtain ⟨i, hi, rfl, hj⟩ := hrel
    have HJ := Lib.hid hj.out
    by_cases hlt : i < cs.length
    · obtain ⟨b, off, x, d, e1, -, hb, hg, hd, cn, c0, c1, c2, c3⟩ := clf_at HV.out hj.out.2 hlt
      subst e1
      obtain ⟨bb, hbb⟩ : ∃ bb, d.r = bb := ⟨_, rfl⟩
      have hcall := isRuns_c x d bb wr cn hbb
      have HD := Lib.hid ((fbit_at hd).trans hbb)
      have hil : (i : Int) < cs.length := by omega
      clear hg hd cn hj hbb
      go_wp2_with fail
      refine hcall.mono ?_
      clear hcall
      rintro e w2 ⟨rfl, b2⟩
      have B2 := Lib.hid (below_both HJ.out.2 b2)
      clear b2
      cases bb with
      | true =>
        have HX : Hid (decide ((0 : Int) ≤ i) = anyr cs) := Lib.hid (by rw [anyr_iff.2 ⟨i, hlt, HD.out⟩]; exact decide_eq_true (by omega))
        go_wp2
        go_ret
        exact ⟨_, rfl, HX.out, B2.out⟩
      | false =>
        have HX : Hid (∀ j, j < i + 1 → fbit cs j = false) := Lib.hid (fun j hj => by
          by_cases h : j < i
          · exact HJ.out.1 j h
          · rw [show j = i by omega]; exact HD.out)
        go_wp2
        refine ⟨⟨i + 1, by omega, by go_num, Lib.hid ⟨HX.out, B2.out⟩⟩, by simp [intOf]; omega⟩
    · obtain rfl : i = cs.length := by omega
      have HX : Hid (decide ((0 : Int) ≤ -1) = anyr cs) := Lib.hid (by
        cases ha : anyr cs with
        | false => rfl
        | true =>
          obtain ⟨j, h1, h2⟩ := anyr_iff.1 ha
          rw [HJ.out.1 j h1] at h2
          cases h2)
      clear hj
      go_wp2
      go_ret
      exact ⟨_, rfl, HX.out, HJ.out.2⟩
set_option maxHeartbeats 400000 in
theorem containsC_c {N : Nat → Prop} (v : Value) (bs : List Bd) (cs : List Ct) (r : Bool) (w : World) (hv : Cl N w v bs cs) (hl : cs.length ≤ 65536) (hr : anyr cs = r) :
    Calls Tryz.prog 184 #[v, .func (.func 185) #[] #[]] w fun e w' => e = .returned (.bool r) ∧ Below w.heap.size w w' := by
  have H := Lib.hid hv
  have HR := Lib.hid hr
  clear hv hr
  go_enter Tryz.func184, Tryz.ntmps184
  go_wp2_with fail
  refine (indexC_c v bs cs _ H.out hl).mono ?_
  rintro e w1 ⟨z, rfl, hz, b1⟩
  have HZ : Hid (decide (z ≥ 0) = r) := Lib.hid (by rw [← HR.out, ← hz])
  have B1 := Lib.hid b1
  clear hz b1
  go_wp2
  go_ret
  exact ⟨by rw [← HZ.out]; rfl, B1.out⟩
theorem szS : (Tryz.prog.info? 153).map (·.size) = some 2 := by kernel_rfl
theorem ret_shape {fn : Func} {p : Tmp} (hf : fn.results = #[.cell p 153]) {tmps : Array Value} {w : World} {g : Nat} {a b : Value} (hp : tmps.getD p undef = .pointer (some ⟨g, 0, none⟩)) (R : Row w g 153 #[a, b]) :
    (results fn tmps).run Tryz.prog w = .ok (.agg #[a, b]) w :=
  results_cell_row hf _ w g _ _ (0, 0) _ hp R Tryz.underlying153 rfl szS
theorem set2 {w : World} {g : Nat} {t : TypeId} {a b a' b' : Value} (R : Row w g t #[a, b]) :
    Row ((w.setCell ⟨g, 0, none⟩ a').setCell ⟨g, 1, none⟩ b') g t #[a', b'] ∧ w.grownBy ((w.setCell ⟨g, 0, none⟩ a').setCell ⟨g, 1, none⟩ b') (some g) :=
  ⟨by simpa using ((R.set_ 0 a').set_ 1 b'), (grown_set w g 0 a').trans (grown_set _ g 1 b')⟩
set_option maxHeartbeats 400000 in
theorem shapeOf_c {N : Nat → Prop} (v : Value) (bs : List Bd) (cs : List Ct) (r : Bool) (w : World) (hv : Cl N w v bs cs) (hl : cs.length ≤ 65536) (hr : anyr cs = r) :
    Calls Tryz.prog 114 #[v] w fun e w' => e = .returned (.agg #[.int .i64 cs.length, .bool r]) ∧ Below w.heap.size w w' := by
  have bz := bxr w 153 #[.int .i64 0, .bool false]
  have R0 := Row.new w 153 #[.int .i64 0, .bool false]
  have hbl := hv.len
  have H := Lib.hid (hv.step bz)
  obtain ⟨A, c, rfl, -⟩ := hv.sl
  obtain ⟨m, hm⟩ : ∃ m, m = cs.length := ⟨_, rfl⟩
  rw [hbl, ← hm] at H
  rw [hbl, ← hm]
  have BZ := Lib.hid bz
  have R := Lib.hid R0
  have HM := Lib.hid hm
  clear hv hbl bz R0 hm
  go_enter Tryz.func114, Tryz.ntmps114
  go_wp2_with fail
  generalize w.alloc (.cells #[.int .i64 0, .bool false] 153) = W0 at *
  refine (containsC_c _ bs cs r _ H.out hl hr).mono ?_
  rintro e w1 ⟨rfl, b1⟩
  have R1 := R.out.below b1 R.out.lt
  have B1 := Lib.hid (below_both BZ.out b1)
  have k0 := R1.cell 0
  have k1 := R1.cell 1
  have f0 := R1.frozen 0
  have f1 := R1.frozen 1
  have R2 := Lib.hid R1
  have S2 := set2 (a' := .int .i64 m) (b' := .bool r) R2.out
  have B2 := Lib.hid (B1.out.grown S2.2 B1.out.size (fun j e => by injection e with e; subst e; exact Nat.le_refl _))
  have HS := Lib.hid S2
  clear b1 R1 hr S2
  go_wp2
  exact bodyPost_ret (ret_shape rfl rfl HS.out.1) rfl ⟨rfl, B2.out⟩
end Go.Proofs.YtponcpneflhpfaaGreatDoor
namespace Go.Proofs.YtponcpneflhpfaaGreatDoor
open Go.RowKit
set_option linter.unusedVariables false

theorem gse_at {α : Type} {e : Elem α} {w : World} {lo hi : Nat} {A : Option Addr} {n c : Nat} {l : List α} (h : Gs e w lo hi (.slice A n c) l) {k : Nat} (hk : k < l.length) :
    ∃ b off y, A = some ⟨b, off, none⟩ ∧ n = l.length ∧ lo ≤ b ∧ b < hi ∧ l[k]? = some y ∧ w.cell? ⟨b, off + k, none⟩ = some (e.val y) := by
  obtain ⟨b, off, c', e1, h1, h2, h3, h4, hc⟩ := h.form (by rintro rfl; simp at hk)
  injection e1 with e1 e2 e3
  subst e1 e2 e3
  have hx := List.getElem?_eq_getElem hk
  exact ⟨b, off, _, rfl, rfl, h3, h4, hx, hc k _ hx⟩
theorem bdA_take {l : List UInt16} {k : Nat} {y : UInt16} (h : l[k]? = some y) : bdA (l.take (k + 1)) = bdA (l.take k) ++ le 2 y.toNat := flatMap_take _ h
theorem bdW_take {l : List UInt64} {k : Nat} {y : UInt64} (h : l[k]? = some y) : bdW (l.take (k + 1)) = bdW (l.take k) ++ le 8 y.toNat := flatMap_take _ h
theorem bdP_take {l : List Rn} {k : Nat} {y : Rn} (h : l[k]? = some y) : bdP (l.take (k + 1)) = bdP (l.take k) ++ (le 2 y.1.toNat ++ le 2 y.2.toNat) := flatMap_take _ h
theorem len_ok {a b c k m n : Nat} (h : a ≤ 40000000) (hb : b = c * k) (hk : k ≤ m) (hm : m = n) (hn : n ≤ 65536) (hc : c ≤ 8 := by decide) : a + b ≤ 50000000 := by
  subst hb hm
  have h1 : c * k ≤ 8 * 65536 := Nat.mul_le_mul hc (Nat.le_trans hk hn)
  omega
theorem bdA_takel (l : List UInt16) {k : Nat} (h : k ≤ l.length) : (bdA (l.take k)).length = 2 * k := by rw [bdA_len, List.length_take]; omega
theorem bdW_takel (l : List UInt64) {k : Nat} (h : k ≤ l.length) : (bdW (l.take k)).length = 8 * k := by rw [bdW_len, List.length_take]; omega
theorem bdP_takel (l : List Rn) {k : Nat} (h : k ≤ l.length) : (bdP (l.take k)).length = 4 * k := by rw [bdP_len, List.length_take]; omega
set_option maxHeartbeats 4000000 in
theorem warray_c {base g n : Nat} {r : Bool} {v : Value} {l : List UInt8} (x : Bd) (c : Ct) (w : World) (hT : Tb w) (h : Wr w base g n r v l) (hc : Cn (fun b => b < base) w x.val c.p c.k) (hb : l.length ≤ 40000000) :
    Calls Tryz.prog 190 #[.pointer (some ⟨g, 0, none⟩), x.val] w (Wo w base g n r v (l ++ bdA (ls c.p 65536))) := by
  obtain ⟨m, hm⟩ : ∃ m, ct c.p 65536 = m := ⟨_, rfl⟩
  have hmi : (m : Int) ≤ 65536 := by have := ct_le c.p 65536; omega
  have hmb := Lib.hid (show (m : Nat) ≤ 65536 by rw [← hm]; exact ct_le _ _)
  have bz := bxr w 65 #[.int .u8 x.κ, .slice x.A x.n x.c, .slice x.A2 x.n2 x.c2, .slice x.A3 x.n3 x.c3]
  have TT := Lib.hid hT
  have H := Lib.hid h
  have H2 := Lib.hid (hc.step bz)
  have BZ := Lib.hid bz
  obtain ⟨L, hL⟩ : ∃ L, L = ls c.p 65536 := ⟨_, rfl⟩
  have hl : L.length = m := by rw [hL]; exact (ls_ct c.p 65536).trans hm
  rw [← hL]
  have HL := Lib.hid hL
  have HLN := Lib.hid hl
  clear hT h hc bz hL hl
  go_enter Tryz.func190, Tryz.ntmps190
  go_wp2_with fail
  refine (array_c _ c.p c.k m _ (TT.out.step BZ.out) hm H2.out).mono ?_
  rintro e w1 ⟨A, c1, rfl, g1, b1⟩
  rw [← HL.out] at g1
  have B1 := Lib.hid (below_both BZ.out b1)
  have G1 := Lib.hid g1
  have LO := Lib.hid (show w.heap.size ≤ (w.alloc (.cells #[.int .u8 x.κ, .slice x.A x.n x.c, .slice x.A2 x.n2 x.c2, .slice x.A3 x.n3 x.c3] 65)).heap.size by simp)
  generalize (w.alloc (.cells #[.int .u8 x.κ, .slice x.A x.n x.c, .slice x.A2 x.n2 x.c2, .slice x.A3 x.n3 x.c3] 65)).heap.size = lo at *
  clear g1 b1
  go_wp2
  go_loopw [9] (fun s9 wr => ∃ (k : Nat) (v' : Value), k ≤ m ∧ s9 = .int .i64 k ∧ Hid (Wr wr base g n r v' (l ++ bdA (L.take k)) ∧ Ws g w1 v wr v')) (fun s9 _ => m - (intOf s9).toNat)
  case atStart => exact ⟨0, v, Nat.zero_le _, rfl, Lib.hid ⟨by simpa [bdA] using H.out.step B1.out, Ws.refl g w1 v⟩⟩
  case round =>
    obtain ⟨k, v', hk, rfl, hj⟩ := hrel
    have HJ := Lib.hid hj.out
    by_cases hlt : k < m
    · have GK := hj.out.2.gs G1.out (Nat.le_refl _) (Nat.lt_of_lt_of_le H.out.lt LO.out) (fun x hx => Nat.lt_of_lt_of_le (H.out.olt hx).2 LO.out)
      obtain ⟨b, off, y, e1, -, hlo, hb1, hg, cq⟩ := gse_at GK (k := k) (by rw [HLN.out]; exact hlt)
      subst e1
      have hkl : (k : Int) < m := by omega
      obtain ⟨N, hN⟩ : ∃ N, N = y.toNat := ⟨_, rfl⟩
      have c0 : wr.cell? ⟨b, off + k, none⟩ = some (.int .u16 N) := by rw [hN]; exact cq
      have HG := Lib.hid hg
      have HN := Lib.hid hN
      have HY := Lib.hid (show N < 65536 by rw [hN]; exact y.toNat_lt)
      clear cq GK hlo hb1 hg hN hj
      go_wp2_with fail
      have hb2 := len_ok hb (bdA_takel L (k := k) (by rw [HLN.out]; exact hk)) hk rfl hmb.out
      have hc2 := wu16_c N wr HJ.out.1 HY.out (show (l ++ bdA (L.take k)).length ≤ 50000000 by rw [List.length_append]; exact hb2)
      refine hc2.mono ?_
      rintro e w3 ⟨rfl, v3, h3, s3⟩
      have HX : Hid (Wr w3 base g n r v3 (l ++ bdA (L.take (k + 1))) ∧ Ws g w1 v w3 v3) := Lib.hid ⟨by rw [bdA_take HG.out, ← HN.out, ← List.append_assoc]; exact h3, HJ.out.2.trans s3⟩
      clear h3 s3
      go_wp2
      exact ⟨⟨k + 1, v3, by omega, by go_num, HX⟩, by simp [intOf]; omega⟩
    · obtain rfl : k = m := by omega
      have HX := HJ.out
      rw [← HLN.out, List.take_length] at HX
      have HX := Lib.hid HX
      clear hj
      go_wp2
      go_end0
      exact ⟨rfl, v', HX.out.1, HX.out.2.step B1.out H.out.lt⟩
set_option maxHeartbeats 4000000 in
theorem wwords_c {base g n : Nat} {r : Bool} {v : Value} {l : List UInt8} (x : Bd) (c : Ct) (w : World) (hT : Tb w) (h : Wr w base g n r v l) (hc : Cn (fun b => b < base) w x.val c.p c.k) (hb : l.length ≤ 40000000) :
    Calls Tryz.prog 191 #[.pointer (some ⟨g, 0, none⟩), x.val] w (Wo w base g n r v (l ++ bdW (wm c.p))) := by
  have hmb := Lib.hid (show (1024 : Nat) ≤ 65536 by omega)
  have bz := bxr w 65 #[.int .u8 x.κ, .slice x.A x.n x.c, .slice x.A2 x.n2 x.c2, .slice x.A3 x.n3 x.c3]
  have TT := Lib.hid hT
  have H := Lib.hid h
  have H2 := Lib.hid (hc.step bz)
  have BZ := Lib.hid bz
  obtain ⟨L, hL⟩ : ∃ L, L = wm c.p := ⟨_, rfl⟩
  have hl : L.length = 1024 := by rw [hL]; exact wm_length c.p
  rw [← hL]
  have HL := Lib.hid hL
  have HLN := Lib.hid hl
  clear hT h hc bz hL hl
  go_enter Tryz.func191, Tryz.ntmps191
  go_wp2_with fail
  refine (words_c _ c.p c.k _ H2.out).mono ?_
  rintro e w1 ⟨A, c1, rfl, g1, b1⟩
  rw [← HL.out] at g1
  have B1 := Lib.hid (below_both BZ.out b1)
  have G1 := Lib.hid g1
  have LO := Lib.hid (show w.heap.size ≤ (w.alloc (.cells #[.int .u8 x.κ, .slice x.A x.n x.c, .slice x.A2 x.n2 x.c2, .slice x.A3 x.n3 x.c3] 65)).heap.size by simp)
  generalize (w.alloc (.cells #[.int .u8 x.κ, .slice x.A x.n x.c, .slice x.A2 x.n2 x.c2, .slice x.A3 x.n3 x.c3] 65)).heap.size = lo at *
  clear g1 b1
  go_wp2
  go_loopw [9] (fun s9 wr => ∃ (k : Nat) (v' : Value), k ≤ 1024 ∧ s9 = .int .i64 k ∧ Hid (Wr wr base g n r v' (l ++ bdW (L.take k)) ∧ Ws g w1 v wr v')) (fun s9 _ => 1024 - (intOf s9).toNat)
  case atStart => exact ⟨0, v, Nat.zero_le _, rfl, Lib.hid ⟨by simpa [bdW] using H.out.step B1.out, Ws.refl g w1 v⟩⟩
  case round =>
    obtain ⟨k, v', hk, rfl, hj⟩ := hrel
    have HJ := Lib.hid hj.out
    by_cases hlt : k < 1024
    · have GK := hj.out.2.gs G1.out (Nat.le_refl _) (Nat.lt_of_lt_of_le H.out.lt LO.out) (fun x hx => Nat.lt_of_lt_of_le (H.out.olt hx).2 LO.out)
      obtain ⟨b, off, y, e1, -, hlo, hb1, hg, cq⟩ := gse_at GK (k := k) (by rw [HLN.out]; exact hlt)
      subst e1
      have hkl : (k : Int) < 1024 := by omega
      obtain ⟨N, hN⟩ : ∃ N, N = y.toNat := ⟨_, rfl⟩
      have c0 : wr.cell? ⟨b, off + k, none⟩ = some (.int .u64 N) := by rw [hN]; exact cq
      have HG := Lib.hid hg
      have HN := Lib.hid hN
      have HY := Lib.hid (show N < 18446744073709551616 by rw [hN]; exact y.toNat_lt)
      clear cq GK hlo hb1 hg hN hj
      go_wp2_with fail
      have hb2 := len_ok hb (bdW_takel L (k := k) (by rw [HLN.out]; exact hk)) hk rfl hmb.out
      have hc2 := wu64_c N wr HJ.out.1 HY.out (show (l ++ bdW (L.take k)).length ≤ 50000000 by rw [List.length_append]; exact hb2)
      refine hc2.mono ?_
      rintro e w3 ⟨rfl, v3, h3, s3⟩
      have HX : Hid (Wr w3 base g n r v3 (l ++ bdW (L.take (k + 1))) ∧ Ws g w1 v w3 v3) := Lib.hid ⟨by rw [bdW_take HG.out, ← HN.out, ← List.append_assoc]; exact h3, HJ.out.2.trans s3⟩
      clear h3 s3
      go_wp2
      exact ⟨⟨k + 1, v3, by omega, by go_num, HX⟩, by simp [intOf]; omega⟩
    · obtain rfl : k = 1024 := by omega
      have HX := HJ.out
      rw [← HLN.out, List.take_length] at HX
      have HX := Lib.hid HX
      clear hj
      go_wp2
      go_end0
      exact ⟨rfl, v', HX.out.1, HX.out.2.step B1.out H.out.lt⟩
end Go.Proofs.YtponcpneflhpfaaGreatDoor
namespace Go.Proofs.YtponcpneflhpfaaGreatDoor
open Go.RowKit
set_option linter.unusedVariables false

theorem len_ok2 {a b k n : Nat} (h : a ≤ 40000000) (hb : b = 4 * k) (hk : k ≤ n) (hn : n ≤ 65536) : a + (2 + b) + 2 ≤ 50000000 := by omega
set_option maxHeartbeats 4000000 in
theorem wruns_c {base g n : Nat} {r : Bool} {v : Value} {l : List UInt8} (x : Bd) (c : Ct) (w : World) (hT : Tb w) (h : Wr w base g n r v l) (hc : Cn (fun b => b < base) w x.val c.p c.k) (hb : l.length ≤ 40000000) :
    Calls Tryz.prog 192 #[.pointer (some ⟨g, 0, none⟩), x.val] w (Wo w base g n r v (l ++ (le 2 c.m ++ bdP (rs c.p 65536)))) := by
  obtain ⟨m, hm⟩ : ∃ m, ct (hm c.p) 65536 = m := ⟨_, rfl⟩
  have hmi : (m : Int) ≤ 32768 := by have := c.m_le; unfold Ct.m at this; omega
  have hcm : c.m = m := hm
  rw [hcm]
  have hmb := Lib.hid (show m ≤ 65536 by omega)
  have hm2 := Lib.hid (show m < 65536 by omega)
  have bz := bxr w 65 #[.int .u8 x.κ, .slice x.A x.n x.c, .slice x.A2 x.n2 x.c2, .slice x.A3 x.n3 x.c3]
  have TT := Lib.hid hT
  have H := Lib.hid h
  have H2 := Lib.hid (hc.step bz)
  have BZ := Lib.hid bz
  obtain ⟨L, hL⟩ : ∃ L, L = rs c.p 65536 := ⟨_, rfl⟩
  have hl : L.length = m := by rw [hL, rs_len]; exact hm
  rw [← hL]
  have HL := Lib.hid hL
  have HLN := Lib.hid hl
  have hw16 : IntKind.u16.wrap (m : Int) = (m : Int) := by rw [IntKind.wrap_u16]; omega
  clear hT h hc bz hL hl hcm
  go_enter Tryz.func192, Tryz.ntmps192
  go_wp2_with fail
  refine (runs_c _ c.p c.k m _ (TT.out.step BZ.out) hm H2.out).mono ?_
  rintro e w1 ⟨A, c1, rfl, g1, b1⟩
  rw [← HL.out] at g1
  have B1 := Lib.hid (below_both BZ.out b1)
  have G1 := Lib.hid g1
  have LO := Lib.hid (show w.heap.size ≤ (w.alloc (.cells #[.int .u8 x.κ, .slice x.A x.n x.c, .slice x.A2 x.n2 x.c2, .slice x.A3 x.n3 x.c3] 65)).heap.size by simp)
  generalize (w.alloc (.cells #[.int .u8 x.κ, .slice x.A x.n x.c, .slice x.A2 x.n2 x.c2, .slice x.A3 x.n3 x.c3] 65)).heap.size = lo at *
  clear g1 b1
  go_wp2_with fail
  refine (wu16_c m w1 (H.out.step B1.out) hm2.out (by omega)).mono ?_
  rintro e w2 ⟨rfl, v2, h2, s2⟩
  have HW := Lib.hid h2
  have SW := Lib.hid s2
  clear h2 s2
  go_wp2
  go_loopw [16] (fun s9 wr => ∃ (k : Nat) (v' : Value), k ≤ m ∧ s9 = .int .i64 k ∧ Hid (Wr wr base g n r v' (l ++ (le 2 m ++ bdP (L.take k))) ∧ Ws g w1 v wr v')) (fun s9 _ => m - (intOf s9).toNat)
  case atStart => exact ⟨0, v2, Nat.zero_le _, rfl, Lib.hid ⟨by simpa [bdP] using HW.out, SW.out⟩⟩
  case round =>
    obtain ⟨k, v', hk, rfl, hj⟩ := hrel
    have HJ := Lib.hid hj.out
    by_cases hlt : k < m
    · have GK := hj.out.2.gs2 G1.out (Nat.le_refl _) (Nat.lt_of_lt_of_le H.out.lt LO.out) (fun x hx => Nat.lt_of_lt_of_le (H.out.olt hx).2 LO.out)
      obtain ⟨b, off, y, e1, -, hb1, -, hg, cq, cr⟩ := gs2_at GK (k := k) (by rw [HLN.out]; exact hlt)
      subst e1
      have hkl : (k : Int) < m := by omega
      obtain ⟨N, hN⟩ : ∃ N, N = y.1.toNat := ⟨_, rfl⟩
      obtain ⟨M, hM⟩ : ∃ M, M = y.2.toNat := ⟨_, rfl⟩
      have c0 : wr.cell? ⟨b, off + k * 2, none⟩ = some (.int .u16 N) := by rw [hN]; exact cq
      have c2 : wr.cell? ⟨b, off + k * 2 + 1, none⟩ = some (.int .u16 M) := by rw [hM]; exact cr
      have HG := Lib.hid hg
      have HN := Lib.hid hN
      have HM := Lib.hid hM
      have HY := Lib.hid (show N < 65536 by rw [hN]; exact y.1.toNat_lt)
      have HZ := Lib.hid (show M < 65536 by rw [hM]; exact y.2.toNat_lt)
      have bz := bxr wr 130 #[.int .u16 N, .int .u16 M]
      have R0 := Row.new wr 130 #[.int .u16 N, .int .u16 M]
      have BX := Lib.hid bz
      have RX := Lib.hid R0
      have glt := Lib.hid (Nat.lt_of_lt_of_le H.out.lt (Nat.le_trans B1.out.size hj.out.2.size))
      have GQ := Lib.hid (show ∀ q, v'.ownBlock = some q → q < wr.heap.size from fun q hq => (HJ.out.1.olt hq).2)
      clear cq cr GK hb1 hg hN hM hj bz R0
      go_wp2_with fail
      generalize wr.alloc (.cells #[.int .u16 N, .int .u16 M] 130) = W0 at *
      have hb2 := len_ok hb (bdP_takel L (k := k) (by rw [HLN.out]; exact hk)) hk rfl hmb.out
      have hc2 := wu16_c N W0 (HJ.out.1.step BX.out) HY.out (show (l ++ (le 2 m ++ bdP (L.take k))).length ≤ 50000000 by rw [List.length_append, List.length_append, le_length]; have := len_ok2 hb (bdP_takel L (k := k) (by rw [HLN.out]; exact hk)) hk hmb.out; omega)
      refine hc2.mono ?_
      rintro e w3 ⟨rfl, v3, h3, s3⟩
      have R3 : Row w3 wr.heap.size 130 #[.int .u16 N, .int .u16 M] := RX.out.keep (s3.off.block _ RX.out.lt (by
        rintro (e | e)
        · have := glt.out; omega
        · have := GQ.out _ e; omega))
      have k0 := R3.cell 0
      have k1 := R3.cell 1
      have H3 := Lib.hid h3
      have S3 := Lib.hid s3
      clear hb2 hc2 h3 s3 R3
      go_wp2_with fail
      have hc3 := wu16_c M w3 H3.out HZ.out (show (l ++ (le 2 m ++ bdP (L.take k)) ++ le 2 N).length ≤ 50000000 by rw [List.length_append, List.length_append, List.length_append, le_length, le_length]; have := len_ok2 hb (bdP_takel L (k := k) (by rw [HLN.out]; exact hk)) hk hmb.out; omega)
      refine hc3.mono ?_
      rintro e w4 ⟨rfl, v4, h4, s4⟩
      have HX : Hid (Wr w4 base g n r v4 (l ++ (le 2 m ++ bdP (L.take (k + 1)))) ∧ Ws g w1 v w4 v4) := Lib.hid ⟨by rw [bdP_take HG.out, ← HN.out, ← HM.out]; simpa only [List.append_assoc] using h4, (HJ.out.2.then BX.out).trans ((S3.out).trans s4)⟩
      clear h4 s4 hc3
      go_wp2
      exact ⟨⟨k + 1, v4, by omega, by go_num, HX⟩, by simp [intOf]; omega⟩
    · obtain rfl : k = m := by omega
      have HX := HJ.out
      rw [← HLN.out, List.take_length, HLN.out] at HX
      have HX := Lib.hid HX
      clear hj
      go_wp2
      go_end0
      exact ⟨rfl, v', HX.out.1, HX.out.2.step B1.out H.out.lt⟩
set_option maxHeartbeats 4000000 in
theorem wcontainer_1 {base g n : Nat} {r : Bool} {v : Value} {l : List UInt8} (x : Bd) (c : Ct) (w : World) (hT : Tb w) (h : Wr w base g n r v l) (hc : Cn (fun b => b < base) w x.val c.p c.k) (hk : c.k = 1) (hb : l.length ≤ 40000000) :
    Calls Tryz.prog 118 #[.pointer (some ⟨g, 0, none⟩), x.val] w (Wo w base g n r v (l ++ (bdA (ls c.p 65536)))) := by
  have TT := Lib.hid hT
  have H := Lib.hid h
  have HC := Lib.hid hc
  have HK := Lib.hid (show (c.k : Int) = 1 by omega)
  have T := two_blocks w #[.int .u8 x.κ, .slice x.A x.n x.c, .slice x.A2 x.n2 x.c2, .slice x.A3 x.n3 x.c3] #[.nilFunc, .func (.func 190) #[.pointer (some ⟨g, 0, none⟩)] #[], .func (.func 191) #[.pointer (some ⟨g, 0, none⟩)] #[], .func (.func 192) #[.pointer (some ⟨g, 0, none⟩)] #[]] 65 218
  clear hT h hc hk
  go_enter Tryz.func118, Tryz.ntmps118
  go_wp2_with fail
  generalize (w.alloc (.cells #[.int .u8 x.κ, .slice x.A x.n x.c, .slice x.A2 x.n2 x.c2, .slice x.A3 x.n3 x.c3] 65)).alloc (.cells #[.nilFunc, .func (.func 190) #[.pointer (some ⟨g, 0, none⟩)] #[], .func (.func 191) #[.pointer (some ⟨g, 0, none⟩)] #[], .func (.func 192) #[.pointer (some ⟨g, 0, none⟩)] #[]] 218) = W0 at *
  obtain ⟨b0, r0, r1⟩ := T
  have hSc := (show (fun W => Row W w.heap.size 65 #[.int .u8 x.κ, .slice x.A x.n x.c, .slice x.A2 x.n2 x.c2, .slice x.A3 x.n3 x.c3] ∧ Row W (w.heap.size + 1) 218 #[.nilFunc, .func (.func 190) #[.pointer (some ⟨g, 0, none⟩)] #[], .func (.func 191) #[.pointer (some ⟨g, 0, none⟩)] #[], .func (.func 192) #[.pointer (some ⟨g, 0, none⟩)] #[]]) W0.drew from ⟨r0, r1⟩)
  refine wp_region_held_drew (S := fun W => Row W w.heap.size 65 #[.int .u8 x.κ, .slice x.A x.n x.c, .slice x.A2 x.n2 x.c2, .slice x.A3 x.n3 x.c3] ∧ Row W (w.heap.size + 1) 218 #[.nilFunc, .func (.func 190) #[.pointer (some ⟨g, 0, none⟩)] #[], .func (.func 191) #[.pointer (some ⟨g, 0, none⟩)] #[], .func (.func 192) #[.pointer (some ⟨g, 0, none⟩)] #[]]) (by kernel_rfl) hSc (fun _ => ?_)
  have hB := b0.drew
  refine held_take 0 ?_ rfl (by kernel_rfl) (by kernel_rfl) (by kernel_rfl) (fun _ _ _ h => h) (by rfl) ?_ hSc ?_
  rotate_left
  · (intro W hSW; have k0 := hSW.1.cell 0; have k1 := hSW.1.cell 1; have k2 := hSW.1.cell 2; have k3 := hSW.1.cell 3; go_simp; try rfl)
  try simp only [Act.put, List.setIfInBounds_toArray, List.set_cons_zero, List.set_cons_succ]
  refine held_take 4 ?_ rfl (by kernel_rfl) (by kernel_rfl) (by kernel_rfl) (fun _ _ _ h => h) (by rfl) ?_ hSc ?_
  rotate_left
  · (intro W hSW; have k0 := hSW.1.cell 0; have k1 := hSW.1.cell 1; have k2 := hSW.1.cell 2; have k3 := hSW.1.cell 3; go_simp; try rfl)
  try simp only [Act.put, List.setIfInBounds_toArray, List.set_cons_zero, List.set_cons_succ]
  refine held_next 1 rfl (by kernel_rfl) (by rfl) ?_
  go_simp
  refine (kindz_c _ c.p c.k 1 _ (HC.out.step hB) HK.out).mono ?_
  rintro e wq1 ⟨rfl, bq⟩
  have hB := below_both hB bq
  have hSd : (fun W => Row W w.heap.size 65 #[.int .u8 x.κ, .slice x.A x.n x.c, .slice x.A2 x.n2 x.c2, .slice x.A3 x.n3 x.c3] ∧ Row W (w.heap.size + 1) 218 #[.nilFunc, .func (.func 190) #[.pointer (some ⟨g, 0, none⟩)] #[], .func (.func 191) #[.pointer (some ⟨g, 0, none⟩)] #[], .func (.func 192) #[.pointer (some ⟨g, 0, none⟩)] #[]]) wq1 := ⟨hSc.1.below bq hSc.1.lt, hSc.2.below bq hSc.2.lt⟩
  refine ⟨fun W => Row W w.heap.size 65 #[.int .u8 x.κ, .slice x.A x.n x.c, .slice x.A2 x.n2 x.c2, .slice x.A3 x.n3 x.c3] ∧ Row W (w.heap.size + 1) 218 #[.nilFunc, .func (.func 190) #[.pointer (some ⟨g, 0, none⟩)] #[], .func (.func 191) #[.pointer (some ⟨g, 0, none⟩)] #[], .func (.func 192) #[.pointer (some ⟨g, 0, none⟩)] #[]], fun W hW => hW, hSd, ?_⟩
  clear hSc bq
  have hSc := hSd
  clear hSd
  try simp only [Act.put, List.setIfInBounds_toArray, List.set_cons_zero, List.set_cons_succ]
  refine held_take 2 ?_ rfl (by kernel_rfl) (by kernel_rfl) (by kernel_rfl) (fun _ _ _ h => h) (by rfl) ?_ hSc ?_
  rotate_left
  · (intro W hSW; go_simp; try rfl)
  try simp only [Act.put, List.setIfInBounds_toArray, List.set_cons_zero, List.set_cons_succ]
  refine held_take 3 ?_ rfl (by kernel_rfl) (by kernel_rfl) (by kernel_rfl) (fun _ _ _ h => h) (by rfl) ?_ hSc ?_
  rotate_left
  · (intro W hSW; have k0 := hSW.2.cell 1; go_simp; try rfl)
  try simp only [Act.put, List.setIfInBounds_toArray, List.set_cons_zero, List.set_cons_succ]
  refine held_next 5 rfl (by kernel_rfl) (by rfl) ?_
  go_simp
  refine (warray_c x c _ (TT.out.step hB) (H.out.step hB) (HC.out.step hB) hb).mono ?_
  rintro e w3 ⟨rfl, v3, h3, s3⟩
  have hx : ∀ q, w.heap.size ≤ q → ¬ (q = g ∨ v.ownBlock = some q) := fun q hq hm => by
    rcases hm with e | e
    · have := H.out.lt; omega
    · have := (H.out.olt e).2; omega
  have HX : Hid (Wr w3 base g n r v3 (l ++ (bdA (ls c.p 65536))) ∧ Ws g w v w3 v3) := Lib.hid ⟨h3, s3.step hB H.out.lt⟩
  have hR := (show Row w3 w.heap.size 65 #[.int .u8 x.κ, .slice x.A x.n x.c, .slice x.A2 x.n2 x.c2, .slice x.A3 x.n3 x.c3] ∧ Row w3 (w.heap.size + 1) 218 #[.nilFunc, .func (.func 190) #[.pointer (some ⟨g, 0, none⟩)] #[], .func (.func 191) #[.pointer (some ⟨g, 0, none⟩)] #[], .func (.func 192) #[.pointer (some ⟨g, 0, none⟩)] #[]] from ⟨hSc.1.keep (s3.off.block _ hSc.1.lt (hx _ (Nat.le_refl _))), hSc.2.keep (s3.off.block _ hSc.2.lt (hx _ (by omega)))⟩)
  refine ⟨fun W => Row W w.heap.size 65 #[.int .u8 x.κ, .slice x.A x.n x.c, .slice x.A2 x.n2 x.c2, .slice x.A3 x.n3 x.c3] ∧ Row W (w.heap.size + 1) 218 #[.nilFunc, .func (.func 190) #[.pointer (some ⟨g, 0, none⟩)] #[], .func (.func 191) #[.pointer (some ⟨g, 0, none⟩)] #[], .func (.func 192) #[.pointer (some ⟨g, 0, none⟩)] #[]], fun W hW => hW, hR, ?_⟩
  refine wpAnyH_done (by kernel_rfl) ?_ _
  clear hSc hR hB
  go_wp2
  go_end0
  exact ⟨rfl, v3, HX.out⟩
set_option maxHeartbeats 4000000 in
theorem wcontainer_2 {base g n : Nat} {r : Bool} {v : Value} {l : List UInt8} (x : Bd) (c : Ct) (w : World) (hT : Tb w) (h : Wr w base g n r v l) (hc : Cn (fun b => b < base) w x.val c.p c.k) (hk : c.k = 2) (hb : l.length ≤ 40000000) :
    Calls Tryz.prog 118 #[.pointer (some ⟨g, 0, none⟩), x.val] w (Wo w base g n r v (l ++ (bdW (wm c.p)))) := by
  have TT := Lib.hid hT
  have H := Lib.hid h
  have HC := Lib.hid hc
  have HK := Lib.hid (show (c.k : Int) = 2 by omega)
  have T := two_blocks w #[.int .u8 x.κ, .slice x.A x.n x.c, .slice x.A2 x.n2 x.c2, .slice x.A3 x.n3 x.c3] #[.nilFunc, .func (.func 190) #[.pointer (some ⟨g, 0, none⟩)] #[], .func (.func 191) #[.pointer (some ⟨g, 0, none⟩)] #[], .func (.func 192) #[.pointer (some ⟨g, 0, none⟩)] #[]] 65 218
  clear hT h hc hk
  go_enter Tryz.func118, Tryz.ntmps118
  go_wp2_with fail
  generalize (w.alloc (.cells #[.int .u8 x.κ, .slice x.A x.n x.c, .slice x.A2 x.n2 x.c2, .slice x.A3 x.n3 x.c3] 65)).alloc (.cells #[.nilFunc, .func (.func 190) #[.pointer (some ⟨g, 0, none⟩)] #[], .func (.func 191) #[.pointer (some ⟨g, 0, none⟩)] #[], .func (.func 192) #[.pointer (some ⟨g, 0, none⟩)] #[]] 218) = W0 at *
  obtain ⟨b0, r0, r1⟩ := T
  have hSc := (show (fun W => Row W w.heap.size 65 #[.int .u8 x.κ, .slice x.A x.n x.c, .slice x.A2 x.n2 x.c2, .slice x.A3 x.n3 x.c3] ∧ Row W (w.heap.size + 1) 218 #[.nilFunc, .func (.func 190) #[.pointer (some ⟨g, 0, none⟩)] #[], .func (.func 191) #[.pointer (some ⟨g, 0, none⟩)] #[], .func (.func 192) #[.pointer (some ⟨g, 0, none⟩)] #[]]) W0.drew from ⟨r0, r1⟩)
  refine wp_region_held_drew (S := fun W => Row W w.heap.size 65 #[.int .u8 x.κ, .slice x.A x.n x.c, .slice x.A2 x.n2 x.c2, .slice x.A3 x.n3 x.c3] ∧ Row W (w.heap.size + 1) 218 #[.nilFunc, .func (.func 190) #[.pointer (some ⟨g, 0, none⟩)] #[], .func (.func 191) #[.pointer (some ⟨g, 0, none⟩)] #[], .func (.func 192) #[.pointer (some ⟨g, 0, none⟩)] #[]]) (by kernel_rfl) hSc (fun _ => ?_)
  have hB := b0.drew
  refine held_take 0 ?_ rfl (by kernel_rfl) (by kernel_rfl) (by kernel_rfl) (fun _ _ _ h => h) (by rfl) ?_ hSc ?_
  rotate_left
  · (intro W hSW; have k0 := hSW.1.cell 0; have k1 := hSW.1.cell 1; have k2 := hSW.1.cell 2; have k3 := hSW.1.cell 3; go_simp; try rfl)
  try simp only [Act.put, List.setIfInBounds_toArray, List.set_cons_zero, List.set_cons_succ]
  refine held_take 4 ?_ rfl (by kernel_rfl) (by kernel_rfl) (by kernel_rfl) (fun _ _ _ h => h) (by rfl) ?_ hSc ?_
  rotate_left
  · (intro W hSW; have k0 := hSW.1.cell 0; have k1 := hSW.1.cell 1; have k2 := hSW.1.cell 2; have k3 := hSW.1.cell 3; go_simp; try rfl)
  try simp only [Act.put, List.setIfInBounds_toArray, List.set_cons_zero, List.set_cons_succ]
  refine held_next 1 rfl (by kernel_rfl) (by rfl) ?_
  go_simp
  refine (kindz_c _ c.p c.k 2 _ (HC.out.step hB) HK.out).mono ?_
  rintro e wq1 ⟨rfl, bq⟩
  have hB := below_both hB bq
  have hSd : (fun W => Row W w.heap.size 65 #[.int .u8 x.κ, .slice x.A x.n x.c, .slice x.A2 x.n2 x.c2, .slice x.A3 x.n3 x.c3] ∧ Row W (w.heap.size + 1) 218 #[.nilFunc, .func (.func 190) #[.pointer (some ⟨g, 0, none⟩)] #[], .func (.func 191) #[.pointer (some ⟨g, 0, none⟩)] #[], .func (.func 192) #[.pointer (some ⟨g, 0, none⟩)] #[]]) wq1 := ⟨hSc.1.below bq hSc.1.lt, hSc.2.below bq hSc.2.lt⟩
  refine ⟨fun W => Row W w.heap.size 65 #[.int .u8 x.κ, .slice x.A x.n x.c, .slice x.A2 x.n2 x.c2, .slice x.A3 x.n3 x.c3] ∧ Row W (w.heap.size + 1) 218 #[.nilFunc, .func (.func 190) #[.pointer (some ⟨g, 0, none⟩)] #[], .func (.func 191) #[.pointer (some ⟨g, 0, none⟩)] #[], .func (.func 192) #[.pointer (some ⟨g, 0, none⟩)] #[]], fun W hW => hW, hSd, ?_⟩
  clear hSc bq
  have hSc := hSd
  clear hSd
  try simp only [Act.put, List.setIfInBounds_toArray, List.set_cons_zero, List.set_cons_succ]
  refine held_take 2 ?_ rfl (by kernel_rfl) (by kernel_rfl) (by kernel_rfl) (fun _ _ _ h => h) (by rfl) ?_ hSc ?_
  rotate_left
  · (intro W hSW; go_simp; try rfl)
  try simp only [Act.put, List.setIfInBounds_toArray, List.set_cons_zero, List.set_cons_succ]
  refine held_take 3 ?_ rfl (by kernel_rfl) (by kernel_rfl) (by kernel_rfl) (fun _ _ _ h => h) (by rfl) ?_ hSc ?_
  rotate_left
  · (intro W hSW; have k0 := hSW.2.cell 2; go_simp; try rfl)
  try simp only [Act.put, List.setIfInBounds_toArray, List.set_cons_zero, List.set_cons_succ]
  refine held_next 5 rfl (by kernel_rfl) (by rfl) ?_
  go_simp
  refine (wwords_c x c _ (TT.out.step hB) (H.out.step hB) (HC.out.step hB) hb).mono ?_
  rintro e w3 ⟨rfl, v3, h3, s3⟩
  have hx : ∀ q, w.heap.size ≤ q → ¬ (q = g ∨ v.ownBlock = some q) := fun q hq hm => by
    rcases hm with e | e
    · have := H.out.lt; omega
    · have := (H.out.olt e).2; omega
  have HX : Hid (Wr w3 base g n r v3 (l ++ (bdW (wm c.p))) ∧ Ws g w v w3 v3) := Lib.hid ⟨h3, s3.step hB H.out.lt⟩
  have hR := (show Row w3 w.heap.size 65 #[.int .u8 x.κ, .slice x.A x.n x.c, .slice x.A2 x.n2 x.c2, .slice x.A3 x.n3 x.c3] ∧ Row w3 (w.heap.size + 1) 218 #[.nilFunc, .func (.func 190) #[.pointer (some ⟨g, 0, none⟩)] #[], .func (.func 191) #[.pointer (some ⟨g, 0, none⟩)] #[], .func (.func 192) #[.pointer (some ⟨g, 0, none⟩)] #[]] from ⟨hSc.1.keep (s3.off.block _ hSc.1.lt (hx _ (Nat.le_refl _))), hSc.2.keep (s3.off.block _ hSc.2.lt (hx _ (by omega)))⟩)
  refine ⟨fun W => Row W w.heap.size 65 #[.int .u8 x.κ, .slice x.A x.n x.c, .slice x.A2 x.n2 x.c2, .slice x.A3 x.n3 x.c3] ∧ Row W (w.heap.size + 1) 218 #[.nilFunc, .func (.func 190) #[.pointer (some ⟨g, 0, none⟩)] #[], .func (.func 191) #[.pointer (some ⟨g, 0, none⟩)] #[], .func (.func 192) #[.pointer (some ⟨g, 0, none⟩)] #[]], fun W hW => hW, hR, ?_⟩
  refine wpAnyH_done (by kernel_rfl) ?_ _
  clear hSc hR hB
  go_wp2
  go_end0
  exact ⟨rfl, v3, HX.out⟩
set_option maxHeartbeats 4000000 in
theorem wcontainer_3 {base g n : Nat} {r : Bool} {v : Value} {l : List UInt8} (x : Bd) (c : Ct) (w : World) (hT : Tb w) (h : Wr w base g n r v l) (hc : Cn (fun b => b < base) w x.val c.p c.k) (hk : c.k = 3) (hb : l.length ≤ 40000000) :
    Calls Tryz.prog 118 #[.pointer (some ⟨g, 0, none⟩), x.val] w (Wo w base g n r v (l ++ (le 2 c.m ++ bdP (rs c.p 65536)))) := by
  have TT := Lib.hid hT
  have H := Lib.hid h
  have HC := Lib.hid hc
  have HK := Lib.hid (show (c.k : Int) = 3 by omega)
  have T := two_blocks w #[.int .u8 x.κ, .slice x.A x.n x.c, .slice x.A2 x.n2 x.c2, .slice x.A3 x.n3 x.c3] #[.nilFunc, .func (.func 190) #[.pointer (some ⟨g, 0, none⟩)] #[], .func (.func 191) #[.pointer (some ⟨g, 0, none⟩)] #[], .func (.func 192) #[.pointer (some ⟨g, 0, none⟩)] #[]] 65 218
  clear hT h hc hk
  go_enter Tryz.func118, Tryz.ntmps118
  go_wp2_with fail
  generalize (w.alloc (.cells #[.int .u8 x.κ, .slice x.A x.n x.c, .slice x.A2 x.n2 x.c2, .slice x.A3 x.n3 x.c3] 65)).alloc (.cells #[.nilFunc, .func (.func 190) #[.pointer (some ⟨g, 0, none⟩)] #[], .func (.func 191) #[.pointer (some ⟨g, 0, none⟩)] #[], .func (.func 192) #[.pointer (some ⟨g, 0, none⟩)] #[]] 218) = W0 at *
  obtain ⟨b0, r0, r1⟩ := T
  have hSc := (show (fun W => Row W w.heap.size 65 #[.int .u8 x.κ, .slice x.A x.n x.c, .slice x.A2 x.n2 x.c2, .slice x.A3 x.n3 x.c3] ∧ Row W (w.heap.size + 1) 218 #[.nilFunc, .func (.func 190) #[.pointer (some ⟨g, 0, none⟩)] #[], .func (.func 191) #[.pointer (some ⟨g, 0, none⟩)] #[], .func (.func 192) #[.pointer (some ⟨g, 0, none⟩)] #[]]) W0.drew from ⟨r0, r1⟩)
  refine wp_region_held_drew (S := fun W => Row W w.heap.size 65 #[.int .u8 x.κ, .slice x.A x.n x.c, .slice x.A2 x.n2 x.c2, .slice x.A3 x.n3 x.c3] ∧ Row W (w.heap.size + 1) 218 #[.nilFunc, .func (.func 190) #[.pointer (some ⟨g, 0, none⟩)] #[], .func (.func 191) #[.pointer (some ⟨g, 0, none⟩)] #[], .func (.func 192) #[.pointer (some ⟨g, 0, none⟩)] #[]]) (by kernel_rfl) hSc (fun _ => ?_)
  have hB := b0.drew
  refine held_take 0 ?_ rfl (by kernel_rfl) (by kernel_rfl) (by kernel_rfl) (fun _ _ _ h => h) (by rfl) ?_ hSc ?_
  rotate_left
  · (intro W hSW; have k0 := hSW.1.cell 0; have k1 := hSW.1.cell 1; have k2 := hSW.1.cell 2; have k3 := hSW.1.cell 3; go_simp; try rfl)
  try simp only [Act.put, List.setIfInBounds_toArray, List.set_cons_zero, List.set_cons_succ]
  refine held_take 4 ?_ rfl (by kernel_rfl) (by kernel_rfl) (by kernel_rfl) (fun _ _ _ h => h) (by rfl) ?_ hSc ?_
  rotate_left
  · (intro W hSW; have k0 := hSW.1.cell 0; have k1 := hSW.1.cell 1; have k2 := hSW.1.cell 2; have k3 := hSW.1.cell 3; go_simp; try rfl)
  try simp only [Act.put, List.setIfInBounds_toArray, List.set_cons_zero, List.set_cons_succ]
  refine held_next 1 rfl (by kernel_rfl) (by rfl) ?_
  go_simp
  refine (kindz_c _ c.p c.k 3 _ (HC.out.step hB) HK.out).mono ?_
  rintro e wq1 ⟨rfl, bq⟩
  have hB := below_both hB bq
  have hSd : (fun W => Row W w.heap.size 65 #[.int .u8 x.κ, .slice x.A x.n x.c, .slice x.A2 x.n2 x.c2, .slice x.A3 x.n3 x.c3] ∧ Row W (w.heap.size + 1) 218 #[.nilFunc, .func (.func 190) #[.pointer (some ⟨g, 0, none⟩)] #[], .func (.func 191) #[.pointer (some ⟨g, 0, none⟩)] #[], .func (.func 192) #[.pointer (some ⟨g, 0, none⟩)] #[]]) wq1 := ⟨hSc.1.below bq hSc.1.lt, hSc.2.below bq hSc.2.lt⟩
  refine ⟨fun W => Row W w.heap.size 65 #[.int .u8 x.κ, .slice x.A x.n x.c, .slice x.A2 x.n2 x.c2, .slice x.A3 x.n3 x.c3] ∧ Row W (w.heap.size + 1) 218 #[.nilFunc, .func (.func 190) #[.pointer (some ⟨g, 0, none⟩)] #[], .func (.func 191) #[.pointer (some ⟨g, 0, none⟩)] #[], .func (.func 192) #[.pointer (some ⟨g, 0, none⟩)] #[]], fun W hW => hW, hSd, ?_⟩
  clear hSc bq
  have hSc := hSd
  clear hSd
  try simp only [Act.put, List.setIfInBounds_toArray, List.set_cons_zero, List.set_cons_succ]
  refine held_take 2 ?_ rfl (by kernel_rfl) (by kernel_rfl) (by kernel_rfl) (fun _ _ _ h => h) (by rfl) ?_ hSc ?_
  rotate_left
  · (intro W hSW; go_simp; try rfl)
  try simp only [Act.put, List.setIfInBounds_toArray, List.set_cons_zero, List.set_cons_succ]
  refine held_take 3 ?_ rfl (by kernel_rfl) (by kernel_rfl) (by kernel_rfl) (fun _ _ _ h => h) (by rfl) ?_ hSc ?_
  rotate_left
  · (intro W hSW; have k0 := hSW.2.cell 3; go_simp; try rfl)
  try simp only [Act.put, List.setIfInBounds_toArray, List.set_cons_zero, List.set_cons_succ]
  refine held_next 5 rfl (by kernel_rfl) (by rfl) ?_
  go_simp
  refine (wruns_c x c _ (TT.out.step hB) (H.out.step hB) (HC.out.step hB) hb).mono ?_
  rintro e w3 ⟨rfl, v3, h3, s3⟩
  have hx : ∀ q, w.heap.size ≤ q → ¬ (q = g ∨ v.ownBlock = some q) := fun q hq hm => by
    rcases hm with e | e
    · have := H.out.lt; omega
    · have := (H.out.olt e).2; omega
  have HX : Hid (Wr w3 base g n r v3 (l ++ (le 2 c.m ++ bdP (rs c.p 65536))) ∧ Ws g w v w3 v3) := Lib.hid ⟨h3, s3.step hB H.out.lt⟩
  have hR := (show Row w3 w.heap.size 65 #[.int .u8 x.κ, .slice x.A x.n x.c, .slice x.A2 x.n2 x.c2, .slice x.A3 x.n3 x.c3] ∧ Row w3 (w.heap.size + 1) 218 #[.nilFunc, .func (.func 190) #[.pointer (some ⟨g, 0, none⟩)] #[], .func (.func 191) #[.pointer (some ⟨g, 0, none⟩)] #[], .func (.func 192) #[.pointer (some ⟨g, 0, none⟩)] #[]] from ⟨hSc.1.keep (s3.off.block _ hSc.1.lt (hx _ (Nat.le_refl _))), hSc.2.keep (s3.off.block _ hSc.2.lt (hx _ (by omega)))⟩)
  refine ⟨fun W => Row W w.heap.size 65 #[.int .u8 x.κ, .slice x.A x.n x.c, .slice x.A2 x.n2 x.c2, .slice x.A3 x.n3 x.c3] ∧ Row W (w.heap.size + 1) 218 #[.nilFunc, .func (.func 190) #[.pointer (some ⟨g, 0, none⟩)] #[], .func (.func 191) #[.pointer (some ⟨g, 0, none⟩)] #[], .func (.func 192) #[.pointer (some ⟨g, 0, none⟩)] #[]], fun W hW => hW, hR, ?_⟩
  refine wpAnyH_done (by kernel_rfl) ?_ _
  clear hSc hR hB
  go_wp2
  go_end0
  exact ⟨rfl, v3, HX.out⟩
theorem wcontainer_c {base g n : Nat} {r : Bool} {v : Value} {l : List UInt8} (x : Bd) (c : Ct) (w : World) (hT : Tb w) (h : Wr w base g n r v l) (hc : Cn (fun b => b < base) w x.val c.p c.k) (hb : l.length ≤ 40000000) :
    Calls Tryz.prog 118 #[.pointer (some ⟨g, 0, none⟩), x.val] w (Wo w base g n r v (l ++ c.body)) := by
  unfold Ct.body
  have h1 := wcontainer_1 x c w hT h hc
  have h2 := wcontainer_2 x c w hT h hc
  have h3 := wcontainer_3 x c w hT h hc
  unfold Ct.k at h1 h2 h3
  cases hr : c.r with
  | true => simp only [hr, if_true] at h3 ⊢; exact h3 trivial hb
  | false =>
    by_cases hn : c.n ≤ 4096
    · rw [hr] at h1
      rw [if_neg (by simp), if_pos hn]
      exact h1 (by simp [hn]) hb
    · rw [hr] at h2
      rw [if_neg (by simp), if_neg hn]
      exact h2 (by simp [hn]) hb
end Go.Proofs.YtponcpneflhpfaaGreatDoor
