/- Walks: OfWords, OfRuns; the document's canonical kind; a set made as a kind. -/
import Derived.Test.YtponcpneflhpfaaGreatDoorSd4
import Derived.Test.YtponcpneflhpfaaGreatDoorSd6
import Derived.Test.YtponcpneflhpfaaGreatDoorSa9
import Derived.Test.YtponcpneflhpfaaGreatDoorSb7
import Derived.Test.YtponcpneflhpfaaGreatDoorSc1
import Derived.Test.YtponcpneflhpfaaGreatDoorSb9
import Derived.Test.YtponcpneflhpfaaGreatDoorSb1
namespace Go.Proofs.YtponcpneflhpfaaGreatDoor
open Go.RowKit
set_option linter.unusedVariables false

theorem hdr_take {cs : List Ct} {k : Nat} {c : Ct} (h : cs[k]? = some c) : hdr (cs.take (k + 1)) = hdr (cs.take k) ++ (le 2 c.key.toNat ++ le 2 (c.n - 1)) := flatMap_take _ h
theorem hdr_takel (cs : List Ct) {k : Nat} (h : k ≤ cs.length) : (hdr (cs.take k)).length = 4 * k := by rw [hdr_len, List.length_take]; omega
theorem len_ok3 {a b c k n : Nat} (h : a ≤ 40000000) (hb : b = 4 * k) (hk : k ≤ n) (hn : n ≤ 65536) (hc : c ≤ 8) : a + b + c ≤ 50000000 := by omega
set_option maxHeartbeats 4000000 in
theorem wheader_c {base g n lo : Nat} {r : Bool} {v u kv : Value} {l : List UInt8} (bs : List Bd) (cs : List Ct) (w : World) (hc : Cb base w u bs cs) (hcn : cs.length = n) (h : Wr w base g n r v l) (hkv : Gs e16 w lo w.heap.size kv (cs.map Ct.key)) (hlo : base ≤ lo) (hg : g < lo) (ho : ∀ x, v.ownBlock = some x → x < lo) (hok : ∀ c ∈ cs, c.ok) (hn : n ≤ 65536) (hb : l.length ≤ 40000000) :
    Calls Tryz.prog 116 #[.pointer (some ⟨g, 0, none⟩), kv, u] w (Wo w base g n r v (l ++ hdr cs)) := by
  have hni : (n : Int) ≤ 65536 := by omega
  have HC := Lib.hid hc
  have HCN := Lib.hid hcn
  have HNB := Lib.hid hn
  have HOK := Lib.hid hok
  have HKV := Lib.hid hkv
  have HG := Lib.hid hg
  have HO := Lib.hid ho
  obtain ⟨A, c, rfl, -⟩ := hc.sl
  obtain ⟨A3, c3, rfl, -⟩ := hkv
  have hbl := hc.len
  rw [List.length_map, hcn] at HKV ⊢
  rw [hbl, hcn] at HC ⊢
  have H := Lib.hid h
  have HB0 : Hid (base ≤ w.heap.size) := Lib.hid (Nat.le_of_lt (Nat.lt_of_le_of_lt h.ge h.lt))
  clear h hc hcn hbl hn hok hg ho hlo
  go_enter Tryz.func116, Tryz.ntmps116
  go_wp2
  go_loopw [10] (fun s9 wr => ∃ (k : Nat) (v' : Value), k ≤ n ∧ s9 = .int .i64 k ∧ Hid (Wr wr base g n r v' (l ++ hdr (cs.take k)) ∧ Ws g w v wr v')) (fun s9 _ => n - (intOf s9).toNat)
  case atStart => exact ⟨0, v, Nat.zero_le _, rfl, Lib.hid ⟨by simpa [hdr] using H.out, Ws.refl g w v⟩⟩
  case round =>
    obtain ⟨k, v', hk, rfl, hj⟩ := hrel
    have HJ := Lib.hid hj.out
    by_cases hlt : k < n
    · have BB := hj.out.2.below H.out HB0.out
      obtain ⟨b, off, x, d, e1, -, hb1, hd, cn, c0, c1, c2, c4⟩ := (HC.out.keep BB).at (k := k) (by rw [HCN.out]; exact hlt)
      subst e1
      have GK := hj.out.2.gs HKV.out (Nat.le_refl _) HG.out HO.out
      obtain ⟨b3, off3, y, e3, -, hl3, hh3, hy, cy⟩ := gse_at GK (k := k) (by rw [List.length_map, HCN.out]; exact hlt)
      subst e3
      have hyd : y = d.key := by rw [List.getElem?_map, hd] at hy; injection hy with hy; exact hy.symm
      obtain ⟨N, hN⟩ : ∃ N, N = d.key.toNat := ⟨_, rfl⟩
      have cz : wr.cell? ⟨b3, off3 + k, none⟩ = some (.int .u16 N) := by rw [hN, ← hyd]; exact cy
      obtain ⟨m, hm⟩ : ∃ m, ct d.p 65536 = m := ⟨_, rfl⟩
      have hm1 : (1 : Int) ≤ m := by have := HOK.out d (List.mem_of_getElem? hd); unfold Ct.ok Ct.n at this; omega
      have hm2 : (m : Int) ≤ 65536 := by have := ct_le d.p 65536; omega
      have hw : IntKind.u16.wrap ((m : Int) - 1) = (m : Int) - 1 := by rw [IntKind.wrap_u16]; omega
      have hkl : (k : Int) < n := by omega
      have HD := Lib.hid hd
      have HN := Lib.hid hN
      have HY := Lib.hid (show N < 65536 by rw [hN]; exact d.key.toNat_lt)
      have HM := Lib.hid hm
      have bz := bxr wr 65 #[.int .u8 x.κ, .slice x.A x.n x.c, .slice x.A2 x.n2 x.c2, .slice x.A3 x.n3 x.c3]
      have R0 := Row.new wr 65 #[.int .u8 x.κ, .slice x.A x.n x.c, .slice x.A2 x.n2 x.c2, .slice x.A3 x.n3 x.c3]
      have BX := Lib.hid bz
      have RX := Lib.hid R0
      have CN := Lib.hid (cn.step bz)
      have glt := Lib.hid (Nat.lt_of_lt_of_le H.out.lt hj.out.2.size)
      have GQ := Lib.hid (show ∀ q, v'.ownBlock = some q → q < wr.heap.size from fun q hq => (HJ.out.1.olt hq).2)
      have hl2 := Lib.hid (hdr_takel cs (k := k) (by rw [HCN.out]; exact hk))
      have HCZ := Lib.hid ((bz.cell (p := ⟨b3, off3 + k, none⟩) (Nat.lt_of_lt_of_le hh3 hj.out.2.size)).trans cz)
      clear BB GK hb1 hd cn hl3 hh3 hy cy hyd hN hm hj bz R0 cz
      have cz := HCZ.out
      go_wp2_with fail
      generalize wr.alloc (.cells #[.int .u8 x.κ, .slice x.A x.n x.c, .slice x.A2 x.n2 x.c2, .slice x.A3 x.n3 x.c3] 65) = W0 at *
      refine (wu16_c N W0 (HJ.out.1.step BX.out) HY.out (by rw [List.length_append, hl2.out]; have := len_ok3 hb (rfl : 4 * k = 4 * k) hk HNB.out (Nat.zero_le 8); omega)).mono ?_
      rintro e w3 ⟨rfl, v3, h3, s3⟩
      have R3 : Row w3 wr.heap.size 65 #[.int .u8 x.κ, .slice x.A x.n x.c, .slice x.A2 x.n2 x.c2, .slice x.A3 x.n3 x.c3] := RX.out.keep (s3.off.block _ RX.out.lt (by
        rintro (e | e)
        · have := glt.out; omega
        · have := GQ.out _ e; omega))
      have CN3 := Lib.hid (CN.out.keep s3.size fun q hq _ => (s3.below (HJ.out.1.step BX.out) (Nat.le_trans HB0.out (Nat.le_trans HJ.out.2.size BX.out.size))).cell hq)
      have k0 := R3.cell 0
      have k1 := R3.cell 1
      have k2 := R3.cell 2
      have k3 := R3.cell 3
      have H3 := Lib.hid h3
      have S3 := Lib.hid s3
      clear h3 s3 R3 c0 c1 c2 c4
      go_wp2_with fail
      refine (len_c _ d.p d.k m w3 HM.out CN3.out).mono ?_
      rintro e w4 ⟨rfl, b4⟩
      have B4 := Lib.hid b4
      clear b4 k0 k1 k2 k3
      go_wp2_with fail
      refine (wu16_z ((m : Int) - 1) (m - 1) w4 (H3.out.step B4.out) (by omega) (by omega) (by rw [List.length_append, List.length_append, hl2.out, le_length]; have := len_ok3 hb (rfl : 4 * k = 4 * k) hk HNB.out (Nat.le_refl 8); omega)).mono ?_
      rintro e w5 ⟨rfl, v5, h5, s5⟩
      have HX : Hid (Wr w5 base g n r v5 (l ++ hdr (cs.take (k + 1))) ∧ Ws g w v w5 v5) := Lib.hid ⟨by
        rw [hdr_take HD.out, ← HN.out, show d.n = m from HM.out]
        simpa only [List.append_assoc] using h5, (HJ.out.2.then BX.out).trans ((S3.out.then B4.out).trans s5)⟩
      clear h5 s5
      go_wp2
      exact ⟨⟨k + 1, v5, by omega, by go_num, HX⟩, by simp [intOf]; omega⟩
    · obtain rfl : k = n := by omega
      have HX := HJ.out
      rw [← HCN.out, List.take_length, HCN.out] at HX
      have HX := Lib.hid HX
      clear hj
      go_wp2
      go_end0
      exact ⟨rfl, v', HX.out⟩
theorem bd4_len' (cs : List Ct) (a k : Nat) (h : k ≤ cs.length) : (bd4 (ofl a (cs.take k))).length = 4 * k := by rw [bd4_len, ofl_len, List.length_take]; omega
theorem bd4_take {cs : List Ct} {k : Nat} {c : Ct} (a : Nat) (h : cs[k]? = some c) : bd4 (ofl a (cs.take (k + 1))) = bd4 (ofl a (cs.take k)) ++ le 4 (a + szs (cs.take k)) := by
  rw [ofl_take, ofl_take]
  exact flatMap_take _ (ofl_at a h)
theorem ofs_none {cs : List Ct} (h : osN cs.length (anyr cs) = 0) : ofs cs = [] := by
  rw [← ofsl_N, ← ofs_len] at h
  exact List.eq_nil_of_length_eq_zero h
theorem ofs_some {cs : List Ct} (h : ¬ osN cs.length (anyr cs) = 0) : ofs cs = bd4 (ofl (ahed cs) cs) := by
  unfold ofs
  rw [if_pos]
  unfold osN at h
  unfold hofs
  cases hx : (!anyr cs || decide (4 ≤ cs.length)) with
  | true => rfl
  | false => rw [hx] at h; simp at h
theorem Ct.sz_szn (c : Ct) : szn c.k (ct c.p 65536) (ct (hm c.p) 65536) = c.sz := (c.sz_k).symm
set_option maxHeartbeats 4000000 in
theorem woffsets_c {base g n : Nat} {r : Bool} {v u : Value} {l : List UInt8} (bs : List Bd) (cs : List Ct) (w : World) (hc : Cb base w u bs cs) (hcn : cs.length = n) (hr : anyr cs = r) (h : Wr w base g n r v l) (hn : n ≤ 65536) (hb : l.length ≤ 40000000) (hz : ahed cs + szs cs ≤ 40000000) :
    Calls Tryz.prog 117 #[.pointer (some ⟨g, 0, none⟩), u] w (Wo w base g n r v (l ++ ofs cs)) := by
  have hni : (n : Int) ≤ 65536 := by omega
  have k0 := h.row.cell 0
  have k1 := h.row.cell 1
  have hof := fun W => shoffsets_c n r W hn
  have hah := fun W => shahead_c n r W hn
  obtain ⟨a, ha⟩ : ∃ a, a = ahN n r := ⟨_, rfl⟩
  have ha2 : ahed cs = a := by rw [ahed_N, hcn, hr, ha]
  obtain ⟨o, hoo⟩ : ∃ o, o = osN n r := ⟨_, rfl⟩
  rw [← ha] at hah
  rw [← hoo] at hof
  have hol : (o : Int) ≤ 262144 := by have := osN_le n r hn; omega
  have HOF := Lib.hid hof
  have HAH := Lib.hid hah
  have hcs : osN cs.length (anyr cs) = o := by rw [hcn, hr, hoo]
  rw [ha2] at hz
  have HZ := Lib.hid hz
  have HA2 := Lib.hid ha2
  have HC := Lib.hid hc
  have HCN := Lib.hid hcn
  have HNB := Lib.hid hn
  have HCS := Lib.hid hcs
  obtain ⟨A, c, rfl, -⟩ := hc.sl
  have hbl := hc.len
  rw [hbl, hcn] at HC ⊢
  have H := Lib.hid h
  have HB0 : Hid (base ≤ w.heap.size) := Lib.hid (Nat.le_of_lt (Nat.lt_of_le_of_lt h.ge h.lt))
  clear h hc hcn hbl hn hof hah ha hoo ha2 hz hcs hr
  by_cases ho0 : o = 0
  · subst ho0
    rw [ofs_none HCS.out, List.append_nil]
    go_enter Tryz.func117, Tryz.ntmps117
    go_wp2_with fail
    refine (HOF.out w).mono ?_
    rintro e w1 ⟨rfl, b1⟩
    have HX : Hid (Wr w1 base g n r v l ∧ Ws g w v w1 v) := Lib.hid ⟨H.out.step b1, (Ws.refl g w v).then b1⟩
    clear b1
    go_wp2
    go_end0
    exact ⟨rfl, v, HX.out⟩
  · rw [ofs_some (by rw [HCS.out]; exact ho0), HA2.out]
    have g0 : ((o : Int) == 0) = false := beq_false_of_ne (by omega)
    go_enter Tryz.func117, Tryz.ntmps117
    go_wp2_with fail
    refine (HOF.out w).mono ?_
    rintro e w1 ⟨rfl, b1⟩
    have H1 := Lib.hid (H.out.step b1)
    have S1 := Lib.hid ((Ws.refl g w v).then b1)
    have k0 := H1.out.row.cell 0
    have k1 := H1.out.row.cell 1
    clear b1
    go_wp2_with fail
    refine (HAH.out w1).mono ?_
    rintro e w2 ⟨rfl, b2⟩
    have H2 := Lib.hid (H1.out.step b2)
    have S2 := Lib.hid (S1.out.then b2)
    clear b2
    go_wp2
    go_loopw [4, 20] (fun s4 s9 wr => ∃ (k t : Nat) (v' : Value), k ≤ n ∧ s9 = .int .i64 k ∧ s4 = .int .i64 t ∧ Hid (t = a + szs (cs.take k)) ∧ Hid (Wr wr base g n r v' (l ++ bd4 (ofl a (cs.take k))) ∧ Ws g w v wr v')) (fun _ s9 _ => n - (intOf s9).toNat)
    case atStart => exact ⟨0, a, v, Nat.zero_le _, rfl, rfl, Lib.hid (by simp [szs]), Lib.hid ⟨by simpa [bd4, ofl] using H2.out, S2.out⟩⟩
    case round =>
      obtain ⟨k, t, v', hk, rfl, rfl, ht, hj⟩ := hrel
      have HJ := Lib.hid hj.out
      by_cases hlt : k < n
      · have BB := hj.out.2.below H.out HB0.out
        obtain ⟨b, off, x, d, e1, -, hb1, hd, cn, c0, c1, c2, c4⟩ := (HC.out.keep BB).at (k := k) (by rw [HCN.out]; exact hlt)
        subst e1
        have hkl : (k : Int) < n := by omega
        obtain ⟨z, hzz⟩ : ∃ z, d.sz = z := ⟨_, rfl⟩
        have hst := szs_take hd
        rw [hzz] at hst
        have hle : a + szs (cs.take (k + 1)) ≤ 40000000 := by have := szs_take_le cs (k + 1); have := HZ.out; omega
        have ht4 : (t : Int) + z ≤ 40000000 := by have := ht.out; omega
        have hw : IntKind.u32.wrap (t : Int) = (t : Int) := by rw [IntKind.wrap_u32]; omega
        have HT := Lib.hid (show t + z = a + szs (cs.take (k + 1)) by have := ht.out; omega)
        have HD := Lib.hid hd
        have HZZ := Lib.hid ((Ct.sz_szn d).trans hzz)
        have bz := bxr wr 65 #[.int .u8 x.κ, .slice x.A x.n x.c, .slice x.A2 x.n2 x.c2, .slice x.A3 x.n3 x.c3]
        have R0 := Row.new wr 65 #[.int .u8 x.κ, .slice x.A x.n x.c, .slice x.A2 x.n2 x.c2, .slice x.A3 x.n3 x.c3]
        have BX := Lib.hid bz
        have RX := Lib.hid R0
        have CN := Lib.hid (cn.step bz)
        have glt := Lib.hid (Nat.lt_of_lt_of_le H.out.lt hj.out.2.size)
        have GQ := Lib.hid (show ∀ q, v'.ownBlock = some q → q < wr.heap.size from fun q hq => (HJ.out.1.olt hq).2)
        have hl2 := Lib.hid (bd4_len' cs a k (by rw [HCN.out]; exact hk))
        clear BB hb1 hd cn hj bz R0 hzz hst hle
        go_wp2_with fail
        generalize wr.alloc (.cells #[.int .u8 x.κ, .slice x.A x.n x.c, .slice x.A2 x.n2 x.c2, .slice x.A3 x.n3 x.c3] 65) = W0 at *
        refine (wu32_c t W0 (HJ.out.1.step BX.out) (by omega) (by rw [List.length_append, hl2.out]; have := len_ok3 hb (rfl : 4 * k = 4 * k) hk HNB.out (Nat.zero_le 8); omega)).mono ?_
        rintro e w3 ⟨rfl, v3, h3, s3⟩
        have R3 : Row w3 wr.heap.size 65 #[.int .u8 x.κ, .slice x.A x.n x.c, .slice x.A2 x.n2 x.c2, .slice x.A3 x.n3 x.c3] := RX.out.keep (s3.off.block _ RX.out.lt (by
          rintro (e | e)
          · have := glt.out; omega
          · have := GQ.out _ e; omega))
        have CN3 := Lib.hid (CN.out.keep s3.size fun q hq _ => (s3.below (HJ.out.1.step BX.out) (Nat.le_trans HB0.out (Nat.le_trans HJ.out.2.size BX.out.size))).cell hq)
        have k0 := R3.cell 0
        have k1 := R3.cell 1
        have k2 := R3.cell 2
        have k3 := R3.cell 3
        have H3 := Lib.hid h3
        have S3 := Lib.hid s3
        clear h3 s3 R3 c0 c1 c2 c4
        go_wp2_with fail
        refine (sizeOf_c _ d.p d.k z w3 CN3.out HZZ.out).mono ?_
        rintro e w4 ⟨rfl, b4⟩
        have HX : Hid (Wr w4 base g n r v3 (l ++ bd4 (ofl a (cs.take (k + 1)))) ∧ Ws g w v w4 v3) := Lib.hid ⟨by
          rw [bd4_take a HD.out, ← ht.out, ← List.append_assoc]
          exact H3.out.step b4, (HJ.out.2.then BX.out).trans (S3.out.then b4)⟩
        clear b4 k0 k1 k2 k3
        go_wp2
        exact ⟨⟨k + 1, t + z, v3, by omega, by go_num, by go_num, HT, HX⟩, by simp [intOf]; omega⟩
      · obtain rfl : k = n := by omega
        have HX := HJ.out
        rw [← HCN.out, List.take_length, HCN.out] at HX
        have HX := Lib.hid HX
        clear hj
        go_wp2
        go_end0
        exact ⟨rfl, v', HX.out⟩
end Go.Proofs.YtponcpneflhpfaaGreatDoor
namespace Go.Proofs.YtponcpneflhpfaaGreatDoor
open Go.RowKit
set_option linter.unusedVariables false

/-- The offsets that an image tells. -/
def ofls (cs : List Ct) : List Nat := if hofs cs then ofl (ahed cs) cs else []
theorem ofls_len (cs : List Ct) : 4 * (ofls cs).length = ofsl cs := by
  unfold ofls ofsl
  split
  · rw [ofl_len]
  · rfl
theorem ofs_bd (cs : List Ct) : ofs cs = bd4 (ofls cs) := by
  unfold ofs ofls
  split
  · rfl
  · rfl
theorem ofl_le (cs : List Ct) (a : Nat) : ∀ x ∈ ofl a cs, x ≤ a + szs cs := by
  induction cs generalizing a with
  | nil => intro x hx; simp [ofl] at hx
  | cons c cs ih =>
    intro x hx
    rw [ofl, List.mem_cons] at hx
    have hs : szs (c :: cs) = c.sz + szs cs := by simp [szs]
    rcases hx with rfl | hx
    · omega
    · have := ih _ x hx; omega
theorem ofls_le (cs : List Ct) : ∀ x ∈ ofls cs, x ≤ ahed cs + szs cs := fun x hx => by
  unfold ofls at hx
  split at hx
  · exact ofl_le cs _ x hx
  · simp at hx
def OfsAns (w : World) (g : Nat) (vb : Value) (L : List UInt8) (q : Nat) (cs : List Ct) (vf vk vc : Value) (e : Ending) (w' : World) : Prop :=
  (L.length < q + ofsl cs ∧ e = .returned (.int .i64 4) ∧ w.grownBy w' (some g)) ∨
  (q + ofsl cs ≤ L.length ∧ e = .returned (.int .i64 0) ∧ w.grownBy w' (some g) ∧ ∃ vo, Row w' g 169 #[vb, .int .i64 (q + ofsl cs : Nat), .int .i64 cs.length, .bool (anyr cs), vf, vk, vc, vo] ∧ Gs e32 w' (g + 1) w'.heap.size vo ((ofls cs).map UInt32.ofNat))
set_option maxHeartbeats 8000000 in
theorem readOffsets_c {g q n : Nat} {r : Bool} {A : Option Addr} {c : Nat} {vf vk vc : Value} {L rest : List UInt8} (cs : List Ct) (w : World) (h : Row w g 169 #[.slice A L.length c, .int .i64 q, .int .i64 n, .bool r, vf, vk, vc, .slice none 0 0]) (hb : Gs e8 w 0 g (.slice A L.length c) L) (hq : q ≤ L.length) (hl : L.length ≤ 10000000) (hcn : cs.length = n) (hr : anyr cs = r) (ha : Ag (L.drop q) (ofs cs ++ rest)) (hn : n ≤ 65536) (hz : ahed cs + szs cs ≤ 40000000) :
    Calls Tryz.prog 201 #[.pointer (some ⟨g, 0, none⟩)] w (OfsAns w g (.slice A L.length c) L q cs vf vk vc) := by
  have hg := h.lt
  have hsh := fun W => shoffsets_c n r W hn
  have k2 := h.cell 2
  have k3 := h.cell 3
  obtain ⟨t, ht⟩ : ∃ t, t = (ofls cs).length := ⟨_, rfl⟩
  have ho4 : osN n r = 4 * t := by rw [ht, ofls_len, ofsl_N, hcn, hr]
  have hol : ofsl cs = 4 * t := by rw [ht, ofls_len]
  have ht6 : t ≤ 65536 := by have := osN_le n r hn; omega
  have hti : (t : Int) ≤ 65536 := by omega
  unfold OfsAns
  rw [ho4] at hsh
  rw [hol, hcn, hr]
  have HSH := Lib.hid hsh
  have hdv : (4 * (t : Int)) / 4 = (t : Int) := by omega
  by_cases hs : L.length < q + 4 * t
  · have HC := Lib.hid (fun (W : World) (hR : Row W g 169 #[.slice A L.length c, .int .i64 q, .int .i64 n, .bool r, vf, vk, vc, .slice none 0 0]) => next_no (s := 4 * t) W hR hq hs hl)
    have H := Lib.hid h
    clear h hb ha hsh hz ht ho4 hol hr hcn
    go_enter Tryz.func201, Tryz.ntmps201
    go_wp2_with fail
    refine (HSH.out w).mono ?_
    rintro e w0 ⟨rfl, b0⟩
    have B0 := Lib.hid b0
    clear b0
    go_wp2_with fail
    refine (HC.out w0 (H.out.below B0.out H.out.lt)).mono ?_
    rintro e w1 ⟨rfl, b1⟩
    have b2 := below_both B0.out b1
    have HG : Hid (w.grownBy w1 (some g)) := Lib.hid ⟨b2.os, b2.tape, b2.output, b2.size, fun j hj _ => b2.block j hj⟩
    clear b1 b2
    go_wp2
    go_ret
    exact .inl ⟨hs, rfl, HG.out⟩
  · have HC := Lib.hid (fun (W : World) (hR : Row W g 169 #[.slice A L.length c, .int .i64 q, .int .i64 n, .bool r, vf, vk, vc, .slice none 0 0]) (hD : Gs e8 W 0 g (.slice A L.length c) L) => next_yes (s := 4 * t) W hR hD (by omega) hl)
    have hp := (ha.cut_at (n := 4 * t) (by rw [ofs_len, hol]) (by rw [List.length_drop]; omega)).1
    rw [ofs_bd] at hp
    have hnm := nmb_bd4 (ofls cs) (fun x hx => by have := ofls_le cs x hx; omega)
    rw [← ht] at hnm
    have hbl : (bd4 (ofls cs)).length = 4 * t := by rw [bd4_len, ht]
    have HNM := Lib.hid hnm
    have HBL := Lib.hid hbl
    have HP := Lib.hid hp
    have H := Lib.hid h
    have HB := Lib.hid hb
    have HMS := Lib.hid hs
    obtain ⟨vb, hvb⟩ : ∃ vb, vb = Value.slice A L.length c := ⟨_, rfl⟩
    clear h hb ha hsh hcn hp hs hz ht ho4 hol hr hnm hbl
    go_enter Tryz.func201, Tryz.ntmps201
    go_wp2_with fail
    refine (HSH.out w).mono ?_
    rintro e w0 ⟨rfl, b0⟩
    have B0 := Lib.hid b0
    clear b0
    go_wp2_with fail
    refine (HC.out w0 (H.out.below B0.out H.out.lt) (HB.out.below (B0.out.mono (Nat.le_of_lt hg)))).mono ?_
    rintro e w1 ⟨gr, vr, rfl, r1, rd1, g1⟩
    rw [HP.out] at rd1
    have hgr := rd1.ge
    have R1 := Lib.hid r1
    have RD1 := Lib.hid rd1
    have G1 := Lib.hid g1
    clear r1 rd1 g1
    go_wp2_with fail
    refine (row32_c t w1 RD1.out (by rw [HBL.out]; omega) ht6).mono ?_
    rintro e w2 ⟨A2, c2, rfl, o2, -, g2⟩
    rw [HNM.out] at o2
    have R2 := R1.out.far g2 (by have := B0.out.size; omega)
    have G2 := Lib.hid (grown_two (grown_start B0.out G1.out) g2 (Nat.le_trans B0.out.size hgr))
    have c7 := R2.cell 7
    have f7 := R2.frozen 7
    have R3 := R2.set_ 7 (.slice A2 t c2)
    have gs := grown_set w2 g 7 (.slice A2 t c2)
    have hg1 : g < w1.heap.size := R1.out.lt
    have hgs := o2.sl.keep (w' := w2.setCell ⟨g, 7, none⟩ (.slice A2 t c2)) fun p h1 h2 => World.cell?_of_block (gs.block _ h2 (fun e => by injection e with e; omega))
    have HGS := Lib.hid (hgs.more (lo' := g + 1) (by omega) gs.size)
    have HG := Lib.hid (G2.out.trans gs)
    have HR : Hid (Row (w2.setCell ⟨g, 7, none⟩ (.slice A2 t c2)) g 169 #[.slice A L.length c, .int .i64 (q + 4 * t : Nat), .int .i64 n, .bool r, vf, vk, vc, .slice A2 t c2]) := Lib.hid (by simpa using R3)
    clear o2 g2 R2 R3 gs hgs hgr
    go_wp2
    go_ret
    exact .inr ⟨by have := HMS.out; omega, rfl, HG.out, _, HR.out, HGS.out⟩
theorem and8_one : ∀ a : Fin 256, bits BinOp.and IntKind.u8 (a.val : Int) 1 = ((a.val % 2 : Nat) : Int) := by decide +kernel
/-- An image that is read, behind its offsets. -/
structure Ih (w : World) (g : Nat) (vb : Value) (q : Nat) (cs : List Ct) (vf vk vc vo : Value) : Prop where
  row : Row w g 169 #[vb, .int .i64 q, .int .i64 cs.length, .bool (anyr cs), vf, vk, vc, vo]
  fl : Fl w g (anyr cs) vf (flg (fbit cs) ((cs.length + 7) / 8))
  ks : Gs e16 w (g + 1) w.heap.size vk (cs.map Ct.key)
  ns : Gs eI w (g + 1) w.heap.size vc (cs.map Ct.n)
  os : Gs e32 w (g + 1) w.heap.size vo ((ofls cs).map UInt32.ofNat)
theorem Gs.img {α : Type} {k : Elem α} {w w' : World} {g : Nat} {v : Value} {l : List α} (h : Gs k w (g + 1) w.heap.size v l) (hg : w.grownBy w' (some g)) : Gs k w' (g + 1) w'.heap.size v l :=
  (h.keep fun p h1 h2 => World.cell?_of_block (hg.block _ h2 (fun e => by injection e with e; omega))).more (Nat.le_refl _) hg.size
theorem Ih.next {w w' : World} {g : Nat} {vb : Value} {q q' : Nat} {cs : List Ct} {vf vk vc vo : Value} (h : Ih w g vb q cs vf vk vc vo) (hg : w.grownBy w' (some g)) (hr : Row w' g 169 #[vb, .int .i64 q', .int .i64 cs.length, .bool (anyr cs), vf, vk, vc, vo]) : Ih w' g vb q' cs vf vk vc vo :=
  ⟨hr, fun e => (h.fl e).img hg, h.ks.img hg, h.ns.img hg, h.os.img hg⟩
theorem Ih.step {w w' : World} {g : Nat} {vb : Value} {q : Nat} {cs : List Ct} {vf vk vc vo : Value} (h : Ih w g vb q cs vf vk vc vo) (b : Below w.heap.size w w') : Ih w' g vb q cs vf vk vc vo :=
  h.next ⟨b.os, b.tape, b.output, b.size, fun j hj _ => b.block j hj⟩ (h.row.below b h.row.lt)
set_option maxHeartbeats 4000000 in
theorem ikind_c {g i q : Nat} {vb vf vk vc vo : Value} (cs : List Ct) (d : Ct) (w : World) (h : Ih w g vb q cs vf vk vc vo) (hd : cs[i]? = some d) (hn : cs.length ≤ 65536) :
    Calls Tryz.prog 306 #[.pointer (some ⟨g, 0, none⟩), .int .i64 i] w fun e w' => e = .returned (.int .u8 d.k) ∧ Below w.heap.size w w' := by
  have hi := (List.getElem?_eq_some_iff.1 hd).1
  have hii : (i : Int) ≤ 65536 := by omega
  obtain ⟨n, hnn⟩ : ∃ n, n = cs.length := ⟨_, rfl⟩
  have hin : (i : Int) < n := by omega
  have c3 := h.row.cell 3
  have c4 := h.row.cell 4
  have c6 := h.row.cell 6
  have hns := h.ns
  obtain ⟨A6, d6, rfl, -⟩ := h.ns
  obtain ⟨b6, off6, y6, e6, -, -, -, hy6, cy6⟩ := gse_at hns (k := i) (by rw [List.length_map]; exact hi)
  subst e6
  rw [List.getElem?_map, hd] at hy6
  injection hy6 with hy6
  obtain ⟨N, hN⟩ : ∃ N, N = d.n := ⟨_, rfl⟩
  have cn : w.cell? ⟨b6, off6 + i, none⟩ = some (.int .i64 N) := by rw [hN, hy6]; exact cy6
  rw [List.length_map, ← hnn] at c6
  have hNi : (N : Int) ≤ 65536 := by have := d.n_le; omega
  have HNN := Lib.hid hN
  have hk2 : d.r = false → ¬ (N : Int) > 4096 → d.k = 1 := fun h1 h2 => by unfold Ct.k; rw [h1, if_neg (by simp), if_pos (by omega)]
  have hk3 : d.r = false → (N : Int) > 4096 → d.k = 2 := fun h1 h2 => by unfold Ct.k; rw [h1, if_neg (by simp), if_neg (by omega)]
  have hk4 : d.r = true → d.k = 3 := fun h1 => by unfold Ct.k; rw [h1, if_pos rfl]
  have HK2 := Lib.hid hk2
  have HK3 := Lib.hid hk3
  have HK4 := Lib.hid hk4
  obtain ⟨D, hD⟩ : ∃ D : Nat, D = d.k := ⟨_, rfl⟩
  have HDD := Lib.hid hD
  rw [← hD]
  have H := Lib.hid h
  have HD := Lib.hid (fbit_at hd)
  have HDM := Lib.hid (List.mem_of_getElem? hd)
  cases hr : anyr cs with
  | false =>
    rw [hr] at c3
    have hdr : d.r = false := by
      cases h2 : d.r with
      | false => rfl
      | true => rw [anyr_iff.2 ⟨i, hi, by rw [HD.out]; exact h2⟩] at hr; cases hr
    have HR := Lib.hid hdr
    clear h hns hd hi hy6 cy6 hN hk2 hk3 hk4 hD hr hdr hnn hn
    by_cases h4 : (N : Int) > 4096
    · have g1 : decide ((N : Int) > 4096) = true := decide_eq_true h4
      have g1n : decide (N > 4096) = true := decide_eq_true (by omega)
      obtain rfl : D = 2 := by rw [HDD.out, HK3.out HR.out h4]
      clear h4
      go_enter Tryz.func306, Tryz.ntmps306
      go_wp2
      go_ret
      exact ⟨rfl, below_drewN (Below.refl _ _) 0⟩
    · have g1 : decide ((N : Int) > 4096) = false := decide_eq_false h4
      have g1n : decide (N > 4096) = false := decide_eq_false (by omega)
      obtain rfl : D = 1 := by rw [HDD.out, HK2.out HR.out h4]
      clear h4
      go_enter Tryz.func306, Tryz.ntmps306
      go_wp2
      go_ret
      exact ⟨rfl, below_drewN (Below.refl _ _) 0⟩
  | true =>
    rw [hr] at c3
    have hfl := h.fl hr
    obtain ⟨t, ht⟩ : ∃ t, t = i % 8 := ⟨_, rfl⟩
    obtain ⟨p, hp⟩ : ∃ p, p = i / 8 := ⟨_, rfl⟩
    obtain ⟨m, hm⟩ : ∃ m, m = (cs.length + 7) / 8 := ⟨_, rfl⟩
    rw [← hm] at hfl
    have hfl2 := hfl
    obtain ⟨A4, d4, rfl, -⟩ := hfl
    obtain ⟨b4, off4, y4, e4, -, -, -, hy4, cy4⟩ := gse_at hfl2 (k := p) (by rw [flg_len]; omega)
    subst e4
    rw [flg_at _ (by omega)] at hy4
    injection hy4 with hy4
    rw [flg_len] at c4
    obtain ⟨a, ha⟩ : ∃ a, a = wn (fun x => fbit cs (8 * p + x)) 8 := ⟨_, rfl⟩
    have ha6 : a < 256 := by rw [ha]; exact fbyte_lt (fbit cs) p
    have ca : w.cell? ⟨b4, off4 + p, none⟩ = some (.int .u8 a) := by
      rw [cy4, ← hy4, ← ha]
      show some (Value.int .u8 ((UInt8.ofNat a).toNat : Int)) = _
      rw [UInt8.toNat_ofNat', Nat.mod_eq_of_lt ha6]
    have hbit := fbyte_bit (fbit cs) p t (by omega)
    rw [← ha, show 8 * p + t = i by omega, HD.out] at hbit
    have hand : bits BinOp.and IntKind.u8 ((a : Int) / 2 ^ t) 1 = (d.r.toNat : Int) := by
      have h1 : ((a : Int) / 2 ^ t) = ((a / 2 ^ t : Nat) : Int) := by push_cast; rfl
      have h2 : a / 2 ^ t < 256 := Nat.lt_of_le_of_lt (Nat.div_le_self _ _) ha6
      rw [h1, and8_one ⟨a / 2 ^ t, h2⟩, hbit]
    have hp1 : (i : Int) / 8 = (p : Int) := by omega
    have ht1 : (i : Int) % 8 = (t : Int) := by omega
    have hpm : (p : Int) < m := by omega
    have hti : (t : Int) < 8 := by omega
    have ha6i : (a : Int) < 256 := by omega
    cases hdr : d.r with
    | true =>
      rw [hdr] at hand
      have hand : bits BinOp.and IntKind.u8 ((a : Int) / 2 ^ t) 1 = 1 := hand
      obtain rfl : D = 3 := by rw [HDD.out, HK4.out hdr]
      clear h hns hd hi hy6 cy6 hN hk2 hk3 hk4 hD hr hnn hn hfl2 hy4 cy4 ha hbit ht hp hm hdr
      go_enter Tryz.func306, Tryz.ntmps306
      go_wp2
      go_ret
      exact ⟨rfl, below_drewN (Below.refl _ _) 0⟩
    | false =>
      rw [hdr] at hand
      have hand : bits BinOp.and IntKind.u8 ((a : Int) / 2 ^ t) 1 = 0 := hand
      have HR := Lib.hid hdr
      clear h hns hd hi hy6 cy6 hN hk2 hk3 hk4 hD hr hnn hn hfl2 hy4 cy4 ha hbit ht hp hm hdr
      by_cases h4 : (N : Int) > 4096
      · have g1 : decide ((N : Int) > 4096) = true := decide_eq_true h4
        have g1n : decide (N > 4096) = true := decide_eq_true (by omega)
        obtain rfl : D = 2 := by rw [HDD.out, HK3.out HR.out h4]
        clear h4
        go_enter Tryz.func306, Tryz.ntmps306
        go_wp2
        go_ret
        exact ⟨rfl, below_drewN (Below.refl _ _) 0⟩
      · have g1 : decide ((N : Int) > 4096) = false := decide_eq_false h4
        have g1n : decide (N > 4096) = false := decide_eq_false (by omega)
        obtain rfl : D = 1 := by rw [HDD.out, HK2.out HR.out h4]
        clear h4
        go_enter Tryz.func306, Tryz.ntmps306
        go_wp2
        go_ret
        exact ⟨rfl, below_drewN (Below.refl _ _) 0⟩
end Go.Proofs.YtponcpneflhpfaaGreatDoor
namespace Go.Proofs.YtponcpneflhpfaaGreatDoor
open Go.RowKit
set_option linter.unusedVariables false

end Go.Proofs.YtponcpneflhpfaaGreatDoor
namespace Go.Proofs.YtponcpneflhpfaaGreatDoor
open Go.RowKit
set_option linter.unusedVariables false

theorem ofWords_yes_ {N : Nat → Prop} (A : Option Addr) (n c : Nat) (p : Nat → Bool) (w : World) (hN : ∀ b, w.heap.size ≤ b → N b) (hv : Gs e64 w 0 w.heap.size (.slice A 1024 c) (wm p)) :
    Calls Tryz.prog 37 #[.slice A 1024 c] w fun e w' => ∃ v', e = .returned (.tuple #[v', .bool true]) ∧ Cn N w' v' p 2 ∧ Below w.heap.size w w' := by
  have HV := Lib.hid hv
  have NN := Lib.hid hN
  have r0 := Row.new w 65 #[.int .u8 0, .slice none 0 0, .slice none 0 0, .slice none 0 0]
  have b0 := bx w (.cells #[.int .u8 0, .slice none 0 0, .slice none 0 0, .slice none 0 0] 65)
  clear hv hN
  go_enter Tryz.func37, Tryz.ntmps37
  go_wp2_with fail
  generalize w.alloc (.cells #[.int .u8 0, .slice none 0 0, .slice none 0 0, .slice none 0 0] 65) = W0 at *
  have lg := r0.lt
  have RR := Lib.hid r0
  have BB := Lib.hid b0
  clear r0 b0
  refine (sclone64 _ p 0 _ (HV.out.stp BB.out)).mono ?_
  rintro e u2 ⟨X, x, rfl, g, b⟩
  have G := Lib.hid g
  have RR := Lib.hid (RR.out.below b RR.out.lt)
  have BB := Lib.hid (below_both BB.out b)
  have hs := b.size
  clear b g
  go_wp2_with fail
  refine (ofWords_v _ _ _ _).mono ?_
  rintro e u3 ⟨rfl, b⟩
  have G := Lib.hid (G.out.stp b)
  have RR := Lib.hid (RR.out.below b RR.out.lt)
  have BB := Lib.hid (below_both BB.out b)
  clear b
  have d0 : u3.cell? ⟨w.heap.size, 0, none⟩ = some (.int .u8 0) := RR.out.cell 0
  have f0 := RR.out.frozen 0
  have d1 : u3.cell? ⟨w.heap.size, 1, none⟩ = some (.slice none 0 0) := RR.out.cell 1
  have f1 := RR.out.frozen 1
  have d2 : u3.cell? ⟨w.heap.size, 2, none⟩ = some (.slice none 0 0) := RR.out.cell 2
  have f2 := RR.out.frozen 2
  have d3 : u3.cell? ⟨w.heap.size, 3, none⟩ = some (.slice none 0 0) := RR.out.cell 3
  have f3 := RR.out.frozen 3
  go_wp2
  have S4 := set4 (a' := .int .u8 2) (b' := .slice none 0 0) (c' := .slice X 1024 x) (d' := .slice none 0 0) RR.out
  have B5 := Lib.hid (BB.out.grown S4.2 BB.out.size (fun j e => by injection e with e; subst e; omega))
  have G5 := G.out.grown S4.2 (Nat.le_refl _) (fun j e => by injection e with e; subst e; exact .inl (by omega))
  exact bodyPost_ret (ret_row2 rfl rfl rfl S4.1) rfl ⟨_, rfl, Cn.wrd _ _ (Gp.of G5 S4.2.size (fun b hb _ => NN.out b (by omega))), B5.out⟩

theorem ofRuns_yes_ {N : Nat → Prop} (A : Option Addr) (n c : Nat) (p : Nat → Bool) (w : World) (hN : ∀ b, w.heap.size ≤ b → N b) (hn : ct (hm p) 65536 = n) (hv : Gs2 eR w 0 w.heap.size (.slice A n c) (rs p 65536)) :
    Calls Tryz.prog 39 #[.slice A n c] w fun e w' => ∃ v', e = .returned (.tuple #[v', .bool true]) ∧ Cn N w' v' p 3 ∧ Below w.heap.size w w' := by
  have HV := Lib.hid hv
  have NN := Lib.hid hN
  have r0 := Row.new w 65 #[.int .u8 0, .slice none 0 0, .slice none 0 0, .slice none 0 0]
  have b0 := bx w (.cells #[.int .u8 0, .slice none 0 0, .slice none 0 0, .slice none 0 0] 65)
  clear hv hN
  go_enter Tryz.func39, Tryz.ntmps39
  go_wp2_with fail
  generalize w.alloc (.cells #[.int .u8 0, .slice none 0 0, .slice none 0 0, .slice none 0 0] 65) = W0 at *
  have lg := r0.lt
  have RR := Lib.hid r0
  have BB := Lib.hid b0
  clear r0 b0
  refine (lmay _ _ _ (HV.out.stp BB.out) true (mayr_rs p)).mono ?_
  rintro e u1 ⟨rfl, b⟩
  have RR := Lib.hid (RR.out.below b RR.out.lt)
  have BB := Lib.hid (below_both BB.out b)
  have hs1 := b.size
  clear b
  go_wp2_with fail
  refine (scloneR _ p n 0 _ (HV.out.stp BB.out) hn).mono ?_
  rintro e u2 ⟨X, x, rfl, g, b⟩
  have G := Lib.hid g
  have RR := Lib.hid (RR.out.below b RR.out.lt)
  have BB := Lib.hid (below_both BB.out b)
  have hs := b.size
  clear b g
  go_wp2_with fail
  refine (ofRuns_v _ _ _ _).mono ?_
  rintro e u3 ⟨rfl, b⟩
  have G := Lib.hid (G.out.stp b)
  have RR := Lib.hid (RR.out.below b RR.out.lt)
  have BB := Lib.hid (below_both BB.out b)
  clear b
  have d0 : u3.cell? ⟨w.heap.size, 0, none⟩ = some (.int .u8 0) := RR.out.cell 0
  have f0 := RR.out.frozen 0
  have d1 : u3.cell? ⟨w.heap.size, 1, none⟩ = some (.slice none 0 0) := RR.out.cell 1
  have f1 := RR.out.frozen 1
  have d2 : u3.cell? ⟨w.heap.size, 2, none⟩ = some (.slice none 0 0) := RR.out.cell 2
  have f2 := RR.out.frozen 2
  have d3 : u3.cell? ⟨w.heap.size, 3, none⟩ = some (.slice none 0 0) := RR.out.cell 3
  have f3 := RR.out.frozen 3
  go_wp2
  have S4 := set4 (a' := .int .u8 3) (b' := .slice none 0 0) (c' := .slice none 0 0) (d' := .slice X n x) RR.out
  have B5 := Lib.hid (BB.out.grown S4.2 BB.out.size (fun j e => by injection e with e; subst e; omega))
  have G5 := G.out.grown S4.2 (Nat.le_refl _) (fun j e => by injection e with e; subst e; exact .inl (by omega))
  exact bodyPost_ret (ret_row2 rfl rfl rfl S4.1) rfl ⟨_, rfl, Cn.run _ _ _ hn (Gp2.of G5 S4.2.size (fun b hb _ => NN.out b (by omega))), B5.out⟩

end Go.Proofs.YtponcpneflhpfaaGreatDoor
