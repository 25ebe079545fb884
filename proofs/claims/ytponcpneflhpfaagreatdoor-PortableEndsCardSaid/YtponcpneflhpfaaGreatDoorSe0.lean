/- Walks: all containers of an image are read. -/
import Derived.Test.YtponcpneflhpfaaGreatDoorSd7
import Derived.Test.YtponcpneflhpfaaGreatDoorSc7
import Derived.Test.YtponcpneflhpfaaGreatDoorSd9
namespace Go.Proofs.YtponcpneflhpfaaGreatDoor
open Go.RowKit
set_option linter.unusedVariables false

theorem cso_keys (P : Nat → Bool) : (cso P).map Ct.key = ls (nz P) 65536 := by unfold cso; rw [List.map_map]; exact List.map_id _
theorem cso_len' (P : Nat → Bool) : (ls (nz P) 65536).length = (cso P).length := by rw [← cso_keys, List.length_map]
/-- The containers that have been laid, and cells for the others. -/
structure Cx (N : Nat → Prop) (cs : List Ct) (base q n k : Nat) (w : World) (bs : List Bd) : Prop where
  own : GwV eC w base (.slice (some ⟨q, 0, none⟩) n n) bs
  len : bs.length = n
  cn : ∀ (i : Nat) (b : Bd) (c : Ct), i < k → bs[i]? = some b → cs[i]? = some c → Cn N w b.val c.p c.k
set_option maxHeartbeats 4000000 in
theorem containersOf_c {N : Nat → Prop} (v : Value) (P : Nat → Bool) (w : World) (hN : ∀ b, N b → b < w.heap.size) (h : St N w v P) :
    Calls Tryz.prog 113 #[v] w fun e w' => ∃ v' bs, e = .returned v' ∧ Cl N w' v' bs (cso P) ∧ Below w.heap.size w w' := by
  have H := Lib.hid h
  have NN := Lib.hid hN
  obtain ⟨n, hn⟩ : ∃ n, n = (cso P).length := ⟨_, rfl⟩
  have hni : (n : Int) ≤ 65536 := by have := cso_len P; omega
  have HN := Lib.hid hn
  clear h hN hn
  go_enter Tryz.func113, Tryz.ntmps113
  go_wp2_with fail
  refine (setkeys_c v P w H.out).mono ?_
  rintro e w1 ⟨v1, rfl, g1, b1⟩
  obtain ⟨A, c, rfl, -⟩ := g1
  rw [cso_len', ← HN.out]
  have B1 := Lib.hid b1
  clear b1
  go_wp2_with (at_make; refine wpList_gfullv eC _ rfl _ _ _ rfl sliC infC _ _ _ _ n rfl rfl rfl rfl (by omega) ?_; intro w2 o2 g2; have O2 := Lib.hid o2; have G2 := Lib.hid (below_of_grown g2 (fun k h => by cases h)); clear o2 g2)
  go_loopw [11] (fun s9 wr => ∃ (k : Nat) (bs : List Bd), k ≤ n ∧ s9 = .int .i64 k ∧ Hid (Cx N (cso P) w1.heap.size w1.heap.size n k wr bs ∧ Below w1.heap.size w1 wr)) (fun s9 _ => n - (intOf s9).toNat)
  case atStart => exact ⟨0, _, Nat.zero_le _, rfl, Lib.hid ⟨⟨O2.out, List.length_replicate .., fun i b c h => absurd h (Nat.not_lt_zero _)⟩, G2.out⟩⟩
  case round =>
    obtain ⟨k, bs, hk, rfl, hj⟩ := hrel
    have HJ := Lib.hid hj.out
    by_cases hlt : k < n
    · have BB := Lib.hid (B1.out.trans (hj.out.2.mono B1.out.size))
      have hkl : (k : Int) < n := by omega
      clear hj
      go_wp2_with fail
      refine (at_yes v P k wr (fun b hb => Nat.lt_of_lt_of_le (NN.out b hb) BB.out.size) (H.out.step BB.out) (by rw [← HN.out]; exact hlt)).mono ?_
      rintro e w3 ⟨x, d, rfl, hd, cn, b3⟩
      have own := HJ.out.1.own.below b3 (Nat.le_refl _)
      have hl := HJ.out.1.len
      obtain ⟨y, hbk⟩ : ∃ y, bs[k]? = some y := ⟨_, List.getElem?_eq_getElem (by omega)⟩
      obtain ⟨_, _, e0, -, -, -, -, hcl, hfz⟩ := own.form (by rintro rfl; simp at hl; omega)
      injection e0 with e0 e01 e02
      injection e0 with e0
      injection e0 with e0
      subst e0
      have hcc := fun (i : Nat) (u : Value) (hu : (eC.cs y)[i]? = some u) => hcl k _ hbk i u hu
      have e4 : ∀ i, eC.n * k + i = k * 4 + i := fun i => by show 4 * k + i = _; omega
      have d0 : w3.cell? ⟨w1.heap.size, k * 4, none⟩ = some (.int .u8 y.κ) := by have := hcc 0 _ rfl; rw [e4] at this; exact this
      have d1 : w3.cell? ⟨w1.heap.size, k * 4 + 1, none⟩ = some (.slice y.A y.n y.c) := by have := hcc 1 _ rfl; rw [e4] at this; exact this
      have d2 : w3.cell? ⟨w1.heap.size, k * 4 + 2, none⟩ = some (.slice y.A2 y.n2 y.c2) := by have := hcc 2 _ rfl; rw [e4] at this; exact this
      have d3 : w3.cell? ⟨w1.heap.size, k * 4 + 3, none⟩ = some (.slice y.A3 y.n3 y.c3) := by have := hcc 3 _ rfl; rw [e4] at this; exact this
      have f0 := hfz (k * 4)
      have f1 := hfz (k * 4 + 1)
      have f2 := hfz (k * 4 + 2)
      have f3 := hfz (k * 4 + 3)
      have ST := own.stored4 k x (by omega)
      have G4 : w3.grownBy ((((w3.setCell ⟨w1.heap.size, k * 4, none⟩ (.int .u8 x.κ)).setCell ⟨w1.heap.size, k * 4 + 1, none⟩ (.slice x.A x.n x.c)).setCell ⟨w1.heap.size, k * 4 + 2, none⟩ (.slice x.A2 x.n2 x.c2)).setCell ⟨w1.heap.size, k * 4 + 3, none⟩ (.slice x.A3 x.n3 x.c3)) (some w1.heap.size) :=
        (((grown_set w3 _ _ _).trans (grown_set _ _ _ _)).trans (grown_set _ _ _ _)).trans (grown_set _ _ _ _)
      have hk1 : ∀ q : Addr, N q.block → q.block ≠ w1.heap.size := fun q hq e => by have h1 := NN.out _ hq; have h2 := B1.out.size; omega
      have HX : Hid (Cx N (cso P) w1.heap.size w1.heap.size n (k + 1) ((((w3.setCell ⟨w1.heap.size, k * 4, none⟩ (.int .u8 x.κ)).setCell ⟨w1.heap.size, k * 4 + 1, none⟩ (.slice x.A x.n x.c)).setCell ⟨w1.heap.size, k * 4 + 2, none⟩ (.slice x.A2 x.n2 x.c2)).setCell ⟨w1.heap.size, k * 4 + 3, none⟩ (.slice x.A3 x.n3 x.c3)) (bs.set k x) ∧
          Below w1.heap.size w1 ((((w3.setCell ⟨w1.heap.size, k * 4, none⟩ (.int .u8 x.κ)).setCell ⟨w1.heap.size, k * 4 + 1, none⟩ (.slice x.A x.n x.c)).setCell ⟨w1.heap.size, k * 4 + 2, none⟩ (.slice x.A2 x.n2 x.c2)).setCell ⟨w1.heap.size, k * 4 + 3, none⟩ (.slice x.A3 x.n3 x.c3))) := Lib.hid ⟨⟨ST, by rw [List.length_set]; exact hl, fun i b c hi hb hc => by
            have hkeep : ∀ {u : Value} {p : Nat → Bool} {j : Nat}, Cn N w3 u p j → Cn N _ u p j := fun hcn => hcn.keep G4.size fun q hq hlt => World.cell?_of_block (G4.block _ hlt fun e => by injection e with e; exact hk1 q hq e)
            by_cases e : i = k
            · subst e
              rw [List.getElem?_set_self (by omega)] at hb
              injection hb with hb
              subst hb
              rw [hd] at hc
              injection hc with hc
              subst hc
              exact hkeep cn
            · rw [List.getElem?_set_ne (fun h => e h.symm)] at hb
              exact hkeep ((HJ.out.1.cn i b c (by omega) hb hc).step b3)⟩, ((HJ.out.2.trans (b3.mono HJ.out.2.size)).grown G4 (Nat.le_trans HJ.out.2.size b3.size) fun j e => by injection e with e; subst e; exact Nat.le_refl _)⟩
      clear own hl hbk hcl hfz hcc e4 ST G4 hk1 hd cn b3 e01 e02
      go_wp2
      exact ⟨⟨k + 1, _, by omega, by go_num, HX⟩, by simp [intOf]; omega⟩
    · obtain rfl : k = n := by omega
      have HC : Hid (Cl N wr (.slice (some ⟨w1.heap.size, 0, none⟩) k k) bs (cso P)) := Lib.hid ⟨hj.out.1.own.sl.more (Nat.zero_le _) (Nat.le_refl _), by rw [hj.out.1.len, HN.out], fun i b c hb hc => hj.out.1.cn i b c (by have := (List.getElem?_eq_some_iff.1 hb).1; have := hj.out.1.len; omega) hb hc⟩
      have HB : Hid (Below w.heap.size w wr) := Lib.hid (B1.out.trans (hj.out.2.mono B1.out.size))
      clear hj
      go_wp2
      go_ret
      exact ⟨_, bs, rfl, HC.out, HB.out⟩
set_option maxHeartbeats 4000000 in
theorem psize_c {N : Nat → Prop} (v : Value) (P : Nat → Bool) (m : Nat) (w : World) (hN : ∀ b, N b → b < w.heap.size) (h : St N w v P) (hm : (img (cso P)).length = m) (hb : m ≤ 40000000) :
    Calls Tryz.prog 49 #[v] w fun e w' => e = .returned (.int .i64 m) ∧ Below w.heap.size w w' := by
  have H := Lib.hid h
  have NN := Lib.hid hN
  obtain ⟨n, hn⟩ : ∃ n, n = (cso P).length := ⟨_, rfl⟩
  obtain ⟨r, hr⟩ : ∃ r, anyr (cso P) = r := ⟨_, rfl⟩
  have hni : (n : Int) ≤ 65536 := by have := cso_len P; omega
  have hn6 := Lib.hid (show n ≤ 65536 by omega)
  obtain ⟨a, ha⟩ : ∃ a, a = ahN n r := ⟨_, rfl⟩
  rw [img_len, ahed_N, ← hn, hr, ← ha] at hm
  have hah := fun W => shahead_c n r W hn6.out
  rw [← ha] at hah
  have hmi : (m : Int) ≤ 40000000 := by omega
  have hai : (a : Int) ≤ m := by omega
  have HAH := Lib.hid hah
  have HM := Lib.hid hm
  have HN := Lib.hid hn
  have HR := Lib.hid hr
  clear h hN hn hr ha hm hah hb
  go_enter Tryz.func49, Tryz.ntmps49
  go_wp2_with fail
  refine (containersOf_c v P w NN.out H.out).mono ?_
  rintro e w1 ⟨v1, bs, rfl, g1, b1⟩
  have hbl := g1.len
  obtain ⟨A, c, rfl, -⟩ := g1.sl
  rw [hbl, ← HN.out] at g1
  have G1 := Lib.hid g1
  rw [hbl, ← HN.out]
  have B1 := Lib.hid b1
  clear b1 g1 hbl
  go_wp2_with fail
  refine (shapeOf_c _ bs (cso P) r w1 G1.out (cso_len P) HR.out).mono ?_
  rw [← HN.out]
  rintro e w2 ⟨rfl, b2⟩
  have B2 := Lib.hid b2
  clear b2
  go_wp2_with fail
  refine (HAH.out w2).mono ?_
  rintro e w3 ⟨rfl, b3⟩
  have B3 := Lib.hid (below_both B2.out b3)
  clear b3
  go_wp2
  go_loopw [4, 14] (fun s4 s9 wr => ∃ (k t : Nat), k ≤ n ∧ s9 = .int .i64 k ∧ s4 = .int .i64 t ∧ Hid (t = a + szs ((cso P).take k)) ∧ Hid (Below w1.heap.size w1 wr)) (fun _ s9 _ => n - (intOf s9).toNat)
  case atStart => exact ⟨0, a, Nat.zero_le _, rfl, rfl, Lib.hid (by simp [szs]), B3⟩
  case round =>
    obtain ⟨k, t, hk, rfl, rfl, ht, hj⟩ := hrel
    by_cases hlt : k < n
    · obtain ⟨b, off, x, d, e1, -, hb1, hg, hd, cn, c0, c1, c2, c3⟩ := clf_at G1.out hj.out (k := k) (by rw [← HN.out]; exact hlt)
      subst e1
      have hkl : (k : Int) < n := by omega
      obtain ⟨z, hzz⟩ : ∃ z, d.sz = z := ⟨_, rfl⟩
      have hst := szs_take hd
      rw [hzz] at hst
      have hle : a + szs ((cso P).take (k + 1)) ≤ m := by have := szs_take_le (cso P) (k + 1); have := HM.out; omega
      have ht4 : (t : Int) + z ≤ 40000000 := by have := ht.out; omega
      have HT := Lib.hid (show t + z = a + szs ((cso P).take (k + 1)) by have := ht.out; omega)
      have HZZ := Lib.hid ((Ct.sz_szn d).trans hzz)
      have bz := bxr wr 65 #[.int .u8 x.κ, .slice x.A x.n x.c, .slice x.A2 x.n2 x.c2, .slice x.A3 x.n3 x.c3]
      have BX := Lib.hid bz
      have CN := Lib.hid (cn.step bz)
      clear hb1 hg hd cn bz hzz hst hle
      go_wp2_with fail
      generalize wr.alloc (.cells #[.int .u8 x.κ, .slice x.A x.n x.c, .slice x.A2 x.n2 x.c2, .slice x.A3 x.n3 x.c3] 65) = W0 at *
      refine (sizeOf_c _ d.p d.k z W0 CN.out HZZ.out).mono ?_
      rintro e w4 ⟨rfl, b4⟩
      have HX : Hid (Below w1.heap.size w1 w4) := Lib.hid (below_both hj.out (below_both BX.out b4))
      clear b4 c0 c1 c2 c3 hj
      go_wp2
      exact ⟨⟨k + 1, t + z, by omega, by go_num, by go_num, HT, HX⟩, by simp [intOf]; omega⟩
    · obtain rfl : k = n := by omega
      have htm : t = m := by
        have := ht.out
        rw [HN.out, List.take_length] at this
        have := HM.out
        omega
      have HB := Lib.hid (below_both B1.out hj.out)
      subst htm
      clear hj ht
      go_wp2
      go_ret
      exact ⟨rfl, HB.out⟩
end Go.Proofs.YtponcpneflhpfaaGreatDoor
namespace Go.Proofs.YtponcpneflhpfaaGreatDoor
open Go.RowKit
set_option linter.unusedVariables false

theorem bodies_app (cs : List Ct) (k : Nat) : bodies cs = bodies (cs.take k) ++ bodies (cs.drop k) := by
  unfold bodies
  rw [← List.flatMap_append, List.take_append_drop]
theorem bodies_at {cs : List Ct} {k : Nat} {d : Ct} (h : cs[k]? = some d) : bodies (cs.drop k) = d.body ++ bodies (cs.drop (k + 1)) := flatMap_split _ h
theorem ag_bodies {L rest : List UInt8} {cs : List Ct} {q k : Nat} {d : Ct} (h : Ag (L.drop q) (bodies cs ++ rest)) (hd : cs[k]? = some d) (hl : q + szs (cs.take k) ≤ L.length) : Ag (L.drop (q + szs (cs.take k))) (d.body ++ (bodies (cs.drop (k + 1)) ++ rest)) := by
  rw [bodies_app cs k, bodies_at hd, List.append_assoc, List.append_assoc] at h
  have := (h.cut_at (bodies_len (cs.take k)) (by rw [List.length_drop]; omega)).2
  rw [List.drop_drop] at this
  exact this
/-- The containers that have been read. -/
structure Cr (w wr : World) (g : Nat) (vb : Value) (q : Nat) (cs : List Ct) (vf vk vc vo : Value) (k : Nat) (lv : Value) (bs : List Bd) : Prop where
  ih : Ih wr g vb (q + szs (cs.take k)) cs vf vk vc vo
  own : GwV eC wr w.heap.size lv bs
  len : bs.length = k
  cn : ∀ (i : Nat) (b : Bd) (c : Ct), bs[i]? = some b → cs[i]? = some c → Cn (fun x => x ≠ g ∧ lv.ownBlock ≠ some x) wr b.val c.p c.k
  grw : w.grownBy wr (some g)
def CsAns (w : World) (g : Nat) (vb : Value) (L : List UInt8) (q : Nat) (cs : List Ct) (vf vk vc vo : Value) (e : Ending) (w' : World) : Prop :=
  (L.length < q + szs cs ∧ e = .returned (.tuple #[.slice none 0 0, .int .i64 4]) ∧ w.grownBy w' (some g)) ∨
  (q + szs cs ≤ L.length ∧ (∃ lv bs, e = .returned (.tuple #[lv, .int .i64 0]) ∧ Cl (fun _ => True) w' lv bs cs) ∧ Ih w' g vb (q + szs cs) cs vf vk vc vo ∧ w.grownBy w' (some g))
theorem ofls_at {cs : List Ct} (h : hofs cs = true) {k : Nat} {d : Ct} (hd : cs[k]? = some d) : ((ofls cs).map UInt32.ofNat)[k]? = some (UInt32.ofNat (ahed cs + szs (cs.take k))) := by
  unfold ofls
  rw [if_pos h, List.getElem?_map, ofl_at _ hd]; rfl
set_option maxHeartbeats 16000000 in
theorem icontainers_c {g q n : Nat} {A : Option Addr} {c : Nat} {vf vk vc vo : Value} {L rest : List UInt8} (cs : List Ct) (w : World) (h : Ih w g (.slice A L.length c) q cs vf vk vc vo) (hqa : q = ahed cs) (hb : Gs e8 w 0 g (.slice A L.length c) L) (hq : q ≤ L.length) (hl : L.length ≤ 10000000) (hcn : cs.length = n) (hn : n ≤ 65536) (ha : Ag (L.drop q) (bodies cs ++ rest)) (hz : ahed cs + szs cs ≤ 40000000) :
    Calls Tryz.prog 202 #[.pointer (some ⟨g, 0, none⟩)] w (CsAns w g (.slice A L.length c) L q cs vf vk vc vo) := by
  have hg := h.row.lt
  have hni : (n : Int) ≤ 65536 := by omega
  have c6 := h.row.cell 6
  have H := Lib.hid h
  have HB := Lib.hid hb
  have HA := Lib.hid ha
  have HGW := Lib.hid hg
  have HCN := Lib.hid hcn
  have HQA := Lib.hid hqa
  have HZ := Lib.hid hz
  have HLQ := Lib.hid hq
  obtain ⟨A6, d6, rfl, -⟩ := h.ns
  obtain ⟨A7, d7, rfl, -⟩ := h.os
  obtain ⟨m7, hm7⟩ : ∃ m7, m7 = ((ofls cs).map UInt32.ofNat).length := ⟨_, rfl⟩
  have hm76 : (m7 : Int) ≤ 65536 := by
    rw [hm7, List.length_map]
    have := ofls_len cs
    have := osN_le n (anyr cs) hn
    rw [ofsl_N, hcn] at *
    omega
  have hofy : hofs cs = true → m7 = n := fun e => by rw [hm7, List.length_map]; unfold ofls; rw [if_pos e, ofl_len, hcn]
  have hofn : hofs cs = false → m7 = 0 := fun e => by rw [hm7, List.length_map]; unfold ofls; rw [if_neg (by rw [e]; simp)]; rfl
  have HOY := Lib.hid hofy
  have HON := Lib.hid hofn
  rw [← hm7] at H ⊢
  rw [List.length_map, hcn] at H c6 ⊢
  obtain ⟨vb, hvb⟩ : ∃ vb, vb = Value.slice A L.length c := ⟨_, rfl⟩
  clear h hb ha hcn hqa hz hm7 hofy hofn hg hq
  go_enter Tryz.func202, Tryz.ntmps202
  go_wp2
  go_loopw [4, 14] (fun s4 s14 wr => ∃ (k : Nat) (bs : List Bd) (lv : Value), k ≤ n ∧ s14 = .int .i64 k ∧ s4 = lv ∧ q + szs (cs.take k) ≤ L.length ∧ Hid (Cr w wr g (.slice A L.length c) q cs vf vk (.slice A6 n d6) (.slice A7 m7 d7) k lv bs)) (fun _ s14 _ => n - (intOf s14).toNat)
  case atStart => exact ⟨0, [], _, Nat.zero_le _, rfl, rfl, by simpa [szs] using HLQ.out, Lib.hid ⟨by simpa [szs] using H.out, GwV.nil_ _ _, rfl, fun i b c h => by simp at h, World.grownBy.refl _ _⟩⟩
  case round =>
    obtain ⟨k, bs, lv, hk, rfl, hs4, hqk, hj⟩ := hrel
    have hs4 := hs4.symm
    subst hs4
    have HJ := Lib.hid hj.out
    by_cases hlt : k < n
    · obtain ⟨d, hd⟩ : ∃ d, cs[k]? = some d := ⟨_, List.getElem?_eq_getElem (by rw [HCN.out]; exact hlt)⟩
      have hkl : (k : Int) < n := by omega
      obtain ⟨b6, off6, y6, e6, -, hlb6, hhb6, hy6, cy6⟩ := gse_at HJ.out.ih.ns (k := k) (by rw [List.length_map, HCN.out]; exact hlt)
      subst e6
      rw [List.getElem?_map, hd] at hy6
      injection hy6 with hy6
      obtain ⟨N, hN⟩ : ∃ N, N = d.n := ⟨_, rfl⟩
      have cN : wr.cell? ⟨b6, off6 + k, none⟩ = some (.int .i64 N) := by rw [hN, hy6]; exact cy6
      have c7 := HJ.out.ih.row.cell 7
      have c1 := HJ.out.ih.row.cell 1
      obtain ⟨T, hT⟩ : ∃ T, T = q + szs (cs.take k) := ⟨_, rfl⟩
      rw [← hT] at c1
      have hT4 : (T : Int) ≤ 40000000 := by have := szs_take_le cs k; have := HZ.out; have := HQA.out; omega
      have HD := Lib.hid hd
      have HN := Lib.hid hN
      have HTT := Lib.hid hT
      have HQK := Lib.hid hqk
      have HIC : Hid (∀ t, Calls Tryz.prog 256 #[.pointer (some ⟨g, 0, none⟩), .int .i64 k] (wr.drewN t) (CtAns (wr.drewN t) g (.slice A L.length c) L (q + szs (cs.take k)) cs vf vk (.slice (some ⟨b6, off6, none⟩) n d6) (.slice A7 m7 d7) d)) := Lib.hid (fun t => by
        have hbr := HB.out.grown HJ.out.grw (Nat.le_of_lt HGW.out) (fun j e => by injection e with e; exact .inr (Nat.le_of_eq e))
        exact icontainer_c (i := k) cs d (wr.drewN t) (HJ.out.ih.step (below_drewN (Below.refl _ _) t)) (hbr.drewN t) hqk hl hd (by rw [HCN.out]; exact hn) (ag_bodies HA.out hd hqk))
      clear hj hd hy6 cy6 hN hT hlb6 hhb6 hqk
      go_upto_region 5 with fail
      go_cut [39] (fun s39 wx => s39 = .bool false ∧ ∃ t, wx = wr.drewN t)
      case first =>
        cases hof : hofs cs with
        | true =>
          obtain ⟨b7, off7, y7, e7, -, -, -, hy7, cy7⟩ := gse_at HJ.out.ih.os (k := k) (by rw [List.length_map]; have := ofls_len cs; rw [ofsl, if_pos hof] at this; rw [← HCN.out] at hlt; omega)
          subst e7
          rw [ofls_at hof HD.out] at hy7
          injection hy7 with hy7
          have cT : wr.cell? ⟨b7, off7 + k, none⟩ = some (.int .u32 T) := by
            rw [cy7, ← hy7]
            show some (Value.int .u32 ((UInt32.ofNat _).toNat : Int)) = _
            rw [UInt32.toNat_ofNat', Nat.mod_eq_of_lt (by have := HTT.out; have := HQA.out; omega), HTT.out, HQA.out]
          have hm7n := HOY.out hof
          subst hm7n
          have g0 : decide ((m7 : Int) > 0) = true := decide_eq_true (by omega)
          have g0n : decide (m7 > 0) = true := decide_eq_true (by omega)
          have g2 : ((T : Int) != (T : Int)) = false := by simp
          clear cy7 hy7 hof
          go_quiet (fail)
          go_wp2_with fail
          go_meet
          exact ⟨rfl, _, rfl⟩
        | false =>
          have hm7n := HON.out hof
          subst hm7n
          have g0 : decide ((0 : Int) > 0) = false := by decide
          clear hof
          go_quiet (fail)
          go_wp2_with fail
          go_meet
          exact ⟨rfl, _, rfl⟩
      case rest =>
        obtain ⟨rfl, t, rfl⟩ := hcut
        go_wp2_with fail
        refine (HIC.out t).mono ?_
        intro e w2 hP
        rcases hP with ⟨h1, ⟨x, rfl⟩, -, hg2⟩ | ⟨h1, ⟨x, rfl, cn⟩, hi, hg2⟩
        · have hsl := szs_take_le cs (k + 1)
          rw [szs_take HD.out] at hsl
          have HX := Lib.hid (show L.length < q + szs cs by omega)
          have HG := Lib.hid (grown_below ((HJ.out.grw).trans (show wr.grownBy w2 (some g) from ⟨hg2.os, hg2.tape, hg2.output, hg2.size, hg2.block⟩)) (bxr w2 65 #[.int .u8 x.κ, .slice x.A x.n x.c, .slice x.A2 x.n2 x.c2, .slice x.A3 x.n3 x.c3]))
          clear h1 hg2 hsl
          go_wp2
          go_ret2
          exact .inl ⟨HX.out, rfl, HG.out⟩
        · have hg3 : wr.grownBy w2 (some g) := ⟨hg2.os, hg2.tape, hg2.output, hg2.size, hg2.block⟩
          have hwr : w.heap.size ≤ wr.heap.size := HJ.out.grw.size
          have hog : lv.ownBlock ≠ some g := fun e => by have := (HJ.out.own.lt g e).1; have := HGW.out; omega
          have hol : ∀ y, lv.ownBlock = some y → w.heap.size ≤ y ∧ y < wr.heap.size := fun y hy => HJ.out.own.lt y hy
          have bz2 := bxr w2 65 #[.int .u8 x.κ, .slice x.A x.n x.c, .slice x.A2 x.n2 x.c2, .slice x.A3 x.n3 x.c3]
          have R2 := Row.new w2 65 #[.int .u8 x.κ, .slice x.A x.n x.c, .slice x.A2 x.n2 x.c2, .slice x.A3 x.n3 x.c3]
          have CN2 := (cn.mono (N' := fun y => y ≠ g ∧ lv.ownBlock ≠ some y) fun y _ hy => ⟨by have h5 : wr.heap.size ≤ y := hy; have := HGW.out; omega, fun e => by have h5 : wr.heap.size ≤ y := hy; have := (hol y e).2; omega⟩).step bz2
          have OW2 := (HJ.out.own.kept hg3 (fun y hy e => by injection e with e; exact hog (by rw [hy, e]))).below bz2 (Nat.le_refl _)
          have OLD2 : ∀ (i : Nat) (b : Bd) (c : Ct), bs[i]? = some b → cs[i]? = some c → Cn (fun y => y ≠ g ∧ lv.ownBlock ≠ some y) (w2.alloc (.cells #[.int .u8 x.κ, .slice x.A x.n x.c, .slice x.A2 x.n2 x.c2, .slice x.A3 x.n3 x.c3] 65)) b.val c.p c.k := fun i b c h1 h2 => ((HJ.out.cn i b c h1 h2).grown hg3 (fun h => h.1 rfl)).step bz2
          have G2 := grown_below (HJ.out.grw.trans hg3) bz2
          have RW2 := hi.row.below bz2 hi.row.lt
          have HCN2 := Lib.hid CN2
          have HOW2 := Lib.hid OW2
          have HOLD2 := Lib.hid OLD2
          have HG2 := Lib.hid G2
          have HRW2 := Lib.hid RW2
          have HR2 := Lib.hid R2
          have HOG := Lib.hid hog
          have HSZ2 := Lib.hid (show wr.heap.size ≤ (w2.alloc (.cells #[.int .u8 x.κ, .slice x.A x.n x.c, .slice x.A2 x.n2 x.c2, .slice x.A3 x.n3 x.c3] 65)).heap.size from Nat.le_trans hg3.size bz2.size)
          have HH1 := Lib.hid h1
          have HOL := Lib.hid hol
          have HWR := Lib.hid hwr
          clear h1 cn hi hg2 hg3 bz2 R2 CN2 OW2 OLD2 G2 RW2 hog hol hwr
          go_wp2_with fail
          generalize w2.alloc (.cells #[.int .u8 x.κ, .slice x.A x.n x.c, .slice x.A2 x.n2 x.c2, .slice x.A3 x.n3 x.c3] 65) = W2 at *
          refine (len_c _ d.p d.k N W2 HN.out.symm HCN2.out).mono ?_
          rintro e w3 ⟨rfl, b3⟩
          have R3 := HR2.out.below b3 HR2.out.lt
          have k0 := R3.cell 0
          have k1 := R3.cell 1
          have k2 := R3.cell 2
          have k3 := R3.cell 3
          have g2 : ((N : Int) != (N : Int)) = false := by simp
          have bz3 := bxr w3 65 #[.int .u8 x.κ, .slice x.A x.n x.c, .slice x.A2 x.n2 x.c2, .slice x.A3 x.n3 x.c3]
          have b4 := below_both b3 bz3
          have HOW4 := Lib.hid (HOW2.out.below b4 (Nat.le_refl _))
          have HB4 := Lib.hid b4
          have HSZ4 := Lib.hid (show w.heap.size ≤ (w3.alloc (.cells #[.int .u8 x.κ, .slice x.A x.n x.c, .slice x.A2 x.n2 x.c2, .slice x.A3 x.n3 x.c3] 65)).heap.size from Nat.le_trans HWR.out (Nat.le_trans HSZ2.out b4.size))
          have HLB := Lib.hid (show bs.length + 1 ≤ 1000000000 by rw [HJ.out.len]; omega)
          have HW3 := Lib.hid (show (w3.alloc (.cells #[.int .u8 x.κ, .slice x.A x.n x.c, .slice x.A2 x.n2 x.c2, .slice x.A3 x.n3 x.c3] 65)).heap.size = w3.heap.size + 1 by simp)
          clear R3 bz3 b4
          go_wp2_with (at_builtin; refine wpList_gappv (P := Tryz.prog) eC _ rfl _ _ _ rfl w.heap.size sliC infC _ bs rfl HOW4.out _ _ _ [x] rfl (GsV.one (k := eC) w3 x _ rfl) (by simpa using HLB.out) HSZ4.out ?_; intro v5 w5 o5 g5 e5; have O5 := Lib.hid o5; have G5 := Lib.hid g5; have E5 := Lib.hid e5; clear o5 g5 e5)
          have GT := grown_own (grown_below HG2.out HB4.out) G5.out (fun y hy => (HOL.out y hy).1) (Nat.le_refl _)
          have RT := (HRW2.out.below HB4.out HRW2.out.lt).grown G5.out HOG.out
          rw [show q + szs (cs.take k) + d.sz = q + szs (cs.take (k + 1)) by rw [szs_take HD.out]; omega] at RT
          have hkp : ∀ {u : Value} {p : Nat → Bool} {j : Nat}, Cn (fun y => y ≠ g ∧ lv.ownBlock ≠ some y) W2 u p j → Cn (fun y => y ≠ g ∧ v5.ownBlock ≠ some y) w5 u p j := fun hcn => by
            have h6 := (hcn.step HB4.out).mono (N' := fun y => (y ≠ g ∧ lv.ownBlock ≠ some y) ∧ v5.ownBlock ≠ some y) (fun y hy hn => ⟨hn, fun e => by
              rcases E5.out with h7 | h7
              · rw [h7] at e; exact hn.2 e
              · rw [e] at h7; injection h7 with h7; have := HW3.out; omega⟩)
            exact (h6.keep G5.out.size fun q hq hlt => World.cell?_of_block (G5.out.block _ hlt fun e => hq.1.2 e.symm)).mono fun y _ hn => ⟨hn.1.1, hn.2⟩
          have HCR : Hid (Cr w w5 g (.slice A L.length c) q cs vf vk (.slice (some ⟨b6, off6, none⟩) n d6) (.slice A7 m7 d7) (k + 1) v5 (bs ++ [x])) := Lib.hid ⟨H.out.next GT RT, O5.out, by rw [List.length_append, HJ.out.len]; rfl, fun i b c h1 h2 => by
            by_cases hik : i < k
            · rw [List.getElem?_append_left (by rw [HJ.out.len]; exact hik)] at h1
              exact hkp (HOLD2.out i b c h1 h2)
            · have hi2 := (List.getElem?_eq_some_iff.1 h1).1
              rw [List.length_append, HJ.out.len] at hi2
              simp at hi2
              obtain rfl : i = k := by omega
              rw [List.getElem?_append_right (by rw [HJ.out.len]; exact Nat.le_refl _), HJ.out.len, Nat.sub_self] at h1
              simp at h1
              subst h1
              rw [HD.out] at h2
              injection h2 with h2
              subst h2
              exact hkp HCN2.out, GT⟩
          have hqk2 : q + szs (cs.take (k + 1)) ≤ L.length := by rw [szs_take HD.out]; have := HH1.out; omega
          exact ⟨⟨k + 1, bs ++ [x], v5, by omega, by go_num, rfl, hqk2, HCR⟩, by simp [intOf]; omega⟩
    · obtain rfl : k = n := by omega
      have HX : Hid (CsAns w g (.slice A L.length c) L q cs vf vk (.slice A6 k d6) (.slice A7 m7 d7) (.returned (.tuple #[lv, .int .i64 0])) wr) := Lib.hid (by
        have h1 := HJ.out.ih
        rw [← HCN.out, List.take_length] at h1 hqk
        rw [← HCN.out]
        exact .inr ⟨hqk, ⟨lv, bs, rfl, HJ.out.own.sl.more (Nat.zero_le _) (Nat.le_refl _), by rw [HJ.out.len, HCN.out], fun i b c h1 h2 => (HJ.out.cn i b c h1 h2).mono fun _ _ _ => trivial⟩, h1, HJ.out.grw⟩)
      clear hj hqk
      go_wp2
      go_ret2
      exact HX.out
end Go.Proofs.YtponcpneflhpfaaGreatDoor
