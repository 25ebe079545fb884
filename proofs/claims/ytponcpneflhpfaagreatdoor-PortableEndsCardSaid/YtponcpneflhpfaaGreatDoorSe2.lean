/- Walks: Write, Read in the laws' forms; what is known of images. -/
import Derived.Test.YtponcpneflhpfaaGreatDoorSe1
import Derived.OwnWalk
import Derived.Test.YtponcpneflhpfaaGreatDoorSc7
import Derived.Test.YtponcpneflhpfaaGreatDoorSe0
namespace Go.Proofs.YtponcpneflhpfaaGreatDoor
open Go.RowKit
set_option linter.unusedVariables false

/-- What is had of Read. -/
def ReadAns (w : World) (X : List UInt8) (i : Nat) (P : Nat → Bool) (cs : List Ct) (e : Ending) (w' : World) : Prop :=
  Below w.heap.size w w' ∧ ((X.length < i + (img cs).length ∧ e = .returned (.tuple #[.pointer none, .int .i64 0, .int .i64 4])) ∨
    (i + (img cs).length ≤ X.length ∧ ∃ b, e = .returned (.tuple #[.pointer (some ⟨b, 0, none⟩), .int .i64 (i + (img cs).length : Nat), .int .i64 0]) ∧ St (fun _ => True) w' (.pointer (some ⟨b, 0, none⟩)) P))
theorem below_grown {w w1 w2 : World} (h : Below w.heap.size w w1) (g : w1.grownBy w2 (some w.heap.size)) : Below w.heap.size w w2 :=
  ⟨g.os.trans h.os, g.tape.trans h.tape, g.output.trans h.output, Nat.le_trans h.size g.size, fun k hk => (g.block k (Nat.lt_of_lt_of_le hk h.size) (fun e => by injection e with e; omega)).trans (h.block k hk)⟩
set_option maxHeartbeats 8000000 in
theorem read_c {c i : Nat} {A : Option Addr} {X rest : List UInt8} (P : Nat → Bool) (cs : List Ct) (w : World) (hT : Tb w) (hb : Gs e8 w 0 w.heap.size (.slice A X.length c) X) (hi : i ≤ X.length) (hl : X.length ≤ 10000000) (hO : OfP P cs) (ha : Ag (X.drop i) (img cs ++ rest)) (hz : ahed cs + szs cs ≤ 40000000) :
    Calls Tryz.prog 51 #[.slice A X.length c, .int .i64 i] w (ReadAns w X i P cs) := by
  have g0 : decide ((i : Int) < 0) = false := decide_eq_false (by omega)
  have g1 : decide ((i : Int) > (X.length : Int)) = false := decide_eq_false (by omega)
  have hii : (i : Int) ≤ X.length := by omega
  have hli : (X.length : Int) ≤ 10000000 := by omega
  obtain ⟨-, hlc, hcm⟩ := gs_caps hb
  have hlc2 : (X.length : Int) ≤ c := by omega
  have hic : (i : Int) ≤ c := by omega
  have hci2 : (c : Int) ≤ 9223372036854775807 := by omega
  have HI := Lib.hid hi
  have HB := Lib.hid hb
  have TT := Lib.hid hT
  have HO := Lib.hid hO
  have HA := Lib.hid ha
  have HZ := Lib.hid hz
  clear hb hT hO ha hz hlc hcm
  go_enter Tryz.func51, Tryz.ntmps51
  go_wp2_with fail
  case inr =>
    have d9 := slice_cut HB.out (q := i) (s := X.length - i) (by omega)
    rw [if_neg (by assumption)] at d9
    rw [List.take_of_length_le (by rw [List.length_drop]; exact Nat.le_refl _)] at d9
    have hL : X.length - i = (X.drop i).length := (List.length_drop ..).symm
    rw [hL] at d9 ⊢
    have bz := bxr w 169 #[.slice (Option.map (fun x => x.add i) A) (X.drop i).length (c - i), .int .i64 0, .int .i64 0, .bool false, .slice none 0 0, .slice none 0 0, .slice none 0 0, .slice none 0 0]
    have RX := Lib.hid (Row.new w 169 #[.slice (Option.map (fun x => x.add i) A) (X.drop i).length (c - i), .int .i64 0, .int .i64 0, .bool false, .slice none 0 0, .slice none 0 0, .slice none 0 0, .slice none 0 0])
    have BZ := Lib.hid bz
    have D9 := Lib.hid (d9.below bz)
    have HLL := Lib.hid (show (X.drop i).length ≤ 10000000 by rw [← hL]; omega)
    have HLE := Lib.hid hL
    clear d9 bz hL
    refine (set_c P cs _ (TT.out.step BZ.out) TT.out.1 RX.out D9.out HLL.out HO.out HA.out HZ.out).mono ?_
    rintro e w2 ⟨hg, hP⟩
    have HG := Lib.hid (below_grown BZ.out hg)
    clear hg
    rcases hP with ⟨h1, rfl⟩ | ⟨h1, ⟨b, rfl, hst⟩, c1⟩
    · have HS := Lib.hid (show X.length < i + (img cs).length by rw [← HLE.out] at h1; have := HI.out; omega)
      clear h1
      go_wp2
      go_ret3
      exact ⟨HG.out, .inl ⟨HS.out, rfl⟩⟩
    · have HS := Lib.hid (show i + (img cs).length ≤ X.length by rw [← HLE.out] at h1; have := HI.out; omega)
      obtain ⟨m, hm⟩ : ∃ m, (img cs).length = m := ⟨_, rfl⟩
      have hmi : (i : Int) + m ≤ X.length := by have := HS.out; omega
      have HST := Lib.hid hst
      rw [hm] at c1
      have HM := Lib.hid hm
      clear h1 hst hm
      go_wp2_with fail
      go_quiet (fail)
      go_wp2
      go_ret3
      exact ⟨below_drewN HG.out _, .inr ⟨HS.out, ⟨b, by rw [HM.out]; rfl, HST.out.step (below_drewN (Below.refl _ _) _)⟩⟩⟩
  case inl =>
    have d9 := slice_cut HB.out (q := i) (s := X.length - i) (by omega)
    rw [if_pos (by assumption), show c - i = 0 by omega] at d9
    rw [List.take_of_length_le (by rw [List.length_drop]; exact Nat.le_refl _)] at d9
    have hL : X.length - i = (X.drop i).length := (List.length_drop ..).symm
    rw [hL] at d9 ⊢
    have bz := bxr w 169 #[.slice A (X.drop i).length 0, .int .i64 0, .int .i64 0, .bool false, .slice none 0 0, .slice none 0 0, .slice none 0 0, .slice none 0 0]
    have RX := Lib.hid (Row.new w 169 #[.slice A (X.drop i).length 0, .int .i64 0, .int .i64 0, .bool false, .slice none 0 0, .slice none 0 0, .slice none 0 0, .slice none 0 0])
    have BZ := Lib.hid bz
    have D9 := Lib.hid (d9.below bz)
    have HLL := Lib.hid (show (X.drop i).length ≤ 10000000 by rw [← hL]; omega)
    have HLE := Lib.hid hL
    clear d9 bz hL
    refine (set_c P cs _ (TT.out.step BZ.out) TT.out.1 RX.out D9.out HLL.out HO.out HA.out HZ.out).mono ?_
    rintro e w2 ⟨hg, hP⟩
    have HG := Lib.hid (below_grown BZ.out hg)
    clear hg
    rcases hP with ⟨h1, rfl⟩ | ⟨h1, ⟨b, rfl, hst⟩, c1⟩
    · have HS := Lib.hid (show X.length < i + (img cs).length by rw [← HLE.out] at h1; have := HI.out; omega)
      clear h1
      go_wp2
      go_ret3
      exact ⟨HG.out, .inl ⟨HS.out, rfl⟩⟩
    · have HS := Lib.hid (show i + (img cs).length ≤ X.length by rw [← HLE.out] at h1; have := HI.out; omega)
      obtain ⟨m, hm⟩ : ∃ m, (img cs).length = m := ⟨_, rfl⟩
      have hmi : (i : Int) + m ≤ X.length := by have := HS.out; omega
      have HST := Lib.hid hst
      rw [hm] at c1
      have HM := Lib.hid hm
      clear h1 hst hm
      go_wp2_with fail
      go_quiet (fail)
      go_wp2
      go_ret3
      exact ⟨below_drewN HG.out _, .inr ⟨HS.out, ⟨b, by rw [HM.out]; rfl, HST.out.step (below_drewN (Below.refl _ _) _)⟩⟩⟩
end Go.Proofs.YtponcpneflhpfaaGreatDoor
namespace Go.Proofs.YtponcpneflhpfaaGreatDoor
set_option linter.unusedVariables false

theorem ct_one (s : Sn) : ct (clp32 [s]) 4294967296 = gk s := by
  rw [ct_clp32 s.1 s.2 _ (Nat.le_refl _)]
  unfold gk
  split <;> omega
theorem ct_spans (l : List Sn) : ct (clp32 l) 4294967296 ≤ gsum l := by
  induction l with
  | nil => rw [ct_zero fun j _ => by simp [clp32, sp]]; exact Nat.zero_le _
  | cons s l ih =>
    have e : gsum (s :: l) = gk s + gsum l := by unfold gsum; simp
    have h1 := ct_or_le (clp32 [s]) (clp32 l) 4294967296
    have h2 : ct (clp32 (s :: l)) 4294967296 = ct (fun x => clp32 [s] x || clp32 l x) 4294967296 := ct_ext fun j hj => by
      unfold clp32
      rw [sp_cons, sp_cons, sp_nil]
      cases decide (j < 4294967296) <;> simp
    rw [ct_one] at h1
    rw [h2, e]
    exact Nat.le_trans h1 (Nat.add_le_add_left ih _)
end Go.Proofs.YtponcpneflhpfaaGreatDoor
namespace Go.Proofs.YtponcpneflhpfaaGreatDoor
set_option linter.unusedVariables false
set_option linter.unusedSimpArgs false

theorem cso_none : cso (fun _ => false) = [] := by
  unfold cso
  rw [ls_skip (nz fun _ => false) (a := 0) (b := 65536) (by omega) (fun j _ _ => nz_not.2 fun _ _ => rfl)]
  rfl
theorem cso_one (P : Nat → Bool) (h0 : nz P 0 = true) (h : ∀ x, 65536 ≤ x → P x = false) : cso P = [cto P 0] := by
  unfold cso
  rw [ls_skip (nz P) (a := 1) (b := 65536) (by omega) (fun j h1 _ => nz_not.2 fun x _ => h _ (by omega)), ls_next (nz P) (Nat.le_refl 0) (fun j h1 h2 => by omega) h0]
  rfl
theorem img_none : img [] = [58, 48, 0, 0, 0, 0, 0, 0] := by decide
theorem img_arr (k : UInt16) (p : Nat → Bool) (n : Nat) (hn : ct p 65536 = n) (h4 : n ≤ 4096) : img [⟨k, p, false⟩] = (le 4 12346 ++ le 4 1) ++ ((le 2 k.toNat ++ le 2 (n - 1)) ++ (le 4 16 ++ bdA (ls p 65536))) := by
  simp [img, coo, anyr, hdr, ofs, hofs, bodies, Ct.body, Ct.n, bd4, ofl, ahed, cool, ofsl, hn, h4]
theorem img_run (k : UInt16) (p : Nat → Bool) (n m : Nat) (hn : ct p 65536 = n) (hm : ct (hm p) 65536 = m) : img [⟨k, p, true⟩] = (le 2 12347 ++ (le 2 0 ++ [1])) ++ ((le 2 k.toNat ++ le 2 (n - 1)) ++ (le 2 m ++ bdP (rs p 65536))) := by
  have e : flg (fbit [⟨k, p, true⟩]) 1 = [1] := rfl
  simp [img, coo, anyr, hdr, ofs, hofs, bodies, Ct.body, Ct.n, Ct.m, bd4, ofl, ahed, cool, ofsl, hn, hm, e]
theorem blk12 (x : Nat) : blk (mk32 [1, 2]) 0 x = mk [1, 2] x := by
  show mk32 [1, 2] (65536 * 0 + x) = _
  rw [Nat.mul_zero, Nat.zero_add]
  rfl
theorem img12 : img (cso (mk32 [1, 2])) = [58, 48, 0, 0, 1, 0, 0, 0, 0, 0, 1, 0, 16, 0, 0, 0, 1, 0, 2, 0] := by
  have e : blk (mk32 [1, 2]) 0 = mk [1, 2] := funext blk12
  have hl : ls (mk [1, 2]) 65536 = [1, 2] := ls_mk (by decide)
  have hc : ct (mk [1, 2]) 65536 = 2 := by rw [← ls_ct, hl]; rfl
  have hm : ct (hm (mk [1, 2])) 65536 = 1 := by rw [hm_mk (by decide)]; decide
  have h0 : nz (mk32 [1, 2]) 0 = true := by unfold nz; rw [e, hc]; rfl
  have hk : cto (mk32 [1, 2]) 0 = ⟨0, mk [1, 2], false⟩ := by
    unfold cto
    rw [show (0 : UInt16).toNat = 0 from rfl, e]
    unfold ck
    rw [hc, hm]
    rfl
  rw [cso_one _ h0 (fun x hx => by simp [mk32]; omega), hk, img_arr 0 _ 2 hc (by omega), hl]
  decide
def sp10 (x : Nat) : Bool := decide (x < 10)
theorem clp10 (x : Nat) : clp32 [((0 : UInt64), (10 : UInt64))] x = sp10 x := by
  have e0 : (0 : UInt64).toNat = 0 := rfl
  have e1 : (10 : UInt64).toNat = 10 := rfl
  unfold clp32 sp sp10
  rw [List.any_cons, List.any_nil, Bool.or_false, Bool.eq_iff_iff]
  unfold ins
  rw [e0, e1]
  simp
  omega
theorem img10 : img (cso (clp32 [((0 : UInt64), (10 : UInt64))])) = [59, 48, 0, 0, 1, 0, 0, 9, 0, 1, 0, 0, 0, 9, 0] := by
  rw [show clp32 [((0 : UInt64), (10 : UInt64))] = sp10 from funext clp10]
  have e : blk sp10 0 = sp10 := funext fun x => by show sp10 (65536 * 0 + x) = _; rw [Nat.mul_zero, Nat.zero_add]
  have hr : rs sp10 65536 = [((0 : UInt16), (9 : UInt16))] := (rs_mr (by decide) fun x _ => by
    have e0 : (0 : UInt16).toNat = 0 := rfl
    have e1 : (9 : UInt16).toNat = 9 := rfl
    simp [mr, inr, lst, sp10, e0, e1]
    omega).symm
  have hc : ct sp10 65536 = 10 := by
    rw [show 65536 = 10 + 65526 from rfl, ct_add, ct_zero (p := fun j => sp10 (10 + j)) fun j _ => by unfold sp10; exact decide_eq_false (by omega)]
    decide
  have hm : ct (hm sp10) 65536 = 1 := by rw [← rs_len, hr]; rfl
  have h0 : nz sp10 0 = true := by unfold nz; rw [e, hc]; rfl
  have hk : cto sp10 0 = ⟨0, sp10, true⟩ := by
    unfold cto
    rw [show (0 : UInt16).toNat = 0 from rfl, e]
    unfold ck
    rw [hc, hm]
    rfl
  rw [cso_one _ h0 (fun x hx => by unfold sp10; exact decide_eq_false (by omega)), hk, img_run 0 _ 10 1 hc hm, hr]
  decide
theorem ct12 : ct (mk32 [1, 2]) 4294967296 = 2 := by
  rw [show 4294967296 = 3 + 4294967293 from rfl, ct_add, ct_zero (p := fun j => mk32 [1, 2] (3 + j)) fun j _ => by simp [mk32]; omega]
  decide
theorem img_le (P : Nat → Bool) (h : ct P 4294967296 ≤ 300000) : (img (cso P)).length ≤ 4000000 := by
  have := (img_small P).2
  have := cso_len P
  omega
end Go.Proofs.YtponcpneflhpfaaGreatDoor
namespace Go.Proofs.YtponcpneflhpfaaGreatDoor
open Go.RowKit
set_option linter.unusedVariables false

theorem wcookie_c {base g n : Nat} {r : Bool} {v u : Value} {l : List UInt8} (bs : List Bd) (cs : List Ct) (w : World) (hc : Cb base w u bs cs) (hcn : cs.length = n) (hr : anyr cs = r) (h : Wr w base g n r v l) (hn : n ≤ 65536) (hb : l.length ≤ 40000000) :
    Calls Tryz.prog 115 #[.pointer (some ⟨g, 0, none⟩), u] w (Wo w base g n r v (l ++ coo cs)) := by
  unfold coo
  rw [hr, hcn]
  cases r with
  | false => exact wcookie_no w h hn hb
  | true =>
    obtain ⟨i, hi, _⟩ := anyr_iff.1 hr
    exact wcookie_yes bs cs w hc hcn h hn (by omega) hb
theorem bodies_take {cs : List Ct} {k : Nat} {c : Ct} (h : cs[k]? = some c) : bodies (cs.take (k + 1)) = bodies (cs.take k) ++ c.body := flatMap_take _ h
theorem len_img1 {cs : List Ct} (h : ahed cs + szs cs ≤ 40000000) : cool cs ≤ 40000000 := by unfold ahed at h; omega
theorem len_img2 {cs : List Ct} (h : ahed cs + szs cs ≤ 40000000) : cool cs + 4 * cs.length ≤ 40000000 := by unfold ahed at h; omega
theorem len_img3 {cs : List Ct} (k : Nat) (h : ahed cs + szs cs ≤ 40000000) : cool cs + 4 * cs.length + ofsl cs + szs (cs.take k) ≤ 40000000 := by have := szs_take_le cs k; unfold ahed at h; omega
set_option maxHeartbeats 8000000 in
theorem pwrite_c {N : Nat → Prop} (v : Value) (P : Nat → Bool) (w : World) (hT : Tb w) (hN : ∀ b, N b → b < w.heap.size) (h : St N w v P) (hb : (img (cso P)).length ≤ 40000000) :
    Calls Tryz.prog 47 #[v] w fun e w' => ∃ v', e = .returned v' ∧ Gw e8 w' w.heap.size v' (img (cso P)) ∧ Below w.heap.size w w' := by
  have H := Lib.hid h
  have NN := Lib.hid hN
  have TT := Lib.hid hT
  obtain ⟨n, hn⟩ : ∃ n, n = (cso P).length := ⟨_, rfl⟩
  obtain ⟨r, hr⟩ : ∃ r, anyr (cso P) = r := ⟨_, rfl⟩
  obtain ⟨m, hm⟩ : ∃ m, (img (cso P)).length = m := ⟨_, rfl⟩
  have hni : (n : Int) ≤ 65536 := by have := cso_len P; omega
  have hn6 := Lib.hid (show n ≤ 65536 by omega)
  rw [hm] at hb
  have HM := Lib.hid hm
  have HMB := Lib.hid hb
  have hmi : (m : Int) ≤ 40000000 := by omega
  have HZ : Hid (ahed (cso P) + szs (cso P) ≤ 40000000) := Lib.hid (by rw [← img_len]; omega)
  have HN := Lib.hid hn
  have HR := Lib.hid hr
  obtain ⟨cs, hcs⟩ : ∃ cs, cs = cso P := ⟨_, rfl⟩
  have hok : ∀ c ∈ cs, c.ok := by rw [hcs]; exact cso_ok
  have hkeys : ls (nz P) 65536 = cs.map Ct.key := by rw [hcs, cso_keys]
  have HOK := Lib.hid hok
  have HKEYS := Lib.hid hkeys
  have HCO := Lib.hid (fun (W : World) (hW : ∀ b, N b → b < W.heap.size) (hs : St N W v P) => containersOf_c v P W hW hs)
  have HPS := Lib.hid (fun (W : World) (hW : ∀ b, N b → b < W.heap.size) (hs : St N W v P) => psize_c v P m W hW hs HM.out HMB.out)
  rw [← hcs] at HN HR HZ HCO HM ⊢
  clear h hN hn hr hm hb hT hok hkeys hcs
  go_enter Tryz.func47, Tryz.ntmps47
  go_wp2_with fail
  refine (HCO.out w NN.out H.out).mono ?_
  rintro e w1 ⟨v1, bs, rfl, g1, b1⟩
  have hbl := g1.len
  obtain ⟨A, c, rfl, -⟩ := g1.sl
  rw [hbl, ← HN.out] at g1
  have G1 := Lib.hid g1
  rw [hbl, ← HN.out]
  have B1 := Lib.hid b1
  clear b1 g1 hbl
  go_wp2_with fail
  refine (shapeOf_c _ bs cs r w1 G1.out (by rw [← HN.out]; exact hn6.out) HR.out).mono ?_
  rw [← HN.out]
  rintro e w2 ⟨rfl, b2⟩
  have B2 := Lib.hid (below_both B1.out b2)
  have G2 := Lib.hid (G1.out.step b2)
  clear b2
  go_wp2_with fail
  refine (HPS.out w2 (fun b hb => Nat.lt_of_lt_of_le (NN.out b hb) B2.out.size) (H.out.step B2.out)).mono ?_
  rintro e w3 ⟨rfl, b3⟩
  have B3 := Lib.hid (below_both B2.out b3)
  have CB3 := Lib.hid ((G2.out.step b3).cb)
  clear b3
  go_wp2_with (at_make; refine wpList_gmk e8 _ rfl _ _ _ rfl sli8 inf8 _ _ _ m rfl rfl rfl (by omega) ?_; intro w4 o4 g4; have O4 := Lib.hid o4; have G4 := Lib.hid (below_of_grown g4 (fun k h => by cases h)); clear o4 g4)
  have R4 := Row.new w4 156 #[.int .i64 n, .bool r, .slice (some ⟨w3.heap.size, 0, none⟩) 0 m]
  have bz := bxr w4 156 #[.int .i64 n, .bool r, .slice (some ⟨w3.heap.size, 0, none⟩) 0 m]
  have W4 : Hid (Wr (w4.alloc (.cells #[.int .i64 n, .bool r, .slice (some ⟨w3.heap.size, 0, none⟩) 0 m] 156)) w3.heap.size w4.heap.size n r (.slice (some ⟨w3.heap.size, 0, none⟩) 0 m) []) := Lib.hid ⟨R4, O4.out.alloc _, G4.out.size⟩
  have B4 : Hid (Below w3.heap.size w3 (w4.alloc (.cells #[.int .i64 n, .bool r, .slice (some ⟨w3.heap.size, 0, none⟩) 0 m] 156))) := Lib.hid (G4.out.trans (bz.mono G4.out.size))
  generalize w4.alloc (.cells #[.int .i64 n, .bool r, .slice (some ⟨w3.heap.size, 0, none⟩) 0 m] 156) = w5 at *
  obtain ⟨g, hg⟩ : ∃ g, g = w4.heap.size := ⟨_, rfl⟩
  rw [← hg] at W4 ⊢
  have HV5 : ∃ v5, v5 = Value.slice (some ⟨w3.heap.size, 0, none⟩) 0 m := ⟨_, rfl⟩
  clear R4 bz hg O4 G4
  refine (wcookie_c bs cs w5 (CB3.out.keep B4.out) HN.out.symm HR.out W4.out hn6.out (by simp)).mono ?_
  rintro e w6 ⟨rfl, v6, h6, s6⟩
  have W6 := Lib.hid h6
  have B6 := Lib.hid (B4.out.trans ((s6.below W4.out B4.out.size).mono (Nat.le_refl _)))
  clear h6 s6
  go_wp2_with fail
  refine (setkeys_c v P w6 (H.out.step (B3.out.trans (B6.out.mono B3.out.size)))).mono ?_
  rintro e w7 ⟨kv, rfl, gk, b7⟩
  rw [HKEYS.out] at gk
  have W7 := Lib.hid (W6.out.step b7)
  have GK := Lib.hid gk
  have B7 := Lib.hid (B6.out.trans (b7.mono B6.out.size))
  clear gk b7
  go_wp2_with fail
  refine (wheader_c bs cs w7 (CB3.out.keep B7.out) HN.out.symm W7.out GK.out B6.out.size W6.out.lt (fun x hx => (W6.out.olt hx).2) HOK.out hn6.out (by simp only [List.nil_append]; rw [coo_len]; exact len_img1 HZ.out)).mono ?_
  rintro e w8 ⟨rfl, v8, h8, s8⟩
  have W8 := Lib.hid h8
  have B8 := Lib.hid (B7.out.trans ((s8.below W7.out B7.out.size).mono (Nat.le_refl _)))
  clear h8 s8
  go_wp2_with fail
  refine (woffsets_c bs cs w8 (CB3.out.keep B8.out) HN.out.symm HR.out W8.out hn6.out (by simp only [List.nil_append, List.length_append]; rw [coo_len, hdr_len]; exact len_img2 HZ.out) HZ.out).mono ?_
  rintro e w9 ⟨rfl, v9, h9, s9⟩
  have W9 := Lib.hid h9
  have B9 := Lib.hid (B8.out.trans ((s9.below W8.out B8.out.size).mono (Nat.le_refl _)))
  clear h9 s9
  go_wp2
  go_loopw [25] (fun s9 wr => ∃ (k : Nat) (v' : Value), k ≤ n ∧ s9 = .int .i64 k ∧ Hid (Wr wr w3.heap.size g n r v' ([] ++ coo cs ++ hdr cs ++ ofs cs ++ bodies (cs.take k)) ∧ Below w3.heap.size w3 wr)) (fun s9 _ => n - (intOf s9).toNat)
  case atStart => exact ⟨0, v9, Nat.zero_le _, rfl, Lib.hid ⟨by simpa [bodies] using W9.out, B9.out⟩⟩
  case round =>
    obtain ⟨k, v', hk, rfl, hj⟩ := hrel
    have HJ := Lib.hid hj.out
    by_cases hlt : k < n
    · obtain ⟨b, off, x, d, e1, -, hb1, hd, cn, c0, c1, c2, c3⟩ := (CB3.out.keep hj.out.2).at (k := k) (by rw [← HN.out]; exact hlt)
      subst e1
      have hkl : (k : Int) < n := by omega
      have HD := Lib.hid hd
      have bz := bxr wr 65 #[.int .u8 x.κ, .slice x.A x.n x.c, .slice x.A2 x.n2 x.c2, .slice x.A3 x.n3 x.c3]
      have BX := Lib.hid bz
      have CN := Lib.hid (cn.step bz)
      clear hb1 hd cn hj bz
      go_wp2_with fail
      generalize wr.alloc (.cells #[.int .u8 x.κ, .slice x.A x.n x.c, .slice x.A2 x.n2 x.c2, .slice x.A3 x.n3 x.c3] 65) = W0 at *
      refine (wcontainer_c x d W0 (TT.out.step (B3.out.trans ((HJ.out.2.trans (BX.out.mono HJ.out.2.size)).mono B3.out.size))) (HJ.out.1.step BX.out) CN.out (by simp only [List.nil_append, List.length_append]; rw [coo_len, hdr_len, ofs_len, bodies_len]; exact len_img3 k HZ.out)).mono ?_
      rintro e w11 ⟨rfl, v11, h11, s11⟩
      have HX : Hid (Wr w11 w3.heap.size g n r v11 ([] ++ coo cs ++ hdr cs ++ ofs cs ++ bodies (cs.take (k + 1))) ∧ Below w3.heap.size w3 w11) := Lib.hid ⟨by
        rw [bodies_take HD.out]
        simpa only [List.append_assoc] using h11, (HJ.out.2.trans (BX.out.mono HJ.out.2.size)).trans (s11.below (HJ.out.1.step BX.out) (Nat.le_trans HJ.out.2.size BX.out.size))⟩
      clear h11 s11 c0 c1 c2 c3
      go_wp2
      exact ⟨⟨k + 1, v11, by omega, by go_num, HX⟩, by simp [intOf]; omega⟩
    · obtain rfl : k = n := by omega
      have HX := HJ.out
      rw [HN.out, List.take_length, ← HN.out] at HX
      have k2 := HX.1.row.cell 2
      have hi : [] ++ coo cs ++ hdr cs ++ ofs cs ++ bodies cs = img cs := by unfold img; simp only [List.nil_append, List.append_assoc]
      rw [hi] at HX
      have HB := Lib.hid (B3.out.trans (HX.2.mono B3.out.size))
      have HW := Lib.hid (HX.1.own.more B3.out.size)
      clear hj HX hi
      go_wp2
      go_ret
      exact ⟨v', rfl, HW.out, HB.out⟩
end Go.Proofs.YtponcpneflhpfaaGreatDoor
namespace Go.Proofs.YtponcpneflhpfaaGreatDoor
open Go.RowKit
set_option linter.unusedVariables false

theorem spans_any (v : Value) (l : List Sn) (P : Nat → Bool) (w : World) (hP : P = clp32 l) (hT : Tb w) (hv : Gs2 eSp w 0 w.heap.size v l) (hl : l.length ≤ 1000000) : Calls Tryz.prog 13 #[v] w (OfAns w P) := by
  subst hP
  exact (spans_c (N := fun _ => True) v l w hT (fun _ _ => trivial) hv hl).mono fun e w' h => Made.ans h
def WrAns (w : World) (n : Nat) (X : List UInt8) (e : Ending) (w' : World) : Prop :=
  ∃ A c, e = .returned (.slice A n c) ∧ Gs e8 w' 0 w'.heap.size (.slice A n c) X ∧ Below w.heap.size w w'
theorem write_any (v : Value) (P : Nat → Bool) (X : List UInt8) (n : Nat) (w : World) (hX : img (cso P) = X) (hn : X.length = n) (hb : n ≤ 40000000) (hT : Tb w) (h : St (fun _ => True) w v P) :
    Calls Tryz.prog 47 #[v] w (WrAns w n X) := by
  refine (pwrite_c (N := fun b => b < w.heap.size) v P w hT (fun _ h => h) (h.mono fun b hb _ => hb) (by rw [hX, hn]; exact hb)).mono ?_
  rintro e w' ⟨v', rfl, g, b⟩
  rw [hX] at g
  obtain ⟨A, c, rfl, r⟩ := g.sl
  subst hn
  exact ⟨A, c, rfl, (show Gs e8 w' w.heap.size w'.heap.size _ X from ⟨A, c, rfl, r⟩).more (Nat.zero_le _) (Nat.le_refl _), b⟩
theorem Ag.refl2 (Y Z : List UInt8) : Ag (Y ++ Z) (Y ++ []) := by rw [List.append_nil]; exact Ag.refl Y Z
theorem Ag.short2 (Y : List UInt8) (k : Nat) : Ag (Y.take k) (Y ++ []) := by rw [List.append_nil]; exact Ag.short Y k
def RdAns (w : World) (i n : Nat) (P : Nat → Bool) (e : Ending) (w' : World) : Prop :=
  ∃ b, e = .returned (.tuple #[.pointer (some ⟨b, 0, none⟩), .int .i64 (i + n : Nat), .int .i64 0]) ∧ St (fun _ => True) w' (.pointer (some ⟨b, 0, none⟩)) P ∧ Below w.heap.size w w'
theorem read_yes {A : Option Addr} {c m i n : Nat} (P : Nat → Bool) (X Y Z : List UInt8) (w : World) (hT : Tb w) (hb : Gs e8 w 0 w.heap.size (.slice A m c) X) (hm : X.length = m) (hl : m ≤ 10000000) (hi : i ≤ m) (hX : X.drop i = Y ++ Z) (hY : img (cso P) = Y) (hn : Y.length = n) :
    Calls Tryz.prog 51 #[.slice A m c, .int .i64 i] w (RdAns w i n P) := by
  subst hm hn hY
  have hlen : X.length - i = (img (cso P)).length + Z.length := by rw [← List.length_drop, hX, List.length_append]
  refine (read_c (rest := []) P (cso P) w hT hb hi hl (OfP.cso P) (by rw [hX]; exact Ag.refl2 _ _) (by rw [← img_len]; omega)).mono ?_
  rintro e w' ⟨b, ⟨h1, -⟩ | ⟨-, a, rfl, h2⟩⟩
  · omega
  · exact ⟨a, rfl, h2, b⟩
theorem read_cut {A : Option Addr} {c m i : Nat} (P : Nat → Bool) (X Y : List UInt8) (k : Nat) (w : World) (hT : Tb w) (hb : Gs e8 w 0 w.heap.size (.slice A m c) X) (hm : X.length = m) (hl : m ≤ 10000000) (hi : i ≤ m) (hX : X.drop i = Y.take k) (hk : k < Y.length) (hY : img (cso P) = Y) (hn : Y.length ≤ 40000000) :
    Calls Tryz.prog 51 #[.slice A m c, .int .i64 i] w fun e w' => e = .returned (.tuple #[.pointer none, .int .i64 0, .int .i64 4]) ∧ Below w.heap.size w w' := by
  subst hm hY
  have hlen : X.length - i = k := by rw [← List.length_drop, hX, List.length_take]; omega
  refine (read_c (rest := []) P (cso P) w hT hb hi hl (OfP.cso P) (by rw [hX]; exact Ag.short2 _ _) (by rw [← img_len]; omega)).mono ?_
  rintro e w' ⟨b, ⟨-, rfl⟩ | ⟨h1, -⟩⟩
  · exact ⟨rfl, b⟩
  · omega
set_option maxHeartbeats 2000000 in
theorem read_arg {A : Option Addr} {c m i : Nat} (w : World) (hi : m < i) (hl : i ≤ 1000000000) :
    Calls Tryz.prog 51 #[.slice A m c, .int .i64 i] w fun e w' => e = .returned (.tuple #[.pointer none, .int .i64 0, .int .i64 2]) ∧ Below w.heap.size w w' := by
  have g0 : decide ((i : Int) < 0) = false := decide_eq_false (by omega)
  have g1 : decide ((i : Int) > (m : Int)) = true := decide_eq_true (by omega)
  have g1n : decide (i > m) = true := decide_eq_true (by omega)
  go_enter Tryz.func51, Tryz.ntmps51
  go_wp2
  go_ret3
  exact ⟨rfl, Below.refl _ _⟩
theorem lit_span1 (w : World) (s : Sn) (cs : Array Value) (hcs : cs = (eSp.row [s]).toArray) :
    Gs2 eSp (w.alloc (.cells cs 34)) 0 (w.alloc (.cells cs 34)).heap.size (.slice (some ⟨w.heap.size, 0, none⟩) 1 1) [s] :=
  (Gw2.lit (k := eSp) w 0 (Nat.zero_le _) [s] cs 1 hcs rfl (by omega)).sl
set_option maxHeartbeats 8000000 in
set_option maxRecDepth 100000 in
theorem known9 (w : World) (hT : Tb w) : Calls Tryz.prog 46 #[] w fun e w' => e = .returned (.bool true) ∧ Below w.heap.size w w' := by
  have TT := Lib.hid hT
  clear hT
  go_enter Tryz.func46, Tryz.ntmps46
  go_wp2_with fail
  refine (new_none w).mono ?_
  rintro e w1 ⟨b, N1, rfl, hb, S, hn, b1⟩
  have S1 := Lib.hid (S.st.mono (N' := fun _ => True) fun _ _ _ => trivial)
  have B1 := Lib.hid b1
  clear S hn b1 hb
  go_wp2_with fail
  refine (write_any _ _ [58, 48, 0, 0, 0, 0, 0, 0] 8 w1 (by rw [cso_none]; exact img_none) rfl (by omega) (TT.out.step B1.out) S1.out).mono ?_
  rintro e w2 ⟨A2, c2, rfl, g2, b2⟩
  have G2 := Lib.hid g2
  have B2 := Lib.hid (below_both B1.out b2)
  clear g2 b2 S1
  go_wp2_with fail
  have b4 := bx w2 (.cells #[.int .u32 1, .int .u32 2] 28)
  have g4 := lit32 w2 [1, 2] #[.int .u32 1, .int .u32 2] 2 (by rfl) rfl (by omega)
  generalize w2.alloc (.cells #[.int .u32 1, .int .u32 2] 28) = w4 at *
  have L4 := Lib.hid g4
  have G4 := Lib.hid (G2.out.step b4)
  have B4 := Lib.hid (below_both B2.out b4)
  clear b4 g4 G2
  refine ((of_small (N := fun _ => True) _ [1, 2] w4 (TT.out.step B4.out) (fun _ _ => trivial) L4.out (by decide) (by simp) (by decide)).mono fun e w' h => Made.ans h).mono ?_
  rintro e w5 ⟨b5', rfl, t5, b5⟩
  have T5 := Lib.hid t5
  have G5 := Lib.hid (G4.out.step b5)
  have B5 := Lib.hid (below_both B4.out b5)
  clear b5 t5 G4 L4
  go_wp2_with fail
  refine (write_any _ _ [58, 48, 0, 0, 1, 0, 0, 0, 0, 0, 1, 0, 16, 0, 0, 0, 1, 0, 2, 0] 20 w5 img12 rfl (by omega) (TT.out.step B5.out) T5.out).mono ?_
  rintro e w6 ⟨A6, c6, rfl, g6, b6⟩
  have G6 := Lib.hid (G5.out.step b6)
  have H6 := Lib.hid g6
  have B6 := Lib.hid (below_both B5.out b6)
  clear b6 g6 G5 T5
  go_wp2_with fail
  have b7 := bx w6 (.cells #[.int .u64 0, .int .u64 10] 34)
  have g7 := lit_span1 w6 ((0 : UInt64), (10 : UInt64)) #[.int .u64 0, .int .u64 10] (by rfl)
  generalize w6.alloc (.cells #[.int .u64 0, .int .u64 10] 34) = w7 at *
  have L7 := Lib.hid g7
  have G7 := Lib.hid (G6.out.step b7)
  have H7 := Lib.hid (H6.out.step b7)
  have B7 := Lib.hid (below_both B6.out b7)
  clear b7 g7 G6 H6
  refine (spans_any _ _ _ w7 rfl (TT.out.step B7.out) L7.out (by simp)).mono ?_
  rintro e w8 ⟨b8', rfl, t8, b8⟩
  have T8 := Lib.hid t8
  have G8 := Lib.hid (G7.out.step b8)
  have H8 := Lib.hid (H7.out.step b8)
  have B8 := Lib.hid (below_both B7.out b8)
  clear b8 t8 G7 H7 L7
  go_wp2_with fail
  refine (write_any _ _ [59, 48, 0, 0, 1, 0, 0, 9, 0, 1, 0, 0, 0, 9, 0] 15 w8 img10 rfl (by omega) (TT.out.step B8.out) T8.out).mono ?_
  rintro e w9 ⟨A9, c9, rfl, g9, b9⟩
  have G9 := Lib.hid (G8.out.step b9)
  have H9 := Lib.hid (H8.out.step b9)
  have I9 := Lib.hid g9
  have B9 := Lib.hid (below_both B8.out b9)
  clear b9 g9 G8 H8 T8
  have hlw := Gw.lit (k := e8) w9 w9.heap.size (Nat.le_refl _) [9] #[.int .u8 9] 1 (by rfl) rfl (by omega)
  have HLW := Lib.hid hlw
  have BA := Lib.hid (bx w9 (.cells #[.int .u8 9] 5))
  clear hlw
  go_wp2_with (at_builtin; refine wpList_gapp e8 _ rfl _ _ _ rfl w9.heap.size sli8 inf8 _ [9] rfl HLW.out 0 w9.heap.size _ [58, 48, 0, 0, 1, 0, 0, 0, 0, 0, 1, 0, 16, 0, 0, 0, 1, 0, 2, 0] rfl (H9.out.below BA.out) (by simp) (Nat.le_of_lt (by simp)) ?_; intro v3 w3 o3 g3 h3; clear h3; obtain ⟨A3, n3, c3, rfl⟩ := gw_slice o3; have O3 := Lib.hid o3; have B3 := Lib.hid (BA.out.grown g3 BA.out.size (fun j hj => (HLW.out.lt j hj).1)); clear o3 g3)
  have hn3 : [(9 : UInt8), 58, 48, 0, 0, 1, 0, 0, 0, 0, 0, 1, 0, 16, 0, 0, 0, 1, 0, 2, 0].length = n3 := (gs_caps O3.out.sl).1.symm
  have hn21 : n3 = 21 := hn3.symm
  subst hn21
  have BB := Lib.hid (below_both B9.out B3.out)
  refine (read_yes (i := 1) (n := 20) _ _ [58, 48, 0, 0, 1, 0, 0, 0, 0, 0, 1, 0, 16, 0, 0, 0, 1, 0, 2, 0] [] w3 (TT.out.step BB.out) (O3.out.sl.more (Nat.zero_le _) (Nat.le_refl _)) hn3 (by omega) (by omega) (by rfl) img12 rfl).mono ?_
  rintro e w10 ⟨b10, rfl, t10, bd10⟩
  have bb10 := below_both B3.out bd10
  have G10 := G9.out.step bb10
  have H10 := H9.out.step bb10
  have I10 := I9.out.step bb10
  have T10 := Lib.hid t10
  have B10 := Lib.hid (below_both BB.out bd10)
  have s1 := str8 G10
  have s2 := str8 H10
  have s3 := str8 I10
  clear t10 bd10 bb10 G10 H10 I10 hn3 G9 H9 I9 O3 HLW
  go_wp2_with fail
  refine (setlen_c _ _ 2 w10 T10.out ct12).mono ?_
  rintro e w11 ⟨rfl, b11⟩
  have B11 := Lib.hid (below_both B10.out b11)
  clear b11 s1 s2 s3
  go_wp2
  go_ret
  exact ⟨rfl, B11.out⟩
end Go.Proofs.YtponcpneflhpfaaGreatDoor
