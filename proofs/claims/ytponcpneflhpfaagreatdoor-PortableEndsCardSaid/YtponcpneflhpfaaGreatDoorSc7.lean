/- Walks: what is too much to be looked at (images). -/
import Derived.Test.YtponcpneflhpfaaGreatDoorSc3
import Derived.Test.YtponcpneflhpfaaGreatDoorSc6
import Derived.Test.YtponcpneflhpfaaGreatDoorSb6
import Derived.Test.YtponcpneflhpfaaGreatDoorSa6
import Derived.Test.YtponcpneflhpfaaGreatDoorSa5
namespace Go.Proofs.YtponcpneflhpfaaGreatDoor
open Go.RowKit
set_option linter.unusedVariables false

/-- What is told is a new set, all its own. -/
def Made (N : Nat → Prop) (w : World) (P : Nat → Bool) (e : Ending) (w' : World) : Prop :=
  ∃ b N' sl es, e = .returned (.pointer (some ⟨b, 0, none⟩)) ∧ Sx N' w' (.pointer (some ⟨b, 0, none⟩)) P b 65536 sl es ∧ Nx N w N' w' ∧ w.heap.size ≤ b ∧ (∀ g, sl.ownBlock = some g → w.heap.size ≤ g) ∧ Below w.heap.size w w'
def clp32 (l : List Sn) (x : Nat) : Bool := decide (x < 4294967296) && sp l x
set_option maxHeartbeats 4000000 in
theorem spans_c {N : Nat → Prop} (v : Value) (l : List Sn) (w : World) (hT : Tb w) (hN : ∀ x, w.heap.size ≤ x → N x) (hv : Gs2 eSp w 0 w.heap.size v l) (hl : l.length ≤ 1000000) :
    Calls Tryz.prog 13 #[v] w (Made N w (clp32 l)) := by
  have TT := Lib.hid hT
  have HN := Lib.hid hN
  have HV := Lib.hid hv
  have HL := Lib.hid hl
  clear hT hN hv hl
  go_enter Tryz.func13, Tryz.ntmps13
  go_wp2_with fail
  refine (new_c (N := N) (clp32 l) w HN.out).mono ?_
  rintro e w1 ⟨b, rfl, hbe, S, X, b1⟩
  have HBE := Lib.hid hbe
  have S1 := Lib.hid S
  have X1 := Lib.hid X
  have B1 := Lib.hid b1
  clear hbe S X b1
  go_wp2_with fail
  have rz := Row.new w1 24 #[.pointer (some ⟨b, 0, none⟩)]
  have bz := bx w1 (.cells #[.pointer (some ⟨b, 0, none⟩)] 24)
  obtain ⟨g3, hg3⟩ : ∃ g3, g3 = w1.heap.size := ⟨_, rfl⟩
  rw [← hg3] at rz
  have HG3 := Lib.hid hg3
  generalize w1.alloc (.cells #[.pointer (some ⟨b, 0, none⟩)] 24) = w2 at *
  rw [← hg3]
  have S2 := Lib.hid (S1.out.step bz)
  have B2 := Lib.hid (below_both B1.out bz)
  have R2 := Lib.hid rz
  have HS12 := Lib.hid bz.size
  clear rz bz hg3
  refine (joined_c v l _ (HV.out.step B2.out) (by have := HL.out; omega)).mono ?_
  rintro e w3 ⟨v3, l3, rfl, g, hm, hs, hle, b3⟩
  have G3 := Lib.hid g
  have HM := Lib.hid hm
  have HS := Lib.hid hs
  have HLE : Hid (l3.length ≤ 1000000) := Lib.hid (Nat.le_trans hle HL.out)
  have S3 := Lib.hid (S2.out.step b3)
  have B3 := Lib.hid (below_both B2.out b3)
  have R3 := Lib.hid (R2.out.below b3 R2.out.lt)
  have HSZ := Lib.hid b3.size
  clear g hm hs hle b3
  go_wp2_with fail
  refine (pieces_c v3 l3 _ (G3.out.sl.more (Nat.zero_le _) (Nat.le_refl _)) HM.out (by have := HLE.out; omega)).mono ?_
  rintro e w4 ⟨v4, rfl, g, b4⟩
  have G4 := Lib.hid g
  have S4 := Lib.hid (S3.out.step b4)
  have B4 := Lib.hid (below_both B3.out b4)
  have R4 := Lib.hid (R3.out.below b4 R3.out.lt)
  have HW14 : Hid (w1.heap.size ≤ w4.heap.size) := Lib.hid (Nat.le_trans HS12.out (Nat.le_trans HSZ.out b4.size))
  clear g b4
  have BP : Hid (∃ bp, Gs2 eSp w4 bp (bp + 1) v4 (pcs l3) ∧ bp ≠ b ∧ bp ≠ g3 ∧ bp < w4.heap.size) := Lib.hid (by
    by_cases hp : pcs l3 = []
    · rw [hp]
      have h0 := G4.out.sl
      rw [hp] at h0
      obtain ⟨A, c, e, i0, i1, i2, _⟩ := h0
      have ht := TT.out.1
      have hb := HBE.out
      have hg := HG3.out
      have hs := B1.out.size
      have hs4 := B4.out.size
      exact ⟨0, ⟨A, c, e, i0, i1, i2, fun h => absurd rfl h⟩, by omega, by omega, by omega⟩
    · obtain ⟨bp, c, e, i1, i2, i3, i4, i5, _⟩ := G4.out.form hp
      have hb := S2.out.box.lt
      have hg := R2.out.lt
      have hs := HSZ.out
      refine ⟨bp, ⟨_, c, e, fun e => (by cases e), i1, i2, fun _ => ⟨bp, 0, rfl, Nat.le_refl _, by omega, fun j x hx => ?_⟩⟩, by omega, by omega, i4⟩
      rw [Nat.zero_add]
      exact i5 j x hx)
  have PL : Hid ((pcs l3).length ≤ 20000000) := Lib.hid (by have := (pcs_spec l3 0 (by omega) HM.out).2.2; have := HLE.out; omega)
  have PQ : Hid (myq 0 (pcs l3) ∧ ∀ x, clp32 l x = sp (pcs l3) x) := Lib.hid ⟨(pcs_spec l3 0 (by omega) HM.out).1, fun x => by rw [(pcs_spec l3 0 (by omega) HM.out).2.1, HS.out]; rfl⟩
  clear G3 HSZ
  go_wp2_with fail
  obtain ⟨bp, p1, p2, p3, p4⟩ := BP.out
  refine (byKeySp_c (N := fun x => N x ∧ x ≠ b) v4 (pcs l3) (clp32 l) w.heap.size bp g3 b (.slice none 0 0) [] w4 (fun W hW => TT.out.step (B4.out.trans hW)) (fun x hx => ⟨HN.out x (Nat.le_trans B4.out.size hx), by have := S4.out.box.lt; omega⟩) p1 PL.out PQ.out.1 PQ.out.2 S4.out (fun g hg => by simp [Value.ownBlock] at hg)
    ⟨by have := HBE.out; omega, fun e => p2 e.symm, (by have := HBE.out; have := HG3.out; have := S1.out.box.lt; omega), p4, B4.out.size⟩ R4.out).mono ?_
  rintro e w5 ⟨rfl, ⟨N', s', es', S5, X5, O5, R5⟩, B5⟩
  have X5sz := B5.size
  have HW45 : w4.heap.size ≤ w5.heap.size := X5sz
  have S5 := Lib.hid S5
  have HO5 := Lib.hid O5
  have HX5 : Hid (Nx N w N' w5) := Lib.hid (X1.out.trans ⟨fun x hx hn => X5.old x (Nat.lt_of_lt_of_le hx HW14.out) hn, X5.new, X5.sub⟩ B1.out.size (Nat.le_trans HW14.out HW45))
  have c0 : w5.cell? ⟨g3, 0, none⟩ = some (.pointer (some ⟨b, 0, none⟩)) := R5.cell 0
  have B6 := Lib.hid (B4.out.trans B5)
  clear X5 O5 R5 B5 p1 p2 p3 p4
  go_wp2
  go_ret
  exact ⟨b, N', s', es', rfl, S5.out, HX5.out, by have := HBE.out; omega, HO5.out, B6.out⟩

end Go.Proofs.YtponcpneflhpfaaGreatDoor
namespace Go.Proofs.YtponcpneflhpfaaGreatDoor
open Go.RowKit
set_option linter.unusedVariables false

theorem mk32_perm {a b : List UInt32} (h : a.Perm b) (x : Nat) : mk32 a x = mk32 b x := by
  rw [Bool.eq_iff_iff, mk32_iff, mk32_iff]
  exact ⟨fun ⟨y, h1, h2⟩ => ⟨y, h.mem_iff.1 h1, h2⟩, fun ⟨y, h1, h2⟩ => ⟨y, h.mem_iff.2 h1, h2⟩⟩
set_option maxHeartbeats 4000000 in
theorem of_small {N : Nat → Prop} (v : Value) (l : List UInt32) (w : World) (hT : Tb w) (hN : ∀ x, w.heap.size ≤ x → N x) (hv : Gs e32 w 0 w.heap.size v l) (hl : l.length ≤ 12) (hne : l ≠ []) (hd : l.Nodup) :
    Calls Tryz.prog 31 #[v] w (Made N w (mk32 l)) := by
  have TT := Lib.hid hT
  have HN := Lib.hid hN
  have HV := Lib.hid hv
  have HL := Lib.hid hl
  have HNE := Lib.hid hne
  have HD := Lib.hid hd
  clear hT hN hv hl hne hd
  go_enter Tryz.func31, Tryz.ntmps31
  go_wp2_with fail
  refine (new_c (N := N) (mk32 l) w HN.out).mono ?_
  rintro e w1 ⟨b, rfl, hbe, S, X, b1⟩
  have HBE := Lib.hid hbe
  have S1 := Lib.hid S
  have X1 := Lib.hid X
  have B1 := Lib.hid b1
  clear hbe S X b1
  go_wp2_with fail
  have rz := Row.new w1 24 #[.pointer (some ⟨b, 0, none⟩)]
  have bz := bx w1 (.cells #[.pointer (some ⟨b, 0, none⟩)] 24)
  obtain ⟨g3, hg3⟩ : ∃ g3, g3 = w1.heap.size := ⟨_, rfl⟩
  rw [← hg3] at rz
  have HG3 := Lib.hid hg3
  generalize w1.alloc (.cells #[.pointer (some ⟨b, 0, none⟩)] 24) = w2 at *
  rw [← hg3]
  have S2 := Lib.hid (S1.out.step bz)
  have B2 := Lib.hid (below_both B1.out bz)
  have R2 := Lib.hid rz
  have HS12 := Lib.hid bz.size
  clear rz bz hg3
  refine (rising_small v l _ (HV.out.step B2.out) HL.out HNE.out HD.out).mono ?_
  rintro e w4 ⟨v4, l', rfl, g, hr, hp, b4⟩
  have hne' : l' ≠ [] := fun e => by subst e; exact HNE.out (List.nil_perm.1 hp)
  have S4 := Lib.hid (S2.out.step b4)
  have B4 := Lib.hid (below_both B2.out b4)
  have R4 := Lib.hid (R2.out.below b4 R2.out.lt)
  have HW14 : Hid (w1.heap.size ≤ w4.heap.size) := Lib.hid (Nat.le_trans HS12.out b4.size)
  obtain ⟨bp, c, e, i1, i2, i3, i4, i5, -⟩ := g.form hne'
  have BP : Hid (Gs e32 w4 bp (bp + 1) v4 l' ∧ bp ≠ b ∧ bp ≠ g3 ∧ bp < w4.heap.size) := Lib.hid (by
    have hb := S2.out.box.lt
    have hg := R2.out.lt
    refine ⟨⟨_, c, e, fun e => (by cases e), i1, i2, fun _ => ⟨bp, 0, rfl, Nat.le_refl _, by omega, fun j x hx => ?_⟩⟩, by omega, by omega, i4⟩
    rw [Nat.zero_add]
    exact i5 j x hx)
  have PL : Hid (l'.length ≤ 20000000) := Lib.hid (by rw [hp.length_eq]; have := HL.out; omega)
  have PQ : Hid (rsu l' ∧ ∀ x, mk32 l x = mk32 l' x) := Lib.hid ⟨hr, fun x => (mk32_perm hp x).symm⟩
  clear g hr hp hne' b4 e i1 i2 i3 i4 i5
  go_wp2_with fail
  obtain ⟨p1, p2, p3, p4⟩ := BP.out
  refine (byKeyU_c (N := fun x => N x ∧ x ≠ b) v4 l' (mk32 l) w.heap.size bp g3 b (.slice none 0 0) [] w4 (fun W hW => TT.out.step (B4.out.trans hW)) (fun x hx => ⟨HN.out x (Nat.le_trans B4.out.size hx), by have := S4.out.box.lt; omega⟩) p1 PL.out PQ.out.1 PQ.out.2 S4.out (fun g hg => by simp [Value.ownBlock] at hg)
    ⟨by have := HBE.out; omega, fun e => p2 e.symm, (by have := HBE.out; have := HG3.out; have := S1.out.box.lt; omega), p4, B4.out.size⟩ R4.out).mono ?_
  rintro e w5 ⟨rfl, ⟨N', s', es', S5, X5, O5, R5⟩, B5⟩
  have X5sz := B5.size
  have HW45 : w4.heap.size ≤ w5.heap.size := X5sz
  have S5 := Lib.hid S5
  have HO5 := Lib.hid O5
  have HX5 : Hid (Nx N w N' w5) := Lib.hid (X1.out.trans ⟨fun x hx hn => X5.old x (Nat.lt_of_lt_of_le hx HW14.out) hn, X5.new, X5.sub⟩ B1.out.size (Nat.le_trans HW14.out HW45))
  have c0 : w5.cell? ⟨g3, 0, none⟩ = some (.pointer (some ⟨b, 0, none⟩)) := R5.cell 0
  have B6 := Lib.hid (B4.out.trans B5)
  clear X5 O5 R5 B5 p1 p2 p3 p4
  go_wp2
  go_ret
  exact ⟨b, N', s', es', rfl, S5.out, HX5.out, by have := HBE.out; omega, HO5.out, B6.out⟩
end Go.Proofs.YtponcpneflhpfaaGreatDoor
namespace Go.Proofs.YtponcpneflhpfaaGreatDoor
open Go.RowKit
set_option linter.unusedVariables false

theorem Made.ext {N : Nat → Prop} {w w' : World} {P Q : Nat → Bool} {e : Ending} (h : Made N w P e w') (he : ∀ x, x < 4294967296 → P x = Q x) : Made N w Q e w' := by
  obtain ⟨b, N', sl, es, h0, h1, h2, h3, h4, h5⟩ := h
  exact ⟨b, N', sl, es, h0, h1.ext fun x hx => he x (by omega), h2, h3, h4, h5⟩
end Go.Proofs.YtponcpneflhpfaaGreatDoor
namespace Go.Proofs.YtponcpneflhpfaaGreatDoor
open Go.RowKit
set_option linter.unusedVariables false

end Go.Proofs.YtponcpneflhpfaaGreatDoor
namespace Go.Proofs.YtponcpneflhpfaaGreatDoor
open Go.RowKit
set_option linter.unusedVariables false

theorem ct_iv (a b : Nat) : ∀ n, ct (fun x => decide (a ≤ x) && decide (x < b)) n = min n b - min n a
  | 0 => by simp [ct]
  | n + 1 => by
    have ih := ct_iv a b n
    unfold ct
    rw [ih]
    by_cases h1 : a ≤ n
    · by_cases h2 : n < b
      · simp [h1, h2]; omega
      · simp [h1, h2]; omega
    · simp [h1]; omega
theorem clp_one (lo hi : UInt64) (x : Nat) (hx : x < 4294967296) : clp32 [(lo, hi)] x = (decide (lo.toNat ≤ x) && decide (x < hi.toNat)) := by
  simp [clp32, sp, ins, hx]
theorem ct_clp32 (lo hi : UInt64) (n : Nat) (hn : n ≤ 4294967296) : ct (clp32 [(lo, hi)]) n = min n hi.toNat - min n lo.toNat := by
  rw [← ct_iv, ct_ext fun j hj => clp_one lo hi j (by omega)]
end Go.Proofs.YtponcpneflhpfaaGreatDoor
namespace Go.Proofs.YtponcpneflhpfaaGreatDoor
open Go.RowKit
set_option linter.unusedVariables false

end Go.Proofs.YtponcpneflhpfaaGreatDoor
namespace Go.Proofs.YtponcpneflhpfaaGreatDoor
open Go.RowKit
set_option linter.unusedVariables false

set_option maxHeartbeats 4000000 in
theorem setkeys_c {N : Nat → Prop} (v : Value) (P : Nat → Bool) (w : World) (h : St N w v P) :
    Calls Tryz.prog 43 #[v] w fun e w' => ∃ v', e = .returned v' ∧ Gs e16 w' w.heap.size w'.heap.size v' (ls (nz P) 65536) ∧ Below w.heap.size w w' := by
  have H := Lib.hid h
  obtain ⟨L, hL⟩ : ∃ L, ls (nz P) 65536 = L := ⟨_, rfl⟩
  rw [hL]
  have HL := Lib.hid hL
  clear h hL
  go_enter Tryz.func43, Tryz.ntmps43
  go_wp2_with fail
  refine (entries_c v P _ H.out).mono ?_
  rintro e w0 ⟨A, n, c, es, rfl, hz, g, d⟩
  have hz := hz.symm
  subst hz
  have hn : n = es.length := by obtain ⟨_, _, e, _⟩ := g; injection e
  subst hn
  have HV := Lib.hid g
  have HD := Lib.hid d
  have hlen := d.len
  clear g d
  go_wp2
  go_loopw [3, 9] (fun s3 s9 wr => ∃ k : Nat, k ≤ es.length ∧ s9 = .int .i64 k ∧ Gw e16 wr w.heap.size s3 ((es.take k).map En.key) ∧ Below w.heap.size w wr) (fun _ s9 _ => es.length - (intOf s9).toNat)
  case atStart => exact ⟨0, Nat.zero_le _, rfl, Gw.nil_ _ _, Below.refl _ _⟩
  case round =>
    obtain ⟨k, hk, rfl, hgw, hbl⟩ := hrel
    have HB := Lib.hid hbl
    by_cases hlt : k < es.length
    · obtain ⟨b, off, e, e1, -, hb, hdr, hg, c0, c1, c2, c3, c4⟩ := gsv_at HV.out hlt
      subst e1
      rw [← hbl.cell (p := ⟨b, off + k * 5, none⟩) hb] at c0
      rw [← hbl.cell (p := ⟨b, off + k * 5 + 1, none⟩) hb] at c1
      rw [← hbl.cell (p := ⟨b, off + k * 5 + 2, none⟩) hb] at c2
      rw [← hbl.cell (p := ⟨b, off + k * 5 + 3, none⟩) hb] at c3
      rw [← hbl.cell (p := ⟨b, off + k * 5 + 4, none⟩) hb] at c4
      have ht : (es.take (k + 1)).map En.key = (es.take k).map En.key ++ [e.key] := by
        rw [List.take_add_one, hg]; simp
      have HT := Lib.hid ht
      have hkl : (k : Int) < es.length := by omega
      have HW := Lib.hid hgw
      have HLEN := Lib.hid hlen
      clear hdr hg ht hbl hgw hlen
      have bz := bx wr (.cells #[.int .u16 e.key.toNat, .int .u8 e.b.κ, .slice e.b.A e.b.n e.b.c, .slice e.b.A2 e.b.n2 e.b.c2, .slice e.b.A3 e.b.n3 e.b.c3] 106)
      have HSZ : Hid ((wr.alloc (.cells #[.int .u16 e.key.toNat, .int .u8 e.b.κ, .slice e.b.A e.b.n e.b.c, .slice e.b.A2 e.b.n2 e.b.c2, .slice e.b.A3 e.b.n3 e.b.c3] 106)).heap.size = wr.heap.size + 1) := Lib.hid (by simp)
      have HW1 := Lib.hid (HW.out.below bz (Nat.le_refl _))
      have HB1 := Lib.hid (HB.out.trans (bz.mono HB.out.size))
      clear bz
      go_wp2_with (at_builtin; refine wpList_gapp1 (P := Tryz.prog) e16 _ rfl _ _ _ rfl w.heap.size sli16 inf16 _ ((es.take k).map En.key) rfl ?_ _ e.key ?_ ?_ ?_ ?_ ?_; (exact HW1.out); rfl; (rw [HSZ.out]; rfl); (have := HLEN.out; rw [List.length_map, List.length_take]; omega); (exact HB1.out.size); intro v' w' g1 g2 g3; have HG := Lib.hid g1; have HB2 := Lib.hid (HB1.out.grown g2 HB1.out.size (fun j hj => (HW1.out.lt j hj).1)); have hlen := HLEN.out; clear g1 g2 g3)
      refine ⟨⟨k + 1, by omega, by go_num, by rw [HT.out]; exact HG.out, HB2.out⟩, by simp [intOf]; omega⟩
    · obtain rfl : k = es.length := by omega
      rw [List.take_length, HD.out.keys (Nat.le_refl _), HL.out] at hgw
      have HG := Lib.hid hgw.sl
      clear hgw hbl
      go_wp2
      go_ret
      exact ⟨_, rfl, HG.out, HB.out⟩

end Go.Proofs.YtponcpneflhpfaaGreatDoor
namespace Go.Proofs.YtponcpneflhpfaaGreatDoor
open Go.RowKit
set_option linter.unusedVariables false

theorem lit32 (w : World) (l : List UInt32) (cs : Array Value) (n : Nat) (hcs : cs = (l.map e32.val).toArray) (hn : l.length = n) (hs : n ≤ 1000) :
    Gs e32 (w.alloc (.cells cs 28)) 0 (w.alloc (.cells cs 28)).heap.size (.slice (some ⟨w.heap.size, 0, none⟩) n n) l :=
  (Gw.lit (k := e32) w w.heap.size (Nat.le_refl _) l cs n hcs hn hs).sl.more (Nat.zero_le _) (Nat.le_refl _)
/-- New, all in one. -/
def NewAns (w : World) (P : Nat → Bool) (e : Ending) (w' : World) : Prop :=
  ∃ b N', e = .returned (.pointer (some ⟨b, 0, none⟩)) ∧ b = w.heap.size ∧ Sx N' w' (.pointer (some ⟨b, 0, none⟩)) P b 65536 (.slice none 0 0) [] ∧ (∀ x, w'.heap.size ≤ x → N' x) ∧ Below w.heap.size w w'
theorem new_none (w : World) : Calls Tryz.prog 11 #[] w (NewAns w fun _ => false) :=
  (new_c (N := fun _ => True) (fun _ => false) w (fun _ _ => trivial)).mono fun e w' ⟨b, h1, h2, h3, h4, h5⟩ =>
    ⟨b, _, h1, h2, h3.skip (Nat.zero_le _) (fun k _ _ => nz_not.2 fun _ _ => rfl), fun x hx => h4.new x hx trivial, h5⟩
def OfAns (w : World) (P : Nat → Bool) (e : Ending) (w' : World) : Prop :=
  ∃ b, e = .returned (.pointer (some ⟨b, 0, none⟩)) ∧ St (fun _ => True) w' (.pointer (some ⟨b, 0, none⟩)) P ∧ Below w.heap.size w w'
theorem Made.ans {N : Nat → Prop} {w w' : World} {P : Nat → Bool} {e : Ending} (h : Made N w P e w') : OfAns w P e w' := by
  obtain ⟨b, N', sl, es, h0, h1, h2, h3, h4, h5⟩ := h
  exact ⟨b, h0, h1.st.mono fun _ _ _ => trivial, h5⟩
end Go.Proofs.YtponcpneflhpfaaGreatDoor
namespace Go.Proofs.YtponcpneflhpfaaGreatDoor
set_option linter.unusedVariables false

/-- What a span weighs; what is too much. -/
def gk (s : Sn) : Nat := if s.1.toNat < s.2.toNat ∧ s.1.toNat < 4294967296 then min s.2.toNat 4294967296 - s.1.toNat else 0
def gsum (l : List Sn) : Nat := (l.map gk).sum
theorem gsum_snoc (l : List Sn) (s : Sn) : gsum (l ++ [s]) = gsum l + gk s := by unfold gsum; simp
theorem gsum_take (l : List Sn) (i : Nat) (s : Sn) (h : l[i]? = some s) : gsum (l.take (i + 1)) = gsum (l.take i) + gk s := by
  rw [List.take_add_one, h]
  exact gsum_snoc _ _
theorem ct_or_le (p q : Nat → Bool) : ∀ n, ct (fun x => p x || q x) n ≤ ct p n + ct q n
  | 0 => by simp [ct]
  | n + 1 => by
    have ih := ct_or_le p q n
    unfold ct
    cases p n <;> cases q n <;> simp <;> omega
end Go.Proofs.YtponcpneflhpfaaGreatDoor
namespace Go.Proofs.YtponcpneflhpfaaGreatDoor
open Go.RowKit
set_option linter.unusedVariables false

end Go.Proofs.YtponcpneflhpfaaGreatDoor
namespace Go.Proofs.YtponcpneflhpfaaGreatDoor
open Go.RowKit
set_option linter.unusedVariables false

set_option maxHeartbeats 8000000 in
theorem great9_is (v : Value) (l : List Sn) (w : World) (hb : l.length ≤ 8796093022209) (hv : Gs2 eSp w 0 w.heap.size v l) :
    Calls Tryz.prog 45 #[v] w fun e w' => ∃ B, e = .returned (.bool B) ∧ (B = false → gsum l ≤ 300000 ∧ l.length ≤ 2500) ∧ Below w.heap.size w w' := by
  have HV := Lib.hid hv
  have HB := Lib.hid hb
  have hlen := hv.len
  obtain ⟨A1, c1, rfl, -⟩ := hv
  go_enter Tryz.func45, Tryz.ntmps45
  go_wp2
  go_loopw [3, 7] (fun sn si wr => ∃ k m : Nat, k ≤ l.length ∧ m ≤ 300000 ∧ sn = .int .u64 m ∧ si = .int .i64 k ∧ Hid (m = gsum (l.take k)) ∧ Below w.heap.size w wr) (fun _ si _ => l.length - (intOf si).toNat)
  case atStart => exact ⟨0, 0, Nat.zero_le _, Nat.zero_le _, rfl, rfl, Lib.hid (show 0 = gsum (l.take 0) from rfl), Below.refl _ _⟩
  case round =>
    obtain ⟨k, m, hk, hm3, rfl, rfl, hm, hbl⟩ := hrel
    have HW := Lib.hid hbl
    by_cases hlt : k < l.length
    · obtain ⟨b, off, r, e1, -, hbk, hdr, hgt, c0, c2⟩ := gss_at HV.out hlt
      subst e1
      rw [← hbl.cell (p := ⟨b, off + k * 2, none⟩) hbk] at c0
      rw [← hbl.cell (p := ⟨b, off + k * 2 + 1, none⟩) hbk] at c2
      have hbk2 : b < wr.heap.size := Nat.lt_of_lt_of_le hbk hbl.size
      have hki : (k : Int) < l.length := by omega
      have hnx := gsum_take l k r hgt
      rw [← hm.out] at hnx
      have HNX := Lib.hid hnx
      obtain ⟨p, hp⟩ : ∃ p, p = r.1.toNat := ⟨_, rfl⟩
      obtain ⟨q, hq⟩ : ∃ q, q = r.2.toNat := ⟨_, rfl⟩
      have hp64 : p < 18446744073709551616 := by rw [hp]; exact r.1.toNat_lt
      have hq64 : q < 18446744073709551616 := by rw [hq]; exact r.2.toNat_lt
      obtain ⟨M, hM⟩ : ∃ M : Nat, M = min q 4294967296 := ⟨_, rfl⟩
      have hmin := fun W => run_minb W #[29, 29] 29 (q : Int) (M : Int) (by omega)
      have hgk : gk r = if p < q ∧ p < 4294967296 then M - p else 0 := by unfold gk; rw [← hp, ← hq, hM]
      obtain ⟨g, hgd⟩ : ∃ g, gk r = g := ⟨_, rfl⟩
      rw [hgd] at hgk HNX
      rw [← hp] at c0
      rw [← hq] at c2
      have dm : decide ((m : Int) > 300000) = false := decide_eq_false (by omega)
      have dmn : decide (300000 < m) = false := decide_eq_false (by omega)
      clear hdr hgt hnx hp hq hgd hm hb hbl
      by_cases h1 : p < q
      · have d1 : decide ((q : Int) > (p : Int)) = true := decide_eq_true (by omega)
        have d1n : decide ((p : Int) < (q : Int)) = true := decide_eq_true (by omega)
        have d1m : decide (p < q) = true := decide_eq_true (by omega)
        by_cases h2 : p < 4294967296
        · have d2 : decide ((p : Int) < 4294967296) = true := decide_eq_true (by omega)
          have d2n : decide (p < 4294967296) = true := decide_eq_true (by omega)
          rw [if_pos ⟨h1, h2⟩] at hgk
          have w1 : IntKind.u64.wrap ((M : Int) - (p : Int)) = (g : Int) := by rw [IntKind.wrap_u64]; omega
          have w2 : IntKind.u64.wrap ((m : Int) + (g : Int)) = (m : Int) + (g : Int) := by rw [IntKind.wrap_u64]; omega
          by_cases h3 : 300000 < m + g
          · have d3 : decide ((m : Int) + (g : Int) > 300000) = true := decide_eq_true (by omega)
            have d3n : decide (300000 < (m : Int) + (g : Int)) = true := decide_eq_true (by omega)
            clear hgk hM h1 h2 hp64 hq64 dm dmn
            go_wp2
            go_quiet (fail)
            go_wp2_with fail
            have hSc : Below wr.heap.size wr ((wr.drewN nq).drew) := (below_drewN (Below.refl _ _) _).drew
            refine wp_region_held_drew (S := fun W => Below wr.heap.size wr W) (by kernel_rfl) hSc (fun _ => ?_)
            refine held_take 0 ?_ rfl (by kernel_rfl) (by kernel_rfl) (by kernel_rfl) (fun _ _ _ h => h) (by rfl) ?_ hSc ?_
            rotate_left
            · (intro W hSW; go_simp; try rfl)
            try simp only [Act.put, List.setIfInBounds_toArray, List.set_cons_zero, List.set_cons_succ]
            refine held_take 1 ?_ rfl (by kernel_rfl) (by kernel_rfl) (by kernel_rfl) (fun _ _ _ h => h) (by rfl) ?_ hSc ?_
            rotate_left
            · (intro W hSW; go_simp; try rfl)
            try simp only [Act.put, List.setIfInBounds_toArray, List.set_cons_zero, List.set_cons_succ]
            refine held_take 2 ?_ rfl (by kernel_rfl) (by kernel_rfl) (by kernel_rfl) (fun _ _ _ h => h) (by rfl) ?_ hSc ?_
            rotate_left
            · (intro W hSW; go_simp; try rfl)
            try simp only [Act.put, List.setIfInBounds_toArray, List.set_cons_zero, List.set_cons_succ]
            refine held_take 3 ?_ rfl (by kernel_rfl) (by kernel_rfl) (by kernel_rfl) (fun _ _ _ h => h) (by rfl) ?_ hSc ?_
            rotate_left
            · (intro W hSW; go_simp; try rfl)
            try simp only [Act.put, List.setIfInBounds_toArray, List.set_cons_zero, List.set_cons_succ]
            refine held_take 4 ?_ rfl (by kernel_rfl) (by kernel_rfl) (by kernel_rfl) (fun _ _ _ h => h) (by rfl) ?_ hSc ?_
            rotate_left
            · (intro W hSW; go_simp; try rfl)
            try simp only [Act.put, List.setIfInBounds_toArray, List.set_cons_zero, List.set_cons_succ]
            refine held_take 5 ?_ rfl (by kernel_rfl) (by kernel_rfl) (by kernel_rfl) (fun _ _ _ h => h) (by rfl) ?_ hSc ?_
            rotate_left
            · (intro W hSW; have f0 := (hSW.cell (p := ⟨b, off + k * 2, none⟩) hbk2).trans c0; have f1 := (hSW.cell (p := ⟨b, off + k * 2 + 1, none⟩) hbk2).trans c2; go_simp; try rfl)
            try simp only [Act.put, List.setIfInBounds_toArray, List.set_cons_zero, List.set_cons_succ]
            refine held_take 6 ?_ rfl (by kernel_rfl) (by kernel_rfl) (by kernel_rfl) (fun _ _ _ h => h) (by rfl) ?_ hSc ?_
            rotate_left
            · (intro W hSW; go_simp; try rfl)
            try simp only [Act.put, List.setIfInBounds_toArray, List.set_cons_zero, List.set_cons_succ]
            refine held_take 7 ?_ rfl (by kernel_rfl) (by kernel_rfl) (by kernel_rfl) (fun _ _ _ h => h) (by rfl) ?_ hSc ?_
            rotate_left
            · (intro W hSW; go_simp; try rfl)
            try simp only [Act.put, List.setIfInBounds_toArray, List.set_cons_zero, List.set_cons_succ]
            refine held_take 8 ?_ rfl (by kernel_rfl) (by kernel_rfl) (by kernel_rfl) (fun _ _ _ h => h) (by rfl) ?_ hSc ?_
            rotate_left
            · (intro W hSW; go_simp; try rfl)
            try simp only [Act.put, List.setIfInBounds_toArray, List.set_cons_zero, List.set_cons_succ]
            refine held_take 9 ?_ rfl (by kernel_rfl) (by kernel_rfl) (by kernel_rfl) (fun _ _ _ h => h) (by rfl) ?_ hSc ?_
            rotate_left
            · (intro W hSW; go_simp; try rfl)
            try simp only [Act.put, List.setIfInBounds_toArray, List.set_cons_zero, List.set_cons_succ]
            refine held_take 10 ?_ rfl (by kernel_rfl) (by kernel_rfl) (by kernel_rfl) (fun _ _ _ h => h) (by rfl) ?_ hSc ?_
            rotate_left
            · (intro W hSW; go_simp; try rfl)
            try simp only [Act.put, List.setIfInBounds_toArray, List.set_cons_zero, List.set_cons_succ]
            refine held_take 11 ?_ rfl (by kernel_rfl) (by kernel_rfl) (by kernel_rfl) (fun _ _ _ h => h) (by rfl) ?_ hSc ?_
            rotate_left
            · (intro W hSW; have f0 := (hSW.cell (p := ⟨b, off + k * 2, none⟩) hbk2).trans c0; have f1 := (hSW.cell (p := ⟨b, off + k * 2 + 1, none⟩) hbk2).trans c2; go_simp; try rfl)
            try simp only [Act.put, List.setIfInBounds_toArray, List.set_cons_zero, List.set_cons_succ]
            refine held_take 12 ?_ rfl (by kernel_rfl) (by kernel_rfl) (by kernel_rfl) (fun _ _ _ h => h) (by rfl) ?_ hSc ?_
            rotate_left
            · (intro W hSW; go_simp; try rfl)
            try simp only [Act.put, List.setIfInBounds_toArray, List.set_cons_zero, List.set_cons_succ]
            refine held_take 13 ?_ rfl (by kernel_rfl) (by kernel_rfl) (by kernel_rfl) (fun _ _ _ h => h) (by rfl) ?_ hSc ?_
            rotate_left
            · (intro W hSW; go_simp; try rfl)
            try simp only [Act.put, List.setIfInBounds_toArray, List.set_cons_zero, List.set_cons_succ]
            refine held_next 14 rfl (by kernel_rfl) (by rfl) ?_
            go_simp
            refine ⟨fun W => Below wr.heap.size wr W, fun W hW => hW, hSc, ?_⟩
            refine wpAnyH_done (by kernel_rfl) ?_ _
            have BB := Lib.hid (HW.out.trans (hSc.mono HW.out.size))
            go_wp2
            go_ret
            exact ⟨true, rfl, fun h => (by cases h), BB.out⟩
          · have d3 : decide ((m : Int) + (g : Int) > 300000) = false := decide_eq_false (by omega)
            have d3n : decide (300000 < (m : Int) + (g : Int)) = false := decide_eq_false (by omega)
            clear hgk hM h1 h2 hp64 hq64 dm dmn
            go_wp2
            go_quiet (fail)
            go_wp2_with fail
            have hSc : Below wr.heap.size wr ((wr.drewN nq).drew) := (below_drewN (Below.refl _ _) _).drew
            refine wp_region_held_drew (S := fun W => Below wr.heap.size wr W) (by kernel_rfl) hSc (fun _ => ?_)
            refine held_take 0 ?_ rfl (by kernel_rfl) (by kernel_rfl) (by kernel_rfl) (fun _ _ _ h => h) (by rfl) ?_ hSc ?_
            rotate_left
            · (intro W hSW; go_simp; try rfl)
            try simp only [Act.put, List.setIfInBounds_toArray, List.set_cons_zero, List.set_cons_succ]
            refine held_take 1 ?_ rfl (by kernel_rfl) (by kernel_rfl) (by kernel_rfl) (fun _ _ _ h => h) (by rfl) ?_ hSc ?_
            rotate_left
            · (intro W hSW; go_simp; try rfl)
            try simp only [Act.put, List.setIfInBounds_toArray, List.set_cons_zero, List.set_cons_succ]
            refine held_take 2 ?_ rfl (by kernel_rfl) (by kernel_rfl) (by kernel_rfl) (fun _ _ _ h => h) (by rfl) ?_ hSc ?_
            rotate_left
            · (intro W hSW; go_simp; try rfl)
            try simp only [Act.put, List.setIfInBounds_toArray, List.set_cons_zero, List.set_cons_succ]
            refine held_take 3 ?_ rfl (by kernel_rfl) (by kernel_rfl) (by kernel_rfl) (fun _ _ _ h => h) (by rfl) ?_ hSc ?_
            rotate_left
            · (intro W hSW; go_simp; try rfl)
            try simp only [Act.put, List.setIfInBounds_toArray, List.set_cons_zero, List.set_cons_succ]
            refine held_take 4 ?_ rfl (by kernel_rfl) (by kernel_rfl) (by kernel_rfl) (fun _ _ _ h => h) (by rfl) ?_ hSc ?_
            rotate_left
            · (intro W hSW; go_simp; try rfl)
            try simp only [Act.put, List.setIfInBounds_toArray, List.set_cons_zero, List.set_cons_succ]
            refine held_take 5 ?_ rfl (by kernel_rfl) (by kernel_rfl) (by kernel_rfl) (fun _ _ _ h => h) (by rfl) ?_ hSc ?_
            rotate_left
            · (intro W hSW; have f0 := (hSW.cell (p := ⟨b, off + k * 2, none⟩) hbk2).trans c0; have f1 := (hSW.cell (p := ⟨b, off + k * 2 + 1, none⟩) hbk2).trans c2; go_simp; try rfl)
            try simp only [Act.put, List.setIfInBounds_toArray, List.set_cons_zero, List.set_cons_succ]
            refine held_take 6 ?_ rfl (by kernel_rfl) (by kernel_rfl) (by kernel_rfl) (fun _ _ _ h => h) (by rfl) ?_ hSc ?_
            rotate_left
            · (intro W hSW; go_simp; try rfl)
            try simp only [Act.put, List.setIfInBounds_toArray, List.set_cons_zero, List.set_cons_succ]
            refine held_take 7 ?_ rfl (by kernel_rfl) (by kernel_rfl) (by kernel_rfl) (fun _ _ _ h => h) (by rfl) ?_ hSc ?_
            rotate_left
            · (intro W hSW; go_simp; try rfl)
            try simp only [Act.put, List.setIfInBounds_toArray, List.set_cons_zero, List.set_cons_succ]
            refine held_take 8 ?_ rfl (by kernel_rfl) (by kernel_rfl) (by kernel_rfl) (fun _ _ _ h => h) (by rfl) ?_ hSc ?_
            rotate_left
            · (intro W hSW; go_simp; try rfl)
            try simp only [Act.put, List.setIfInBounds_toArray, List.set_cons_zero, List.set_cons_succ]
            refine held_take 9 ?_ rfl (by kernel_rfl) (by kernel_rfl) (by kernel_rfl) (fun _ _ _ h => h) (by rfl) ?_ hSc ?_
            rotate_left
            · (intro W hSW; go_simp; try rfl)
            try simp only [Act.put, List.setIfInBounds_toArray, List.set_cons_zero, List.set_cons_succ]
            refine held_take 10 ?_ rfl (by kernel_rfl) (by kernel_rfl) (by kernel_rfl) (fun _ _ _ h => h) (by rfl) ?_ hSc ?_
            rotate_left
            · (intro W hSW; go_simp; try rfl)
            try simp only [Act.put, List.setIfInBounds_toArray, List.set_cons_zero, List.set_cons_succ]
            refine held_take 11 ?_ rfl (by kernel_rfl) (by kernel_rfl) (by kernel_rfl) (fun _ _ _ h => h) (by rfl) ?_ hSc ?_
            rotate_left
            · (intro W hSW; have f0 := (hSW.cell (p := ⟨b, off + k * 2, none⟩) hbk2).trans c0; have f1 := (hSW.cell (p := ⟨b, off + k * 2 + 1, none⟩) hbk2).trans c2; go_simp; try rfl)
            try simp only [Act.put, List.setIfInBounds_toArray, List.set_cons_zero, List.set_cons_succ]
            refine held_take 12 ?_ rfl (by kernel_rfl) (by kernel_rfl) (by kernel_rfl) (fun _ _ _ h => h) (by rfl) ?_ hSc ?_
            rotate_left
            · (intro W hSW; go_simp; try rfl)
            try simp only [Act.put, List.setIfInBounds_toArray, List.set_cons_zero, List.set_cons_succ]
            refine held_take 13 ?_ rfl (by kernel_rfl) (by kernel_rfl) (by kernel_rfl) (fun _ _ _ h => h) (by rfl) ?_ hSc ?_
            rotate_left
            · (intro W hSW; go_simp; try rfl)
            try simp only [Act.put, List.setIfInBounds_toArray, List.set_cons_zero, List.set_cons_succ]
            refine held_next 14 rfl (by kernel_rfl) (by rfl) ?_
            go_simp
            refine ⟨fun W => Below wr.heap.size wr W, fun W hW => hW, hSc, ?_⟩
            refine wpAnyH_done (by kernel_rfl) ?_ _
            have BB := Lib.hid (HW.out.trans (hSc.mono HW.out.size))
            go_wp2
            exact ⟨⟨k + 1, m + g, by omega, by omega, by push_cast; rfl, by go_num, Lib.hid HNX.out.symm, BB.out⟩, by simp [intOf]; omega⟩
        · have d2 : decide ((p : Int) < 4294967296) = false := decide_eq_false (by omega)
          have d2n : decide (p < 4294967296) = false := decide_eq_false (by omega)
          rw [if_neg (by omega)] at hgk
          subst hgk
          clear hM h1 h2 hp64 hq64
          go_wp2
          go_quiet (fail)
          go_wp2
          exact ⟨⟨k + 1, m, by omega, by omega, rfl, by go_num, Lib.hid HNX.out.symm, below_drewN HW.out _⟩, by simp [intOf]; omega⟩
      · have d1 : decide ((q : Int) > (p : Int)) = false := decide_eq_false (by omega)
        have d1n : decide ((p : Int) < (q : Int)) = false := decide_eq_false (by omega)
        have d1m : decide (p < q) = false := decide_eq_false (by omega)
        rw [if_neg (by omega)] at hgk
        subst hgk
        clear hM h1 hp64 hq64
        go_wp2
        go_quiet (fail)
        go_wp2
        exact ⟨⟨k + 1, m, by omega, by omega, rfl, by go_num, Lib.hid HNX.out.symm, below_drewN HW.out _⟩, by simp [intOf]; omega⟩
    · obtain rfl : k = l.length := by omega
      have HB2 := Lib.hid hbl
      have hme := hm.out
      rw [List.take_length] at hme
      have HM := Lib.hid (show gsum l ≤ 300000 by omega)
      clear hm hme hbl
      by_cases h1 : 2500 < l.length
      · have d1 : decide ((l.length : Int) > 2500) = true := decide_eq_true (by omega)
        have d1n : decide (2500 < (l.length : Int)) = true := decide_eq_true (by omega)
        have d1m : decide (2500 < l.length) = true := decide_eq_true (by omega)
        go_wp2
        go_ret
        exact ⟨true, rfl, fun h => (by cases h), HB2.out⟩
      · have d1 : decide ((l.length : Int) > 2500) = false := decide_eq_false (by omega)
        have d1n : decide (2500 < (l.length : Int)) = false := decide_eq_false (by omega)
        have d1m : decide (2500 < l.length) = false := decide_eq_false (by omega)
        go_wp2
        go_ret
        exact ⟨false, rfl, fun _ => ⟨HM.out, by omega⟩, HB2.out⟩
end Go.Proofs.YtponcpneflhpfaaGreatDoor
