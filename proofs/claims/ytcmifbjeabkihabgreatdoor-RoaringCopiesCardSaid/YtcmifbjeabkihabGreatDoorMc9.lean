/- Walks: Runs of a set. -/
import Derived.Test.YtcmifbjeabkihabGreatDoorMc5
import Derived.Test.YtcmifbjeabkihabGreatDoorMc8
import Derived.Test.YtcmifbjeabkihabGreatDoorMb5
/- Walks: Spans; And, Or, AndNot, Xor, Not; AddRange. -/
namespace Go.Proofs.YtcmifbjeabkihabGreatDoor
open Go.RowKit
set_option linter.unusedVariables false

/-- What is told is a new set, all its own. -/
def Made (N : Nat → Prop) (w : World) (P : Nat → Bool) (e : Ending) (w' : World) : Prop :=
  ∃ b N' sl es, e = .returned (.pointer (some ⟨b, 0, none⟩)) ∧ Sx N' w' (.pointer (some ⟨b, 0, none⟩)) P b 65536 sl es ∧ Nx N w N' w' ∧ w.heap.size ≤ b ∧ (∀ g, sl.ownBlock = some g → w.heap.size ≤ g) ∧ Below w.heap.size w w'
def clp32 (l : List Sn) (x : Nat) : Bool := decide (x < 4294967296) && sp l x
set_option maxHeartbeats 4000000 in
theorem spans_c {N : Nat → Prop} (v : Value) (l : List Sn) (w : World) (hT : Tb w) (hN : ∀ x, w.heap.size ≤ x → N x) (hv : Gs2 eSp w 0 w.heap.size v l) (hl : l.length ≤ 1000000) :
    Calls Tryz.prog 6 #[v] w (Made N w (clp32 l)) := by
  have TT := Lib.hid hT
  have HN := Lib.hid hN
  have HV := Lib.hid hv
  have HL := Lib.hid hl
  clear hT hN hv hl
  go_enter Tryz.func6, Tryz.ntmps6
  go_wp2_with fail
  refine (new_c (N := N) (clp32 l) w HN.out).mono ?_
  rintro e w1 ⟨b, rfl, hbe, S, X, b1⟩
  have HBE := Lib.hid hbe
  have S1 := Lib.hid S
  have X1 := Lib.hid X
  have B1 := Lib.hid b1
  clear hbe S X b1
  go_wp2_with fail
  have rz := Row.new w1 26 #[.pointer (some ⟨b, 0, none⟩)]
  have bz := bx w1 (.cells #[.pointer (some ⟨b, 0, none⟩)] 26)
  obtain ⟨g3, hg3⟩ : ∃ g3, g3 = w1.heap.size := ⟨_, rfl⟩
  rw [← hg3] at rz
  have HG3 := Lib.hid hg3
  generalize w1.alloc (.cells #[.pointer (some ⟨b, 0, none⟩)] 26) = w2 at *
  rw [← hg3]
  have S2 := Lib.hid (S1.out.step bz)
  have B2 := Lib.hid (below_both B1.out bz)
  have R2 := Lib.hid rz
  have HS12 := Lib.hid bz.size
  clear rz bz hg3
  refine (joined_c v l _ (HV.out.step B2.out) (by have := HL.out; omega)).mono ?_
  rintro e w3 ⟨v3, l3, rfl, g, hm, hs, hle, b3⟩
  have G3 := Lib.hid g
  have HM := Lib.hid hm
  have HS := Lib.hid hs
  have HLE : Hid (l3.length ≤ 1000000) := Lib.hid (Nat.le_trans hle HL.out)
  have S3 := Lib.hid (S2.out.step b3)
  have B3 := Lib.hid (below_both B2.out b3)
  have R3 := Lib.hid (R2.out.below b3 R2.out.lt)
  have HSZ := Lib.hid b3.size
  clear g hm hs hle b3
  go_wp2_with fail
  refine (pieces_c v3 l3 _ (G3.out.sl.more (Nat.zero_le _) (Nat.le_refl _)) HM.out (by have := HLE.out; omega)).mono ?_
  rintro e w4 ⟨v4, rfl, g, b4⟩
  have G4 := Lib.hid g
  have S4 := Lib.hid (S3.out.step b4)
  have B4 := Lib.hid (below_both B3.out b4)
  have R4 := Lib.hid (R3.out.below b4 R3.out.lt)
  have HW14 : Hid (w1.heap.size ≤ w4.heap.size) := Lib.hid (Nat.le_trans HS12.out (Nat.le_trans HSZ.out b4.size))
  clear g b4
  have BP : Hid (∃ bp, Gs2 eSp w4 bp (bp + 1) v4 (pcs l3) ∧ bp ≠ b ∧ bp ≠ g3 ∧ bp < w4.heap.size) := Lib.hid (by
    by_cases hp : pcs l3 = []
    · rw [hp]
      have h0 := G4.out.sl
      rw [hp] at h0
      obtain ⟨A, c, e, i0, i1, i2, _⟩ := h0
      have ht := TT.out.1
      have hb := HBE.out
      have hg := HG3.out
      have hs := B1.out.size
      have hs4 := B4.out.size
      exact ⟨0, ⟨A, c, e, i0, i1, i2, fun h => absurd rfl h⟩, by omega, by omega, by omega⟩
    · obtain ⟨bp, c, e, i1, i2, i3, i4, i5, _⟩ := G4.out.form hp
      have hb := S2.out.box.lt
      have hg := R2.out.lt
      have hs := HSZ.out
      refine ⟨bp, ⟨_, c, e, fun e => (by cases e), i1, i2, fun _ => ⟨bp, 0, rfl, Nat.le_refl _, by omega, fun j x hx => ?_⟩⟩, by omega, by omega, i4⟩
      rw [Nat.zero_add]
      exact i5 j x hx)
  have PL : Hid ((pcs l3).length ≤ 20000000) := Lib.hid (by have := (pcs_spec l3 0 (by omega) HM.out).2.2; have := HLE.out; omega)
  have PQ : Hid (myq 0 (pcs l3) ∧ ∀ x, clp32 l x = sp (pcs l3) x) := Lib.hid ⟨(pcs_spec l3 0 (by omega) HM.out).1, fun x => by rw [(pcs_spec l3 0 (by omega) HM.out).2.1, HS.out]; rfl⟩
  clear G3 HSZ
  go_wp2_with fail
  obtain ⟨bp, p1, p2, p3, p4⟩ := BP.out
  refine (byKeySp_c (N := fun x => N x ∧ x ≠ b) v4 (pcs l3) (clp32 l) w.heap.size bp g3 b (.slice none 0 0) [] w4 (fun W hW => TT.out.step (B4.out.trans hW)) (fun x hx => ⟨HN.out x (Nat.le_trans B4.out.size hx), by have := S4.out.box.lt; omega⟩) p1 PL.out PQ.out.1 PQ.out.2 S4.out (fun g hg => by simp [Value.ownBlock] at hg)
    ⟨by have := HBE.out; omega, fun e => p2 e.symm, (by have := HBE.out; have := HG3.out; have := S1.out.box.lt; omega), p4, B4.out.size⟩ R4.out).mono ?_
  rintro e w5 ⟨rfl, ⟨N', s', es', S5, X5, O5, R5⟩, B5⟩
  have X5sz := B5.size
  have HW45 : w4.heap.size ≤ w5.heap.size := X5sz
  have S5 := Lib.hid S5
  have HO5 := Lib.hid O5
  have HX5 : Hid (Nx N w N' w5) := Lib.hid (X1.out.trans ⟨fun x hx hn => X5.old x (Nat.lt_of_lt_of_le hx HW14.out) hn, X5.new, X5.sub⟩ B1.out.size (Nat.le_trans HW14.out HW45))
  have c0 : w5.cell? ⟨g3, 0, none⟩ = some (.pointer (some ⟨b, 0, none⟩)) := R5.cell 0
  have B6 := Lib.hid (B4.out.trans B5)
  clear X5 O5 R5 B5 p1 p2 p3 p4
  go_wp2
  go_ret
  exact ⟨b, N', s', es', rfl, S5.out, HX5.out, by have := HBE.out; omega, HO5.out, B6.out⟩

set_option maxHeartbeats 1000000 in
theorem setOr_c {N : Nat → Prop} (sv ov : Value) (P Q : Nat → Bool) (w : World) (hT : Tb w) (hN : ∀ x, w.heap.size ≤ x → N x) (hs : St N w sv P) (ho : St N w ov Q) :
    Calls Tryz.prog 14 #[sv, ov] w (Made N w fun x => fOr (P x) (Q x)) := by
  have H := Lib.hid (pairof_c (N := N) both_or true true rfl rfl sv ov P Q w hT hN hs ho)
  clear hT hN hs ho
  go_enter Tryz.func14, Tryz.ntmps14
  go_wp2_with fail
  refine H.out.mono ?_
  rintro e w1 ⟨b, N', sl, es, rfl, h1, h2, h3, h4, h5⟩
  have HH : Hid (Sx N' w1 (.pointer (some ⟨b, 0, none⟩)) (fun x => fOr (P x) (Q x)) b 65536 sl es ∧ Nx N w N' w1 ∧ w.heap.size ≤ b ∧ (∀ g, sl.ownBlock = some g → w.heap.size ≤ g) ∧ Below w.heap.size w w1) := Lib.hid ⟨h1, h2, h3, h4, h5⟩
  clear h1 h2 h3 h4 h5
  go_wp2
  go_ret
  exact ⟨b, N', sl, es, rfl, HH.out⟩

set_option maxHeartbeats 1000000 in
theorem setAndNot_c {N : Nat → Prop} (sv ov : Value) (P Q : Nat → Bool) (w : World) (hT : Tb w) (hN : ∀ x, w.heap.size ≤ x → N x) (hs : St N w sv P) (ho : St N w ov Q) :
    Calls Tryz.prog 12 #[sv, ov] w (Made N w fun x => fNot (P x) (Q x)) := by
  have H := Lib.hid (pairof_c (N := N) both_not true false rfl rfl sv ov P Q w hT hN hs ho)
  clear hT hN hs ho
  go_enter Tryz.func12, Tryz.ntmps12
  go_wp2_with fail
  refine H.out.mono ?_
  rintro e w1 ⟨b, N', sl, es, rfl, h1, h2, h3, h4, h5⟩
  have HH : Hid (Sx N' w1 (.pointer (some ⟨b, 0, none⟩)) (fun x => fNot (P x) (Q x)) b 65536 sl es ∧ Nx N w N' w1 ∧ w.heap.size ≤ b ∧ (∀ g, sl.ownBlock = some g → w.heap.size ≤ g) ∧ Below w.heap.size w w1) := Lib.hid ⟨h1, h2, h3, h4, h5⟩
  clear h1 h2 h3 h4 h5
  go_wp2
  go_ret
  exact ⟨b, N', sl, es, rfl, HH.out⟩

end Go.Proofs.YtcmifbjeabkihabGreatDoor
/- Walks: Of some numbers. -/
namespace Go.Proofs.YtcmifbjeabkihabGreatDoor
open Go.RowKit
set_option linter.unusedVariables false

theorem mk32_perm {a b : List UInt32} (h : a.Perm b) (x : Nat) : mk32 a x = mk32 b x := by
  rw [Bool.eq_iff_iff, mk32_iff, mk32_iff]
  exact ⟨fun ⟨y, h1, h2⟩ => ⟨y, h.mem_iff.1 h1, h2⟩, fun ⟨y, h1, h2⟩ => ⟨y, h.mem_iff.2 h1, h2⟩⟩
set_option maxHeartbeats 4000000 in
theorem of_small {N : Nat → Prop} (v : Value) (l : List UInt32) (w : World) (hT : Tb w) (hN : ∀ x, w.heap.size ≤ x → N x) (hv : Gs e32 w 0 w.heap.size v l) (hl : l.length ≤ 12) (hne : l ≠ []) (hd : l.Nodup) :
    Calls Tryz.prog 13 #[v] w (Made N w (mk32 l)) := by
  have TT := Lib.hid hT
  have HN := Lib.hid hN
  have HV := Lib.hid hv
  have HL := Lib.hid hl
  have HNE := Lib.hid hne
  have HD := Lib.hid hd
  clear hT hN hv hl hne hd
  go_enter Tryz.func13, Tryz.ntmps13
  go_wp2_with fail
  refine (new_c (N := N) (mk32 l) w HN.out).mono ?_
  rintro e w1 ⟨b, rfl, hbe, S, X, b1⟩
  have HBE := Lib.hid hbe
  have S1 := Lib.hid S
  have X1 := Lib.hid X
  have B1 := Lib.hid b1
  clear hbe S X b1
  go_wp2_with fail
  have rz := Row.new w1 26 #[.pointer (some ⟨b, 0, none⟩)]
  have bz := bx w1 (.cells #[.pointer (some ⟨b, 0, none⟩)] 26)
  obtain ⟨g3, hg3⟩ : ∃ g3, g3 = w1.heap.size := ⟨_, rfl⟩
  rw [← hg3] at rz
  have HG3 := Lib.hid hg3
  generalize w1.alloc (.cells #[.pointer (some ⟨b, 0, none⟩)] 26) = w2 at *
  rw [← hg3]
  have S2 := Lib.hid (S1.out.step bz)
  have B2 := Lib.hid (below_both B1.out bz)
  have R2 := Lib.hid rz
  have HS12 := Lib.hid bz.size
  clear rz bz hg3
  refine (rising_small v l _ (HV.out.step B2.out) HL.out HNE.out HD.out).mono ?_
  rintro e w4 ⟨v4, l', rfl, g, hr, hp, b4⟩
  have hne' : l' ≠ [] := fun e => by subst e; exact HNE.out (List.nil_perm.1 hp)
  have S4 := Lib.hid (S2.out.step b4)
  have B4 := Lib.hid (below_both B2.out b4)
  have R4 := Lib.hid (R2.out.below b4 R2.out.lt)
  have HW14 : Hid (w1.heap.size ≤ w4.heap.size) := Lib.hid (Nat.le_trans HS12.out b4.size)
  obtain ⟨bp, c, e, i1, i2, i3, i4, i5, -⟩ := g.form hne'
  have BP : Hid (Gs e32 w4 bp (bp + 1) v4 l' ∧ bp ≠ b ∧ bp ≠ g3 ∧ bp < w4.heap.size) := Lib.hid (by
    have hb := S2.out.box.lt
    have hg := R2.out.lt
    refine ⟨⟨_, c, e, fun e => (by cases e), i1, i2, fun _ => ⟨bp, 0, rfl, Nat.le_refl _, by omega, fun j x hx => ?_⟩⟩, by omega, by omega, i4⟩
    rw [Nat.zero_add]
    exact i5 j x hx)
  have PL : Hid (l'.length ≤ 20000000) := Lib.hid (by rw [hp.length_eq]; have := HL.out; omega)
  have PQ : Hid (rsu l' ∧ ∀ x, mk32 l x = mk32 l' x) := Lib.hid ⟨hr, fun x => (mk32_perm hp x).symm⟩
  clear g hr hp hne' b4 e i1 i2 i3 i4 i5
  go_wp2_with fail
  obtain ⟨p1, p2, p3, p4⟩ := BP.out
  refine (byKeyU_c (N := fun x => N x ∧ x ≠ b) v4 l' (mk32 l) w.heap.size bp g3 b (.slice none 0 0) [] w4 (fun W hW => TT.out.step (B4.out.trans hW)) (fun x hx => ⟨HN.out x (Nat.le_trans B4.out.size hx), by have := S4.out.box.lt; omega⟩) p1 PL.out PQ.out.1 PQ.out.2 S4.out (fun g hg => by simp [Value.ownBlock] at hg)
    ⟨by have := HBE.out; omega, fun e => p2 e.symm, (by have := HBE.out; have := HG3.out; have := S1.out.box.lt; omega), p4, B4.out.size⟩ R4.out).mono ?_
  rintro e w5 ⟨rfl, ⟨N', s', es', S5, X5, O5, R5⟩, B5⟩
  have X5sz := B5.size
  have HW45 : w4.heap.size ≤ w5.heap.size := X5sz
  have S5 := Lib.hid S5
  have HO5 := Lib.hid O5
  have HX5 : Hid (Nx N w N' w5) := Lib.hid (X1.out.trans ⟨fun x hx hn => X5.old x (Nat.lt_of_lt_of_le hx HW14.out) hn, X5.new, X5.sub⟩ B1.out.size (Nat.le_trans HW14.out HW45))
  have c0 : w5.cell? ⟨g3, 0, none⟩ = some (.pointer (some ⟨b, 0, none⟩)) := R5.cell 0
  have B6 := Lib.hid (B4.out.trans B5)
  clear X5 O5 R5 B5 p1 p2 p3 p4
  go_wp2
  go_ret
  exact ⟨b, N', s', es', rfl, S5.out, HX5.out, by have := HBE.out; omega, HO5.out, B6.out⟩
end Go.Proofs.YtcmifbjeabkihabGreatDoor
/- Walks: Not, AddRange. -/
namespace Go.Proofs.YtcmifbjeabkihabGreatDoor
open Go.RowKit
set_option linter.unusedVariables false

/-- What was made later is made all the same. -/
theorem Made.after {N : Nat → Prop} {w w1 w' : World} {P : Nat → Bool} {e : Ending} (h : Made N w1 P e w') (hb : Below w.heap.size w w1) : Made N w P e w' := by
  obtain ⟨b, N', sl, es, h0, h1, h2, h3, h4, h5⟩ := h
  exact ⟨b, N', sl, es, h0, h1, ⟨fun x hx hn => h2.old x (Nat.lt_of_lt_of_le hx hb.size) hn, h2.new, h2.sub⟩, Nat.le_trans hb.size h3, fun g hg => Nat.le_trans hb.size (h4 g hg), below_both hb h5⟩
theorem Made.ext {N : Nat → Prop} {w w' : World} {P Q : Nat → Bool} {e : Ending} (h : Made N w P e w') (he : ∀ x, x < 4294967296 → P x = Q x) : Made N w Q e w' := by
  obtain ⟨b, N', sl, es, h0, h1, h2, h3, h4, h5⟩ := h
  exact ⟨b, N', sl, es, h0, h1.ext fun x hx => he x (by omega), h2, h3, h4, h5⟩
/-- One span, written down. -/
theorem lit_span (w : World) (s : Sn) (p q : Nat) (hp : p = s.1.toNat) (hq : q = s.2.toNat) :
    Gs2 eSp (w.alloc (.cells #[.int .u64 (p : Int), .int .u64 (q : Int)] 39)) 0 (w.alloc (.cells #[.int .u64 (p : Int), .int .u64 (q : Int)] 39)).heap.size (.slice (some ⟨w.heap.size, 0, none⟩) 1 1) [s] := by
  subst hp hq
  exact (Gw2.lit (k := eSp) w 0 (Nat.zero_le _) [s] #[.int .u64 (s.1.toNat : Int), .int .u64 (s.2.toNat : Int)] 1 (by rfl) rfl (by omega)).sl
set_option maxHeartbeats 4000000 in
theorem setNot_c {N : Nat → Prop} (sv : Value) (P : Nat → Bool) (n : UInt64) (m : Nat) (w : World) (hm : m = n.toNat) (hT : Tb w) (hN : ∀ x, w.heap.size ≤ x → N x) (hs : St N w sv P) :
    Calls Tryz.prog 18 #[sv, .int .u64 (m : Int)] w (Made N w fun x => fNot (clp32 [((0 : UInt64), n)] x) (P x)) := by
  have TT := Lib.hid hT
  have HN := Lib.hid hN
  have HS := Lib.hid hs
  have LIT := Lib.hid (lit_span w ((0 : UInt64), n) 0 m rfl hm)
  have bz := bx w (.cells #[.int .u64 ((0 : Nat) : Int), .int .u64 (m : Int)] 39)
  rw [show ((0 : Nat) : Int) = 0 from rfl] at LIT bz
  clear hT hN hs hm
  go_enter Tryz.func18, Tryz.ntmps18
  go_wp2_with fail
  generalize w.alloc (.cells #[.int .u64 0, .int .u64 (m : Int)] 39) = w1 at *
  have B1 := Lib.hid bz
  clear bz
  refine (spans_c (N := N) _ [((0 : UInt64), n)] _ (TT.out.step B1.out) (fun x hx => HN.out x (Nat.le_trans B1.out.size hx)) LIT.out (by simp)).mono ?_
  rintro e w2 ⟨b, N', sl, es, rfl, h1, h2, h3, h4, h5⟩
  have ST : Hid (St N w2 (.pointer (some ⟨b, 0, none⟩)) (clp32 [((0 : UInt64), n)])) := Lib.hid (h1.st.mono fun x _ h => h2.sub x h)
  have B2 := Lib.hid (below_both B1.out h5)
  clear h1 h2 h3 h4 h5
  go_wp2_with fail
  refine (setAndNot_c (N := N) _ sv _ P _ (TT.out.step B2.out) (fun x hx => HN.out x (Nat.le_trans B2.out.size hx)) ST.out (HS.out.step B2.out)).mono ?_
  intro e w3 hh
  have hh2 := Made.after hh B2.out
  clear hh
  obtain ⟨b, N', sl, es, rfl, h1, h2, h3, h4, h5⟩ := hh2
  have HH : Hid (Sx N' w3 (.pointer (some ⟨b, 0, none⟩)) (fun x => fNot (clp32 [((0 : UInt64), n)] x) (P x)) b 65536 sl es ∧ Nx N w N' w3 ∧ w.heap.size ≤ b ∧ (∀ g, sl.ownBlock = some g → w.heap.size ≤ g) ∧ Below w.heap.size w w3) := Lib.hid ⟨h1, h2, h3, h4, h5⟩
  clear h1 h2 h3 h4 h5
  go_wp2
  go_ret
  exact ⟨b, N', sl, es, rfl, HH.out⟩
set_option maxHeartbeats 4000000 in
theorem addRange_c {N : Nat → Prop} (P : Nat → Bool) (b : Nat) (s : Value) (es : List En) (lo hi : UInt64) (m n : Nat) (w : World) (hm : m = lo.toNat) (hn : n = hi.toNat) (hT : Tb w) (hN : ∀ x, w.heap.size ≤ x → N x) (S : Sx N w (.pointer (some ⟨b, 0, none⟩)) P b 65536 s es) :
    Calls Tryz.prog 16 #[.pointer (some ⟨b, 0, none⟩), .int .u64 (m : Int), .int .u64 (n : Int)] w fun e w' => e = .returned (.tuple #[]) ∧ ∃ N' s' es', Sx N' w' (.pointer (some ⟨b, 0, none⟩)) (fun x => fOr (P x) (clp32 [(lo, hi)] x)) b 65536 s' es' ∧ Nx N w N' w' ∧ (∀ g, s'.ownBlock = some g → w.heap.size ≤ g) ∧ Off (fun x => x = b) w w' := by
  have TT := Lib.hid hT
  have HN := Lib.hid hN
  have SS := Lib.hid S
  have LIT := Lib.hid (lit_span w (lo, hi) m n hm hn)
  have bz := bx w (.cells #[.int .u64 (m : Int), .int .u64 (n : Int)] 39)
  clear hT hN S hm hn
  go_enter Tryz.func16, Tryz.ntmps16
  go_wp2_with fail
  generalize w.alloc (.cells #[.int .u64 (m : Int), .int .u64 (n : Int)] 39) = w1 at *
  have B1 := Lib.hid bz
  clear bz
  refine (spans_c (N := N) _ [(lo, hi)] _ (TT.out.step B1.out) (fun x hx => HN.out x (Nat.le_trans B1.out.size hx)) LIT.out (by simp)).mono ?_
  rintro e w2 ⟨b2, N2, sl2, es2, rfl, h1, h2, h3, h4, h5⟩
  have ST : Hid (St N w2 (.pointer (some ⟨b2, 0, none⟩)) (clp32 [(lo, hi)])) := Lib.hid (h1.st.mono fun x _ h => h2.sub x h)
  have B2 := Lib.hid (below_both B1.out h5)
  clear h1 h2 h3 h4 h5
  go_wp2_with fail
  refine (setOr_c (N := N) _ _ P _ _ (TT.out.step B2.out) (fun x hx => HN.out x (Nat.le_trans B2.out.size hx)) (SS.out.st.step B2.out) ST.out).mono ?_
  intro e w3 hh
  have hh2 := Made.after hh B2.out
  clear hh
  obtain ⟨b3, N3, s3, es3, rfl, h1, h2, h3, h4, h5⟩ := hh2
  have hb := SS.out.box.lt
  have c0 : w3.cell? ⟨b3, 0, none⟩ = some s3 := h1.box.cell 0
  have RB := SS.out.box.below h5 hb
  have c1 : w3.cell? ⟨b, 0, none⟩ = some s := RB.cell 0
  have f1 := RB.frozen 0
  have R4 := RB.one_set s3
  have G4 := grown_set w3 b 0 s3
  have nb3 : ¬ N3 b := fun hn => SS.out.nb (h2.sub _ hn)
  have gs : ∀ g, s3.ownBlock = some g → g ≠ b := fun g hg e => by have := h4 g hg; omega
  have HX : Hid (Sx N3 (w3.setCell ⟨b, 0, none⟩ s3) (.pointer (some ⟨b, 0, none⟩)) (fun x => fOr (P x) (clp32 [(lo, hi)] x)) b 65536 s3 es3 ∧ Nx N w N3 (w3.setCell ⟨b, 0, none⟩ s3) ∧ (∀ g, s3.ownBlock = some g → w.heap.size ≤ g) ∧ Off (fun x => x = b) w (w3.setCell ⟨b, 0, none⟩ s3)) := Lib.hid
    ⟨⟨rfl, R4, h1.arr.kept G4 (fun g hg e => by injection e with e; exact gs g hg e.symm), h1.nil, h1.dir.grown G4 nb3, nb3, h1.ns, fun e => gs b e rfl⟩,
     ⟨h2.old, fun x hx hn => h2.new x (Nat.le_trans G4.size hx) hn, h2.sub⟩, h4, (Off.of (M := fun x => False) h5).trans (Off.grown (M := fun x => x = b) G4 (fun _ => rfl)) (fun x _ h => h.elim) (fun x _ h => h)⟩
  obtain ⟨A3, n3, cc3, e3⟩ : ∃ A n c, s3 = .slice A n c := by obtain ⟨A, c, e, -⟩ := h1.arr.sl; exact ⟨A, _, c, e⟩
  obtain ⟨A0, n0, cc0, e0⟩ : ∃ A n c, s = .slice A n c := by obtain ⟨A, c, e, -⟩ := SS.out.arr.sl; exact ⟨A, _, c, e⟩
  have SS2 := SS
  subst e3 e0
  clear h1 h2 h3 h4 h5 hb RB R4 G4 nb3 gs SS SS2 ST
  go_wp2
  go_end0
  exact ⟨rfl, N3, _, es3, HX.out⟩
end Go.Proofs.YtcmifbjeabkihabGreatDoor
/- Walks: the document's Same and Span of spans. -/
namespace Go.Proofs.YtcmifbjeabkihabGreatDoor
open Go.RowKit
set_option linter.unusedVariables false

theorem stake_succ {l m : List Sn} {k : Nat} {r s : Sn} (h1 : l[k]? = some r) (h2 : m[k]? = some s) (h : l.take k = m.take k) (e : r = s) : l.take (k + 1) = m.take (k + 1) := by
  subst e
  rw [take_snoc h1, take_snoc h2, h]
set_option maxHeartbeats 4000000 in
theorem refsame8 (v u : Value) (l m : List Sn) (lo hi lo' hi' : Nat) (w : World) (hv : Gs2 eSp w lo hi v l) (hu : Gs2 eSp w lo' hi' u m) :
    Calls Tryz.prog 21 #[v, u] w fun e w' => e = .returned (.bool (decide (l = m))) ∧ ∃ k, w' = w.drewN k := by
  have hlen := hv.len
  have hlen2 := hu.len
  have HV := Lib.hid hv
  have HU := Lib.hid hu
  obtain ⟨A1, c1, rfl, -⟩ := hv
  obtain ⟨A2, c2, rfl, -⟩ := hu
  obtain ⟨R, hR⟩ : ∃ R, R = decide (l = m) := ⟨_, rfl⟩
  rw [← hR]
  have HR := Lib.hid hR
  clear hR
  by_cases hll : l.length = m.length
  · have hlli : (l.length : Int) = (m.length : Int) := by omega
    have hne : ((l.length : Int) != (m.length : Int)) = false := by simp [hlli]
    have HLL := Lib.hid hll
    clear hll
    go_enter Tryz.func21, Tryz.ntmps21
    go_wp2
    go_loopw [5] (fun i wr => ∃ k : Nat, k ≤ l.length ∧ i = .int .i64 k ∧ Hid (l.take k = m.take k) ∧ ∃ t, wr = w.drewN t) (fun i _ => l.length - (intOf i).toNat)
    case atStart => exact ⟨0, Nat.zero_le _, rfl, (show l.take 0 = m.take 0 from rfl), 0, rfl⟩
    case round =>
      obtain ⟨k, hk, rfl, htk, t, rfl⟩ := hrel
      by_cases hlt : k < l.length
      · obtain ⟨b, off, r, e1, -, hb, hdr, hg, c0, c2⟩ := gss_at HV.out hlt
        subst e1
        obtain ⟨b', off', s, e1, -, hb', hdr', hg', c0', c2'⟩ := gss_at HU.out (k := k) (by have := HLL.out; omega)
        subst e1
        have hki : (k : Int) < l.length := by omega
        have hki2 : (k : Int) < m.length := by omega
        have hstep := fun he : r = s => stake_succ hg hg' htk.out he
        have hdiff : r ≠ s → R = false := fun hne => by
          rw [HR.out]
          refine decide_eq_false fun e => hne ?_
          rw [e] at hg
          exact Option.some.inj (hg.symm.trans hg')
        clear hdr hdr' hg hg'
        obtain ⟨rf, rq⟩ := r
        obtain ⟨sf, sq⟩ := s
        simp only at c0 c2 c0' c2'
        by_cases hf : rf = sf
        · by_cases hq : rq = sq
          · subst hf hq
            have HS := Lib.hid (hstep rfl)
            clear hstep hdiff
            go_wp2
            go_quiet (fail)
            go_wp2
            refine ⟨⟨k + 1, by omega, by go_num, HS.out, _, rfl⟩, by simp [intOf]; omega⟩
          · have HD := Lib.hid (hdiff (by intro e; injection e with e1 e2; exact hq e2))
            have hqn : ¬ ((rq.toNat : Int) = (sq.toNat : Int)) := fun e => hq (u64_ext' (by omega))
            subst hf
            clear hstep hdiff hq
            go_wp2
            go_quiet (fail)
            go_wp2
            go_ret
            exact ⟨by rw [HD.out]; rfl, _, World.drewN_drewN ..⟩
        · have HD := Lib.hid (hdiff (by intro e; injection e with e1 e2; exact hf e1))
          have hfn : ¬ ((rf.toNat : Int) = (sf.toNat : Int)) := fun e => hf (u64_ext' (by omega))
          clear hstep hdiff hf
          go_wp2
          go_quiet (fail)
          go_wp2
          go_ret
          exact ⟨by rw [HD.out]; rfl, _, World.drewN_drewN ..⟩
      · obtain rfl : k = l.length := by omega
        have he := htk.out
        rw [List.take_length, HLL.out, List.take_length] at he
        have hT : R = true := by rw [HR.out]; exact decide_eq_true he
        have HT := Lib.hid hT
        clear he hT htk
        go_wp2
        go_ret
        exact ⟨by rw [HT.out]; rfl, _, rfl⟩
  · have hF : R = false := by rw [HR.out]; exact decide_eq_false (fun e => hll (by rw [e]))
    have HF := Lib.hid hF
    have hne : ((l.length : Int) != (m.length : Int)) = true := by simp; omega
    clear hF hll
    go_enter Tryz.func21, Tryz.ntmps21
    go_wp2
    go_ret
    exact ⟨by rw [HF.out]; rfl, 0, rfl⟩
/-- What the document's Span tells. -/
def Sp8 (w : World) (lo hi : UInt64) (e : Ending) (w' : World) : Prop :=
  ∃ v' l, e = .returned v' ∧ Gs2 eSp w' 0 w'.heap.size v' l ∧ mys 0 l ∧ (∀ x, sp l x = clp32 [(lo, hi)] x) ∧ Below w.heap.size w w'
end Go.Proofs.YtcmifbjeabkihabGreatDoor
/- How many numbers a span has; what is known. -/
namespace Go.Proofs.YtcmifbjeabkihabGreatDoor
open Go.RowKit
set_option linter.unusedVariables false

theorem ct_iv (a b : Nat) : ∀ n, ct (fun x => decide (a ≤ x) && decide (x < b)) n = min n b - min n a
  | 0 => by simp [ct]
  | n + 1 => by
    have ih := ct_iv a b n
    unfold ct
    rw [ih]
    by_cases h1 : a ≤ n
    · by_cases h2 : n < b
      · simp [h1, h2]; omega
      · simp [h1, h2]; omega
    · simp [h1]; omega
theorem ct_sub {p q : Nat → Bool} : ∀ {n : Nat}, (∀ j, j < n → p j = true → q j = true) → ct p n ≤ ct q n
  | 0, _ => Nat.le_refl _
  | n + 1, h => by
    have ih := ct_sub (n := n) fun j hj => h j (by omega)
    have hn := h n (by omega)
    unfold ct
    cases hp : p n with
    | false => simp; omega
    | true => rw [hn hp]; simp; omega
theorem clp_one (lo hi : UInt64) (x : Nat) (hx : x < 4294967296) : clp32 [(lo, hi)] x = (decide (lo.toNat ≤ x) && decide (x < hi.toNat)) := by
  simp [clp32, sp, ins, hx]
theorem ct_clp32 (lo hi : UInt64) (n : Nat) (hn : n ≤ 4294967296) : ct (clp32 [(lo, hi)]) n = min n hi.toNat - min n lo.toNat := by
  rw [← ct_iv, ct_ext fun j hj => clp_one lo hi j (by omega)]
theorem or_no (y : Bool) : fOr false y = y := by cases y <;> rfl
theorem keys_known : ls (nz (clp32 [((65535 : UInt64), (65538 : UInt64))])) 65536 = [0, 1] := by
  have e : ∀ k, k < 65536 → nz (clp32 [((65535 : UInt64), (65538 : UInt64))]) k = decide (k < 2) := fun k hk => by
    rw [Bool.eq_iff_iff]
    rw [decide_eq_true_eq]
    constructor
    · intro h
      obtain ⟨x, h1, h2⟩ := nz_iff.1 h
      rw [clp_one _ _ _ (by omega)] at h2
      simp at h2
      omega
    · intro h
      have h3 : k = 0 ∨ k = 1 := by omega
      rcases h3 with rfl | rfl
      · exact nz_iff.2 ⟨65535, by omega, by rw [clp_one _ _ _ (by omega)]; simp⟩
      · exact nz_iff.2 ⟨0, by omega, by rw [clp_one _ _ _ (by omega)]; simp⟩
  rw [ls_ext e, ls_skip (a := 2) (b := 65536) _ (by omega) (fun j h1 h2 => decide_eq_false (by omega))]
  rfl
def kn (x : Nat) : Bool := fNot (clp32 [((0 : UInt64), (4 : UInt64))] x) (mk32 [5, 1] x)
theorem kn_ct : ct kn 4294967296 ≤ 50000000 := by
  have h : ct kn 4294967296 ≤ ct (clp32 [((0 : UInt64), (4 : UInt64))]) 4294967296 := ct_sub fun j _ h => by
    unfold kn fNot at h
    revert h
    cases clp32 [((0 : UInt64), (4 : UInt64))] j <;> simp
  rw [ct_clp32 _ _ _ (Nat.le_refl _)] at h
  have e1 : (4 : UInt64).toNat = 4 := rfl
  rw [e1] at h
  omega
theorem kn_runs {l : List Sn} (h1 : mys 0 l) (h2 : ∀ x, x < 4294967296 → sp l x = kn x) : l = [(0, 1), (2, 4)] := by
  refine mys_inj h1 (m := 0) (b := [(0, 1), (2, 4)]) ?_ fun x hx => ?_
  · refine ⟨by decide, by decide, by decide, by decide, by decide, by decide, trivial⟩
  · rw [h2 x hx]
    unfold kn
    rw [clp_one _ _ _ hx]
    have e1 : (0 : UInt64).toNat = 0 := rfl
    have e2 : (1 : UInt64).toNat = 1 := rfl
    have e3 : (2 : UInt64).toNat = 2 := rfl
    have e4 : (4 : UInt64).toNat = 4 := rfl
    have e5 : (5 : UInt32).toNat = 5 := rfl
    have e6 : (1 : UInt32).toNat = 1 := rfl
    by_cases h : x < 6
    · have h3 : x = 0 ∨ x = 1 ∨ x = 2 ∨ x = 3 ∨ x = 4 ∨ x = 5 := by omega
      rcases h3 with rfl | rfl | rfl | rfl | rfl | rfl <;> rfl
    · have a1 : ¬ x < 4 := by omega
      have a2 : ¬ x < 1 := by omega
      simp [sp, ins, fNot, e2, e4, a1, a2]
end Go.Proofs.YtcmifbjeabkihabGreatDoor
namespace Go.Proofs.YtcmifbjeabkihabGreatDoor
open Go.RowKit
set_option linter.unusedVariables false

/-- A run of a key's container, as a span. -/
def sh (y : Nat) (r : Rn) : Sn := (UInt64.ofNat (65536 * y + r.1.toNat), UInt64.ofNat (65536 * y + lst r + 1))
theorem sh_nat {y : Nat} {r : Rn} (hy : y < 65536) (hr : lst r ≤ 65535) : (sh y r).1.toNat = 65536 * y + r.1.toNat ∧ (sh y r).2.toNat = 65536 * y + lst r + 1 := by
  have := fst_le r
  exact ⟨u64_of _ (by omega), u64_of _ (by omega)⟩
theorem jst_sh {y : Nat} {r : Rn} (hy : y < 65536) (hr : lst r ≤ 65535) (l : List Sn) : jst l (sh y r) = wsp l (sh y r) := by
  obtain ⟨h1, h2⟩ := sh_nat hy hr
  have h3 := clip_hi (sh y r)
  have h4 := fst_le r
  have e : clip (sh y r) = sh y r := by
    refine Prod.ext rfl (u64_ext' ?_)
    rw [h3, h2]; omega
  unfold jst
  rw [e, if_pos (by omega)]
/-- All runs of the entries, as spans. -/
def shs (P : Nat → Bool) (es : List En) : List Sn := es.flatMap fun e => (rs (blk P e.key.toNat) 65536).map (sh e.key.toNat)
theorem shs_app (P : Nat → Bool) (a b : List En) : shs P (a ++ b) = shs P a ++ shs P b := List.flatMap_append
theorem mayr_lst : ∀ (l : List Rn) (n : Nat), mayr n l = true → ∀ r ∈ l, n ≤ r.1.toNat ∧ lst r ≤ 65535
  | [], _, _ => fun r h => by cases h
  | s :: l, n, h => by
    obtain ⟨h1, h2, h3⟩ := mayr_cons.1 h
    intro r hr
    have := fst_le s
    rcases List.mem_cons.1 hr with rfl | hr
    · exact ⟨h1, h2⟩
    · have := mayr_lst l _ h3 r hr; exact ⟨by omega, this.2⟩
theorem mayr_pw : ∀ (l : List Rn) (n : Nat), mayr n l = true → l.Pairwise fun a b => a.1.toNat ≤ b.1.toNat
  | [], _, _ => List.Pairwise.nil
  | s :: l, n, h => by
    obtain ⟨h1, h2, h3⟩ := mayr_cons.1 h
    refine List.pairwise_cons.2 ⟨fun r hr => ?_, mayr_pw l _ h3⟩
    have := (mayr_lst l _ h3 r hr).1
    have := fst_le s
    omega
theorem rs_lst (p : Nat → Bool) : ∀ r ∈ rs p 65536, lst r ≤ 65535 := fun r hr => (mayr_lst _ 0 (mayr_rs p) r hr).2
theorem shs_key {N : Nat → Prop} {w : World} {P : Nat → Bool} : ∀ (es : List En) (K : Nat), Dir N w P K 65536 es →
    (∀ s ∈ shs P es, 65536 * K ≤ s.1.toNat) ∧ ((shs P es).Pairwise fun s t => s.1.toNat ≤ t.1.toNat) ∧ ∀ x, 65536 * K ≤ x → x < 4294967296 → sp (shs P es) x = P x
  | [], K, h => ⟨fun s hs => absurd hs List.not_mem_nil, List.Pairwise.nil, fun x h1 h2 => (nz_none (h.none (x / 65536) (by omega) (by omega))).symm ▸ rfl⟩
  | e :: es, K, h => by
    obtain ⟨a, b, c⟩ := shs_key es _ h.tail
    obtain ⟨h1, h2, h3, h4⟩ := h.head
    have hm := mayr_rs (blk P e.key.toNat)
    have hl := rs_lst (blk P e.key.toNat)
    have he : shs P (e :: es) = (rs (blk P e.key.toNat) 65536).map (sh e.key.toNat) ++ shs P es := by simp [shs]
    rw [he]
    have hs : ∀ s ∈ (rs (blk P e.key.toNat) 65536).map (sh e.key.toNat), 65536 * e.key.toNat ≤ s.1.toNat ∧ s.1.toNat < 65536 * (e.key.toNat + 1) := fun s hs => by
      obtain ⟨r, hr, rfl⟩ := List.mem_map.1 hs
      have hr' := hl r hr
      have := fst_le r
      rw [(sh_nat h2 hr').1]
      omega
    refine ⟨fun s hs' => ?_, ?_, fun x x1 x2 => ?_⟩
    · rcases List.mem_append.1 hs' with h | h
      · have := (hs s h).1; omega
      · have := a s h; omega
    · refine List.pairwise_append.2 ⟨?_, b, fun s h t h' => ?_⟩
      · refine List.pairwise_map.2 ((mayr_pw _ 0 hm).imp_of_mem fun {r r'} hr hr' hrr => ?_)
        rw [(sh_nat h2 (hl r hr)).1, (sh_nat h2 (hl r' hr')).1]
        omega
      · have := (hs s h).2; have := a t h'; omega
    · have hk : ∀ x, sp ((rs (blk P e.key.toNat) 65536).map (sh e.key.toNat)) x = (decide (x / 65536 = e.key.toNat) && P x) := fun x => by
        rw [Bool.eq_iff_iff, Bool.and_eq_true, decide_eq_true_eq]
        rw [sp_iff]
        constructor
        · rintro ⟨s, hs', g1, g2⟩
          obtain ⟨r, hr, rfl⟩ := List.mem_map.1 hs'
          have hr' := hl r hr
          obtain ⟨u1, u2⟩ := sh_nat (y := e.key.toNat) h2 hr'
          rw [u1] at g1
          rw [u2] at g2
          have hx : x / 65536 = e.key.toNat := by omega
          refine ⟨hx, ?_⟩
          rw [← blk_at P x, hx, ← mr_rs (blk P e.key.toNat) (Nat.mod_lt _ (by omega))]
          unfold mr
          rw [List.any_eq_true]
          exact ⟨r, hr, (inr_iff _ _).2 ⟨by omega, by omega⟩⟩
        · rintro ⟨hx, hp⟩
          rw [← blk_at P x, hx, ← mr_rs (blk P e.key.toNat) (Nat.mod_lt _ (by omega))] at hp
          unfold mr at hp
          rw [List.any_eq_true] at hp
          obtain ⟨r, hr, hi⟩ := hp
          obtain ⟨i1, i2⟩ := (inr_iff _ _).1 hi
          obtain ⟨u1, u2⟩ := sh_nat (y := e.key.toNat) h2 (hl r hr)
          exact ⟨sh e.key.toNat r, List.mem_map_of_mem hr, by rw [u1]; omega, by rw [u2]; omega⟩
      rw [sp_app, hk]
      by_cases h5 : x / 65536 < e.key.toNat
      · rw [nz_none (h.gap (x / 65536) (by omega) h5)]
        have : sp (shs P es) x = false := by
          cases hq : sp (shs P es) x with
          | false => rfl
          | true =>
            obtain ⟨s, g1, g2, g3⟩ := (sp_iff _ _).1 hq
            have := a s g1; omega
        rw [this, Bool.and_false]; rfl
      · by_cases h6 : x / 65536 = e.key.toNat
        · have : sp (shs P es) x = false := by
            cases hq : sp (shs P es) x with
            | false => rfl
            | true =>
              obtain ⟨s, g1, g2, g3⟩ := (sp_iff _ _).1 hq
              have := a s g1; omega
          rw [this, decide_eq_true h6, Bool.true_and, Bool.or_false]
        · rw [decide_eq_false h6, Bool.false_and, Bool.false_or]
          exact c x (by omega) x2
theorem hm_ct (p : Nat → Bool) (n : Nat) : ct (hm p) n ≤ ct p n := by
  induction n with
  | zero => exact Nat.le_refl _
  | succ n ih =>
    rw [ct, ct]
    have : (hm p n).toNat ≤ (p n).toNat := by
      unfold hm
      cases p n with
      | false => simp
      | true => cases (decide (n = 0) || !p (n - 1)) <;> simp
    omega
theorem shs_len {N : Nat → Prop} {w : World} {P : Nat → Bool} : ∀ (es : List En) (K : Nat), K ≤ 65536 → Dir N w P K 65536 es → (shs P es).length + ct P (65536 * K) ≤ ct P 4294967296
  | [], K, hK, h => by
    have := ct_mono P (a := 65536 * K) (b := 4294967296) (by omega)
    simpa [shs] using this
  | e :: es, K, hK, h => by
    have h2 := h.head.2.1
    have := shs_len es _ (by omega) h.tail
    have he : (shs P (e :: es)).length = ct (hm (blk P e.key.toNat)) 65536 + (shs P es).length := by
      rw [← rs_len]; simp [shs]
    rw [ct_next] at this
    have h3 := hm_ct (blk P e.key.toNat) 65536
    have h4 := ct_mono P (a := 65536 * K) (b := 65536 * e.key.toNat) (by have := h.head.1; omega)
    omega
theorem foldl_jst_app (a b : List Sn) : jn (a ++ b) = b.foldl jst (jn a) := by unfold jn; rw [List.foldl_append]
set_option maxHeartbeats 8000000 in
theorem setruns_c {N : Nat → Prop} (v : Value) (P : Nat → Bool) (w : World) (hT : Tb w) (h : St N w v P) (hct : ct P 4294967296 ≤ 50000000) :
    Calls Tryz.prog 19 #[v] w fun e w' => ∃ v' l, e = .returned v' ∧ Gw2 eSp w' w.heap.size v' l ∧ mys 0 l ∧ (∀ x, x < 4294967296 → sp l x = P x) ∧ l.length ≤ ct P 4294967296 ∧ Below w.heap.size w w' := by
  have H := Lib.hid h
  have TT := Lib.hid hT
  have HCT := Lib.hid hct
  clear h hT hct
  go_enter Tryz.func19, Tryz.ntmps19
  go_wp2_with fail
  refine (entries_c v P _ H.out).mono ?_
  rintro e w0 ⟨A, n, c, es, rfl, hz, g, d⟩
  have hz := hz.symm
  subst hz
  have hn : n = es.length := by obtain ⟨_, _, e, _⟩ := g; injection e
  subst hn
  have HV := Lib.hid g
  have HD := Lib.hid d
  have HSL : Hid ((shs P es).length ≤ ct P 4294967296) := Lib.hid (by have := shs_len es 0 (by omega) d; omega)
  have HLEN := Lib.hid d.len
  clear g d
  go_wp2
  go_loopw [3, 12] (fun s3 s12 wr => ∃ k : Nat, k ≤ es.length ∧ s12 = .int .i64 k ∧ Hid (JI w wr s3 (jn (shs P (es.take k))))) (fun _ s12 _ => es.length - (intOf s12).toNat)
  case atStart => exact ⟨0, Nat.zero_le _, rfl, Lib.hid ⟨Gw2.nil_ _ _, fun _ => rfl, Below.refl _ _⟩⟩
  case round =>
    obtain ⟨k, hk, rfl, hj⟩ := hrel
    have HJ := Lib.hid hj.out
    have hbl := hj.out.2.2
    by_cases hlt : k < es.length
    · obtain ⟨b, off, e, e1, -, hb, hdr, hg, c0, c1, c2, c3, c4⟩ := gsv_at HV.out hlt
      subst e1
      rw [← hbl.cell (p := ⟨b, off + k * 5, none⟩) hb] at c0
      rw [← hbl.cell (p := ⟨b, off + k * 5 + 1, none⟩) hb] at c1
      rw [← hbl.cell (p := ⟨b, off + k * 5 + 2, none⟩) hb] at c2
      rw [← hbl.cell (p := ⟨b, off + k * 5 + 3, none⟩) hb] at c3
      rw [← hbl.cell (p := ⟨b, off + k * 5 + 4, none⟩) hb] at c4
      obtain ⟨-, hy2, -, hcn⟩ := HD.out.mem e (List.mem_of_getElem? hg)
      have hts : shs P (es.take (k + 1)) = shs P (es.take k) ++ (rs (blk P e.key.toNat) 65536).map (sh e.key.toNat) := by rw [take_snoc hg, shs_app]; simp [shs]
      have hall : (shs P (es.take k) ++ (rs (blk P e.key.toNat) 65536).map (sh e.key.toNat)).length ≤ 50000000 := by
        rw [← hts]
        have e9 : shs P es = shs P (es.take (k + 1)) ++ shs P (es.drop (k + 1)) := by rw [← shs_app, List.take_append_drop]
        have := HSL.out
        have := HCT.out
        have h5 := congrArg List.length e9
        rw [List.length_append] at h5
        omega
      obtain ⟨y, hy⟩ : ∃ y, y = e.key.toNat := ⟨_, rfl⟩
      rw [← hy] at c0 hcn hts hall hy2
      obtain ⟨m, hm⟩ : ∃ m, ct (hm (blk P y)) 65536 = m := ⟨_, rfl⟩
      have hrl : (rs (blk P y) 65536).length = m := by rw [rs_len]; exact hm
      have hml : m ≤ 65536 := by rw [← hm]; exact ct_le _ _
      have hrlst := rs_lst (blk P y)
      obtain ⟨rl, hrle⟩ : ∃ rl, rl = rs (blk P y) 65536 := ⟨_, rfl⟩
      rw [← hrle] at hts hall hrl hrlst
      have HRLE := Lib.hid hrle
      have HTS := Lib.hid hts
      have HALL := Lib.hid hall
      have HM := Lib.hid hm
      have HRL := Lib.hid hrl
      have HRS := Lib.hid hrlst
      have HC := Lib.hid (hcn.step hbl)
      have hkl : (k : Int) < es.length := by omega
      have bz := bx wr (.cells #[.int .u16 y, .int .u8 e.b.κ, .slice e.b.A e.b.n e.b.c, .slice e.b.A2 e.b.n2 e.b.c2, .slice e.b.A3 e.b.n3 e.b.c3] 61)
      have rz := Row.new wr 61 #[.int .u16 y, .int .u8 e.b.κ, .slice e.b.A e.b.n e.b.c, .slice e.b.A2 e.b.n2 e.b.c2, .slice e.b.A3 e.b.n3 e.b.c3]
      clear hdr hg hcn hts hall hy hm hrl hrlst hrle hj
      go_wp2_with fail
      generalize wr.alloc (.cells #[.int .u16 y, .int .u8 e.b.κ, .slice e.b.A e.b.n e.b.c, .slice e.b.A2 e.b.n2 e.b.c2, .slice e.b.A3 e.b.n3 e.b.c3] 61) = w1 at *
      have B1 := Lib.hid bz
      have HG0 : Hid (w.heap.size ≤ wr.heap.size) := Lib.hid HJ.out.2.2.size
      have J1 : Hid (JI w w1 u3 (jn (shs P (es.take k)))) := Lib.hid ⟨HJ.out.1.below bz (Nat.le_refl _), HJ.out.2.1, HJ.out.2.2.trans (bz.mono HJ.out.2.2.size)⟩
      have TT1 : Hid (Tb w1) := Lib.hid (TT.out.step J1.out.2.2)
      have OWL : Hid (∀ g, u3.ownBlock = some g → g < wr.heap.size) := Lib.hid (fun g hg => (HJ.out.1.lt g hg).2)
      have OW : Hid (∀ g, u3.ownBlock = some g → g ≠ wr.heap.size) := Lib.hid (fun g hg => by have := (HJ.out.1.lt g hg).2; omega)
      have R1 := Lib.hid rz
      clear bz rz hbl HJ
      refine (runs_c _ (blk P y) _ m _ TT1.out HM.out (HC.out.step B1.out)).mono ?_
      rintro e5 w2 ⟨A5, c5, rfl, g5, b5⟩
      rw [← HRLE.out] at g5
      have G5 := Lib.hid g5
      have J2 : Hid (JI w w2 u3 (jn (shs P (es.take k)))) := Lib.hid ⟨J1.out.1.below b5 (Nat.le_refl _), J1.out.2.1, J1.out.2.2.trans (b5.mono J1.out.2.2.size)⟩
      have R2 := Lib.hid (R1.out.below b5 R1.out.lt)
      have HG1 : Hid (w1.heap.size ≤ w2.heap.size ∧ wr.heap.size < w1.heap.size) := Lib.hid ⟨b5.size, R1.out.lt⟩
      clear g5 b5 B1 TT1 J1 HC R1
      go_wp2
      generalize wr.heap.size = g0 at *
      obtain ⟨lo5, hlo5⟩ : ∃ lo5, lo5 = w1.heap.size := ⟨_, rfl⟩
      rw [← hlo5] at G5 HG1
      clear hlo5
      go_loopw [3, 20] (fun t3 t20 wi => ∃ j : Nat, j ≤ m ∧ t20 = .int .i64 j ∧ Hid (JI w wi t3 (jn (shs P (es.take k) ++ (rl.take j).map (sh y))) ∧ Row wi g0 61 #[.int .u16 y, .int .u8 e.b.κ, .slice e.b.A e.b.n e.b.c, .slice e.b.A2 e.b.n2 e.b.c2, .slice e.b.A3 e.b.n3 e.b.c3] ∧ (∀ g, t3.ownBlock = some g → g ≠ g0 ∧ (g < lo5 ∨ w2.heap.size ≤ g)) ∧ Gs2 eR wi lo5 w2.heap.size (.slice A5 m c5) rl ∧ w2.heap.size ≤ wi.heap.size)) (fun _ t20 _ => m - (intOf t20).toNat)
      case atStart => exact ⟨0, Nat.zero_le _, rfl, Lib.hid ⟨by simpa using J2.out, R2.out, fun g hg => ⟨OW.out g hg, .inl (by have := (OWL.out g hg); have := HG1.out.2; omega)⟩, G5.out, Nat.le_refl _⟩⟩
      case round =>
        obtain ⟨j, hj, rfl, hI⟩ := hrel
        have HI := Lib.hid hI.out
        have r0 := HI.out.2.1
        have c0 : wr.cell? ⟨g0, 0, none⟩ = some (.int .u16 (y : Int)) := r0.cell 0
        by_cases hjm : j < m
        · obtain ⟨b5, off5, r, e5, -, hb5, hdr5, hg5, d0, d1⟩ := gs2_at HI.out.2.2.2.1 (by rw [HRL.out]; exact hjm : j < rl.length)
          subst e5
          have hrl5 := HRS.out r (List.mem_of_getElem? hg5)
          obtain ⟨s1, s2⟩ := sh_nat (y := y) hy2 hrl5
          have hX : jn (shs P (es.take k) ++ (rl.take (j + 1)).map (sh y)) = wsp (jn (shs P (es.take k) ++ (rl.take j).map (sh y))) (sh y r) := by
            rw [take_snoc hg5, List.map_append, ← List.append_assoc]
            rw [show [r].map (sh y) = [sh y r] from rfl, jn_snoc, jst_sh hy2 hrl5]
          have HX := Lib.hid hX
          obtain ⟨p, hp⟩ : ∃ p : Nat, p = r.1.toNat := ⟨_, rfl⟩
          obtain ⟨q, hq⟩ : ∃ q : Nat, q = r.2.toNat := ⟨_, rfl⟩
          have hlr : lst r = p + q := by unfold lst; rw [hp, hq]
          rw [← hp] at d0 s1
          rw [← hq] at d1
          rw [hlr] at s2 hrl5
          have HS1 := Lib.hid s1
          have HS2 := Lib.hid s2
          obtain ⟨z1, hz1⟩ : ∃ z1 : Nat, 65536 * y + p = z1 := ⟨_, rfl⟩
          have hcall := fun W => number_c y p W hy2 (by omega)
          rw [hz1] at hcall s1
          have HZ1 := Lib.hid hz1
          have hz1b : z1 + q + 1 ≤ 4294967296 := by omega
          have w1' : IntKind.u64.wrap (z1 : Int) = z1 := by rw [IntKind.wrap_u64]; omega
          have w2' : IntKind.u64.wrap (q : Int) = q := by rw [IntKind.wrap_u64]; omega
          have w3' : IntKind.u64.wrap ((z1 : Int) + q) = (z1 : Int) + q := by rw [IntKind.wrap_u64]; omega
          have w4' : IntKind.u64.wrap ((z1 : Int) + q + 1) = (z1 : Int) + q + 1 := by rw [IntKind.wrap_u64]; omega
          have hjmi : (j : Int) < m := by omega
          have HJN : Hid ((jn (shs P (es.take k) ++ (rl.take j).map (sh y))).length ≤ 100000000) := Lib.hid (by
            have h1 := jn_len (shs P (es.take k) ++ (rl.take j).map (sh y))
            have h2 := HALL.out
            rw [List.length_append, List.length_map] at h1 h2
            rw [List.length_take] at h1
            have := Nat.min_le_right j rl.length
            omega)
          have bz := bx wr (.cells #[.int .u16 (p : Int), .int .u16 (q : Int)] 85)
          have HII : Hid (JI w (wr.alloc (.cells #[.int .u16 (p : Int), .int .u16 (q : Int)] 85)) u3 (jn (shs P (es.take k) ++ (rl.take j).map (sh y))) ∧ Row (wr.alloc (.cells #[.int .u16 (p : Int), .int .u16 (q : Int)] 85)) g0 61 #[.int .u16 y, .int .u8 e.b.κ, .slice e.b.A e.b.n e.b.c, .slice e.b.A2 e.b.n2 e.b.c2, .slice e.b.A3 e.b.n3 e.b.c3] ∧ Gs2 eR (wr.alloc (.cells #[.int .u16 (p : Int), .int .u16 (q : Int)] 85)) lo5 w2.heap.size (.slice (some ⟨b5, off5, none⟩) m c5) rl) := Lib.hid
            ⟨⟨HI.out.1.1.below bz (Nat.le_refl _), HI.out.1.2.1, HI.out.1.2.2.trans (bz.mono HI.out.1.2.2.size)⟩, r0.below bz r0.lt, HI.out.2.2.2.1.below (bz.mono HI.out.2.2.2.2)⟩
          have SZ : Hid (wr.heap.size ≤ (wr.alloc (.cells #[.int .u16 (p : Int), .int .u16 (q : Int)] 85)).heap.size) := Lib.hid bz.size
          have c0' : (wr.alloc (.cells #[.int .u16 (p : Int), .int .u16 (q : Int)] 85)).cell? ⟨g0, 0, none⟩ = some (.int .u16 (y : Int)) := HII.out.2.1.cell 0
          clear hdr5 hg5 hX hp hq hlr s1 s2 hz1 bz hI hrl5 r0
          go_wp2_with (go_at_call 47; refine (hcall _).mono ?_; rintro e w9 ⟨rfl, hz⟩; have hz := hz.symm; subst hz)
          generalize wr.alloc (.cells #[.int .u16 (p : Int), .int .u16 (q : Int)] 85) = w3 at *
          have hW := withSpan_c (jn (shs P (es.take k) ++ (rl.take j).map (sh y))) (sh y r) u3 w.heap.size w3 HII.out.1.1 HII.out.1.2.1 HJN.out HII.out.1.2.2.size
          rw [HS1.out, HS2.out, HZ1.out, show ((65536 * y + (p + q) + 1 : Nat) : Int) = (z1 : Int) + q + 1 by have := HZ1.out; omega] at hW
          refine hW.mono ?_
          clear hW hcall
          rintro e w4 ⟨v4, rfl, g4, ⟨s4, t4⟩, b4⟩
          have hne : ∀ g, u3.ownBlock = some g → g ≠ g0 ∧ (g < lo5 ∨ w2.heap.size ≤ g) := HI.out.2.2.1
          have NX : Hid (JI w w4 v4 (jn (shs P (es.take k) ++ (rl.take (j + 1)).map (sh y))) ∧ Row w4 g0 61 #[.int .u16 y, .int .u8 e.b.κ, .slice e.b.A e.b.n e.b.c, .slice e.b.A2 e.b.n2 e.b.c2, .slice e.b.A3 e.b.n3 e.b.c3] ∧ (∀ g, v4.ownBlock = some g → g ≠ g0 ∧ (g < lo5 ∨ w2.heap.size ≤ g)) ∧ Gs2 eR w4 lo5 w2.heap.size (.slice (some ⟨b5, off5, none⟩) m c5) rl ∧ w2.heap.size ≤ w4.heap.size) := Lib.hid
            ⟨⟨by rw [HX.out]; exact g4, fun h => absurd (HX.out.symm.trans h) (wsp_ne _ _), HII.out.1.2.2.trans b4⟩, HII.out.2.1.grown s4 (fun e => (hne g0 e).1 rfl), fun g hg => by
              rcases t4 with e | ⟨g', e, hle⟩
              · exact hne g (e ▸ hg)
              · rw [e] at hg; injection hg with hg; subst hg
                have h1 := HII.out.2.1.lt; have h2 := HI.out.2.2.2.2; have h3 := SZ.out
                exact ⟨by omega, .inr (by omega)⟩,
             HII.out.2.2.grown s4 (Nat.le_trans HI.out.2.2.2.2 SZ.out) (fun k hk => (hne k hk).2), Nat.le_trans HI.out.2.2.2.2 (Nat.le_trans SZ.out s4.size)⟩
          clear g4 s4 t4 b4 hne
          go_wp2
          refine ⟨⟨j + 1, by omega, by go_num, NX⟩, by simp [intOf]; omega⟩
        · obtain rfl : j = m := by omega
          have HJ3 : Hid (JI w wr u3 (jn (shs P (es.take (k + 1))))) := Lib.hid (by
            have := HI.out.1
            rw [← HRL.out, List.take_length, ← HTS.out] at this
            exact this)
          have hlen := HLEN.out
          clear hI HI r0
          go_wp2
          refine ⟨⟨k + 1, by omega, by go_num, HJ3⟩, by simp [intOf]; omega⟩
    · obtain rfl : k = es.length := by omega
      have hj2 := hj.out
      rw [List.take_length] at hj2
      have HJ2 := Lib.hid hj2
      clear hj hj2 HJ hbl
      go_wp2
      go_ret
      obtain ⟨a, b, c⟩ := shs_key es 0 HD.out
      obtain ⟨j1, j2, j3⟩ := jn_right (shs P es) b
      exact ⟨_, jn (shs P es), rfl, HJ2.out.1, j1, fun x hx => by rw [j2, decide_eq_true hx, Bool.true_and]; exact c x (by omega) hx, Nat.le_trans (jn_len _) HSL.out, HJ2.out.2.2⟩
end Go.Proofs.YtcmifbjeabkihabGreatDoor
