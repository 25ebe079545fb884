/- The table of lowest bits, as the program's text lays it: what a row's condition gives. -/
import Derived.Test.YtcmifbjeabkihabGreatDoorMb5
import Derived.Test.YtcmifbjeabkihabGreatDoorMc9
import Derived.Test.YtcmifbjeabkihabGreatDoorMc2
import Derived.Test.YtcmifbjeabkihabGreatDoorMa3
import Derived.ProofKit
import Derived.OpenShut
import Derived.ShutString
import Derived.ChangeOld
import Derived.Below
import Derived.Test.YtcmifbjeabkihabGreatDoorMa9
import Derived.Test.YtcmifbjeabkihabGreatDoorTie
import Derived.Test.YtcmifbjeabkihabGreatDoorCards
import Derived.Lib.LaidTab
import Derived.LaidMore
import Derived.SevenTiedAt
/- Walks: Keys of a set; whether two sets are the same. -/
namespace Go.Proofs.YtcmifbjeabkihabGreatDoor
open Go.RowKit
set_option linter.unusedVariables false

set_option maxHeartbeats 4000000 in
theorem setkeys_c {N : Nat → Prop} (v : Value) (P : Nat → Bool) (w : World) (h : St N w v P) :
    Calls Tryz.prog 17 #[v] w fun e w' => ∃ v', e = .returned v' ∧ Gs e16 w' w.heap.size w'.heap.size v' (ls (nz P) 65536) ∧ Below w.heap.size w w' := by
  have H := Lib.hid h
  obtain ⟨L, hL⟩ : ∃ L, ls (nz P) 65536 = L := ⟨_, rfl⟩
  rw [hL]
  have HL := Lib.hid hL
  clear h hL
  go_enter Tryz.func17, Tryz.ntmps17
  go_wp2_with fail
  refine (entries_c v P _ H.out).mono ?_
  rintro e w0 ⟨A, n, c, es, rfl, hz, g, d⟩
  have hz := hz.symm
  subst hz
  have hn : n = es.length := by obtain ⟨_, _, e, _⟩ := g; injection e
  subst hn
  have HV := Lib.hid g
  have HD := Lib.hid d
  have hlen := d.len
  clear g d
  go_wp2
  go_loopw [3, 9] (fun s3 s9 wr => ∃ k : Nat, k ≤ es.length ∧ s9 = .int .i64 k ∧ Gw e16 wr w.heap.size s3 ((es.take k).map En.key) ∧ Below w.heap.size w wr) (fun _ s9 _ => es.length - (intOf s9).toNat)
  case atStart => exact ⟨0, Nat.zero_le _, rfl, Gw.nil_ _ _, Below.refl _ _⟩
  case round =>
    obtain ⟨k, hk, rfl, hgw, hbl⟩ := hrel
    have HB := Lib.hid hbl
    by_cases hlt : k < es.length
    · obtain ⟨b, off, e, e1, -, hb, hdr, hg, c0, c1, c2, c3, c4⟩ := gsv_at HV.out hlt
      subst e1
      rw [← hbl.cell (p := ⟨b, off + k * 5, none⟩) hb] at c0
      rw [← hbl.cell (p := ⟨b, off + k * 5 + 1, none⟩) hb] at c1
      rw [← hbl.cell (p := ⟨b, off + k * 5 + 2, none⟩) hb] at c2
      rw [← hbl.cell (p := ⟨b, off + k * 5 + 3, none⟩) hb] at c3
      rw [← hbl.cell (p := ⟨b, off + k * 5 + 4, none⟩) hb] at c4
      have ht : (es.take (k + 1)).map En.key = (es.take k).map En.key ++ [e.key] := by
        rw [List.take_add_one, hg]; simp
      have HT := Lib.hid ht
      have hkl : (k : Int) < es.length := by omega
      have HW := Lib.hid hgw
      have HLEN := Lib.hid hlen
      clear hdr hg ht hbl hgw hlen
      have bz := bx wr (.cells #[.int .u16 e.key.toNat, .int .u8 e.b.κ, .slice e.b.A e.b.n e.b.c, .slice e.b.A2 e.b.n2 e.b.c2, .slice e.b.A3 e.b.n3 e.b.c3] 61)
      have HSZ : Hid ((wr.alloc (.cells #[.int .u16 e.key.toNat, .int .u8 e.b.κ, .slice e.b.A e.b.n e.b.c, .slice e.b.A2 e.b.n2 e.b.c2, .slice e.b.A3 e.b.n3 e.b.c3] 61)).heap.size = wr.heap.size + 1) := Lib.hid (by simp)
      have HW1 := Lib.hid (HW.out.below bz (Nat.le_refl _))
      have HB1 := Lib.hid (HB.out.trans (bz.mono HB.out.size))
      clear bz
      go_wp2_with (at_builtin; refine wpList_gapp1 (P := Tryz.prog) e16 _ rfl _ _ _ rfl w.heap.size sli16 inf16 _ ((es.take k).map En.key) rfl ?_ _ e.key ?_ ?_ ?_ ?_ ?_; (exact HW1.out); rfl; (rw [HSZ.out]; rfl); (have := HLEN.out; rw [List.length_map, List.length_take]; omega); (exact HB1.out.size); intro v' w' g1 g2 g3; have HG := Lib.hid g1; have HB2 := Lib.hid (HB1.out.grown g2 HB1.out.size (fun j hj => (HW1.out.lt j hj).1)); have hlen := HLEN.out; clear g1 g2 g3)
      refine ⟨⟨k + 1, by omega, by go_num, by rw [HT.out]; exact HG.out, HB2.out⟩, by simp [intOf]; omega⟩
    · obtain rfl : k = es.length := by omega
      rw [List.take_length, HD.out.keys (Nat.le_refl _), HL.out] at hgw
      have HG := Lib.hid hgw.sl
      clear hgw hbl
      go_wp2
      go_ret
      exact ⟨_, rfl, HG.out, HB.out⟩

end Go.Proofs.YtcmifbjeabkihabGreatDoor
/- Walks: what is known of sets. -/
namespace Go.Proofs.YtcmifbjeabkihabGreatDoor
open Go.RowKit
set_option linter.unusedVariables false

theorem lit32 (w : World) (l : List UInt32) (cs : Array Value) (n : Nat) (hcs : cs = (l.map e32.val).toArray) (hn : l.length = n) (hs : n ≤ 1000) :
    Gs e32 (w.alloc (.cells cs 23)) 0 (w.alloc (.cells cs 23)).heap.size (.slice (some ⟨w.heap.size, 0, none⟩) n n) l :=
  (Gw.lit (k := e32) w w.heap.size (Nat.le_refl _) l cs n hcs hn hs).sl.more (Nat.zero_le _) (Nat.le_refl _)
theorem lit_span2 (w : World) (s t : Sn) (cs : Array Value) (hcs : cs = (eSp.row [s, t]).toArray) :
    Gs2 eSp (w.alloc (.cells cs 39)) 0 (w.alloc (.cells cs 39)).heap.size (.slice (some ⟨w.heap.size, 0, none⟩) 2 2) [s, t] :=
  (Gw2.lit (k := eSp) w 0 (Nat.zero_le _) [s, t] cs 2 hcs rfl (by omega)).sl
/-- New, all in one. -/
def NewAns (w : World) (P : Nat → Bool) (e : Ending) (w' : World) : Prop :=
  ∃ b N', e = .returned (.pointer (some ⟨b, 0, none⟩)) ∧ b = w.heap.size ∧ Sx N' w' (.pointer (some ⟨b, 0, none⟩)) P b 65536 (.slice none 0 0) [] ∧ (∀ x, w'.heap.size ≤ x → N' x) ∧ Below w.heap.size w w'
theorem new_none (w : World) : Calls Tryz.prog 15 #[] w (NewAns w fun _ => false) :=
  (new_c (N := fun _ => True) (fun _ => false) w (fun _ _ => trivial)).mono fun e w' ⟨b, h1, h2, h3, h4, h5⟩ =>
    ⟨b, _, h1, h2, h3.skip (Nat.zero_le _) (fun k _ _ => nz_not.2 fun _ _ => rfl), fun x hx => h4.new x hx trivial, h5⟩
/-- AddRange to a set of none. -/
def RangeAns (w : World) (b : Nat) (lo hi : UInt64) (e : Ending) (w' : World) : Prop :=
  e = .returned (.tuple #[]) ∧ St (fun _ => True) w' (.pointer (some ⟨b, 0, none⟩)) (clp32 [(lo, hi)]) ∧ Off (fun x => x = b) w w'
theorem range_new {N : Nat → Prop} (b : Nat) (s : Value) (es : List En) (lo hi : UInt64) (m n : Int) (w : World) (hm : m = lo.toNat) (hn : n = hi.toNat) (hT : Tb w) (hN : ∀ x, w.heap.size ≤ x → N x) (S : Sx N w (.pointer (some ⟨b, 0, none⟩)) (fun _ => false) b 65536 s es) :
    Calls Tryz.prog 16 #[.pointer (some ⟨b, 0, none⟩), .int .u64 m, .int .u64 n] w (RangeAns w b lo hi) := by
  subst hm hn
  refine (addRange_c (fun _ => false) b s es lo hi _ _ w rfl rfl hT hN S).mono ?_
  rintro e w' ⟨h0, N', s', es', h1, h2, h3, h4⟩
  exact ⟨h0, (h1.st.ext fun x _ => or_no _).mono fun _ _ _ => trivial, h4⟩
def OfAns (w : World) (P : Nat → Bool) (e : Ending) (w' : World) : Prop :=
  ∃ b, e = .returned (.pointer (some ⟨b, 0, none⟩)) ∧ St (fun _ => True) w' (.pointer (some ⟨b, 0, none⟩)) P ∧ Below w.heap.size w w'
theorem Made.ans {N : Nat → Prop} {w w' : World} {P : Nat → Bool} {e : Ending} (h : Made N w P e w') : OfAns w P e w' := by
  obtain ⟨b, N', sl, es, h0, h1, h2, h3, h4, h5⟩ := h
  exact ⟨b, h0, h1.st.mono fun _ _ _ => trivial, h5⟩
theorem of_known (v : Value) (w : World) (hT : Tb w) (hv : Gs e32 w 0 w.heap.size v [5, 1]) : Calls Tryz.prog 13 #[v] w (OfAns w (mk32 [5, 1])) :=
  (of_small (N := fun _ => True) v [5, 1] w hT (fun _ _ => trivial) hv (by decide) (by simp) (by decide)).mono fun e w' h => h.ans
theorem not_known (v : Value) (w : World) (hT : Tb w) (h : St (fun _ => True) w v (mk32 [5, 1])) : Calls Tryz.prog 18 #[v, .int .u64 4] w (OfAns w kn) :=
  (setNot_c (N := fun _ => True) v (mk32 [5, 1]) (4 : UInt64) 4 w rfl hT (fun _ _ => trivial) h).mono fun e w' h => Made.ans h
def RunsAns (w : World) (l : List Sn) (e : Ending) (w' : World) : Prop :=
  ∃ A c, e = .returned (.slice A l.length c) ∧ Gs2 eSp w' 0 w'.heap.size (.slice A l.length c) l ∧ Below w.heap.size w w'
theorem runs_known (v : Value) (w : World) (hT : Tb w) (h : St (fun _ => True) w v kn) : Calls Tryz.prog 19 #[v] w (RunsAns w [(0, 1), (2, 4)]) := by
  refine (setruns_c v kn w hT h kn_ct).mono ?_
  rintro e w' ⟨v', l, rfl, h1, h2, h3, -, h5⟩
  have e := kn_runs h2 h3
  subst e
  have g := h1.sl.more (Nat.zero_le _) (Nat.le_refl w'.heap.size)
  obtain ⟨A, c, rfl, -⟩ := g
  exact ⟨A, c, rfl, h1.sl.more (Nat.zero_le _) (Nat.le_refl _), h5⟩
def KeysAns (w : World) (e : Ending) (w' : World) : Prop :=
  ∃ A c, e = .returned (.slice A 2 c) ∧ Gs e16 w' 0 w'.heap.size (.slice A 2 c) [0, 1] ∧ Below w.heap.size w w'
theorem keys_c (v : Value) (w : World) (h : St (fun _ => True) w v (clp32 [((65535 : UInt64), (65538 : UInt64))])) : Calls Tryz.prog 17 #[v] w (KeysAns w) := by
  refine (setkeys_c v _ w h).mono ?_
  rintro e w' ⟨v', rfl, h1, h2⟩
  rw [keys_known] at h1
  have g := h1.more (Nat.zero_le _) (Nat.le_refl w'.heap.size)
  obtain ⟨A, c, rfl, -⟩ := g
  exact ⟨A, c, rfl, h1.more (Nat.zero_le _) (Nat.le_refl _), h2⟩
theorem len_known (v : Value) (w : World) (h : St (fun _ => True) w v (clp32 [((65535 : UInt64), (65538 : UInt64))])) : Calls Tryz.prog 10 #[v] w fun e w' => e = .returned (.int .i64 3) ∧ Below w.heap.size w w' :=
  setlen_c v _ 3 w h (by rw [ct_clp32 _ _ _ (Nat.le_refl _)]; have e1 : (65535 : UInt64).toNat = 65535 := rfl; have e2 : (65538 : UInt64).toNat = 65538 := rfl; rw [e1, e2]; omega)
theorem rank_known (v : Value) (w : World) (h : St (fun _ => True) w v (clp32 [((65535 : UInt64), (65538 : UInt64))])) : Calls Tryz.prog 20 #[v, .int .u64 65537] w fun e w' => e = .returned (.int .i64 2) ∧ Below w.heap.size w w' :=
  setrank_c v _ 65537 2 w h (by rw [ct_clp32 _ _ _ (Nat.min_le_right _ _)]; have e1 : (65535 : UInt64).toNat = 65535 := rfl; have e2 : (65538 : UInt64).toNat = 65538 := rfl; rw [e1, e2]; omega)
theorem same_known (v u : Value) (w : World) (hv : Gs2 eSp w 0 w.heap.size v [(0, 1), (2, 4)]) (hu : Gs2 eSp w 0 w.heap.size u [(0, 1), (2, 4)]) : Calls Tryz.prog 21 #[v, u] w fun e w' => e = .returned (.bool true) ∧ Below w.heap.size w w' :=
  (refsame8 v u _ _ _ _ _ _ w hv hu).mono fun e w' ⟨h1, k, h2⟩ => ⟨by rw [h1]; simp, h2 ▸ below_drewN (Below.refl _ _) k⟩
set_option maxHeartbeats 8000000 in
theorem known8 (w : World) (hT : Tb w) : Calls Tryz.prog 5 #[] w fun e w' => e = .returned (.bool true) ∧ Below w.heap.size w w' := by
  have TT := Lib.hid hT
  clear hT
  go_enter Tryz.func5, Tryz.ntmps5
  go_wp2_with fail
  refine (new_none w).mono ?_
  rintro e w1 ⟨b, N1, rfl, hb, S, hn, b1⟩
  have S1 := Lib.hid S
  have HN1 := Lib.hid hn
  have B1 := Lib.hid b1
  have HB := Lib.hid hb
  clear S hn b1 hb
  go_wp2_with fail
  refine (range_new b _ _ (65535 : UInt64) (65538 : UInt64) 65535 65538 w1 rfl rfl (TT.out.step B1.out) HN1.out S1.out).mono ?_
  rintro e w2 ⟨rfl, T, o⟩
  have ST := Lib.hid T
  have B2 : Hid (Below w.heap.size w w2) := Lib.hid (B1.out.trans (o.below (fun k _ hk => by have := HB.out; omega) B1.out.size))
  clear T o S1 HN1
  go_wp2_with fail
  refine (keys_c _ w2 ST.out).mono ?_
  rintro e w3 ⟨A3, c3, rfl, g3, b3⟩
  have G3 := Lib.hid g3
  have ST3 := Lib.hid (ST.out.step b3)
  have B3 := Lib.hid (below_both B2.out b3)
  clear g3 b3 ST
  go_wp2_with fail
  have b4 := bx w3 (.cells #[.int .u32 5, .int .u32 1] 23)
  have g4 := lit32 w3 [5, 1] #[.int .u32 5, .int .u32 1] 2 (by rfl) rfl (by omega)
  generalize w3.alloc (.cells #[.int .u32 5, .int .u32 1] 23) = w4 at *
  have L4 := Lib.hid g4
  have G4 := Lib.hid (G3.out.step b4)
  have ST4 := Lib.hid (ST3.out.step b4)
  have B4 := Lib.hid (below_both B3.out b4)
  clear b4 g4 G3 ST3
  refine (of_known _ w4 (TT.out.step B4.out) L4.out).mono ?_
  rintro e w5 ⟨b5', rfl, t5, b5⟩
  have T5 := Lib.hid t5
  have G5 := Lib.hid (G4.out.step b5)
  have ST5 := Lib.hid (ST4.out.step b5)
  have B5 := Lib.hid (below_both B4.out b5)
  clear b5 t5 G4 ST4 L4
  go_wp2_with fail
  refine (not_known _ w5 (TT.out.step B5.out) T5.out).mono ?_
  rintro e w6 ⟨b6', rfl, t6, b6⟩
  have T6 := Lib.hid t6
  have G6 := Lib.hid (G5.out.step b6)
  have ST6 := Lib.hid (ST5.out.step b6)
  have B6 := Lib.hid (below_both B5.out b6)
  clear b6 t6 G5 ST5 T5
  go_wp2_with fail
  refine (runs_known _ w6 (TT.out.step B6.out) T6.out).mono ?_
  rintro e w7 ⟨A7, c7, rfl, g7, b7⟩
  have R7 := Lib.hid g7
  have G7 := Lib.hid (G6.out.step b7)
  have ST7 := Lib.hid (ST6.out.step b7)
  have B7 := Lib.hid (below_both B6.out b7)
  clear b7 g7 G6 ST6 T6
  go_wp2_with fail
  refine (len_known _ w7 ST7.out).mono ?_
  rintro e w8 ⟨rfl, b8⟩
  have R8 := Lib.hid (R7.out.step b8)
  have G8 := Lib.hid (G7.out.step b8)
  have ST8 := Lib.hid (ST7.out.step b8)
  have B8 := Lib.hid (below_both B7.out b8)
  clear b8 R7 G7 ST7
  obtain ⟨bk, ok, ck', ek, -, -, -, -, hk⟩ := G8.out.form (by simp)
  injection ek with ek1 ek2 ek3
  subst ek1
  have k1 : w8.cell? ⟨bk, ok + 1, none⟩ = some (.int .u16 1) := hk 1 1 rfl
  clear hk ek2 ek3
  go_wp2_with fail
  refine (rank_known _ w8 ST8.out).mono ?_
  rintro e w9 ⟨rfl, b9⟩
  have R9 := Lib.hid (R8.out.step b9)
  have B9 := Lib.hid (below_both B8.out b9)
  clear b9 R8 ST8 G8 k1
  go_wp2_with fail
  have b10 := bx w9 (.cells #[.int .u64 0, .int .u64 1, .int .u64 2, .int .u64 4] 39)
  have g10 := lit_span2 w9 ((0 : UInt64), (1 : UInt64)) ((2 : UInt64), (4 : UInt64)) #[.int .u64 0, .int .u64 1, .int .u64 2, .int .u64 4] (by rfl)
  generalize w9.alloc (.cells #[.int .u64 0, .int .u64 1, .int .u64 2, .int .u64 4] 39) = w10 at *
  have L10 := Lib.hid g10
  have R10 := Lib.hid (R9.out.step b10)
  have B10 := Lib.hid (below_both B9.out b10)
  clear b10 g10 R9
  refine (same_known _ _ w10 R10.out L10.out).mono ?_
  rintro e w11 ⟨rfl, b11⟩
  have B11 := Lib.hid (below_both B10.out b11)
  clear b11
  go_wp2
  go_ret
  exact ⟨rfl, B11.out⟩
end Go.Proofs.YtcmifbjeabkihabGreatDoor
/- Walks: whether two sets are the same. -/
namespace Go.Proofs.YtcmifbjeabkihabGreatDoor
open Go.RowKit
set_option linter.unusedVariables false

set_option maxHeartbeats 4000000 in
theorem esame_c {N : Nat → Prop} (y z : Nat) (e f : Bd) (p q : Nat → Bool) (kp kq : Nat) (w : World) (hT : Tb w) (hN : ∀ b, w.heap.size ≤ b → N b) (h1 : Cn N w e.val p kp) (h2 : Cn N w f.val q kq) :
    Calls Tryz.prog 32 #[.agg #[.int .u16 y, .int .u8 e.κ, .slice e.A e.n e.c, .slice e.A2 e.n2 e.c2, .slice e.A3 e.n3 e.c3], .agg #[.int .u16 z, .int .u8 f.κ, .slice f.A f.n f.c, .slice f.A2 f.n2 f.c2, .slice f.A3 f.n3 f.c3]] w fun r w' => ∃ B, r = .returned (.bool B) ∧ (B = true ↔ y = z ∧ ∀ x, x < 65536 → p x = q x) ∧ Below w.heap.size w w' := by
  have TT := Lib.hid hT
  have HN := Lib.hid hN
  have H1 := Lib.hid h1
  have H2 := Lib.hid h2
  obtain ⟨m, hm⟩ : ∃ m, ct (fun x => fXor (p x) (q x)) 65536 = m := ⟨_, rfl⟩
  have hB : m = 0 ↔ ∀ x, x < 65536 → p x = q x := by
    rw [← hm]
    constructor
    · intro h0 x hx
      cases hc : fXor (p x) (q x) with
      | true => have := (ct_pos (p := fun x => fXor (p x) (q x))).2 ⟨x, hx, hc⟩; omega
      | false => unfold fXor at hc; revert hc; cases p x <;> cases q x <;> simp
    · intro h
      exact ct_zero fun x hx => by unfold fXor; rw [h x hx]; simp
  have HM := Lib.hid hm
  have HBB := Lib.hid hB
  have T := two_blocks w #[.int .u16 y, .int .u8 e.κ, .slice e.A e.n e.c, .slice e.A2 e.n2 e.c2, .slice e.A3 e.n3 e.c3] #[.int .u16 z, .int .u8 f.κ, .slice f.A f.n f.c, .slice f.A2 f.n2 f.c2, .slice f.A3 f.n3 f.c3] 61 61
  clear hT h1 h2 hN hm hB
  by_cases hyz : y = z
  · subst hyz
    go_enter Tryz.func32, Tryz.ntmps32
    go_wp2_with fail
    generalize (w.alloc (.cells #[.int .u16 y, .int .u8 e.κ, .slice e.A e.n e.c, .slice e.A2 e.n2 e.c2, .slice e.A3 e.n3 e.c3] 61)).alloc (.cells #[.int .u16 y, .int .u8 f.κ, .slice f.A f.n f.c, .slice f.A2 f.n2 f.c2, .slice f.A3 f.n3 f.c3] 61) = W0 at *
    obtain ⟨b0, r0, r1⟩ := T
    have B0 := Lib.hid b0
    have TT := Lib.hid (TT.out.step b0)
    have HN0 := Lib.hid (show ∀ b, W0.heap.size ≤ b → N b from fun b hb => HN.out b (Nat.le_trans b0.size hb))
    have k0 : W0.cell? ⟨w.heap.size, 0, none⟩ = some (.int .u16 y) := r0.cell 0
    have k1 : W0.cell? ⟨w.heap.size, 1, none⟩ = some (.int .u8 e.κ) := r0.cell 1
    have k2 : W0.cell? ⟨w.heap.size, 2, none⟩ = some (.slice e.A e.n e.c) := r0.cell 2
    have k3 : W0.cell? ⟨w.heap.size, 3, none⟩ = some (.slice e.A2 e.n2 e.c2) := r0.cell 3
    have k4 : W0.cell? ⟨w.heap.size, 4, none⟩ = some (.slice e.A3 e.n3 e.c3) := r0.cell 4
    have l0 : W0.cell? ⟨w.heap.size + 1, 0, none⟩ = some (.int .u16 y) := r1.cell 0
    have l1 : W0.cell? ⟨w.heap.size + 1, 1, none⟩ = some (.int .u8 f.κ) := r1.cell 1
    have l2 : W0.cell? ⟨w.heap.size + 1, 2, none⟩ = some (.slice f.A f.n f.c) := r1.cell 2
    have l3 : W0.cell? ⟨w.heap.size + 1, 3, none⟩ = some (.slice f.A2 f.n2 f.c2) := r1.cell 3
    have l4 : W0.cell? ⟨w.heap.size + 1, 4, none⟩ = some (.slice f.A3 f.n3 f.c3) := r1.cell 4
    clear b0 r0 r1
    go_wp2_with fail
    refine (cxor e.val f.val p q kp kq _ TT.out HN0.out (H1.out.step B0.out) (H2.out.step B0.out)).mono ?_
    rintro r w1 ⟨v', rfl, g, b1⟩
    have B1 := Lib.hid (below_both B0.out b1)
    have G := Lib.hid g
    clear b1 g
    go_wp2_with fail
    refine (len_c v' _ _ m _ HM.out G.out).mono ?_
    rintro r w2 ⟨rfl, b2⟩
    have B2 := Lib.hid (below_both B1.out b2)
    clear b2
    by_cases h0 : m = 0
    · subst h0
      go_wp2
      go_ret
      exact ⟨true, rfl, by have := HBB.out; simp at this ⊢; exact this, B2.out⟩
    · have h1 : ((m : Int) == 0) = false := beq_false_of_ne (by omega)
      have h2 : decide ((m : Int) = 0) = false := decide_eq_false (by omega)
      go_wp2
      go_ret
      exact ⟨false, rfl, ⟨fun h => (by cases h), fun h => absurd (HBB.out.2 h.2) h0⟩, B2.out⟩
  · have h1 : ((y : Int) == z) = false := beq_false_of_ne (by omega)
    have h2 : decide ((y : Int) = z) = false := decide_eq_false (by omega)
    go_enter Tryz.func32, Tryz.ntmps32
    go_wp2_with fail
    generalize (w.alloc (.cells #[.int .u16 y, .int .u8 e.κ, .slice e.A e.n e.c, .slice e.A2 e.n2 e.c2, .slice e.A3 e.n3 e.c3] 61)).alloc (.cells #[.int .u16 z, .int .u8 f.κ, .slice f.A f.n f.c, .slice f.A2 f.n2 f.c2, .slice f.A3 f.n3 f.c3] 61) = W0 at *
    obtain ⟨b0, r0, r1⟩ := T
    have B0 := Lib.hid b0
    have k0 : W0.cell? ⟨w.heap.size, 0, none⟩ = some (.int .u16 y) := r0.cell 0
    have k1 : W0.cell? ⟨w.heap.size, 1, none⟩ = some (.int .u8 e.κ) := r0.cell 1
    have k2 : W0.cell? ⟨w.heap.size, 2, none⟩ = some (.slice e.A e.n e.c) := r0.cell 2
    have k3 : W0.cell? ⟨w.heap.size, 3, none⟩ = some (.slice e.A2 e.n2 e.c2) := r0.cell 3
    have k4 : W0.cell? ⟨w.heap.size, 4, none⟩ = some (.slice e.A3 e.n3 e.c3) := r0.cell 4
    have l0 : W0.cell? ⟨w.heap.size + 1, 0, none⟩ = some (.int .u16 z) := r1.cell 0
    have l1 : W0.cell? ⟨w.heap.size + 1, 1, none⟩ = some (.int .u8 f.κ) := r1.cell 1
    have l2 : W0.cell? ⟨w.heap.size + 1, 2, none⟩ = some (.slice f.A f.n f.c) := r1.cell 2
    have l3 : W0.cell? ⟨w.heap.size + 1, 3, none⟩ = some (.slice f.A2 f.n2 f.c2) := r1.cell 3
    have l4 : W0.cell? ⟨w.heap.size + 1, 4, none⟩ = some (.slice f.A3 f.n3 f.c3) := r1.cell 4
    clear b0 r0 r1
    go_wp2
    go_ret
    exact ⟨false, rfl, ⟨fun h => (by cases h), fun h => absurd h.1 hyz⟩, B0.out⟩

theorem Dir.first {N M : Nat → Prop} {w u : World} {P Q : Nat → Bool} {K : Nat} {e f : En} {es fs : List En} (h : Dir N w P K 65536 (e :: es)) (g : Dir M u Q K 65536 (f :: fs)) (hs : ∀ x, x < 4294967296 → P x = Q x) : e.key.toNat = f.key.toNat := by
  have hz : ∀ k, k < 65536 → nz P k = nz Q k := fun k hk => nz_ext fun x hx => hs x (by omega)
  obtain ⟨a1, a2, a3, _⟩ := h.head
  obtain ⟨b1, b2, b3, _⟩ := g.head
  rcases Nat.lt_trichotomy e.key.toNat f.key.toNat with hlt | he | hlt
  · have := g.gap _ a1 hlt
    rw [← hz _ a2, a3] at this; cases this
  · exact he
  · have := h.gap _ b1 hlt
    rw [hz _ b2, b3] at this; cases this
theorem same_gap {P Q : Nat → Bool} {a b : Nat} (h : ∀ x, x < 65536 * a → P x = Q x) (hp : ∀ k, a ≤ k → k < b → nz P k = false) (hq : ∀ k, a ≤ k → k < b → nz Q k = false) : ∀ x, x < 65536 * b → P x = Q x := fun x hx => by
  by_cases hxa : x < 65536 * a
  · exact h x hxa
  · rw [nz_none (hp (x / 65536) (by omega) (by omega)), nz_none (hq (x / 65536) (by omega) (by omega))]
theorem same_key {P Q : Nat → Bool} {y : Nat} (h : ∀ x, x < 65536 * y → P x = Q x) (hb : ∀ x, x < 65536 → blk P y x = blk Q y x) : ∀ x, x < 65536 * (y + 1) → P x = Q x := fun x hx => by
  by_cases hxy : x < 65536 * y
  · exact h x hxy
  · have e : x / 65536 = y := by omega
    rw [← blk_at P x, ← blk_at Q x, e]
    exact hb _ (Nat.mod_lt _ (by omega))
set_option maxHeartbeats 8000000 in
theorem eqfunc_c {N : Nat → Prop} (v u : Value) (P Q : Nat → Bool) (es fs : List En) (w : World) (hT : Tb w) (hN : ∀ b, w.heap.size ≤ b → N b) (hv : GsV eN w 0 w.heap.size v es) (hu : GsV eN w 0 w.heap.size u fs) (hp : Dir N w P 0 65536 es) (hq : Dir N w Q 0 65536 fs) :
    Calls Tryz.prog 31 #[v, u, .func (.func 32) #[] #[]] w fun r w' => ∃ B, r = .returned (.bool B) ∧ (B = true ↔ ∀ x, x < 4294967296 → P x = Q x) ∧ Below w.heap.size w w' := by
  have HE : Enters Tryz.prog 32 := enters_of Tryz.func32 (by kernel_rfl) rfl
  unfold Enters at HE
  have HV := Lib.hid hv
  have HU := Lib.hid hu
  have HP := Lib.hid hp
  have HQ := Lib.hid hq
  have TT := Lib.hid hT
  have HN := Lib.hid hN
  have hle := hp.len
  have hlf := hq.len
  obtain ⟨A1, d1, rfl, -⟩ := hv
  obtain ⟨A2, d2, rfl, -⟩ := hu
  clear hp hq hT hN
  by_cases hl : es.length = fs.length
  · have hl1 : ((es.length : Int) != fs.length) = false := by rw [hl]; simp
    have HL := Lib.hid hl
    clear hl
    go_enter Tryz.func31, Tryz.ntmps31
    go_wp2
    go_loopw [17] (fun s17 wr => ∃ k K : Nat, k ≤ es.length ∧ s17 = .int .i64 k ∧ K ≤ 65536 ∧ Hid (Dir N w P K 65536 (es.drop k) ∧ Dir N w Q K 65536 (fs.drop k) ∧ ∀ x, x < 65536 * K → P x = Q x) ∧ Below w.heap.size w wr) (fun s17 _ => es.length - (intOf s17).toNat)
    case atStart => exact ⟨0, 0, Nat.zero_le _, rfl, Nat.zero_le _, ⟨HP.out, HQ.out, fun x hx => absurd hx (by omega)⟩, Below.refl _ _⟩
    case round =>
      obtain ⟨k, K, hk, rfl, hK, hdk, hbl⟩ := hrel
      have HB := Lib.hid hbl
      by_cases hlt : k < es.length
      · obtain ⟨b, off, e, e1, -, hb, hdr, hg, c0, c1, c2, c3, c4⟩ := gsv_at HV.out hlt
        obtain ⟨b', off', f, e2, -, hb', hdr', hg', k0, k1, k2, k3, k4⟩ := gsv_at HU.out (show k < fs.length by have := HL.out; omega)
        subst e1 e2
        rw [← hbl.cell (p := ⟨b, off + k * 5, none⟩) hb] at c0
        rw [← hbl.cell (p := ⟨b, off + k * 5 + 1, none⟩) hb] at c1
        rw [← hbl.cell (p := ⟨b, off + k * 5 + 2, none⟩) hb] at c2
        rw [← hbl.cell (p := ⟨b, off + k * 5 + 3, none⟩) hb] at c3
        rw [← hbl.cell (p := ⟨b, off + k * 5 + 4, none⟩) hb] at c4
        rw [← hbl.cell (p := ⟨b', off' + k * 5, none⟩) hb'] at k0
        rw [← hbl.cell (p := ⟨b', off' + k * 5 + 1, none⟩) hb'] at k1
        rw [← hbl.cell (p := ⟨b', off' + k * 5 + 2, none⟩) hb'] at k2
        rw [← hbl.cell (p := ⟨b', off' + k * 5 + 3, none⟩) hb'] at k3
        rw [← hbl.cell (p := ⟨b', off' + k * 5 + 4, none⟩) hb'] at k4
        have hkl : (k : Int) < es.length := by omega
        have hkf : (k : Int) < fs.length := by have := HL.out; omega
        have hd := hdk.out
        rw [hdr, hdr'] at hd
        have HD := Lib.hid hd
        have j0 := (World.cell?_alloc_lt wr (.cells #[.int .u16 e.key.toNat, .int .u8 e.b.κ, .slice e.b.A e.b.n e.b.c, .slice e.b.A2 e.b.n2 e.b.c2, .slice e.b.A3 e.b.n3 e.b.c3] 61) ⟨b', off' + k * 5, none⟩ (by have := hbl.size; show b' < _; omega)).trans k0
        have j1 := (World.cell?_alloc_lt wr (.cells #[.int .u16 e.key.toNat, .int .u8 e.b.κ, .slice e.b.A e.b.n e.b.c, .slice e.b.A2 e.b.n2 e.b.c2, .slice e.b.A3 e.b.n3 e.b.c3] 61) ⟨b', off' + k * 5 + 1, none⟩ (by have := hbl.size; show b' < _; omega)).trans k1
        have j2 := (World.cell?_alloc_lt wr (.cells #[.int .u16 e.key.toNat, .int .u8 e.b.κ, .slice e.b.A e.b.n e.b.c, .slice e.b.A2 e.b.n2 e.b.c2, .slice e.b.A3 e.b.n3 e.b.c3] 61) ⟨b', off' + k * 5 + 2, none⟩ (by have := hbl.size; show b' < _; omega)).trans k2
        have j3 := (World.cell?_alloc_lt wr (.cells #[.int .u16 e.key.toNat, .int .u8 e.b.κ, .slice e.b.A e.b.n e.b.c, .slice e.b.A2 e.b.n2 e.b.c2, .slice e.b.A3 e.b.n3 e.b.c3] 61) ⟨b', off' + k * 5 + 3, none⟩ (by have := hbl.size; show b' < _; omega)).trans k3
        have j4 := (World.cell?_alloc_lt wr (.cells #[.int .u16 e.key.toNat, .int .u8 e.b.κ, .slice e.b.A e.b.n e.b.c, .slice e.b.A2 e.b.n2 e.b.c2, .slice e.b.A3 e.b.n3 e.b.c3] 61) ⟨b', off' + k * 5 + 4, none⟩ (by have := hbl.size; show b' < _; omega)).trans k4
        have T := two_blocks wr #[.int .u16 e.key.toNat, .int .u8 e.b.κ, .slice e.b.A e.b.n e.b.c, .slice e.b.A2 e.b.n2 e.b.c2, .slice e.b.A3 e.b.n3 e.b.c3] #[.int .u16 f.key.toNat, .int .u8 f.b.κ, .slice f.b.A f.b.n f.b.c, .slice f.b.A2 f.b.n2 f.b.c2, .slice f.b.A3 f.b.n3 f.b.c3] 61 61
        clear hdk hdr hdr' hg hg' hd hbl
        go_wp2_with fail
        generalize (wr.alloc (.cells #[.int .u16 e.key.toNat, .int .u8 e.b.κ, .slice e.b.A e.b.n e.b.c, .slice e.b.A2 e.b.n2 e.b.c2, .slice e.b.A3 e.b.n3 e.b.c3] 61)).alloc (.cells #[.int .u16 f.key.toNat, .int .u8 f.b.κ, .slice f.b.A f.b.n f.b.c, .slice f.b.A2 f.b.n2 f.b.c2, .slice f.b.A3 f.b.n3 f.b.c3] 61) = W0 at *
        obtain ⟨b0, r0, r1⟩ := T
        have B0 := Lib.hid (below_both HB.out b0)
        clear b0 r0 r1
        refine (esame_c (N := N) e.key.toNat f.key.toNat e.b f.b _ _ _ _ _ (TT.out.step B0.out) (fun x hx => HN.out x (Nat.le_trans B0.out.size hx)) (HD.out.1.head.2.2.2.step B0.out) (HD.out.2.1.head.2.2.2.step B0.out)).mono ?_
        rintro r w1 ⟨B, rfl, hB, b1⟩
        have B1 := Lib.hid (below_both B0.out b1)
        have HBI := Lib.hid hB
        clear b1 hB
        cases B with
        | true =>
          have HX : Hid (Dir N w P (e.key.toNat + 1) 65536 (es.drop (k + 1)) ∧ Dir N w Q (e.key.toNat + 1) 65536 (fs.drop (k + 1)) ∧ ∀ x, x < 65536 * (e.key.toNat + 1) → P x = Q x) := Lib.hid (by
            obtain ⟨h1, h2⟩ := HBI.out.1 rfl
            obtain ⟨d1, d2, d3⟩ := HD.out
            refine ⟨d1.tail, h1 ▸ d2.tail, same_key (same_gap d3 d1.gap (h1 ▸ d2.gap)) ?_⟩
            rw [← h1] at h2
            exact h2)
          have hkx : e.key.toNat + 1 ≤ 65536 := HD.out.1.head.2.1
          clear HD HBI
          go_wp2
          refine ⟨⟨k + 1, _, by omega, by go_num, hkx, HX.out, B1.out⟩, by simp [intOf]; omega⟩
        | false =>
          go_wp2
          go_ret
          refine ⟨_, rfl, ?_, B1.out⟩
          constructor
          · intro h; cases h
          · intro h
            exfalso
            have hk := HD.out.1.first HD.out.2.1 h
            have := HBI.out.2 ⟨hk, fun x hx => ?_⟩
            · cases this
            · rw [← hk]
              exact h _ (by have := HD.out.1.head.2.1; omega)
      · obtain rfl : k = es.length := by omega
        have HR : Hid (∀ x, x < 4294967296 → P x = Q x) := Lib.hid (by
          obtain ⟨d1, d2, d3⟩ := hdk.out
          rw [List.drop_length] at d1
          rw [HL.out, List.drop_length] at d2
          exact same_gap d3 d1.none d2.none)
        clear hdk hbl
        go_wp2
        go_ret
        exact ⟨_, rfl, ⟨fun _ => HR.out, fun _ => rfl⟩, HB.out⟩
  · have hl1 : ((es.length : Int) != fs.length) = true := by simp; omega
    go_enter Tryz.func31, Tryz.ntmps31
    go_wp2
    go_ret
    refine ⟨_, rfl, ⟨fun h => (by cases h), fun h => ?_⟩, Below.refl _ _⟩
    have k1 := HP.out.keys (Nat.le_refl _)
    have k2 := HQ.out.keys (Nat.le_refl _)
    rw [ls_ext (q := nz Q) fun k hk => nz_ext fun x hx => h x (by omega), ← k2] at k1
    have := congrArg List.length k1
    rw [List.length_map, List.length_map] at this
    exact absurd this hl
set_option maxHeartbeats 1000000 in
theorem setsame_c {N : Nat → Prop} (v u : Value) (P Q : Nat → Bool) (w : World) (hT : Tb w) (hN : ∀ b, w.heap.size ≤ b → N b) (hv : St N w v P) (hu : St N w u Q) :
    Calls Tryz.prog 8 #[v, u] w fun r w' => ∃ B, r = .returned (.bool B) ∧ (B = true ↔ ∀ x, x < 4294967296 → P x = Q x) ∧ Below w.heap.size w w' := by
  have HV := Lib.hid hv
  have HU := Lib.hid hu
  have TT := Lib.hid hT
  have HN := Lib.hid hN
  clear hv hu hT hN
  go_enter Tryz.func8, Tryz.ntmps8
  go_wp2_with fail
  refine (entries_c v P _ HV.out).mono ?_
  rintro e w0 ⟨A, n, c, es, rfl, hz, g, d⟩
  have hz := hz.symm
  subst hz
  have G1 := Lib.hid g
  have D1 := Lib.hid d
  clear g d
  go_wp2_with fail
  refine (entries_c u Q _ HU.out).mono ?_
  rintro e w0 ⟨A', n', c', fs, rfl, hz, g, d⟩
  have hz := hz.symm
  subst hz
  have G2 := Lib.hid g
  have D2 := Lib.hid d
  clear g d
  go_wp2_with fail
  refine (eqfunc_c _ _ P Q es fs _ TT.out HN.out G1.out G2.out D1.out D2.out).mono ?_
  rintro r w1 ⟨B, rfl, hB, b1⟩
  have HB := Lib.hid hB
  have B1 := Lib.hid b1
  clear hB b1
  go_wp2
  go_ret
  exact ⟨_, rfl, HB.out, B1.out⟩
end Go.Proofs.YtcmifbjeabkihabGreatDoor
/- What each row's proof asks of the program. -/
namespace Go.Proofs.YtcmifbjeabkihabGreatDoor
theorem own_knob : ownKnob Tryz.prog.godebug = none := by kernel_rfl
theorem laid_out : laidOutB Tryz.prog = true := by kernel_rfl
end Go.Proofs.YtcmifbjeabkihabGreatDoor
namespace Go.Proofs.YtcmifbjeabkihabGreatDoor
open Go.ChangeShapes Go.WideShapes Go.ChangeAt Go.RowKit
set_option linter.unusedVariables false

theorem g_tab : Tryz.prog.globalNamed "math/bits.deBruijn64tab" = some 0 := by kernel_rfl
theorem t_tab : (Tryz.prog.globals[0]?).map (·.type) = some 213 := by kernel_rfl
theorem c_tab : Tryz.prog.cellsOf 213 = 64 := by kernel_rfl
theorem c_tab8 : Tryz.prog.cellsOf 5 = 1 := by kernel_rfl
def tabZ : List Int := Lib.deBruijn64tab.map Int.ofNat
theorem tab_data : (Rows.laid_math_bits_deBruijn64tab : DataW Unit) = Lib.tabData .u8 tabZ := rfl
theorem tabZ_len : tabZ.length = 64 := by decide +kernel
theorem tabZ_at : ∀ i : Fin 64, tabZ.getD i.val 0 = ((Lib.deBruijn64tab.getD i.val 0 : Nat) : Int) := by decide +kernel
def laidAll : List (String × DataW Unit) := [("math/bits.deBruijn64tab", Rows.laid_math_bits_deBruijn64tab)]
theorem tb_of_laid {W : World} (h : laidMetH Tryz.prog laidAll W) : Tb W := by
  rw [MakeChecks.laidMetH_plain _ _ _ (by kernel_rfl)] at h
  unfold laidAll at h
  rw [tab_data] at h
  have hT := Lib.tabIs_of_head g_tab t_tab Tryz.underlying213 Tryz.underlying5 c_tab8 c_tab h
  have hc : ∀ j, j < 64 → W.cell? ⟨0, j, none⟩ = some (.int .u8 ((Lib.deBruijn64tab.getD j 0 : Nat) : Int)) := fun j hj => by
    rw [← tabZ_at ⟨j, hj⟩]
    exact hT.cell g_tab j (by rw [tabZ_len]; exact hj)
  exact ⟨World.block_lt_of_cell? W _ (hc 0 (by omega)), hc⟩
theorem door_met (os : Os) (args : Array Value) : laidMetH Tryz.prog laidAll ((World.doorLaid Tryz.prog 14 os).forCall (fun _ _ => 0) ⟨#[], args, []⟩).memory :=
  laidMetH_of_parts3 (fuel := 8) (laidMet_of_run' 8 (by kernel_rfl) (by kernel_rfl)) (by kernel_rfl) (by kernel_rfl)
end Go.Proofs.YtcmifbjeabkihabGreatDoor
