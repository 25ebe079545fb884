/- Walks: Select of a set. -/
import Derived.Test.YtcmifbjeabkihaaGreatDoorMb7
import Derived.Test.YtcmifbjeabkihaaGreatDoorJ5a
namespace Go.Proofs.YtcmifbjeabkihaaGreatDoor
open Go.RowKit
set_option linter.unusedVariables false

/-- What Select tells: the number of which so many are below, or that there is none. -/
def SelAns (w : World) (P : Nat → Bool) (k : Nat) (e : Ending) (w' : World) : Prop :=
  ∃ (x : Nat) (b : Bool), e = .returned (.tuple #[.int .u32 x, .bool b]) ∧ ((b = true ∧ x < 4294967296 ∧ P x = true ∧ ct P x = k) ∨ (b = false ∧ x = 0 ∧ ct P 4294967296 ≤ k)) ∧ Below w.heap.size w w'
theorem selc_yes {N : Nat → Prop} (v : Value) (p : Nat → Bool) (k q x : Nat) (w : World) (hT : Tb w) (hq : (q : Int) ≤ 9223372036854775807) (hs : so p q = true) (hx : (sx p q).toNat = x) (h : Cn N w v p k) :
    Calls Tryz.prog 103 #[v, .int .i64 q] w fun e w' => e = .returned (.tuple #[.int .u16 x, .bool true]) ∧ Below w.heap.size w w' :=
  (select_c v p k q w hT hq h).mono fun e w' ⟨h1, h2⟩ => ⟨by rw [h1, hs, hx], h2⟩
theorem selc_no {N : Nat → Prop} (v : Value) (p : Nat → Bool) (k q : Nat) (w : World) (hT : Tb w) (hq : (q : Int) ≤ 9223372036854775807) (hs : so p q = false) (hx : sx p q = 0) (h : Cn N w v p k) :
    Calls Tryz.prog 103 #[v, .int .i64 q] w fun e w' => e = .returned (.tuple #[.int .u16 0, .bool false]) ∧ Below w.heap.size w w' :=
  (select_c v p k q w hT hq h).mono fun e w' ⟨h1, h2⟩ => ⟨by rw [h1, hs, hx]; rfl, h2⟩
theorem number_at (k x Z : Nat) (w : World) (hk : k < 65536) (hx : x < 65536) (hZ : 65536 * k + x = Z) :
    Calls Tryz.prog 78 #[.int .u16 k, .int .u16 x] w fun e w' => e = .returned (.int .u32 Z) ∧ w' = w := by
  subst hZ; exact number_c k x w hk hx
set_option maxHeartbeats 8000000 in
theorem setselect_c {N : Nat → Prop} (v : Value) (P : Nat → Bool) (k : Nat) (w : World) (hT : Tb w) (hk : (k : Int) ≤ 9223372036854775807) (h : St N w v P) :
    Calls Tryz.prog 44 #[v, .int .i64 (k : Int)] w (SelAns w P k) := by
  have H := Lib.hid h
  have TT := Lib.hid hT
  have g0 : decide ((k : Int) < 0) = false := decide_eq_false (by omega)
  clear h hT
  go_enter Tryz.func44, Tryz.ntmps44
  go_wp2_with fail
  refine (entries_c v P _ H.out).mono ?_
  rintro e w0 ⟨A, n, c, es, rfl, hz, g, d⟩
  have hz := hz.symm
  subst hz
  have hn : n = es.length := by obtain ⟨_, _, e, _⟩ := g; injection e
  subst hn
  have HV := Lib.hid g
  have HD := Lib.hid d
  have hlen := d.len
  clear g d g0
  go_wp2
  go_loopw [1, 15] (fun s1 s15 wr => ∃ i q K : Nat, i ≤ es.length ∧ s1 = .int .i64 q ∧ s15 = .int .i64 i ∧ K ≤ 65536 ∧ Hid (Dir N w P K 65536 (es.drop i)) ∧ Hid (k = ct P (65536 * K) + q) ∧ Below w.heap.size w wr) (fun _ s15 _ => es.length - (intOf s15).toNat)
  case atStart => exact ⟨0, k, 0, Nat.zero_le _, rfl, rfl, Nat.zero_le _, HD.out, Lib.hid (by show k = ct P 0 + k; rw [show ct P 0 = 0 from rfl]; omega), Below.refl _ _⟩
  case round =>
    obtain ⟨i, q, K, hi, rfl, rfl, hK, hdk, hq, hbl⟩ := hrel
    have HB := Lib.hid hbl
    by_cases hlt : i < es.length
    · obtain ⟨b, off, e, e1, -, hb, hdr, hg, c0, c1, c2, c3, c4⟩ := gsv_at HV.out hlt
      subst e1
      rw [← hbl.cell (p := ⟨b, off + i * 5, none⟩) hb] at c0
      rw [← hbl.cell (p := ⟨b, off + i * 5 + 1, none⟩) hb] at c1
      rw [← hbl.cell (p := ⟨b, off + i * 5 + 2, none⟩) hb] at c2
      rw [← hbl.cell (p := ⟨b, off + i * 5 + 3, none⟩) hb] at c3
      rw [← hbl.cell (p := ⟨b, off + i * 5 + 4, none⟩) hb] at c4
      have hd2 := hdk.out
      rw [hdr] at hd2
      have hh := hd2.head
      have HT := Lib.hid hd2.tail
      have hcn := hh.2.2.2
      have hK1 := hh.1
      have hK2 := hh.2.1
      have hgap := ct_gap P hK1 hd2.gap
      have hnext := ct_next P e.key.toNat
      obtain ⟨y, hy⟩ : ∃ y, y = e.key.toNat := ⟨_, rfl⟩
      rw [← hy] at c0 hK1 hK2 hcn hgap hnext
      have HY := Lib.hid hy
      have hq1 := hq.out
      rw [← hgap] at hq1
      have HC := Lib.hid (hcn.step hbl)
      have hil : (i : Int) < es.length := by omega
      have hqk : (q : Int) ≤ 9223372036854775807 := by omega
      have rz := Row.new wr 96 #[.int .u16 y, .int .u8 e.b.κ, .slice e.b.A e.b.n e.b.c, .slice e.b.A2 e.b.n2 e.b.c2, .slice e.b.A3 e.b.n3 e.b.c3]
      have bz := bx wr (.cells #[.int .u16 y, .int .u8 e.b.κ, .slice e.b.A e.b.n e.b.c, .slice e.b.A2 e.b.n2 e.b.c2, .slice e.b.A3 e.b.n3 e.b.c3] 96)
      obtain ⟨x, hx⟩ : ∃ x, (sx (blk P y) (q : Int)).toNat = x := ⟨_, rfl⟩
      have hx6 : x < 65536 := by rw [← hx]; exact (sx (blk P y) (q : Int)).toNat_lt
      cases hso : so (blk P y) (q : Int) with
      | true =>
        have hsel := sel_cases (blk P y) (q : Int)
        rcases hsel with ⟨-, -, -, hp, hc⟩ | ⟨h0, -⟩
        · rw [hx] at hp hc
          obtain ⟨Z, hZ⟩ : ∃ Z, 65536 * y + x = Z := ⟨_, rfl⟩
          have hans : Z < 4294967296 ∧ P Z = true ∧ ct P Z = k := ⟨by omega, by rw [← hZ]; exact hp, by rw [← hZ, ct_key, hq1]; omega⟩
          have HA := Lib.hid hans
          have HZ := Lib.hid hZ
          have HX := Lib.hid hx
          have HSO := Lib.hid hso
          clear hp hc hans hZ hx hso hd2 hdr hg hh hcn hgap hnext hy hq1 hq hbl hdk
          go_wp2_with fail
          generalize wr.alloc (.cells #[.int .u16 y, .int .u8 e.b.κ, .slice e.b.A e.b.n e.b.c, .slice e.b.A2 e.b.n2 e.b.c2, .slice e.b.A3 e.b.n3 e.b.c3] 96) = W1 at *
          have RZ := Lib.hid rz
          have B1 := Lib.hid (HB.out.trans (bz.mono HB.out.size))
          have HC1 := Lib.hid (HC.out.step bz)
          clear rz bz
          refine (selc_yes _ _ _ q x W1 (TT.out.step B1.out) hqk HSO.out HX.out HC1.out).mono ?_
          rintro e2 W2 ⟨rfl, b2⟩
          have RZ2 := RZ.out.below b2 RZ.out.lt
          have B2 := Lib.hid (below_both B1.out b2)
          have k0 := RZ2.cell 0
          clear b2 RZ RZ2
          go_wp2_with fail
          refine (number_at y x Z W2 hK2 hx6 HZ.out).mono ?_
          rintro e3 W3 ⟨rfl, hz⟩
          have hz := hz.symm
          subst hz
          go_wp2
          go_ret2
          exact ⟨Z, true, rfl, .inl ⟨rfl, HA.out.1, HA.out.2.1, HA.out.2.2⟩, B2.out⟩
        · rw [h0] at hso; cases hso
      | false =>
        have hsel := sel_cases (blk P y) (q : Int)
        rcases hsel with ⟨h0, -⟩ | ⟨-, hs0, hle⟩
        · rw [h0] at hso; cases hso
        · obtain ⟨r, hr⟩ : ∃ r, ct (blk P y) 65536 = r := ⟨_, rfl⟩
          rw [hr] at hle hnext
          obtain ⟨d, hd⟩ : ∃ d, d + r = q := ⟨q - r, by omega⟩
          have hrel : k = ct P (65536 * (y + 1)) + d := by rw [hnext]; omega
          have w1 : IntKind.i64.wrap ((q : Int) - (r : Int)) = (d : Int) := by rw [IntKind.wrap_i64]; omega
          have w1b : wrap64 ((q : Int) - (r : Int)) = (d : Int) := by unfold wrap64; omega
          have HREL := Lib.hid hrel
          have HR := Lib.hid hr
          have HS0 := Lib.hid hs0
          have HSO := Lib.hid hso
          clear hle hrel hr hs0 hso hx hx6 hd hd2 hdr hg hh hcn hgap hnext hy hq1 hq hbl hdk
          go_wp2_with fail
          generalize wr.alloc (.cells #[.int .u16 y, .int .u8 e.b.κ, .slice e.b.A e.b.n e.b.c, .slice e.b.A2 e.b.n2 e.b.c2, .slice e.b.A3 e.b.n3 e.b.c3] 96) = W1 at *
          have RZ := Lib.hid rz
          have B1 := Lib.hid (HB.out.trans (bz.mono HB.out.size))
          have HC1 := Lib.hid (HC.out.step bz)
          clear rz bz
          refine (selc_no _ _ _ q W1 (TT.out.step B1.out) hqk HSO.out HS0.out HC1.out).mono ?_
          rintro e2 W2 ⟨rfl, b2⟩
          have RZ2 := RZ.out.below b2 RZ.out.lt
          have B2 := Lib.hid (below_both B1.out b2)
          have HC2 := Lib.hid (HC1.out.step b2)
          have k1 := RZ2.cell 1
          have k2 := RZ2.cell 2
          have k3 := RZ2.cell 3
          have k4 := RZ2.cell 4
          clear b2 RZ RZ2
          go_wp2_with fail
          refine (len_c _ _ _ r W2 HR.out HC2.out).mono ?_
          rintro e3 W3 ⟨rfl, b3⟩
          have B3 := Lib.hid (below_both B2.out b3)
          clear b3
          go_wp2
          refine ⟨⟨i + 1, d, y + 1, by omega, rfl, by go_num, by omega, ?_, HREL.out, B3.out⟩, by simp [intOf]; omega⟩
          have := HT.out
          rw [← HY.out] at this
          exact this
    · obtain rfl : i = es.length := by omega
      have hd2 := hdk.out
      rw [List.drop_length] at hd2
      have hf := ct_gap P hK hd2.none
      have hfin : ct P 4294967296 ≤ k := by
        have e1 := hq.out
        rw [← hf] at e1
        rw [e1]
        exact Nat.le_add_right _ _
      have HF := Lib.hid hfin
      clear hdk hd2 hq hbl hf hfin
      go_wp2
      go_ret2
      exact ⟨0, false, rfl, .inr ⟨rfl, rfl, HF.out⟩, HB.out⟩
theorem select_yes {N : Nat → Prop} (v : Value) (P : Nat → Bool) (k x : Nat) (w : World) (hT : Tb w) (h : St N w v P) (hx : x < 4294967296) (hp : P x = true) (hc : ct P x = k) :
    Calls Tryz.prog 44 #[v, .int .i64 (k : Int)] w fun e w' => e = .returned (.tuple #[.int .u32 (x : Int), .bool true]) ∧ Below w.heap.size w w' :=
  (setselect_c v P k w hT (by have := ct_le P x; omega) h).mono fun e w' ⟨z, b, h1, h2, h3⟩ => by
    rcases h2 with ⟨rfl, -, hz, hzc⟩ | ⟨-, -, hle⟩
    · obtain rfl := ct_uniq hz hp (hzc.trans hc.symm)
      exact ⟨h1, h3⟩
    · have := ct_hit' hp hx
      rw [hc] at this
      exact absurd (Nat.lt_of_lt_of_le this hle) (Nat.lt_irrefl _)
theorem select_no {N : Nat → Prop} (v : Value) (P : Nat → Bool) (k : Nat) (w : World) (hT : Tb w) (h : St N w v P) (hk : (k : Int) ≤ 9223372036854775807) (hc : ct P 4294967296 ≤ k) :
    Calls Tryz.prog 44 #[v, .int .i64 (k : Int)] w fun e w' => e = .returned (.tuple #[.int .u32 0, .bool false]) ∧ Below w.heap.size w w' :=
  (setselect_c v P k w hT hk h).mono fun e w' ⟨z, b, h1, h2, h3⟩ => by
    rcases h2 with ⟨rfl, hz6, hz, hzc⟩ | ⟨rfl, rfl, hle⟩
    · have := ct_hit' hz hz6
      rw [hzc] at this
      exact absurd (Nat.lt_of_lt_of_le this hc) (Nat.lt_irrefl _)
    · exact ⟨h1, h3⟩
end Go.Proofs.YtcmifbjeabkihaaGreatDoor
