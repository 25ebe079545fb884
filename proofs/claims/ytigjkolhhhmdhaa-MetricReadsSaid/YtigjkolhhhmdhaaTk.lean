/- Mathematics of reading a column; walks: readNumber, readNumbers. -/
import Derived.Test.YtigjkolhhhmdhaaTf
import Derived.Test.YtigjkolhhhmdhaaBy
namespace Go.Proofs.Ytigjkolhhhmdhaa
open Go.RowKit
set_option linter.unusedVariables false

theorem le_leVal (s : List UInt8) : le s.length (leVal s) = s := by
  induction s with
  | nil => rfl
  | cons x r ih =>
    have hx := x.toNat_lt
    rw [List.length_cons, le, leVal]
    rw [show (x.toNat + 256 * leVal r) / 256 = leVal r by omega, ih]
    congr 1
    apply UInt8.toNat.inj
    simp
/-- How many rows bytes tell. -/
def rN (b : List UInt8) : Nat := leVal (b.take 4)
theorem rN_lt (b : List UInt8) : rN b < 4294967296 := by
  have h1 := leVal_lt (b.take 4)
  have h2 : (b.take 4).length ≤ 4 := by simp; omega
  have h3 : 2 ^ (8 * (b.take 4).length) ≤ 2 ^ 32 := Nat.pow_le_pow_right (by omega) (by omega)
  unfold rN
  omega
theorem rd_bad (l : List UInt8) (p s : Nat) : rd l p true s = (0, p, true) := by unfold rd; simp
theorem rd_no {l : List UInt8} {p s : Nat} (hs : s ≠ 0) (h : l.length - p < s) : rd l p false s = (0, p, true) := by
  unfold rd rdW
  simp [hs, h]
theorem rd_yes {l : List UInt8} {p s : Nat} (hs : s ≠ 0) (h : ¬ l.length - p < s) : rd l p false s = (leVal ((l.drop p).take s), p + s, false) := by
  unfold rd rdW
  simp [hs, h]
theorem w64_small {n : Nat} (h : n < 4294967296) : wrap64 (n : Int) = (n : Int) := by unfold wrap64; omega
theorem wi64_small {n : Nat} (h : n < 4294967296) : IntKind.i64.wrap (n : Int) = (n : Int) := by rw [IntKind.wrap_i64]; omega
/-- The natural number in eight bytes, and the whole number of its bits. -/
def v8 (b : List UInt8) (p : Nat) : Nat := leVal ((b.drop p).take 8)
def z8 (b : List UInt8) (p : Nat) : Int := IntKind.i64.wrap (v8 b p : Int)
theorem v8_lt (b : List UInt8) (p : Nat) : v8 b p < 18446744073709551616 := by
  have h1 := leVal_lt ((b.drop p).take 8)
  have h2 : ((b.drop p).take 8).length ≤ 8 := by simp; omega
  have h3 : 2 ^ (8 * ((b.drop p).take 8).length) ≤ 2 ^ 64 := Nat.pow_le_pow_right (by omega) (by omega)
  unfold v8
  omega
theorem v8_cut (b : List UInt8) (q p : Nat) : v8 (b.drop q) p = v8 b (q + p) := by unfold v8; rw [List.drop_drop]
theorem z8_cut (b : List UInt8) (q p : Nat) : z8 (b.drop q) p = z8 b (q + p) := by unfold z8; rw [v8_cut]
theorem z8_r64 (b : List UInt8) (p : Nat) : -9223372036854775808 ≤ z8 b p ∧ z8 b p ≤ 9223372036854775807 := by
  unfold z8
  rw [IntKind.wrap_i64]
  omega
theorem n8_z8 (b : List UInt8) (p : Nat) : n8 (z8 b p) = v8 b p := back_n8 (v8_lt b p)
theorem le_v8 {b : List UInt8} {p : Nat} (h : p + 8 ≤ b.length) : le 8 (v8 b p) = (b.drop p).take 8 := by
  have := le_leVal ((b.drop p).take 8)
  rwa [show ((b.drop p).take 8).length = 8 by simp; omega] at this
/-- The numbers that stand from p on. -/
def rL (b : List UInt8) (p n : Nat) : List Int := (List.range n).map fun i => z8 b (p + 8 * i)
theorem rL_len (b : List UInt8) (p n : Nat) : (rL b p n).length = n := by simp [rL]
theorem rL_zero (b : List UInt8) (p : Nat) : rL b p 0 = [] := rfl
theorem rL_snoc (b : List UInt8) (p k : Nat) : rL b p (k + 1) = rL b p k ++ [z8 b (p + 8 * k)] := by simp [rL, List.range_succ]
theorem rL_cons (b : List UInt8) (p n : Nat) : rL b p (n + 1) = z8 b p :: rL b (p + 8) n := by
  unfold rL
  rw [List.range_succ_eq_map, List.map_cons, List.map_map]
  refine congrArg (List.cons (z8 b (p + 8 * 0))) (List.map_congr_left fun i _ => ?_)
  show z8 b (p + 8 * (i + 1)) = z8 b (p + 8 + 8 * i)
  congr 1
  omega
theorem rL_cut (b : List UInt8) (q p n : Nat) : rL (b.drop q) p n = rL b (q + p) n := by
  unfold rL
  refine List.map_congr_left fun i _ => ?_
  rw [z8_cut]
  congr 1
  omega
theorem rL_r64 (b : List UInt8) (p n : Nat) : R64 (rL b p n) := fun z hz => by
  unfold rL at hz
  obtain ⟨i, _, rfl⟩ := List.mem_map.1 hz
  exact z8_r64 b _
theorem cN_rL (b : List UInt8) (p n : Nat) (h : b.length = p + 8 * n) : cN (rL b p n) = b.drop p := by
  induction n generalizing p with
  | zero => rw [rL_zero, List.drop_eq_nil_of_le (by omega)]; rfl
  | succ n ih =>
    rw [rL_cons, cN_cons, ih (p + 8) (by omega), n8_z8, le_v8 (by omega), ← List.drop_drop, List.take_append_drop]
/-- What bytes of the right length are. -/
theorem img_eq (b : List UInt8) (h : b.length = 20 + 8 * rN b) : b = (le 4 (rN b) ++ le 8 (v8 b 4) ++ le 8 (v8 b 12)) ++ cN (rL b 20 (rN b)) := by
  have h0 : le 4 (rN b) = b.take 4 := by
    have := le_leVal (b.take 4)
    rwa [show (b.take 4).length = 4 by simp; omega] at this
  rw [cN_rL b 20 (rN b) h, le_v8 (by omega), le_v8 (by omega), h0]
  have e1 : b.take 4 ++ (b.drop 4).take 8 = b.take 12 := by rw [← List.take_add]
  have e2 : b.take 12 ++ (b.drop 12).take 8 = b.take 20 := by rw [← List.take_add]
  rw [e1, e2, List.take_append_drop]
theorem le_inj {k m n : Nat} (hm : m < 2 ^ (8 * k)) (hn : n < 2 ^ (8 * k)) (h : le k m = le k n) : m = n := by rw [← leVal_le k m hm, ← leVal_le k n hn, h]
/-- Bytes are the image of their numbers if they have the right ends. -/
theorem same_iff (b : List UInt8) (h : b.length = 20 + 8 * rN b) : cB (rL b 20 (rN b)) = b ↔ loI (rL b 20 (rN b)) = z8 b 4 ∧ hiI (rL b 20 (rN b)) = z8 b 12 := by
  have hr := rL_r64 b 20 (rN b)
  have hlo : -9223372036854775808 ≤ loI (rL b 20 (rN b)) ∧ loI (rL b 20 (rN b)) ≤ 9223372036854775807 := ⟨lo_r64 hr, lo_top _⟩
  have hhi : -9223372036854775808 ≤ hiI (rL b 20 (rN b)) ∧ hiI (rL b 20 (rN b)) ≤ 9223372036854775807 := ⟨hi_bot _, hi_r64 hr⟩
  constructor
  · intro e
    rw [img_eq b h] at e
    have e2 : cB (rL b 20 (rN b)) = (le 4 (rN b) ++ le 8 (v8 b 4) ++ le 8 (v8 b 12)) ++ cN (rL b 20 (rN b)) := by
      rw [← img_eq b h]
      rw [← img_eq b h] at e
      exact e
    unfold cB at e2
    rw [rL_len] at e2
    have e3 := List.append_cancel_right e2
    obtain ⟨e4, e5⟩ := List.append_inj e3 (by simp [le_length])
    have e6 := List.append_cancel_left e4
    have q1 := le_inj (n8_lt _) (v8_lt b 4) e6
    have q2 := le_inj (n8_lt _) (v8_lt b 12) e5
    exact ⟨n8_inj hlo (z8_r64 b 4) (by rw [n8_z8]; exact q1), n8_inj hhi (z8_r64 b 12) (by rw [n8_z8]; exact q2)⟩
  · intro ⟨h1, h2⟩
    conv => rhs; rw [img_eq b h]
    unfold cB
    rw [rL_len, h1, h2, n8_z8, n8_z8]
/-- What is told of bytes: an error, or none. -/
def rdE (b : List UInt8) (rows : Int) : Int :=
  if b.length < 4 then 4 else if 16777216 < rN b then 3 else if b.length < 20 + 8 * rN b then 4 else if (rN b : Int) = rows ∧ cB (rL b 20 (rN b)) = b then 0 else 5
theorem grown_skip {a b c : World} {row : Option Nat} {g : Nat} (h : a.grownBy b row) (h2 : b.grownBy c (some g)) (hg : a.heap.size ≤ g) : a.grownBy c row :=
  ⟨h2.os.trans h.os, h2.tape.trans h.tape, h2.output.trans h.output, Nat.le_trans h.size h2.size, fun k hk hne => (h2.block k (Nat.lt_of_lt_of_le hk h.size) (fun e => by injection e with e; omega)).trans (h.block k hk hne)⟩
set_option maxHeartbeats 1000000 in
theorem readNumber_yes {base g : Nat} {v : Value} {L : List UInt8} {p : Nat} (w : World) (h : Rd w base g v L p false) (hp : p + 8 ≤ L.length) :
    Calls Try.prog 27 #[.pointer (some ⟨g, 0, none⟩)] w fun e w' => e = .returned (.int .i64 (z8 L p)) ∧ Rd w' base g v L (p + 8) false ∧ w.grownBy w' (some g) := by
  have hc := U64_any w h
  rw [rd_yes (by omega) (by omega)] at hc
  have HC := Lib.hid hc
  obtain ⟨z, hz⟩ : ∃ z, z8 L p = z := ⟨_, rfl⟩
  have hw : IntKind.i64.wrap (leVal ((L.drop p).take 8) : Int) = z := by rw [← hz]; rfl
  rw [hz]
  clear hc hz h
  generalize leVal ((L.drop p).take 8) = N at *
  go_enter Try.func27, Try.ntmps27
  go_wp2_with (go_at_call 36; refine HC.out.mono ?_; rintro e w1 ⟨rfl, r1, g1⟩; have R1 := Lib.hid r1; have G1 := Lib.hid g1; clear r1 g1)
  go_ret
  exact ⟨rfl, R1.out, G1.out⟩
set_option maxHeartbeats 2000000 in
set_option maxRecDepth 100000 in
theorem readNumbers_yes {base g : Nat} {v : Value} {L : List UInt8} {p : Nat} (n : Nat) (w : World) (h : Rd w base g v L p false) (hp : p + 8 * n ≤ L.length) (hn : n ≤ 1000000) :
    Calls Try.prog 28 #[.pointer (some ⟨g, 0, none⟩), .int .i64 (n : Int)] w fun e w' => ∃ v', e = .returned v' ∧ Gw eL w' w.heap.size v' (rL L p n) ∧ w.grownBy w' (some g) := by
  have H := Lib.hid h
  have HP := Lib.hid hp
  have hgl := h.lt
  have HV := Lib.hid (fun k (e : v.ownBlock = some k) => (h.own.lt k e).2)
  clear h hp
  go_enter Try.func28, Try.ntmps28
  go_wp2_with (at_make; refine wpList_gfull eL _ rfl _ _ _ rfl sliL infL _ _ _ _ n rfl rfl rfl rfl (by omega) ?_; intro w1 o1 g1)
  obtain ⟨gl, hgl2⟩ : ∃ gl, gl = w.heap.size := ⟨_, rfl⟩
  rw [← hgl2] at o1 hgl ⊢
  have HGL := Lib.hid hgl2
  have O1 := Lib.hid o1
  have R1 := Lib.hid (H.out.grown g1 (fun k e => by cases e))
  have G1 := Lib.hid (grown_any g1 (some g))
  clear o1 g1 hgl2
  go_loopw [11] (fun i wr => ∃ k : Nat, k ≤ n ∧ i = .int .i64 k ∧ Gw eL wr gl (.slice (some ⟨gl, 0, none⟩) n n) (rL L p k ++ List.replicate (n - k) 0) ∧ Rd wr base g v L (p + 8 * k) false ∧ w.grownBy wr (some g)) (fun i _ => n - (intOf i).toNat)
  case atStart => exact ⟨0, Nat.zero_le _, rfl, O1.out, R1.out, G1.out⟩
  case round =>
    obtain ⟨k, hk, rfl, ok, rk, gk⟩ := hrel
    have OK := Lib.hid ok
    have GK := Lib.hid gk
    have RK := Lib.hid rk
    clear ok gk rk
    by_cases hlt : k < n
    · have HC := Lib.hid (readNumber_yes _ RK.out (by have := HP.out; omega))
      have HSN := Lib.hid (show (rL L p k ++ List.replicate (n - k) 0).set k (z8 L (p + 8 * k)) = rL L p (k + 1) ++ List.replicate (n - (k + 1)) 0 by
        obtain ⟨m, hm⟩ : ∃ m, n - k = m + 1 := ⟨n - k - 1, by omega⟩
        rw [hm, show n - (k + 1) = m by omega, List.replicate_succ, List.set_append_right _ _ (by rw [rL_len]; exact Nat.le_refl _), rL_len, Nat.sub_self, List.set_cons_zero, rL_snoc, List.append_assoc]
        rfl)
      have HLE := Lib.hid (show (rL L p k ++ List.replicate (n - k) 0).length = n by rw [List.length_append, rL_len, List.length_replicate]; omega)
      go_wp2_with (go_at_call 27; refine HC.out.mono ?_; rintro e w5 ⟨rfl, r5, g5⟩; have R5 := Lib.hid (show Rd w5 base g v L (p + 8 * (k + 1)) false by rw [show p + 8 * (k + 1) = p + 8 * k + 8 by omega]; exact r5); have G5 := Lib.hid (GK.out.trans g5); have O5 := Lib.hid (OK.out.kept g5 (fun j hj e => by injection e with e; have := (OK.out.lt j hj).1; omega)); obtain ⟨b', c', e', -, -, hge, hltb, hcl, hfr⟩ := O5.out.form (by intro h9; have h8 := HLE.out; rw [h9] at h8; simp at h8; omega); injection e' with e1 e2 e3; injection e1 with e1; injection e1 with e1; subst e1; have hfz := hfr k; obtain ⟨y, hy⟩ : ∃ y, (rL L p k ++ List.replicate (n - k) 0)[k]? = some y := ⟨_, List.getElem?_eq_getElem (by rw [HLE.out]; exact hlt)⟩; have hck := hcl k y hy; simp only [eL] at hck; clear hcl hfr e2 e3 hy r5 g5)
      have hst := O5.out.stored k (z8 L (p + 8 * k))
      rw [HSN.out] at hst
      have HST := Lib.hid hst
      have HRD := Lib.hid (R5.out.far (grown_set w5 gl k (.int .i64 (z8 L (p + 8 * k)))) (by omega) (fun e => by have := HV.out gl e; have := HGL.out; omega))
      have HGR := Lib.hid (grown_skip G5.out (grown_set w5 gl k (.int .i64 (z8 L (p + 8 * k)))) (by have := HGL.out; omega))
      clear hst
      go_roundw
      case rel => exact ⟨k + 1, hlt, by go_num, HST.out, HRD.out, HGR.out⟩
      case measure => simp [intOf]; omega
    · obtain rfl : k = n := by omega
      have ok := OK.out
      rw [Nat.sub_self, List.replicate_zero, List.append_nil] at ok
      have OK9 := Lib.hid ok
      clear ok OK
      go_wp2
      go_ret
      exact ⟨_, rfl, by rw [← HGL.out]; exact OK9.out, GK.out⟩
end Go.Proofs.Ytigjkolhhhmdhaa
