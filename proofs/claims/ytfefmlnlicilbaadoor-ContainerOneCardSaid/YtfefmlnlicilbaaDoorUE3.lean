/- Words: List (cut from stages 4 to 6) -/
import Derived.Test.YtfefmlnlicilbaaDoorUE2
namespace Go.Proofs.YtfefmlnlicilbaaDoor
open Go.RowKit
set_option linter.unusedVariables false

/-- make of no elements, with room for n. -/
theorem wpList_gmk {α : Type} (k : Elem α) {P : Program} (w : World) {ops : Array Oper} {rest : List Oper} {o : Oper} {a : Act} {Q : Exit → Act → World → Prop} (hgd : o.guard = none) (x c : Operand) (t : TypeId) (ho : o.op = Op.makeSlice t x c)
    (ht : P.underlying t = some (.slice k.E)) (hinf : (P.info? k.E).map (fun i => (i.zero, i.size, i.bytes)) = some (some (k.val k.zero), 1, k.bytes))
    (kl kc : IntKind) (C : Int) (n : Nat) (hx : a.eval x = .int kl 0) (hc : a.eval c = .int kc C) (hC : C = (n : Int)) (hn : n ≤ 1000000000)
    (h : ∀ w', Gw k w' w.heap.size (.slice (some ⟨w.heap.size, 0, none⟩) 0 n) [] → w.grownBy w' none → wpList P ops Q rest (a.put o.dst (.slice (some ⟨w.heap.size, 0, none⟩) 0 n)) w') : wpList P ops Q (o :: rest) a w := by
  obtain ⟨i, hi, hz, hsz, hby⟩ := info_parts hinf
  have hs := k.small
  have hbb : k.bytes * n ≤ 1000 * 1000000000 := Nat.mul_le_mul hs hn
  exact wpList_make_own w hgd x c t ho w.heap.size k.E i (k.val k.zero) 1 ht hi hz hsz kl kc C n hx hc hC (by rw [hby]; omega) (by unfold maxLen; omega) (Nat.le_refl _) fun w' h1 h2 => h w' h1 h2
theorem number_of (I X : Int) (i r k y : Nat) (hI : I = i) (hX : X = r) (hk : k = Lib.ctz 64 r) (hy : y = 64 * i + k) (w : World) (hi : i ≤ 1023) (h0 : r ≠ 0) (h1 : r < 18446744073709551616) (hT : Tb w) :
    Calls Tryd.prog 65 #[.int .i64 I, .int .u64 X] w fun e w' => e = .returned (.int .u16 y) ∧ w' = w := by
  subst hI hX hy hk
  have h := number_any i r w (by omega) (by omega) (by omega) (by omega) hT
  rw [Int.toNat_natCast, Int.toNat_natCast] at h
  exact h
theorem withoutLowest_of (X : Int) (r : Nat) (hX : X = r) (w : World) (h0 : r ≠ 0) (h1 : r < 18446744073709551616) :
    Calls Tryd.prog 64 #[.int .u64 X] w fun e w' => e = .returned (.int .u64 ((r &&& (r - 1) : Nat) : Int)) ∧ w' = w := by
  subst hX
  have h := withoutLowest_any r w (by omega) (by omega)
  rw [Int.toNat_natCast] at h
  exact h
/-- r is word i without its numbers ahead of place t. -/
def Rs (l : List UInt64) (i t r : Nat) : Prop := r < 18446744073709551616 ∧ t ≤ 64 ∧ ∀ j, j < 64 → r.testBit j = (wb l (64 * i + j) && decide (t ≤ j))
theorem rs_start (l : List UInt64) (i a : Nat) (ha : a = (l.getD i 0).toNat) : Rs l i 0 a :=
  ⟨by rw [ha]; exact u64_lt _, Nat.zero_le _, fun j hj => by rw [ha, wb_at _ _ _ hj]; simp⟩
theorem rs_step {l : List UInt64} {i t r k : Nat} (h : Rs l i t r) (h0 : r ≠ 0) (hk : k = Lib.ctz 64 r) :
    k < 64 ∧ t ≤ k ∧ wb l (64 * i + k) = true ∧ (∀ j, 64 * i + t ≤ j → j < 64 * i + k → wb l j = false) ∧ Rs l i (k + 1) (r &&& (r - 1)) ∧ r &&& (r - 1) < r := by
  obtain ⟨h1, h2, h3⟩ := h
  obtain ⟨k1, k2, k3, k4⟩ := low_bits h0 h1
  rw [← hk] at k1 k2 k3 k4
  have e := h3 k k1
  rw [k2] at e
  have e2 : wb l (64 * i + k) = true ∧ t ≤ k := by simpa using e.symm
  refine ⟨k1, e2.2, e2.1, ?_, ⟨not_lt' h1, by omega, fun j hj => ?_⟩, ?_⟩
  · intro j hj1 hj2
    obtain ⟨d, rfl⟩ := Nat.le.dest (Nat.le_trans (Nat.le_add_right (64 * i) t) hj1)
    have e3 := h3 d (by omega)
    rw [k3 d (by omega), decide_eq_true (by omega), Bool.and_true] at e3
    exact e3.symm
  · rw [k4, h3 j hj]
    by_cases hc : t ≤ j
    · have : k < j ↔ k + 1 ≤ j := by omega
      simp [hc, this]
    · have h5 : ¬ k < j := by omega
      have h6 : ¬ k + 1 ≤ j := by omega
      simp [hc, h6]
  · have h5 : r &&& (r - 1) ≤ r - 1 := Nat.and_le_right
    omega
theorem rs_end {l : List UInt64} {i t : Nat} (h : Rs l i t 0) : ∀ j, 64 * i + t ≤ j → j < 64 * i + 64 → wb l j = false := by
  intro j hj1 hj2
  obtain ⟨d, rfl⟩ := Nat.le.dest (Nat.le_trans (Nat.le_add_right (64 * i) t) hj1)
  have e3 := h.2.2 d (by omega)
  rw [decide_eq_true (by omega), Bool.and_true] at e3
  simpa using e3.symm
theorem rs_pos {l : List UInt64} {i t r : Nat} (h : Rs l i t r) (hc : ct (wb l) (64 * i + t) < ct (wb l) (64 * i + 64)) : r ≠ 0 := by
  rintro rfl
  have h1 := rs_end h
  have h2 := ls_skip (wb l) (a := 64 * i + t) (b := 64 * i + 64) (by have := h.2.1; omega) h1
  have h3 := congrArg List.length h2
  rw [ls_ct, ls_ct] at h3
  omega
set_option maxHeartbeats 1000000 in
set_option maxRecDepth 100000 in
theorem wlist_any (v : Value) (l : List UInt64) (lo : Nat) (w : World) (hv : Gs e64 w lo w.heap.size v l) (hT : Tb w) :
    Calls Tryd.prog 44 #[v] w fun e w' => ∃ v', e = .returned v' ∧ Gw e16 w' w.heap.size v' (ls (wb l) 65536) ∧ Below w.heap.size w w' := by
  have HV := Lib.hid hv
  have HT := Lib.hid hT
  obtain ⟨A, c, rfl, -⟩ := hv
  clear hT
  obtain ⟨X, hX⟩ : ∃ X, X = ct (wb l) 65536 := ⟨_, rfl⟩
  have hX1 : X ≤ 65536 := by rw [hX]; exact ct_le _ _
  have HX := Lib.hid hX
  have HX1 := Lib.hid hX1
  clear hX hX1
  go_enter Tryd.func44, Tryd.ntmps44
  go_wp2_with (first
    | (go_at_call 48; refine (wlen_any _ l lo _ _ HV.out).mono ?_; rw [← HX.out]; rintro e w1 ⟨rfl, hz⟩; have hz := hz.symm; subst hz)
    | (at_make; refine wpList_gmk e16 _ rfl _ _ _ rfl sli16 inf16 _ _ _ X rfl rfl rfl (by have := HX1.out; omega) ?_; intro w1 o1 g1; have O1 := Lib.hid o1; have B1 := Lib.hid (below_of_grown g1 (fun k h => by cases h)); clear o1 g1))
  go_loopw [3, 9] (fun u s9 wr => ∃ i : Nat, i ≤ 1024 ∧ s9 = .int .i64 i ∧ Gw e16 wr w.heap.size u (ls (wb l) (64 * i)) ∧ Below w.heap.size w wr) (fun _ i _ => ((1024 : Int) - intOf i).toNat)
  case atStart => exact ⟨0, Nat.zero_le _, rfl, O1.out, B1.out⟩
  case round =>
    obtain ⟨i, hik, rfl, hr, hbl⟩ := hrel
    have HR := Lib.hid hr
    have HB := Lib.hid hbl
    by_cases hlt : i < 1024
    · obtain ⟨a, ha⟩ : ∃ a, a = (l.getD i 0).toNat := ⟨_, rfl⟩
      have HA := Lib.hid ha
      have HI := Lib.hid hlt
      have hli : (i : Int) < 1024 := by omega
      obtain ⟨A5, c5, rfl, -⟩ := hr.sl
      clear ha hlt hr hbl hik
      go_wp2_with (go_at_call 63; refine (at_of _ l lo _ _ i a rfl HA.out _ (HV.out.below HB.out)).mono ?_; rintro e w1 ⟨rfl, hz⟩; have hz := hz.symm; subst hz)
      go_loopw [3, 5] (fun u s5 ws => ∃ t r : Nat, s5 = .int .u64 r ∧ Rs l i t r ∧ Gw e16 ws w.heap.size u (ls (wb l) (64 * i + t)) ∧ Below w.heap.size w ws) (fun _ r _ => (intOf r).toNat)
      case atStart => exact ⟨0, a, rfl, rs_start l i a HA.out, HR.out, HB.out⟩
      case round =>
        obtain ⟨t, r, rfl, hrs, ho, hb⟩ := hrel
        have OR := Lib.hid ho
        have BR := Lib.hid hb
        have HRS := Lib.hid hrs
        obtain ⟨A6, c6, rfl, -⟩ := ho.sl
        clear ho hb
        by_cases h0 : r = 0
        · subst h0
          have he : ls (wb l) (64 * (i + 1)) = ls (wb l) (64 * i + t) := ls_skip (wb l) (by have := hrs.2.1; omega) (rs_end hrs)
          have HE := Lib.hid he
          clear he hrs
          go_wp2
          go_roundw
          case rel => exact ⟨i + 1, HI.out, by go_num, by rw [HE.out]; exact OR.out, BR.out⟩
          case measure => simp [intOf]; omega
        · obtain ⟨k, hk⟩ : ∃ k, k = Lib.ctz 64 r := ⟨_, rfl⟩
          obtain ⟨k1, k2, k3, k4, k5, k6⟩ := rs_step hrs h0 hk
          have hl1 := ls_len (wb l) (64 * i + t)
          have hn : ls (wb l) (64 * i + (k + 1)) = ls (wb l) (64 * i + t) ++ [UInt16.ofNat (64 * i + k)] := by
            have := ls_next (wb l) (a := 64 * i + t) (b := 64 * i + k) (by omega) k4 k3
            exact this
          obtain ⟨y, hy⟩ : ∃ y, y = 64 * i + k := ⟨_, rfl⟩
          have hyl : y < 65536 := by have := HI.out; omega
          have HY0 : ((UInt16.ofNat y).toNat : Int) = y := by rw [u16_of y hyl]
          rw [← hy] at hn
          have HY := Lib.hid HY0
          have HYE := Lib.hid hy
          have HK := Lib.hid hk
          have HN := Lib.hid hn
          have HQ := Lib.hid k5
          have H6 := Lib.hid k6
          have hr1 : r < 18446744073709551616 := hrs.1
          have HR1 := Lib.hid hr1
          have HL := Lib.hid hl1
          have HT2 := Lib.hid (HT.out.below BR.out (Nat.le_refl _))
          have HI1 := Lib.hid (show i ≤ 1023 by have := HI.out; omega)
          obtain ⟨r', hr'⟩ : ∃ r', r' = r &&& (r - 1) := ⟨_, rfl⟩
          have HR' := Lib.hid hr'
          have t2 : ((r : Int) != 0) = true := by simp; omega
          have H0 := Lib.hid h0
          have H1 := Lib.hid k1
          have H2 := Lib.hid k2
          clear hk k1 k2 k3 k4 k5 k6 hn hy HY0 hrs hr1 hl1 hr' hyl h0
          go_wp2_with (first
            | (go_at_call 65; refine (number_of _ _ i r k y rfl rfl HK.out HYE.out _ HI1.out H0.out HR1.out HT2.out).mono ?_; rintro e w1 ⟨rfl, hz⟩; have hz := hz.symm; subst hz)
            | (go_at_call 64; refine (withoutLowest_of _ r rfl _ H0.out HR1.out).mono ?_; rw [← HR'.out]; rintro e w1 ⟨rfl, hz⟩; have hz := hz.symm; subst hz)
            | (at_builtin; refine wpList_gapp1 (P := Tryd.prog) e16 wr rfl _ _ _ rfl w.heap.size sli16 inf16 _ (ls (wb l) (64 * i + t)) rfl ?_ _ (UInt16.ofNat y) ?_ ?_ ?_ ?_ ?_; (exact OR.out); (simp only [e16, b16]; rw [HY.out]); rfl; (have := HL.out; have := HI.out; have := H1.out; have := H2.out; omega); exact BR.out.size; intro v2 w2 o2 g2 _; have O2 := Lib.hid o2; have B2 := Lib.hid (BR.out.grown g2 BR.out.size (fun j h => (OR.out.lt j h).1)); clear o2 g2))
          go_roundw
          case rel => exact ⟨k + 1, r', rfl, by rw [HR'.out]; exact HQ.out, by rw [HN.out]; exact O2.out, B2.out⟩
          case measure => simp only [intOf, Int.toNat_natCast]; have := H6.out; have := HR'.out; omega
    · obtain rfl : i = 1024 := by omega
      obtain ⟨A5, c5, rfl, -⟩ := hr.sl
      clear hr hbl
      go_wp2
      go_ret
      exact ⟨_, rfl, HR.out, HB.out⟩
end Go.Proofs.YtfefmlnlicilbaaDoor
