/- Walks: the document's words of marks, marks flipped, how many are below any place, whether two rows of words are the same. -/
import Derived.Test.YtgegpbchjkfdkaaDoorE5
import Derived.Test.YtgegpbchjkfdkaaDoorDy
namespace Go.Proofs.YtgegpbchjkfdkaaDoor
open Go.RowKit
set_option linter.unusedVariables false

theorem add_or (z s : Nat) (hz : z < 2 ^ s) : z + 2 ^ s = z ||| 2 ^ s := by
  apply Nat.eq_of_testBit_eq
  intro t
  have e : z + 2 ^ s = 2 ^ s * 1 + z := by omega
  rw [e, Nat.testBit_two_pow_mul_add _ hz, Nat.testBit_or, Nat.testBit_two_pow]
  by_cases h : t < s
  · have : ¬ s = t := by omega
    simp [h, this]
  · have hp : 2 ^ s ≤ 2 ^ t := Nat.pow_le_pow_right (by omega) (by omega)
    rw [if_neg h, Nat.testBit_lt_two_pow (Nat.lt_of_lt_of_le hz hp), Bool.false_or]
    show (2 ^ 0).testBit (t - s) = _
    rw [Nat.testBit_two_pow]
    exact decide_eq_decide.2 (by omega)
theorem lt_bits {z s : Nat} (h : ∀ j, s ≤ j → z.testBit j = false) : z < 2 ^ s := Nat.lt_pow_two_of_testBit z h
/-- The marks below k. -/
def pq (p : Nat → Bool) (k x : Nat) : Bool := decide (x < k) && p x
theorem pq_none (p : Nat → Bool) : wm (fun _ => false) = wm (pq p 0) := wm_ext fun x hx => by simp [pq]
theorem pq_all (p : Nat → Bool) : wm (pq p 65536) = wm p := wm_ext fun x hx => by unfold pq; rw [decide_eq_true hx, Bool.true_and]
theorem pq_skip {p : Nat → Bool} {k : Nat} (h : p k = false) : wm (pq p (k + 1)) = wm (pq p k) := wm_ext fun x hx => by
  unfold pq
  by_cases he : x = k
  · subst he; rw [h]; simp
  · congr 1
    exact decide_eq_decide.2 (by omega)
theorem word_add (p : Nat → Bool) (k z : Nat) (hk : k < 65536) (h : p k = true) (hz : z = ((wm (pq p k)).getD (k / 64) 0).toNat) :
    IntKind.u64.wrap ((z : Int) + IntKind.u64.wrap (2 ^ (k % 64))) = ((z + 2 ^ (k % 64) : Nat) : Int) ∧ z + 2 ^ (k % 64) < 18446744073709551616 ∧
    ∀ x, x < 65536 → pq p (k + 1) x = if x / 64 = k / 64 then (z + 2 ^ (k % 64)).testBit (x % 64) else pq p k x := by
  have hb : ∀ j, z.testBit j = (decide (j < 64) && pq p k (64 * (k / 64) + j)) := by
    intro j
    rw [hz, wm_word _ _ (by omega), wn_bit]
  have hlt : z < 2 ^ (k % 64) := lt_bits fun j hj => by
    rw [hb j]
    unfold pq
    rw [decide_eq_false (show ¬ 64 * (k / 64) + j < k by omega), Bool.false_and, Bool.and_false]
  have h1 : 2 ^ (k % 64) ≤ 2 ^ 63 := Nat.pow_le_pow_right (by omega) (by omega)
  have hs : z + 2 ^ (k % 64) < 18446744073709551616 := by omega
  refine ⟨?_, hs, fun x hx => ?_⟩
  · have e : ((2 : Int) ^ (k % 64)) = ((2 ^ (k % 64) : Nat) : Int) := by push_cast; rfl
    rw [e, wrap_nat _ (two_lt _ (by omega)), ← Int.natCast_add]
    exact wrap_nat _ hs
  · by_cases he : x / 64 = k / 64
    · have e1 : 64 * (k / 64) + x % 64 = x := by omega
      rw [if_pos he, add_or _ _ hlt, Nat.testBit_or, hb, decide_eq_true (show x % 64 < 64 by omega), Bool.true_and, e1, Nat.testBit_two_pow]
      unfold pq
      by_cases hxk : x = k
      · subst hxk; rw [h]; simp
      · have h2 : ¬ k % 64 = x % 64 := by omega
        have h3 : x < k + 1 ↔ x < k := by omega
        simp [h2, h3]
    · rw [if_neg he]
      unfold pq
      congr 1
      exact decide_eq_decide.2 (by omega)

set_option maxHeartbeats 1000000 in
set_option maxRecDepth 100000 in
theorem refWords_any (g : Nat) (p : Nat → Bool) (w : World) (h : Row w g 55 (mA 65536 p)) :
    Calls Tryd.prog 13 #[.pointer (some ⟨g, 0, none⟩)] w fun e w' => ∃ v', e = .returned v' ∧ Gw e64 w' w.heap.size v' (wm p) ∧ Below w.heap.size w w' := by
  have HA := Lib.hid h
  have hg := h.lt
  have HG := Lib.hid hg
  clear h hg
  go_enter Tryd.func13, Tryd.ntmps13
  go_wp2_with (at_make; refine wpList_gfull e64 _ rfl _ _ _ rfl sli64 inf64 _ _ _ _ 1024 rfl rfl rfl rfl (by omega) ?_; intro w1 o1 g1; have O1 := Lib.hid o1; have B1 := Lib.hid (below_of_grown g1 (fun k h => by cases h)); clear o1 g1)
  go_loopw [4] (fun i wr => ∃ k : Nat, k ≤ 65536 ∧ i = .int .i64 k ∧ Gw e64 wr w.heap.size (.slice (some ⟨w.heap.size, 0, none⟩) 1024 1024) (wm (pq p k)) ∧ Below w.heap.size w wr) (fun i _ => ((65536 : Int) - intOf i).toNat)
  case atStart => exact ⟨0, Nat.zero_le _, rfl, by have := O1.out; rw [show e64.zero = (0 : UInt64) from rfl, wm_none, pq_none p] at this; exact this, B1.out⟩
  case round =>
    obtain ⟨k, hk, rfl, ok, hbl⟩ := hrel
    have OK := Lib.hid ok
    have HB := Lib.hid hbl
    by_cases hlt : k < 65536
    · have HI := Lib.hid hlt
      have hki : (k : Int) < 65536 := by omega
      have c3 := (HA.out.below hbl HG.out).cell k
      rw [mA_at _ _ _ hlt] at c3
      cases hp : p k
      · rw [hp] at c3
        have HS := Lib.hid (pq_skip hp)
        clear hp hlt hk ok hbl
        go_wp2
        go_roundw
        case rel => exact ⟨k + 1, HI.out, by go_num, by rw [HS.out]; exact OK.out, HB.out⟩
        case measure => simp [intOf]; omega
      · rw [hp] at c3
        obtain ⟨z, hz⟩ : ∃ z : Nat, z = ((wm (pq p k)).getD (k / 64) 0).toNat := ⟨_, rfl⟩
        obtain ⟨k1, k2⟩ := wm_cell ok rfl (k / 64) z (by omega) hz
        obtain ⟨n1, n2, n3⟩ := word_add p k z hlt hp hz
        have N1 := Lib.hid n1
        have N2 := Lib.hid n2
        have N3 := Lib.hid n3
        have hk6 : (k : Int) / 64 < 1024 := by omega
        clear hz n1 n2 n3 hp hlt hk ok hbl
        go_wp2
        rw [N1.out]
        refine ⟨⟨k + 1, HI.out, by go_num, wm_stored OK.out (k / 64) _ N2.out (by have := HI.out; omega) N3.out, below_set HB.out HB.out.size (Nat.le_refl _)⟩, by simp [intOf]; omega⟩
    · obtain rfl : k = 65536 := by omega
      rw [pq_all] at ok
      have OK := Lib.hid ok
      clear ok hbl
      go_wp2
      go_ret
      exact ⟨_, rfl, OK.out, HB.out⟩

/-- Where marks are flipped. -/
def qf (lo hi : Int) (x : Nat) : Bool := decide (lo ≤ (x : Int)) && decide ((x : Int) < hi)
set_option maxHeartbeats 1000000 in
set_option maxRecDepth 100000 in
theorem refFlip_any (g : Nat) (p : Nat → Bool) (lo hi : Int) (w : World) (h : Row w g 55 (mA 65536 p)) :
    Calls Tryd.prog 28 #[.pointer (some ⟨g, 0, none⟩), .int .i64 lo, .int .i64 hi] w fun e w' => e = .returned (.pointer (some ⟨w.heap.size, 0, none⟩)) ∧ Row w' w.heap.size 55 (mA 65536 (flp p lo hi)) ∧ Below w.heap.size w w' := by
  have HA := Lib.hid h
  have hg := h.lt
  clear h
  have hz := (zero_of_info zeroM).1
  generalize hZ : mA 65536 (fun _ => false) = Z at hz
  go_enter Tryd.func28, Tryd.ntmps28
  go_wp2
  subst hZ
  go_loopw [8] (fun i wr => ∃ k : Nat, k ≤ 65536 ∧ i = .int .i64 k ∧ Row wr w.heap.size 55 (mA 65536 (up fXor p (qf lo hi) k)) ∧ Below w.heap.size w wr) (fun i _ => ((65536 : Int) - intOf i).toNat)
  case atStart => exact ⟨0, Nat.zero_le _, rfl, by rw [up_zero]; exact Row.new _ _ _, (Below.refl _ _).alloc (Nat.le_refl _) _⟩
  case round =>
    obtain ⟨k, hk, rfl, hr, hbl⟩ := hrel
    have HR := Lib.hid hr
    have HB := Lib.hid hbl
    by_cases hlt : k < 65536
    · have hki : (k : Int) < 65536 := by omega
      have HL := Lib.hid hlt
      have c1 := hr.cell k
      rw [mA_at _ _ _ hlt] at c1
      have c2 := hr.frozen k
      have c3 := (HA.out.below hbl hg).cell k
      rw [mA_at _ _ _ hlt] at c3
      clear hr hbl
      by_cases h1 : lo ≤ (k : Int)
      · by_cases h2 : (k : Int) < hi
        · cases hp : p k
          · rw [hp] at c3
            have HS := Lib.hid (up_succ 65536 fXor p (qf lo hi) k true (by unfold qf; rw [hp, decide_eq_true h1, decide_eq_true h2]; rfl))
            clear hp hlt
            go_wp2_with fail
            go_region
            go_wp2
            go_roundw
            case rel => exact ⟨k + 1, HL.out, by go_num, by rw [HS.out]; exact Row.set_ HR.out k _, below_set HB.out.drew HB.out.size (Nat.le_refl _)⟩
            case measure => simp [intOf]; omega
          · rw [hp] at c3
            have HS := Lib.hid (up_succ 65536 fXor p (qf lo hi) k false (by unfold qf; rw [hp, decide_eq_true h1, decide_eq_true h2]; rfl))
            clear hp hlt
            go_wp2_with fail
            go_region
            go_wp2
            go_roundw
            case rel => exact ⟨k + 1, HL.out, by go_num, by rw [HS.out]; exact Row.set_ HR.out k _, below_set HB.out.drew HB.out.size (Nat.le_refl _)⟩
            case measure => simp [intOf]; omega
        · have q2 : decide ((k : Int) < hi) = false := decide_eq_false h2
          cases hp : p k
          · rw [hp] at c3
            have HS := Lib.hid (up_succ 65536 fXor p (qf lo hi) k false (by unfold qf; rw [hp, decide_eq_true h1, decide_eq_false h2]; rfl))
            clear hp hlt
            go_wp2_with fail
            go_region
            go_wp2
            go_roundw
            case rel => exact ⟨k + 1, HL.out, by go_num, by rw [HS.out]; exact Row.set_ HR.out k _, below_set HB.out.drew HB.out.size (Nat.le_refl _)⟩
            case measure => simp [intOf]; omega
          · rw [hp] at c3
            have HS := Lib.hid (up_succ 65536 fXor p (qf lo hi) k true (by unfold qf; rw [hp, decide_eq_true h1, decide_eq_false h2]; rfl))
            clear hp hlt
            go_wp2_with fail
            go_region
            go_wp2
            go_roundw
            case rel => exact ⟨k + 1, HL.out, by go_num, by rw [HS.out]; exact Row.set_ HR.out k _, below_set HB.out.drew HB.out.size (Nat.le_refl _)⟩
            case measure => simp [intOf]; omega
      · have q1 : decide (lo ≤ (k : Int)) = false := decide_eq_false h1
        cases hp : p k
        · rw [hp] at c3
          have HS := Lib.hid (up_succ 65536 fXor p (qf lo hi) k false (by unfold qf; rw [hp, decide_eq_false h1]; rfl))
          clear hp hlt
          go_wp2_with fail
          go_region
          go_wp2
          go_roundw
          case rel => exact ⟨k + 1, HL.out, by go_num, by rw [HS.out]; exact Row.set_ HR.out k _, below_set HB.out.drew HB.out.size (Nat.le_refl _)⟩
          case measure => simp [intOf]; omega
        · rw [hp] at c3
          have HS := Lib.hid (up_succ 65536 fXor p (qf lo hi) k true (by unfold qf; rw [hp, decide_eq_false h1]; rfl))
          clear hp hlt
          go_wp2_with fail
          go_region
          go_wp2
          go_roundw
          case rel => exact ⟨k + 1, HL.out, by go_num, by rw [HS.out]; exact Row.set_ HR.out k _, below_set HB.out.drew HB.out.size (Nat.le_refl _)⟩
          case measure => simp [intOf]; omega
    · obtain rfl : k = 65536 := by omega
      rw [up_full] at hr
      have HR := Lib.hid hr
      clear hr hbl
      go_wp2
      go_ret
      exact ⟨rfl, HR.out, HB.out⟩

theorem cl_stop (X : Int) {k : Nat} (hk : k = cl X) : X ≤ (k : Int) ∨ k = 65536 := by subst hk; unfold cl; omega
set_option maxHeartbeats 1000000 in
set_option maxRecDepth 100000 in
theorem refBelowAt_any (g : Nat) (p : Nat → Bool) (X : Int) (w : World) (h : Row w g 55 (mA 65536 p)) :
    Calls Tryd.prog 19 #[.pointer (some ⟨g, 0, none⟩), .int .i64 X] w fun e w' => e = .returned (.int .i64 (ct p (cl X) : Nat)) ∧ w' = w := by
  have HA := Lib.hid h
  clear h
  go_enter Tryd.func19, Tryd.ntmps19
  go_wp2
  go_loop [5, 6] (fun s5 s6 => ∃ k : Nat, k ≤ cl X ∧ s6 = .int .i64 k ∧ s5 = .int .i64 (ct p k : Nat)) (fun _ i => cl X - (intOf i).toNat)
  case atStart => exact ⟨0, Nat.zero_le _, rfl, rfl⟩
  case round =>
    obtain ⟨k, hk, rfl, rfl⟩ := hrel
    by_cases hlt : k < cl X
    · have hkc : (k : Int) < X ∧ k < 65536 := by unfold cl at hlt; omega
      obtain ⟨hkx, hk6⟩ := hkc
      have hki : (k : Int) < 65536 := by omega
      have c3 := HA.out.cell k
      rw [mA_at _ _ _ hk6] at c3
      have hl := ct_le p k
      obtain ⟨n, hn⟩ : ∃ n, n = ct p k := ⟨_, rfl⟩
      rw [← hn] at hl ⊢
      have hni : (n : Int) < 65536 := by omega
      have HLT := Lib.hid hlt
      clear hk6 hlt hk hl
      cases hp : p k
      · rw [hp] at c3
        have HS0 : ct p (k + 1) = n := by rw [ct, hp, hn]; rfl
        have HS := Lib.hid HS0
        clear HS0 hp hn
        go_wp2
        go_round
        case rel => exact ⟨k + 1, HLT.out, by go_num, by rw [HS.out]⟩
        case measure => have := HLT.out; simp [intOf]; omega
      · rw [hp] at c3
        have HS0 : ct p (k + 1) = n + 1 := by rw [ct, hp, hn]; rfl
        have HS := Lib.hid HS0
        clear HS0 hp hn
        go_wp2
        go_round
        case rel => exact ⟨k + 1, HLT.out, by go_num, by rw [HS.out]; first | done | go_num⟩
        case measure => have := HLT.out; simp [intOf]; omega
    · have hke : k = cl X := by omega
      rcases Int.lt_or_le (k : Int) X with hc | hc
      · have h6 : k = 65536 := by rcases cl_stop X hke with h | h; omega; exact h
        obtain ⟨n, hn⟩ : ∃ n, n = ct p k := ⟨_, rfl⟩
        have HN := Lib.hid (show n = ct p (cl X) by rw [hn, ← hke])
        rw [← hn]
        clear hn hke hlt hk
        have h7 : (k : Int) = 65536 := by omega
        have h8 : ¬ (k : Int) < 65536 := by omega
        clear h6 h7
        go_wp2
        go_ret
        exact ⟨by rw [← HN.out]; rfl, rfl⟩
      · have h8 : ¬ (k : Int) < X := by omega
        obtain ⟨n, hn⟩ : ∃ n, n = ct p k := ⟨_, rfl⟩
        have HN := Lib.hid (show n = ct p (cl X) by rw [hn, ← hke])
        rw [← hn]
        clear hn hke hlt hk
        go_wp2
        go_ret
        exact ⟨by rw [← HN.out]; rfl, rfl⟩

/-- The word at a place. -/
def at64 (l : List UInt64) (k : Nat) : UInt64 := l.getD k 0
theorem at64_get {l : List UInt64} {k : Nat} (h : k < l.length) : l[k]? = some (at64 l k) := by rw [List.getElem?_eq_getElem h]; simp [at64, List.getD, h]
theorem take_succ64 {l m : List UInt64} {k : Nat} (hl : k < l.length) (hm : k < m.length) (h : l.take k = m.take k) (he : at64 l k = at64 m k) : l.take (k + 1) = m.take (k + 1) := by
  rw [List.take_add_one, List.take_add_one, h, at64_get hl, at64_get hm, he]

set_option maxHeartbeats 1000000 in
theorem same64_any (v u : Value) (l m : List UInt64) (lo hi lo' hi' : Nat) (W : World) (hv : Gs e64 W lo hi v l) (hu : Gs e64 W lo' hi' u m) :
    Calls Tryd.prog 12 #[v, u] W fun e w' => e = .returned (.bool (decide (l = m))) ∧ ∃ n, w' = W.drewN n := by
  have hlen := hv.len
  have hv0 := hv
  have hu0 := hu
  obtain ⟨A, c, rfl, -⟩ := hv
  obtain ⟨B, d, rfl, -⟩ := hu
  have HV := Lib.hid hv0
  have HU := Lib.hid hu0
  clear hv0 hu0
  by_cases hlm : l.length = m.length
  · obtain ⟨n, hn⟩ : ∃ n, n = l.length := ⟨_, rfl⟩
    have HN := Lib.hid hn
    have HM := Lib.hid (hn.trans hlm)
    rw [← hlm, ← hn]
    rw [← hn] at hlen
    clear hn hlm
    go_enter Tryd.func12, Tryd.ntmps12
    go_wp2
    go_loopw [5] (fun i wr => ∃ k q : Nat, k ≤ n ∧ i = .int .i64 k ∧ wr = W.drewN q ∧ l.take k = m.take k) (fun i _ => n - (intOf i).toNat)
    case atStart => exact ⟨0, 0, Nat.zero_le _, rfl, rfl, rfl⟩
    case round =>
      obtain ⟨k, q, hk, rfl, rfl, ht⟩ := hrel
      by_cases hlt : k < n
      · have hkl : k < l.length := by have := HN.out; omega
        have hkm : k < m.length := by have := HM.out; omega
        obtain ⟨b1, o1, c1, e1, -, -, -, -, hc1⟩ := HV.out.form (by rintro rfl; simp at hkl)
        rw [← HN.out] at e1
        injection e1 with e1 _ e2
        subst e1 e2
        obtain ⟨b2, o2, c2, e1, -, -, -, -, hc2⟩ := HU.out.form (by rintro rfl; simp at hkm)
        rw [← HM.out] at e1
        injection e1 with e1 _ e2
        subst e1 e2
        have k1 := hc1 k _ (at64_get hkl)
        have k2 := hc2 k _ (at64_get hkm)
        simp only [e64, b64] at k1 k2
        obtain ⟨x, hx⟩ : ∃ x : Int, x = ((at64 l k).toNat : Int) := ⟨_, rfl⟩
        obtain ⟨y, hy⟩ : ∃ y : Int, y = ((at64 m k).toNat : Int) := ⟨_, rfl⟩
        have hxy : x = y ↔ at64 l k = at64 m k := by rw [hx, hy, ← UInt64.toNat_inj]; omega
        rw [← hx] at k1
        rw [← hy] at k2
        clear hc1 hc2 hx hy
        by_cases he : x = y
        · have HT := Lib.hid (take_succ64 hkl hkm ht (hxy.1 he))
          subst he
          clear ht hxy hkl hkm
          go_wp2
          go_quiet (fail)
          go_wp2
          go_roundw
          case rel => exact ⟨k + 1, _, hlt, by go_num, rfl, HT.out⟩
          case measure => simp [intOf]; omega
        · have hF : decide (l = m) = false := decide_eq_false (by rintro rfl; exact he (hxy.2 rfl))
          have HF := Lib.hid hF
          clear ht hxy hF hkl hkm
          go_wp2
          go_quiet (fail)
          go_wp2
          go_ret
          exact ⟨by rw [HF.out]; rfl, _, World.drewN_drewN ..⟩
      · obtain rfl : k = n := by omega
        have hT : decide (l = m) = true := decide_eq_true (by have := HN.out; have := HM.out; rwa [List.take_of_length_le (by omega), List.take_of_length_le (by omega)] at ht)
        have HT := Lib.hid hT
        clear hT ht
        go_wp2
        go_ret
        exact ⟨by rw [HT.out]; rfl, _, rfl⟩
  · have hF : decide (l = m) = false := decide_eq_false (by rintro rfl; exact hlm rfl)
    have HF := Lib.hid hF
    have hlm2 := HU.out.len
    have hlmi : ¬ (l.length : Int) = m.length := by omega
    have q1 : decide ((l.length : Int) = m.length) = false := decide_eq_false hlmi
    have q2 : ((l.length : Int) == m.length) = false := beq_false_of_ne hlmi
    have q3 : ((l.length : Int) != m.length) = true := by simp [bne, q2]
    clear hF
    go_enter Tryd.func12, Tryd.ntmps12
    go_wp2
    go_ret
    exact ⟨by rw [HF.out]; rfl, 0, rfl⟩

theorem same64_b (v u : Value) (l m : List UInt64) (lo hi lo' hi' : Nat) (W : World) (hv : Gs e64 W lo hi v l) (hu : Gs e64 W lo' hi' u m) :
    Calls Tryd.prog 12 #[v, u] W fun e w' => e = .returned (.bool (decide (l = m))) ∧ Below W.heap.size W w' :=
  (same64_any v u l m lo hi lo' hi' W hv hu).mono fun e w' ⟨h1, n, h2⟩ => ⟨h1, h2 ▸ below_drew n⟩
end Go.Proofs.YtgegpbchjkfdkaaDoor
