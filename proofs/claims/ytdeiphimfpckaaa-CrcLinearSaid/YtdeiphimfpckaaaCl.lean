/- Walks: the law CrcLinear. -/
import Derived.Test.YtdeiphimfpckaaaCm
import Derived.Test.YtdeiphimfpckaaaC9
import Derived.Deep.RegionWith
import Derived.BigRegion
namespace Go.Proofs.Ytdeiphimfpckaaa
open Go.RowKit
set_option linter.unusedVariables false

theorem run_min4 (w : World) (ts : Array TypeId) (t : TypeId) (x y z u n : Int) (h : n = min (min (min x y) z) u) : (Builtin.min_ ts t #[.int .i64 x, .int .i64 y, .int .i64 z, .int .i64 u]).run Try.prog w = .ok (.int .i64 n) w := by
  subst h
  have e : ∀ a b : Int, (if b < a then b else a) = min a b := fun a b => by split <;> omega
  simp [Builtin.min_, Builtin.min2, e]

/-- The three rows, xored byte by byte. -/
def x3 (a b c : List UInt8) : List UInt8 := List.zipWith (· ^^^ ·) (List.zipWith (· ^^^ ·) a b) c
theorem x3_len (a b c : List UInt8) (n : Nat) (ha : a.length = n) (hb : b.length = n) (hc : c.length = n) : (x3 a b c).length = n := by
  unfold x3
  rw [List.length_zipWith, List.length_zipWith]
  omega
theorem x3_at (a b c : List UInt8) (k : Nat) (p q r : UInt8) (ha : a[k]? = some p) (hb : b[k]? = some q) (hc : c[k]? = some r) : (x3 a b c)[k]? = some (p ^^^ q ^^^ r) := by
  unfold x3
  rw [List.getElem?_zipWith, List.getElem?_zipWith, ha, hb, hc]
theorem u8_xor (p q r : UInt8) : bits .xor .u8 (bits .xor .u8 (p.toNat : Int) (q.toNat : Int)) (r.toNat : Int) = ((p ^^^ q ^^^ r).toNat : Int) := by
  have hp := p.toNat_lt
  have hq := q.toNat_lt
  have hr := r.toNat_lt
  have hx : p.toNat ^^^ q.toNat < 2 ^ 8 := Nat.xor_lt_two_pow (by omega) (by omega)
  rw [bits_xor_u8 _ _ (by omega) (by omega), bits_xor_u8 _ _ (by omega) (by omega), UInt8.toNat_xor, UInt8.toNat_xor]
/-- A list that is filled from its beginning on. -/
def fill (Z : List UInt8) (n k : Nat) : List UInt8 := Z.take k ++ List.replicate (n - k) 0
theorem fill_zero (Z : List UInt8) (n : Nat) : fill Z n 0 = List.replicate n 0 := by simp [fill]
theorem fill_len (Z : List UInt8) (n k : Nat) (hZ : Z.length = n) (hk : k ≤ n) : (fill Z n k).length = n := by simp [fill]; omega
theorem fill_all (Z : List UInt8) (n : Nat) (hZ : Z.length = n) : fill Z n n = Z := by
  unfold fill
  rw [Nat.sub_self, List.replicate_zero, List.append_nil, List.take_of_length_le (by omega)]
theorem fill_succ (Z : List UInt8) (n k : Nat) (hZ : Z.length = n) (hk : k < n) (y : UInt8) (hy : Z[k]? = some y) : (fill Z n k).set k y = fill Z n (k + 1) := by
  unfold fill
  have hl : (Z.take k).length = k := by simp; omega
  rw [List.set_append, if_neg (by omega), hl, Nat.sub_self, show n - k = (n - (k + 1)) + 1 by omega, List.replicate_succ, List.set_cons_zero, take_next Z k y hy, List.append_assoc]
  rfl

set_option maxHeartbeats 4000000 in
set_option maxRecDepth 100000 in
theorem linear_walk (A B C : Option Addr) (c d f : Nat) (x y z : List UInt8) (w : World) (hx : Gs e8 w 0 w.heap.size (.slice A x.length c) x) (hy : Gs e8 w 0 w.heap.size (.slice B y.length d) y) (hz : Gs e8 w 0 w.heap.size (.slice C z.length f) z) :
    Calls Try.prog 7 #[.slice A x.length c, .slice B y.length d, .slice C z.length f] w fun e w' => e = .returned (.bool true) ∧ Below w.heap.size w w' := by
  obtain ⟨n, hn⟩ : ∃ n : Nat, n = min (min (min x.length y.length) z.length) 1000 := ⟨_, rfl⟩
  have hmin := fun W => run_min4 W #[3, 3, 3, 3] 3 x.length y.length z.length 1000 n (by omega)
  have n1 : n ≤ x.length := by omega
  have n2 : n ≤ y.length := by omega
  have n3 : n ≤ z.length := by omega
  have n4 : n ≤ 1000 := by omega
  have hc1 := hx.cap_le
  have hc2 := hy.cap_le
  have hc3 := hz.cap_le
  have m1 : (n : Int) ≤ c := by omega
  have m2 : (n : Int) ≤ d := by omega
  have m3 : (n : Int) ≤ f := by omega
  have hZl : (x3 (x.take n) (y.take n) (z.take n)).length = n := x3_len _ _ _ n (by simp; omega) (by simp; omega) (by simp; omega)
  have hcrc : crc (x.take n) ^^^ crc (y.take n) ^^^ crc (z.take n) = crc (x3 (x.take n) (y.take n) (z.take n)) := crc_three _ _ _ _ (by simp; omega) (by simp; omega) rfl
  obtain ⟨Z, hZ⟩ : ∃ Z, Z = x3 (x.take n) (y.take n) (z.take n) := ⟨_, rfl⟩
  rw [← hZ] at hZl hcrc
  have HZ := Lib.hid hZ
  have HZL := Lib.hid hZl
  have HCR := Lib.hid hcrc
  have HX := Lib.hid hx
  have HY := Lib.hid hy
  have HZZ := Lib.hid hz
  clear hx hy hz hc1 hc2 hc3 hZ hZl hcrc hn
  go_enter Try.func7, Try.ntmps7
  go_wp2_with (at_make; refine wpList_gfull e8 _ rfl _ _ _ rfl sli8 inf8 _ _ _ _ n rfl rfl rfl rfl (by omega) ?_; intro w1 o1 g1; have O1 := Lib.hid o1; have B1 := Lib.hid (below_of_grown g1 (fun k h => by cases h)); clear o1 g1)
  go_loopw [21] (fun i wr => ∃ k : Nat, k ≤ n ∧ i = .int .i64 k ∧ Gw e8 wr w.heap.size (.slice (some ⟨w.heap.size, 0, none⟩) n n) (fill Z n k) ∧ Below w.heap.size w wr) (fun i _ => n - (intOf i).toNat)
  case atStart => exact ⟨0, by omega, rfl, by rw [fill_zero]; exact O1.out, B1.out⟩
  case round =>
    obtain ⟨k, hk, rfl, ok, bk⟩ := hrel
    have OK := Lib.hid ok
    have BK := Lib.hid bk
    clear ok bk
    by_cases hlt : k < n
    · have hfl := fill_len Z n k HZL.out hk
      obtain ⟨p, hp⟩ : ∃ p, x[k]? = some p := ⟨_, List.getElem?_eq_getElem (by omega)⟩
      obtain ⟨q, hq⟩ : ∃ q, y[k]? = some q := ⟨_, List.getElem?_eq_getElem (by omega)⟩
      obtain ⟨r, hr⟩ : ∃ r, z[k]? = some r := ⟨_, List.getElem?_eq_getElem (by omega)⟩
      have hZk : Z[k]? = some (p ^^^ q ^^^ r) := by
        rw [HZ.out]
        exact x3_at _ _ _ k p q r (by rw [List.getElem?_take_of_lt hlt, hp]) (by rw [List.getElem?_take_of_lt hlt, hq]) (by rw [List.getElem?_take_of_lt hlt, hr])
      obtain ⟨bA, oA, cA, eA, -, -, -, -, hA⟩ := (HX.out.below BK.out).form (by rintro rfl; simp at hp)
      injection eA with eA1 _ eA2
      subst eA1 eA2
      obtain ⟨bB, oB, cB, eB, -, -, -, -, hB⟩ := (HY.out.below BK.out).form (by rintro rfl; simp at hq)
      injection eB with eB1 _ eB2
      subst eB1 eB2
      obtain ⟨bC, oC, cC, eC, -, -, -, -, hC⟩ := (HZZ.out.below BK.out).form (by rintro rfl; simp at hr)
      injection eC with eC1 _ eC2
      subst eC1 eC2
      have h1 := hA k p hp
      have h2 := hB k q hq
      have h3 := hC k r hr
      simp only [e8, b8] at h1 h2 h3
      obtain ⟨bO, cO, eO, -, -, -, -, hO, hfz⟩ := OK.out.form (by intro h; rw [h] at hfl; simp at hfl; omega)
      rw [hfl] at eO
      injection eO with eO1 _ eO2
      injection eO1 with eO1
      injection eO1 with eO1
      subst eO1 eO2
      have h4 := hO k ((fill Z n k).getD k 0) (by rw [List.getD_eq_getElem?_getD, List.getElem?_eq_getElem (by omega), Option.getD_some])
      simp only [e8, b8] at h4
      have h5 := hfz k
      have hy := u8_xor p q r
      have hk1 : k < x.length := by omega
      have hk2 : k < y.length := by omega
      have hk3 : k < z.length := by omega
      have HFL := Lib.hid hfl
      have HZK := Lib.hid hZk
      have HXO := Lib.hid hy
      clear hA hB hC hO hfz hp hq hr hfl hZk hy
      go_wp2
      go_region
      go_wp2
      have hst := OK.out.stored k (p ^^^ q ^^^ r)
      simp only [e8, b8] at hst
      rw [fill_succ Z n k HZL.out hlt _ HZK.out] at hst
      rw [HXO.out]
      go_roundw
      case rel => exact ⟨k + 1, by omega, by go_num, hst, BK.out.grown (grown_drewN (grown_set _ _ _ _) 1) BK.out.size (fun j hj => by injection hj with hj; omega)⟩
      case measure => simp [intOf]; omega
    · obtain rfl : k = n := by omega
      have ok := OK.out
      rw [fill_all Z k HZL.out] at ok
      have ca : ∀ W, Below wr.heap.size wr W → Calls Try.prog 10 #[.slice A k c] W fun e w' => e = .returned (.int .u32 (crc (x.take k))) ∧ Below wr.heap.size wr w' := fun W hW =>
        (sum_any _ _ 0 W (((HX.out.below (BK.out.trans (hW.mono BK.out.size))).more (Nat.le_refl _) (Nat.le_trans BK.out.size hW.size)).take n1)).mono (fun e w' h => ⟨h.1, hW.trans (h.2.mono hW.size)⟩)
      have cb : ∀ W, Below wr.heap.size wr W → Calls Try.prog 10 #[.slice B k d] W fun e w' => e = .returned (.int .u32 (crc (y.take k))) ∧ Below wr.heap.size wr w' := fun W hW =>
        (sum_any _ _ 0 W (((HY.out.below (BK.out.trans (hW.mono BK.out.size))).more (Nat.le_refl _) (Nat.le_trans BK.out.size hW.size)).take n2)).mono (fun e w' h => ⟨h.1, hW.trans (h.2.mono hW.size)⟩)
      have cc : ∀ W, Below wr.heap.size wr W → Calls Try.prog 10 #[.slice C k f] W fun e w' => e = .returned (.int .u32 (crc (z.take k))) ∧ Below wr.heap.size wr w' := fun W hW =>
        (sum_any _ _ 0 W (((HZZ.out.below (BK.out.trans (hW.mono BK.out.size))).more (Nat.le_refl _) (Nat.le_trans BK.out.size hW.size)).take n3)).mono (fun e w' h => ⟨h.1, hW.trans (h.2.mono hW.size)⟩)
      have cd : ∀ W, Below wr.heap.size wr W → Calls Try.prog 10 #[.slice (some ⟨w.heap.size, 0, none⟩) k k] W fun e w' => e = .returned (.int .u32 (crc Z)) ∧ Below wr.heap.size wr w' := fun W hW =>
        (sum_any _ _ _ W ((ok.sl.below hW).more (Nat.le_refl _) hW.size)).mono (fun e w' h => ⟨h.1, hW.trans (h.2.mono hW.size)⟩)
      have CA := Lib.hid ca
      have CB := Lib.hid cb
      have CC := Lib.hid cc
      have CD := Lib.hid cd
      have he : bits .xor .u32 (bits .xor .u32 (crc (x.take k) : Int) (crc (y.take k) : Int)) (crc (z.take k) : Int) = (crc Z : Nat) := by
        have l1 := crc_lt (x.take k)
        have l2 := crc_lt (y.take k)
        have l3 := crc_lt (z.take k)
        rw [bits_xor_u32 _ _ l1 l2, bits_xor_u32 _ _ (xor_lt32 l1 l2) l3, HCR.out]
      clear ca cb cc cd ok
      have BW := Lib.hid (Below.refl wr.heap.size wr).drew
      go_wp2_with fail
      go_region_with (first
        | (go_at_call 10; refine (CA.out _ BW.out).mono ?_; rintro e w2 ⟨rfl, b2⟩; clear BW CA; have BW := Lib.hid b2; clear b2)
        | (go_at_call 10; refine (CB.out _ BW.out).mono ?_; rintro e w2 ⟨rfl, b2⟩; clear BW CB; have BW := Lib.hid b2; clear b2)
        | (go_at_call 10; refine (CC.out _ BW.out).mono ?_; rintro e w2 ⟨rfl, b2⟩; clear BW CC; have BW := Lib.hid b2; clear b2)
        | (go_at_call 10; refine (CD.out _ BW.out).mono ?_; rintro e w2 ⟨rfl, b2⟩; clear BW CD; have BW := Lib.hid b2; clear b2)
        | (go_at_call 8; refine (known_any _).mono ?_; rintro e w7 ⟨rfl, b7⟩))
      all_goals
        go_wp2
        go_ret
        exact ⟨rfl, BK.out.trans ((BW.out.trans (b7.mono BW.out.size)).mono BK.out.size)⟩
end Go.Proofs.Ytdeiphimfpckaaa
