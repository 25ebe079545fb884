/- Plain mathematics: the sum of bytes (CRC-32), bit by bit; it is linear; one bit changed is seen. No Go in sight. -/
import Derived.WalkKit
namespace Go.Proofs.Ytdeiphimfpckaaa

/-- One bit. -/
def c1 (x : Nat) : Nat := if x % 2 = 1 then x / 2 ^^^ 3988292384 else x / 2
def cn : Nat → Nat → Nat
  | 0, x => x
  | k + 1, x => c1 (cn k x)
def c8 (x : Nat) : Nat := cn 8 x
/-- The number behind the bytes l, from x on. -/
def cr (x : Nat) (l : List UInt8) : Nat := l.foldl (fun x b => c8 (x ^^^ b.toNat)) x
/-- The sum. -/
def crc (l : List UInt8) : Nat := 4294967295 - cr 4294967295 l

theorem xor_mod2 (x y : Nat) : (x ^^^ y) % 2 = (x % 2 + y % 2) % 2 := by
  have h := Nat.xor_mod_two_pow (a := x) (b := y) (n := 1)
  simp only [Nat.pow_one] at h
  rw [h]
  rcases Nat.mod_two_eq_zero_or_one x with hx | hx <;> rcases Nat.mod_two_eq_zero_or_one y with hy | hy <;> rw [hx, hy] <;> rfl
theorem xor_div2 (x y : Nat) : (x ^^^ y) / 2 = x / 2 ^^^ y / 2 := Nat.xor_div_two
theorem xor_zero_eq {a b : Nat} (h : a ^^^ b = 0) : a = b := by
  have h2 := congrArg (fun t => t ^^^ b) h
  simp only [Nat.xor_assoc, Nat.xor_self, Nat.xor_zero, Nat.zero_xor] at h2
  exact h2
theorem xor4 (a b p : Nat) : (a ^^^ p) ^^^ (b ^^^ p) = a ^^^ b := by
  rw [Nat.xor_assoc, Nat.xor_comm p, Nat.xor_assoc, Nat.xor_self, Nat.xor_zero]
theorem c1_xor (x y : Nat) : c1 (x ^^^ y) = c1 x ^^^ c1 y := by
  unfold c1
  rw [xor_mod2, xor_div2]
  by_cases hx : x % 2 = 1 <;> by_cases hy : y % 2 = 1
  · rw [if_pos hx, if_pos hy, if_neg (by omega), xor4]
  · rw [if_pos hx, if_neg hy, if_pos (by omega), Nat.xor_assoc, Nat.xor_assoc, Nat.xor_comm (y / 2)]
  · rw [if_neg hx, if_pos hy, if_pos (by omega), Nat.xor_assoc]
  · rw [if_neg hx, if_neg hy, if_neg (by omega)]
theorem cn_xor (k x y : Nat) : cn k (x ^^^ y) = cn k x ^^^ cn k y := by
  induction k with
  | zero => rfl
  | succ k ih => rw [cn, cn, cn, ih, c1_xor]
theorem c8_xor (x y : Nat) : c8 (x ^^^ y) = c8 x ^^^ c8 y := cn_xor 8 x y
theorem c1_lt (x : Nat) (h : x < 4294967296) : c1 x < 4294967296 := by
  unfold c1
  split
  · exact Nat.xor_lt_two_pow (n := 32) (by omega) (by omega)
  · omega
theorem cn_lt (k x : Nat) (h : x < 4294967296) : cn k x < 4294967296 := by
  induction k with
  | zero => exact h
  | succ k ih => exact c1_lt _ ih
theorem c8_lt (x : Nat) (h : x < 4294967296) : c8 x < 4294967296 := cn_lt 8 x h
theorem c1_zero (x : Nat) (h : x < 4294967296) (h0 : c1 x = 0) : x = 0 := by
  unfold c1 at h0
  split at h0
  · exfalso
    have hb : (x / 2 ^^^ 3988292384).testBit 31 = true := by
      rw [Nat.testBit_xor, Nat.testBit_lt_two_pow (by omega)]
      decide
    rw [h0] at hb
    simp at hb
  · omega
theorem cn_zero (k x : Nat) (h : x < 4294967296) (h0 : cn k x = 0) : x = 0 := by
  induction k with
  | zero => exact h0
  | succ k ih => exact ih (c1_zero _ (cn_lt k x h) h0)
theorem c8_zero (x : Nat) (h : x < 4294967296) (h0 : c8 x = 0) : x = 0 := cn_zero 8 x h h0
theorem cr_nil (x : Nat) : cr x [] = x := rfl
theorem cr_cons (x : Nat) (b : UInt8) (l : List UInt8) : cr x (b :: l) = cr (c8 (x ^^^ b.toNat)) l := by simp only [cr, List.foldl_cons]
theorem cr_snoc (x : Nat) (l : List UInt8) (b : UInt8) : cr x (l ++ [b]) = c8 (cr x l ^^^ b.toNat) := by simp only [cr, List.foldl_append, List.foldl_cons, List.foldl_nil]
theorem byte_lt (b : UInt8) : b.toNat < 4294967296 := by have := b.toNat_lt; omega
theorem xor_lt32 {x y : Nat} (hx : x < 4294967296) (hy : y < 4294967296) : x ^^^ y < 4294967296 := Nat.xor_lt_two_pow (n := 32) (by omega) (by omega)
theorem cr_lt (x : Nat) (l : List UInt8) (h : x < 4294967296) : cr x l < 4294967296 := by
  induction l generalizing x with
  | nil => exact h
  | cons b l ih => exact ih _ (c8_lt _ (xor_lt32 h (byte_lt b)))
/-- 4294967295 less a number of 32 bits turns all its bits round. -/
theorem not32 (x : Nat) (h : x < 4294967296) : 4294967295 - x = x ^^^ 4294967295 := by
  have h1 : x ^^^ 4294967295 = (BitVec.ofNat 32 x ^^^ BitVec.ofNat 32 4294967295).toNat := by
    rw [BitVec.toNat_xor, BitVec.toNat_ofNat, BitVec.toNat_ofNat, Nat.mod_eq_of_lt (by omega), Nat.mod_eq_of_lt (by omega)]
  have h2 : (BitVec.ofNat 32 x ^^^ BitVec.ofNat 32 4294967295) = ~~~ BitVec.ofNat 32 x := by
    rw [show BitVec.ofNat 32 4294967295 = BitVec.allOnes 32 from by decide, BitVec.xor_allOnes]
  rw [h1, h2, BitVec.toNat_not, BitVec.toNat_ofNat, Nat.mod_eq_of_lt (by omega)]
theorem crc_xor (l : List UInt8) : crc l = cr 4294967295 l ^^^ 4294967295 := not32 _ (cr_lt _ l (by omega))
theorem crc_lt (l : List UInt8) : crc l < 4294967296 := by unfold crc; omega
/-- Two rows of one length, xored byte by byte. -/
theorem cr_zip (a b : List UInt8) (x y : Nat) (h : a.length = b.length) : cr (x ^^^ y) (List.zipWith (· ^^^ ·) a b) = cr x a ^^^ cr y b := by
  induction a generalizing b x y with
  | nil =>
    cases b with
    | nil => rfl
    | cons _ _ => simp at h
  | cons u a ih =>
    cases b with
    | nil => simp at h
    | cons v b =>
      rw [List.zipWith_cons_cons, cr_cons, cr_cons, cr_cons, ← ih b _ _ (by simpa using h), ← c8_xor]
      congr 2
      rw [UInt8.toNat_xor, Nat.xor_assoc, Nat.xor_assoc]
      congr 1
      rw [← Nat.xor_assoc, Nat.xor_comm y, Nat.xor_assoc]
/-- The sums of three rows of one length, xored, are the sum of the three xored byte by byte. -/
theorem crc_three (a b c x : List UInt8) (h1 : a.length = b.length) (h2 : a.length = c.length) (hx : x = List.zipWith (· ^^^ ·) (List.zipWith (· ^^^ ·) a b) c) : crc a ^^^ crc b ^^^ crc c = crc x := by
  have h3 : (List.zipWith (· ^^^ ·) a b).length = c.length := by rw [List.length_zipWith, ← h1, Nat.min_self]; exact h2
  have e1 := cr_zip a b 4294967295 4294967295 h1
  have e2 := cr_zip (List.zipWith (· ^^^ ·) a b) c (4294967295 ^^^ 4294967295) 4294967295 h3
  rw [e1, Nat.xor_self, Nat.zero_xor, ← hx] at e2
  rw [crc_xor, crc_xor, crc_xor, crc_xor, e2, xor4]
  exact (Nat.xor_assoc _ _ _).symm
theorem cr_zeros (n : Nat) : cr 0 (List.replicate n 0) = 0 := by
  induction n with
  | zero => rfl
  | succ n ih => rw [List.replicate_succ, cr_cons]; exact ih
theorem cr_zero_only (x n : Nat) (h : x < 4294967296) (h0 : cr x (List.replicate n 0) = 0) : x = 0 := by
  induction n generalizing x with
  | zero => exact h0
  | succ n ih =>
    rw [List.replicate_succ, cr_cons] at h0
    have := ih _ (c8_lt _ (xor_lt32 h (byte_lt 0))) h0
    simp at this
    exact c8_zero _ h this
/-- A byte that is changed changes the sum. -/
theorem crc_set (l : List UInt8) (i : Nat) (hi : i < l.length) (y : UInt8) (hy : y ≠ l[i]) : crc (l.set i y) ≠ crc l := by
  intro h
  have h1 : cr 4294967295 (l.set i y) = cr 4294967295 l := by
    have a := cr_lt 4294967295 (l.set i y) (by omega)
    have b := cr_lt 4294967295 l (by omega)
    unfold crc at h
    omega
  have split : ∀ z : UInt8, cr 4294967295 (l.set i z) = cr (c8 (cr 4294967295 (l.take i) ^^^ z.toNat)) (l.drop (i + 1)) := by
    intro z
    rw [List.set_eq_take_append_cons_drop, if_pos hi]
    simp only [cr, List.foldl_append, List.foldl_cons]
  have h2 := split y
  have h3 := split l[i]
  rw [List.set_getElem_self] at h3
  rw [h1, h3] at h2
  have e := cr_zip (l.drop (i + 1)) (l.drop (i + 1)) (c8 (cr 4294967295 (l.take i) ^^^ (l[i]).toNat)) (c8 (cr 4294967295 (l.take i) ^^^ y.toNat)) rfl
  rw [h2, Nat.xor_self] at e
  have hz : List.zipWith (· ^^^ ·) (l.drop (i + 1)) (l.drop (i + 1)) = List.replicate (l.drop (i + 1)).length 0 := by
    apply List.ext_getElem
    · simp
    · intro j h1 h2
      simp
  rw [hz] at e
  have hp := cr_lt 4294967295 (l.take i) (by omega)
  have hA := c8_lt _ (xor_lt32 hp (byte_lt l[i]))
  have hB := c8_lt _ (xor_lt32 hp (byte_lt y))
  have e2 := cr_zero_only _ _ (xor_lt32 hA hB) e
  rw [← c8_xor] at e2
  have e3 := c8_zero _ (xor_lt32 (xor_lt32 hp (byte_lt l[i])) (xor_lt32 hp (byte_lt y))) e2
  have e4 : (cr 4294967295 (l.take i) ^^^ (l[i]).toNat) ^^^ (cr 4294967295 (l.take i) ^^^ y.toNat) = (l[i]).toNat ^^^ y.toNat := by
    rw [Nat.xor_comm (cr 4294967295 (l.take i)), Nat.xor_comm (cr 4294967295 (l.take i)), xor4]
  rw [e4] at e3
  exact hy (UInt8.toNat_inj.1 (xor_zero_eq e3).symm)
/-- A byte at once, by the sums of single bytes. -/
theorem c1_even (y : Nat) : c1 (2 * y) = y := by
  unfold c1
  rw [if_neg (by omega)]
  omega
theorem c8_high (y : Nat) : c8 (256 * y) = y := by
  have e : 256 * y = 2 * (2 * (2 * (2 * (2 * (2 * (2 * (2 * y))))))) := by omega
  rw [e]
  simp only [c8, cn, c1_even]
theorem split8 (x : Nat) : x = (x % 256) ^^^ (256 * (x / 256)) := by
  have h := Nat.two_pow_add_eq_or_of_lt (i := 8) (show x % 256 < 2 ^ 8 by omega) (x / 256)
  have h2 := Nat.div_add_mod x 256
  apply Nat.eq_of_testBit_eq
  intro i
  rw [Nat.testBit_xor]
  have hm : (x % 256).testBit i = (decide (i < 8) && x.testBit i) := by rw [show (256 : Nat) = 2 ^ 8 from rfl, Nat.testBit_mod_two_pow]
  have hd : (256 * (x / 256)).testBit i = (decide (8 ≤ i) && x.testBit i) := by
    rw [show (256 : Nat) = 2 ^ 8 from rfl, Nat.testBit_two_pow_mul, Nat.testBit_div_two_pow]
    by_cases h8 : 8 ≤ i
    · simp [h8]
    · simp [h8]
  rw [hm, hd]
  by_cases h8 : i < 8
  · simp [h8, show ¬ 8 ≤ i from by omega]
  · simp [h8, show 8 ≤ i from by omega]
theorem c8_table (x : Nat) : c8 x = c8 (x % 256) ^^^ (x / 256) := by
  conv => lhs; rw [split8 x, c8_xor, c8_high]
end Go.Proofs.Ytdeiphimfpckaaa
