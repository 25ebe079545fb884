/- Plain mathematics: what is framed is had again; a byte changed is told; what is cut is short. -/
import Derived.Test.YtdeiphimfpckaaaC7
namespace Go.Proofs.Ytdeiphimfpckaaa
set_option linter.unusedVariables false

theorem le4_leVal (N : Nat) (h : N < 4294967296) : leVal (le 4 N) = N := leVal_le 4 N (by omega)
theorem fr_take4 (b y : List UInt8) : (fr b ++ y).take 4 = le 4 b.length := by
  unfold fr
  have h4 := le_length 4 b.length
  rw [List.append_assoc, List.append_assoc, List.take_append_of_le_length (by omega), List.take_of_length_le (by omega)]
theorem fr_len (b y : List UInt8) : (fr b ++ y).length = b.length + 8 + y.length := by rw [List.length_append, fr_length]
theorem fr_szE (b y : List UInt8) (hb : b.length ≤ 1000000) : szE (fr b ++ y) = 0 := by
  unfold szE
  rw [fr_len, fr_take4, le4_leVal _ (by omega), if_neg (by omega), if_neg (by omega), if_neg (by omega)]
theorem fr_szN (b y : List UInt8) (hb : b.length ≤ 1000000) : szN (fr b ++ y) = b.length := by
  unfold szN
  rw [fr_len, fr_take4, le4_leVal _ (by omega), if_neg (by omega), if_neg (by omega), if_neg (by omega)]
theorem fr_in (b y : List UInt8) : ((fr b ++ y).drop 4).take b.length = b := by
  unfold fr
  have h4 := le_length 4 b.length
  rw [List.append_assoc, List.append_assoc, List.drop_append_of_le_length (by omega), List.drop_of_length_le (by omega), List.nil_append, List.take_append_of_le_length (by omega), List.take_of_length_le (by omega)]
theorem fr_behind (b y : List UInt8) : (fr b ++ y).drop (4 + b.length) = le 4 (crc b) ++ y := by
  unfold fr
  have h4 := le_length 4 b.length
  have h : (le 4 b.length ++ b).length = 4 + b.length := by rw [List.length_append]; omega
  rw [List.append_assoc (le 4 b.length ++ b), ← h, List.drop_left]
theorem fn_le4 (N : Nat) (h : N < 4294967296) (y : List UInt8) : fn (le 4 N ++ y) = N := by
  have h4 := le_length 4 N
  unfold fn
  rw [if_neg (by rw [List.length_append]; omega), List.take_append_of_le_length (by omega), List.take_of_length_le (by omega), le4_leVal N h]

/-- What is framed, with anything ahead and behind. -/
theorem un_back (x b y : List UInt8) (hb : b.length ≤ 1000000) : unE (x ++ (fr b ++ y)) x.length = 0 ∧ unX (x ++ (fr b ++ y)) x.length = b ∧ unN (x ++ (fr b ++ y)) x.length = (x.length : Int) + 4 + b.length + 4 := by
  have d0 : ∀ k, (x ++ (fr b ++ y)).drop (x.length + k) = (fr b ++ y).drop k := fun k => by rw [← List.drop_drop, List.drop_left]
  have d1 := d0 0
  rw [Nat.add_zero, List.drop_zero] at d1
  have hE : unE (x ++ (fr b ++ y)) x.length = 0 := by
    unfold unE
    rw [if_neg (by simp; omega), Int.toNat_natCast, d1, if_neg (by rw [fr_szE b y hb]; omega), fr_szN b y hb, Nat.add_assoc, d0, fr_behind, d0, fr_in, fn_le4 _ (crc_lt b), if_neg (by simp)]
  refine ⟨hE, ?_, ?_⟩
  · unfold unX
    rw [if_pos hE, Int.toNat_natCast, d0, d1, fr_szN b y hb, fr_in]
  · unfold unN
    rw [if_pos hE, Int.toNat_natCast, d1, fr_szN b y hb]

theorem le4_inj (a b : Nat) (ha : a < 4294967296) (hb : b < 4294967296) (h : le 4 a = le 4 b) : a = b := by
  rw [← le4_leVal a ha, h, le4_leVal b hb]
/-- Bytes tell their number apart. -/
theorem leVal_inj (a b : List UInt8) (hl : a.length = b.length) (h : leVal a = leVal b) : a = b := by
  induction a generalizing b with
  | nil => cases b with
    | nil => rfl
    | cons _ _ => cases hl
  | cons p a ih => cases b with
    | nil => cases hl
    | cons q b =>
      simp only [leVal] at h
      have hp := p.toNat_lt
      have hq := q.toNat_lt
      have h1 : p.toNat = q.toNat := by omega
      have h2 : leVal a = leVal b := by omega
      rw [UInt8.toNat_inj.1 h1, ih b (by simpa using hl) h2]

/-- A byte of the contents or of the sum is another one. -/
theorem un_flip (b : List UInt8) (hb : b.length ≤ 1000000) (i : Nat) (h4 : 4 ≤ i) (hi : i < b.length + 8) (u : UInt8) (hu : ∀ o, (fr b)[i]? = some o → u ≠ o) : unE ((fr b).set i u) 0 = 6 := by
  have hf : fr b = le 4 b.length ++ (b ++ le 4 (crc b)) := by unfold fr; rw [List.append_assoc]
  have hl4 := le_length 4 b.length
  have hl4' := le_length 4 (crc b)
  have hcl := crc_lt b
  -- the first four bytes stand
  have hs : (fr b).set i u = le 4 b.length ++ (b ++ le 4 (crc b)).set (i - 4) u := by
    rw [hf, List.set_append, if_neg (by omega), hl4]
  have hT : ((fr b).set i u).take 4 = le 4 b.length := by rw [hs, List.take_append_of_le_length (by omega), List.take_of_length_le (by omega)]
  have hL : ((fr b).set i u).length = b.length + 8 := by rw [List.length_set, fr_length]
  have hE0 : szE ((fr b).set i u) = 0 := by
    unfold szE
    rw [hL, hT, le4_leVal _ (by omega), if_neg (by omega), if_neg (by omega), if_neg (by omega)]
  have hN0 : szN ((fr b).set i u) = b.length := by
    unfold szN
    rw [hL, hT, le4_leVal _ (by omega), if_neg (by omega), if_neg (by omega), if_neg (by omega)]
  have hD : ((fr b).set i u).drop 4 = (b ++ le 4 (crc b)).set (i - 4) u := by rw [hs, List.drop_append_of_le_length (by omega), List.drop_of_length_le (by omega), List.nil_append]
  unfold unE
  rw [if_neg (by simp), show (0 : Int).toNat = 0 from rfl, List.drop_zero, if_neg (by omega), hN0, Nat.zero_add, ← List.drop_drop, hD, if_pos]
  by_cases hin : i - 4 < b.length
  · rw [List.set_append, if_pos hin, List.take_append_of_le_length (by rw [List.length_set]; omega), List.take_of_length_le (by rw [List.length_set]; omega),
      List.drop_append_of_le_length (by rw [List.length_set]; omega), List.drop_of_length_le (by rw [List.length_set]; omega), List.nil_append]
    have := fn_le4 (crc b) hcl []
    rw [List.append_nil] at this
    rw [this]
    refine fun e => crc_set b (i - 4) hin u (hu _ ?_) e.symm
    rw [hf, List.getElem?_append_right (by omega), hl4, List.getElem?_append_left hin, List.getElem?_eq_getElem hin]
  · rw [List.set_append, if_neg hin, List.take_append_of_le_length (by omega), List.take_of_length_le (by omega), List.drop_append_of_le_length (by omega), List.drop_of_length_le (by omega), List.nil_append]
    have hj : i - 4 - b.length < 4 := by omega
    have hlen : ((le 4 (crc b)).set (i - 4 - b.length) u).length = 4 := by rw [List.length_set, hl4']
    unfold fn
    rw [if_neg (by omega), List.take_of_length_le (by omega)]
    intro e
    rw [← le4_leVal (crc b) hcl] at e
    rw [le4_leVal (crc b) hcl] at e
    have e2 : leVal ((le 4 (crc b)).set (i - 4 - b.length) u) = leVal (le 4 (crc b)) := by rw [le4_leVal _ hcl]; exact e
    have e3 := leVal_inj _ _ (by rw [hlen, hl4']) e2
    have hj' : i - 4 - b.length < (le 4 (crc b)).length := by omega
    have e4 : ((le 4 (crc b)).set (i - 4 - b.length) u)[i - 4 - b.length]? = some u := by rw [List.getElem?_set_self hj']
    rw [e3] at e4
    refine hu u ?_ rfl
    rw [hf, List.getElem?_append_right (by omega), hl4, List.getElem?_append_right (by omega), e4]

/-- What is cut is short. -/
theorem un_cut (b : List UInt8) (hb : b.length ≤ 1000000) (n : Nat) (hn : n < b.length + 8) : unE ((fr b).take n) 0 = 4 := by
  have hL : ((fr b).take n).length = n := by rw [List.length_take, fr_length]; omega
  have hE0 : szE ((fr b).take n) = 4 := by
    unfold szE
    rw [hL]
    by_cases h : n < 4
    · rw [if_pos h]
    · have := fr_take4 b []
      rw [List.append_nil] at this
      rw [if_neg h, List.take_take, Nat.min_eq_left (by omega), this, le4_leVal _ (by omega), if_neg (by omega), if_pos hn]
  unfold unE
  rw [if_neg (by simp), show (0 : Int).toNat = 0 from rfl, List.drop_zero, if_pos (by omega), hE0]
end Go.Proofs.Ytdeiphimfpckaaa
