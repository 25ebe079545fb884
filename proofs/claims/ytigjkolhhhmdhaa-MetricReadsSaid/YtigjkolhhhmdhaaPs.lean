/- Plain mathematics: short numbers and how they are read. No Go in sight. -/
import Derived.Test.YtigjkolhhhmdhaaPl
namespace Go.Proofs.Ytigjkolhhhmdhaa

/-- The number whose sevens of bits these are, the lowest first. -/
def val7 : List UInt8 → Nat
  | [] => 0
  | x :: r => x.toNat % 128 + 128 * val7 r
theorem val7_snoc (a : List UInt8) (y : UInt8) : val7 (a ++ [y]) = val7 a + y.toNat % 128 * 2 ^ (7 * a.length) := by
  induction a with
  | nil => simp [val7]
  | cons b r ih =>
    rw [List.cons_append, val7, val7, ih, List.length_cons, show 7 * (r.length + 1) = 7 * r.length + 7 from by omega, Nat.pow_add]
    rw [Nat.mul_add, ← Nat.add_assoc, Nat.mul_left_comm, Nat.mul_comm 128 (2 ^ _), show (2 : Nat) ^ 7 = 128 from rfl]
theorem val7_lt (a : List UInt8) : val7 a < 2 ^ (7 * a.length) := by
  induction a with
  | nil => simp [val7]
  | cons b r ih =>
    rw [val7, List.length_cons, show 7 * (r.length + 1) = 7 * r.length + 7 from by omega, Nat.pow_add]
    omega

/-- Where the first byte below 128 stands among the first f. -/
def stopAt : Nat → List UInt8 → Option Nat
  | 0, _ => none
  | _ + 1, [] => none
  | f + 1, x :: r => if x.toNat < 128 then some 0 else (stopAt f r).map (· + 1)
theorem stopAt_none (f : Nat) (s : List UInt8) (h : stopAt f s = none) : ∀ j y, j < f → s[j]? = some y → 128 ≤ y.toNat := by
  induction f generalizing s with
  | zero => intro j y hj; omega
  | succ f ih =>
    intro j y hj hy
    cases s with
    | nil => simp at hy
    | cons x r =>
      rw [stopAt] at h
      split at h
      · cases h
      · rename_i hx
        simp at h
        cases j with
        | zero => simp at hy; subst hy; omega
        | succ j => exact ih r h j y (by omega) (by simpa using hy)
theorem stopAt_some (f : Nat) (s : List UInt8) (k : Nat) (h : stopAt f s = some k) : k < f ∧ (∀ j y, j < k → s[j]? = some y → 128 ≤ y.toNat) ∧ ∃ y, s[k]? = some y ∧ y.toNat < 128 := by
  induction f generalizing s k with
  | zero => cases h
  | succ f ih =>
    cases s with
    | nil => cases h
    | cons x r =>
      rw [stopAt] at h
      split at h
      · rename_i hx
        injection h with h
        subst h
        exact ⟨by omega, fun j y hj => by omega, x, rfl, hx⟩
      · rename_i hx
        obtain ⟨k', hk, rfl⟩ := Option.map_eq_some_iff.1 h
        obtain ⟨h1, h2, y, h3, h4⟩ := ih r k' hk
        refine ⟨by omega, fun j y hj hy => ?_, y, by simpa using h3, h4⟩
        cases j with
        | zero => simp at hy; subst hy; omega
        | succ j => exact h2 j y (by omega) (by simpa using hy)

/-- The short number that stands at the head of s, and how many bytes it has: (0, 0), if none does. -/
def rdS (s : List UInt8) : Nat × Nat :=
  match stopAt 10 s with
  | none => (0, 0)
  | some k =>
    let n := val7 (s.take (k + 1)) % 18446744073709551616
    if (short n).length ≠ k + 1 then (0, 0) else if k + 1 = 10 ∧ 1 < (s.getD 9 0).toNat then (0, 0) else (n, k + 1)

theorem rdS_stop {s : List UInt8} {k : Nat} (h : stopAt 10 s = some k) : rdS s = if (short (val7 (s.take (k + 1)) % 18446744073709551616)).length ≠ k + 1 then (0, 0) else if k + 1 = 10 ∧ 1 < (s.getD 9 0).toNat then (0, 0) else (val7 (s.take (k + 1)) % 18446744073709551616, k + 1) := by
  unfold rdS
  rw [h]
theorem rdS_none {s : List UInt8} (h : stopAt 10 s = none) : rdS s = (0, 0) := by
  unfold rdS
  rw [h]

theorem short_val7 (q : List UInt8) (a : List UInt8) (y : UInt8) (hq : q = a ++ [y]) (ha : ∀ x ∈ a, 128 ≤ x.toNat) (hy : y.toNat < 128) (hl : (short (val7 q)).length = q.length) : short (val7 q) = q := by
  induction a generalizing q with
  | nil =>
    subst hq
    simp only [List.nil_append, val7]
    rw [Nat.mod_eq_of_lt hy, show y.toNat + 128 * 0 = y.toNat from by omega, short_lt hy]
    simp
  | cons x r ih =>
    subst hq
    rw [List.cons_append] at hl ⊢
    have hx := ha x List.mem_cons_self
    have hx2 := x.toNat_lt
    rw [val7] at hl ⊢
    by_cases h0 : val7 (r ++ [y]) = 0
    · rw [h0, short_lt (by omega)] at hl
      simp at hl
    · rw [short_ge (by omega), show (x.toNat % 128 + 128 * val7 (r ++ [y])) / 128 = val7 (r ++ [y]) from by omega, show (x.toNat % 128 + 128 * val7 (r ++ [y])) % 128 + 128 = x.toNat from by omega] at hl ⊢
      rw [ih (r ++ [y]) rfl (fun z hz => ha z (List.mem_cons_of_mem _ hz)) (by simpa using hl)]
      simp
theorem val7_short (n : Nat) : val7 (short n) = n := by
  induction n using Nat.strongRecOn with
  | ind n ih =>
    by_cases h : n < 128
    · rw [short_lt h]
      simp only [val7, UInt8.toNat_ofNat']
      omega
    · rw [short_ge (by omega), val7, ih (n / 128) (by omega), UInt8.toNat_ofNat']
      omega
theorem short_shape (n : Nat) : ∃ a y, short n = a ++ [y] ∧ (∀ x ∈ a, 128 ≤ x.toNat) ∧ y.toNat < 128 := by
  induction n using Nat.strongRecOn with
  | ind n ih =>
    by_cases h : n < 128
    · refine ⟨[], UInt8.ofNat n, by rw [short_lt h]; rfl, by simp, ?_⟩
      rw [UInt8.toNat_ofNat']
      omega
    · obtain ⟨a, y, e, h1, h2⟩ := ih (n / 128) (by omega)
      refine ⟨UInt8.ofNat (n % 128 + 128) :: a, y, by rw [short_ge (by omega), e]; rfl, ?_, h2⟩
      intro x hx
      rcases List.mem_cons.1 hx with rfl | hx
      · rw [UInt8.toNat_ofNat']; omega
      · exact h1 x hx

/-- A form that stands at the head of s stops where s does. -/
theorem shape_stop (s a : List UInt8) (y : UInt8) (ha : ∀ x ∈ a, 128 ≤ x.toNat) (hy : y.toNat < 128) (hs : s.take (a ++ [y]).length = a ++ [y]) (f : Nat) (hf : a.length < f) : stopAt f s = some a.length := by
  induction a generalizing s f with
  | nil =>
    obtain ⟨f, rfl⟩ : ∃ f', f = f' + 1 := ⟨f - 1, by simp at hf; omega⟩
    cases s with
    | nil => simp at hs
    | cons z r =>
      simp at hs
      subst hs
      rw [stopAt, if_pos hy]; rfl
  | cons x r ih =>
    obtain ⟨f, rfl⟩ : ∃ f', f = f' + 1 := ⟨f - 1, by simp at hf; omega⟩
    cases s with
    | nil => simp at hs
    | cons z t =>
      simp at hs
      obtain ⟨rfl, hs⟩ := hs
      have hx := ha z List.mem_cons_self
      rw [stopAt, if_neg (by omega), ih t (fun w hw => ha w (List.mem_cons_of_mem _ hw)) (by simpa using hs) f (by simp at hf; omega)]
      rfl

theorem take_stop {s : List UInt8} {k : Nat} {y : UInt8} (h2 : ∀ j y, j < k → s[j]? = some y → 128 ≤ y.toNat) (h3 : s[k]? = some y) : s.take (k + 1) = s.take k ++ [y] ∧ (∀ x ∈ s.take k, 128 ≤ x.toNat) ∧ (s.take k).length = k := by
  have hk : k < s.length := by
    rcases Nat.lt_or_ge k s.length with h | h
    · exact h
    · rw [List.getElem?_eq_none h] at h3; cases h3
  refine ⟨take_next s k y h3, fun x hx => ?_, by simp; omega⟩
  obtain ⟨j, hj, rfl⟩ := List.mem_take_iff_getElem.1 hx
  exact h2 j _ (by omega) (List.getElem?_eq_getElem (by omega))

theorem mod_help (D T E X : Nat) (hD : D < E) (hle : T + E ≤ 18446744073709551616) (hm : X % 18446744073709551616 = T) : D + T = (D + X) % 18446744073709551616 := by omega
theorem or_mod (D z e : Nat) (hD : D < 2 ^ e) (he : e ≤ 63) :
    bits BinOp.or IntKind.u64 (D : Int) (IntKind.u64.wrap ((z : Int) * 2 ^ e)) = (((D + z * 2 ^ e) % 18446744073709551616 : Nat) : Int) := by
  have hp : 2 ^ (64 - e) * 2 ^ e = 18446744073709551616 := by rw [← Nat.pow_add, show 64 - e + e = 64 from by omega]
  have hpe : 0 < 2 ^ e := Nat.two_pow_pos e
  have hm : (z * 2 ^ e) % 18446744073709551616 = (z % 2 ^ (64 - e)) * 2 ^ e := by rw [← hp, Nat.mul_mod_mul_right]
  have hlt : z % 2 ^ (64 - e) < 2 ^ (64 - e) := Nat.mod_lt _ (Nat.two_pow_pos _)
  have hle : (z % 2 ^ (64 - e) + 1) * 2 ^ e ≤ 2 ^ (64 - e) * 2 ^ e := Nat.mul_le_mul_right _ hlt
  rw [hp, Nat.add_mul, Nat.one_mul] at hle
  have h1 := or_high D (z % 2 ^ (64 - e)) e hD (by omega) (by omega)
  have e1 : IntKind.u64.wrap ((z : Int) * 2 ^ e) = IntKind.u64.wrap (((z % 2 ^ (64 - e) : Nat) : Int) * 2 ^ e) := by
    have e2 : ((z : Int) * 2 ^ e) = ((z * 2 ^ e : Nat) : Int) := by rw [Int.natCast_mul, Int.natCast_pow]; rfl
    have e3 : (((z % 2 ^ (64 - e) : Nat) : Int) * 2 ^ e) = ((z % 2 ^ (64 - e) * 2 ^ e : Nat) : Int) := by rw [Int.natCast_mul, Int.natCast_pow]; rfl
    rw [IntKind.wrap_u64, IntKind.wrap_u64, e2, e3, ← hm]
    omega
  rw [e1, h1]
  exact congrArg Nat.cast (mod_help D (z % 2 ^ (64 - e) * 2 ^ e) (2 ^ e) (z * 2 ^ e) hD hle hm)
theorem and127_all : ∀ m : Fin 256, IntKind.u64.wrap (bits BinOp.and IntKind.u8 (m.val : Int) 127) = ((m.val % 128 : Nat) : Int) := by decide +kernel
/-- One round of a short number, as the code has it. -/
theorem short_step (s : List UInt8) (k : Nat) (y : UInt8) (z D : Int) (h : s[k]? = some y) (hz : z = (y.toNat : Int)) (hD : D = (val7 (s.take k) : Nat)) (hk : k ≤ 9) :
    bits BinOp.or IntKind.u64 D (IntKind.u64.wrap (IntKind.u64.wrap (bits BinOp.and IntKind.u8 z 127) * 2 ^ (7 * k))) = ((val7 (s.take (k + 1)) % 18446744073709551616 : Nat) : Int) := by
  subst hz hD
  have hkl : k < s.length := by
    rcases Nat.lt_or_ge k s.length with h1 | h1
    · exact h1
    · rw [List.getElem?_eq_none h1] at h; cases h
  have hlen : (s.take k).length = k := by simp; omega
  have hb := val7_lt (s.take k)
  rw [hlen] at hb
  rw [and127_all ⟨y.toNat, y.toNat_lt⟩, take_next s k y h, val7_snoc, hlen]
  exact or_mod _ _ _ hb (by omega)
theorem val7_small (s : List UInt8) (k : Nat) (hk : k ≤ 9) : val7 (s.take k) < 9223372036854775808 := by
  have h := val7_lt (s.take k)
  have h2 : (s.take k).length ≤ k := List.length_take_le _ _
  have : 2 ^ (7 * (s.take k).length) ≤ 2 ^ 63 := Nat.pow_le_pow_right (n := 2) (by omega) (by omega)
  omega

/-- What rdS says: the number whose form stands there, or that none does. -/
theorem rdS_form (s : List UInt8) : ((rdS s).2 ≠ 0 → (rdS s).1 < 18446744073709551616 ∧ (rdS s).2 = (short (rdS s).1).length ∧ s.take (rdS s).2 = short (rdS s).1) ∧
    ((rdS s).2 = 0 → (rdS s).1 = 0 ∧ ∀ m, m < 18446744073709551616 → s.take (short m).length ≠ short m) := by
  have hno : ∀ m, m < 18446744073709551616 → s.take (short m).length = short m → stopAt 10 s = some ((short m).length - 1) ∧ s.take ((short m).length - 1 + 1) = short m := by
    intro m hm h
    obtain ⟨a, y, e, h1, h2⟩ := short_shape m
    have hl := short_length_le m hm
    have hal : (short m).length = a.length + 1 := by rw [e]; simp
    rw [show (short m).length - 1 = a.length from by omega]
    exact ⟨shape_stop s a y h1 h2 (by rw [← e]; exact h) 10 (by omega), by rw [← hal]; exact h⟩
  unfold rdS
  cases hst : stopAt 10 s with
  | none =>
    refine ⟨fun h => absurd rfl h, fun _ => ⟨rfl, fun m hm h => ?_⟩⟩
    have := (hno m hm h).1
    rw [hst] at this
    cases this
  | some k =>
    obtain ⟨hk, h2, y, h3, h4⟩ := stopAt_some 10 s k hst
    obtain ⟨e1, e2, e3⟩ := take_stop h2 h3
    have hno' : ∀ m, m < 18446744073709551616 → s.take (short m).length = short m → s.take (k + 1) = short m ∧ k + 1 = (short m).length ∧ val7 (s.take (k + 1)) = m := by
      intro m hm h
      obtain ⟨g1, g2⟩ := hno m hm h
      rw [hst] at g1
      injection g1 with g1
      rw [← g1] at g2
      have := short_length_pos m
      exact ⟨g2, by omega, by rw [g2, val7_short]⟩
    by_cases c1 : (short (val7 (s.take (k + 1)) % 18446744073709551616)).length ≠ k + 1
    · simp only [if_pos c1]
      refine ⟨fun h => absurd rfl h, fun _ => ⟨trivial, fun m hm h => ?_⟩⟩
      obtain ⟨g2, g3, g4⟩ := hno' m hm h
      rw [g4, Nat.mod_eq_of_lt hm] at c1
      omega
    · simp only [if_neg c1]
      by_cases c2 : k + 1 = 10 ∧ 1 < (s.getD 9 0).toNat
      · simp only [if_pos c2]
        refine ⟨fun h => absurd rfl h, fun _ => ⟨trivial, fun m hm h => ?_⟩⟩
        obtain ⟨g2, g3, g4⟩ := hno' m hm h
        obtain ⟨c3, c4⟩ := c2
        obtain rfl : k = 9 := by omega
        have hy : s.getD 9 0 = y := by simp [List.getD, h3]
        rw [hy] at c4
        rw [e1, val7_snoc, e3] at g4
        omega
      · simp only [if_neg c2]
        have hv : val7 (s.take (k + 1)) < 18446744073709551616 := by
          by_cases h9 : k = 9
          · subst h9
            have hy : s.getD 9 0 = y := by simp [List.getD, h3]
            rw [hy] at c2
            have := val7_lt (s.take 9)
            rw [e3] at this
            rw [e1, val7_snoc, e3]
            omega
          · have hlt := val7_lt (s.take (k + 1))
            have hlen : (s.take (k + 1)).length = k + 1 := by rw [e1, List.length_append, e3]; rfl
            rw [hlen] at hlt
            have : 2 ^ (7 * (k + 1)) ≤ 18446744073709551616 := Nat.pow_le_pow_right (n := 2) (by omega) (show 7 * (k + 1) ≤ 64 by omega)
            omega
        rw [Nat.mod_eq_of_lt hv] at c1 ⊢
        have hlen : (s.take (k + 1)).length = k + 1 := by rw [e1, List.length_append, e3]; rfl
        have hf := short_val7 (s.take (k + 1)) (s.take k) y e1 e2 h4 (by rw [hlen]; omega)
        refine ⟨fun _ => ⟨hv, by rw [hf, hlen], hf.symm⟩, fun h => by simp at h⟩

/-- Where a form stands, it is what is read. -/
theorem rdS_of (s : List UInt8) (m : Nat) (hm : m < 18446744073709551616) (h : s.take (short m).length = short m) : rdS s = (m, (short m).length) := by
  have hf := rdS_form s
  by_cases h0 : (rdS s).2 = 0
  · exact absurd h ((hf.2 h0).2 m hm)
  · obtain ⟨g1, g2, g3⟩ := hf.1 h0
    obtain ⟨a, y, e, h1, h2⟩ := short_shape m
    obtain ⟨a', y', e', h1', h2'⟩ := short_shape (rdS s).1
    have s1 := shape_stop s a y h1 h2 (by rw [← e]; exact h) (a.length + a'.length + 1) (by omega)
    have s2 := shape_stop s a' y' h1' h2' (by rw [← e', ← g2]; exact g3) (a.length + a'.length + 1) (by omega)
    rw [s1] at s2
    injection s2 with s2
    have l1 : (short m).length = a.length + 1 := by rw [e]; simp
    have l2 : (short (rdS s).1).length = a'.length + 1 := by rw [e']; simp
    have l3 : (rdS s).2 = (short m).length := by omega
    rw [l3, h] at g3
    have : (rdS s).1 = m := by rw [← val7_short (rdS s).1, ← g3, val7_short]
    rw [← this] at l3 ⊢
    exact Prod.ext rfl l3
theorem rdS_lt (s : List UInt8) : (rdS s).1 < 18446744073709551616 := by
  have hf := rdS_form s
  by_cases h0 : (rdS s).2 = 0
  · rw [(hf.2 h0).1]; omega
  · exact (hf.1 h0).1
theorem rdS_le (s : List UInt8) : (rdS s).2 ≤ s.length := by
  have hf := rdS_form s
  by_cases h0 : (rdS s).2 = 0
  · omega
  · obtain ⟨g1, g2, g3⟩ := hf.1 h0
    have := congrArg List.length g3
    simp at this
    omega
end Go.Proofs.Ytigjkolhhhmdhaa
