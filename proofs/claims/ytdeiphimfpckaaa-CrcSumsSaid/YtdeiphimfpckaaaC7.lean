/- Walks: what stands framed. -/
import Derived.Test.YtdeiphimfpckaaaC6
import Derived.OwnWalk
namespace Go.Proofs.Ytdeiphimfpckaaa
open Go.RowKit
set_option linter.unusedVariables false

section
variable {α : Type} {k : Elem α} {w : World} {lo hi : Nat} {l : List α} {A : Option Addr} {c : Nat}
/-- Cut on both sides. -/
theorem Gs.mid (h : Gs k w lo hi (.slice A l.length c) l) {p m : Nat} (hm : p + m ≤ l.length) (hc : c ≠ p) : Gs k w lo hi (.slice (A.map fun x => x.add p) m (c - p)) ((l.drop p).take m) := by
  obtain ⟨A', c', e, h0, h1, h2, hb⟩ := h
  injection e with e1 e2 e3
  subst e1 e3
  have hl : ((l.drop p).take m).length = m := by simp; omega
  have hz : m = 0 → (l.drop p).take m = [] := by rintro rfl; simp
  refine ⟨_, _, by rw [hl], fun e => ?_, by omega, by omega, fun hn => ?_⟩
  · cases A with
    | none => have := h0 rfl; omega
    | some a => cases e
  · obtain ⟨b, off, e, x1, x2, hcell⟩ := hb (by rintro rfl; simp at hn)
    subst e
    refine ⟨b, off + p, by simp [Addr.add], x1, x2, fun j x hx => ?_⟩
    rw [List.getElem?_take] at hx
    split at hx
    · rw [List.getElem?_drop] at hx
      have := hcell _ x hx
      rwa [← Nat.add_assoc] at this
    · cases hx
/-- Cut ahead, up to the end. -/
theorem Gs.tail (h : Gs k w lo hi (.slice A l.length c) l) {p : Nat} (hp : p ≤ l.length) (hc : c ≠ p) : Gs k w lo hi (.slice (A.map fun x => x.add p) (l.length - p) (c - p)) (l.drop p) := by
  have := h.mid (p := p) (m := l.length - p) (by omega) hc
  rwa [List.take_of_length_le (by simp)] at this
/-- Nothing is left. -/
theorem Gs.gone (h : Gs k w lo hi (.slice A l.length c) l) {p : Nat} (hp : p ≤ l.length) (hc : c = p) : Gs k w lo hi (.slice A (l.length - p) 0) (l.drop p) := by
  obtain ⟨A', c', e, h0, h1, h2, hb⟩ := h
  injection e with e1 e2 e3
  subst e1 e3
  have hl : l.drop p = [] := by rw [List.drop_eq_nil_iff]; omega
  rw [hl]
  have : l.length - p = 0 := by omega
  rw [this]
  exact ⟨A, 0, rfl, fun _ => rfl, Nat.le_refl _, Nat.zero_le _, fun h => absurd rfl h⟩
theorem Gs.cap_le (h : Gs k w lo hi (.slice A l.length c) l) : l.length ≤ c ∧ c ≤ 9223372036854775807 := by
  obtain ⟨A', c', e, h0, h1, h2, hb⟩ := h
  injection e with e1 e2 e3
  subst e1 e3
  exact ⟨h1, h2⟩
end

set_option maxHeartbeats 1000000 in
theorem unframe_arg (v : Value) (l : List UInt8) (lo : Nat) (a : Int) (w : World) (hv : Gs e8 w lo w.heap.size v l) (ha : a < 0 ∨ (l.length : Int) < a) :
    Calls Try.prog 13 #[v, .int .i64 a] w fun e w' => e = .returned (.tuple #[.slice none 0 0, .int .i64 0, .int .i64 2]) ∧ Below w.heap.size w w' := by
  have hlen := hv.len
  have HV := Lib.hid hv
  obtain ⟨A, c, rfl, -, -, -, -⟩ := hv
  by_cases h : a < 0
  · go_enter Try.func13, Try.ntmps13
    go_wp2
    go_ret3
    exact ⟨rfl, Below.refl _ _⟩
  · have h2 : (l.length : Int) < a := by omega
    go_enter Try.func13, Try.ntmps13
    go_wp2
    go_ret3
    exact ⟨rfl, Below.refl _ _⟩

set_option maxHeartbeats 1000000 in
theorem unframe_no (v : Value) (l : List UInt8) (lo : Nat) (p : Nat) (w : World) (hv : Gs e8 w lo w.heap.size v l) (hp : p ≤ l.length) (E : Nat) (hE : szE (l.drop p) = E) (h0 : E ≠ 0) :
    Calls Try.prog 13 #[v, .int .i64 p] w fun e w' => e = .returned (.tuple #[.slice none 0 0, .int .i64 0, .int .i64 E]) ∧ Below w.heap.size w w' := by
  have hlen := hv.len
  have HV := Lib.hid hv
  obtain ⟨A, c, rfl, -, -, -, -⟩ := hv
  go_enter Try.func13, Try.ntmps13
  go_wp2_with fail
  all_goals
    refine (sizeOf_any _ (l.drop p) lo _ (by first | exact HV.out.gone hp (by assumption) | exact HV.out.tail hp (by assumption))).mono ?_
    rintro e w1 ⟨rfl, b1⟩
    rw [hE]
    go_wp2
    go_ret3
    exact ⟨rfl, b1⟩

set_option maxHeartbeats 1000000 in
set_option maxRecDepth 100000 in
theorem unframe_sum (v : Value) (l : List UInt8) (lo : Nat) (p n : Nat) (w : World) (hv : Gs e8 w lo w.heap.size v l) (hp : p + n + 8 ≤ l.length) (hE : szE (l.drop p) = 0) (hN : szN (l.drop p) = n) (hn : n ≤ 100000) (hl : l.length ≤ 1000000)
    (hs : fn (l.drop (p + 4 + n)) ≠ crc ((l.drop (p + 4)).take n)) :
    Calls Try.prog 13 #[v, .int .i64 p] w fun e w' => e = .returned (.tuple #[.slice none 0 0, .int .i64 0, .int .i64 6]) ∧ Below w.heap.size w w' := by
  have hlen := hv.len
  have HV := Lib.hid hv
  obtain ⟨A, c, rfl, -, -, -, -⟩ := hv
  have hcl := HV.out.cap_le
  have hpl : p ≤ l.length := by omega
  have hli : (l.length : Int) ≤ 1000000 := by omega
  have hpi : (p : Int) + n + 8 ≤ l.length := by omega
  have hpc : (p : Int) + n + 8 ≤ c := by omega
  have hc0 : c ≠ p := by omega
  have hc1 : c ≠ p + 4 := by omega
  have hc2 : c ≠ p + 4 + n := by omega
  have HP := Lib.hid hp
  clear hcl hn hp hl hlen
  have hs' : ¬ ((fn (l.drop (p + 4 + n)) : Int) = crc ((l.drop (p + 4)).take n)) := by omega
  go_enter Try.func13, Try.ntmps13
  go_wp2_with fail
  refine (sizeOf_any _ (l.drop p) lo _ (HV.out.tail (by have := HP.out; omega) hc0)).mono ?_
  rintro e w1 ⟨rfl, b1⟩
  rw [hE, hN]
  have B1 := Lib.hid b1
  clear b1
  go_wp2_with fail
  refine (firstNumber_any _ (l.drop (p + 4 + n)) lo _ (((HV.out.tail (by have := HP.out; omega) hc2).below B1.out).more (Nat.le_refl _) B1.out.size)).mono ?_
  rintro e w2 ⟨rfl, b2⟩
  have B2 := Lib.hid (B1.out.trans (b2.mono B1.out.size))
  clear b2 B1
  go_wp2_with fail
  refine (sum_any _ ((l.drop (p + 4)).take n) lo _ (by exact (((HV.out.mid (p := p + 4) (m := n) (by have := HP.out; omega) hc1).below B2.out).more (Nat.le_refl _) B2.out.size))).mono ?_
  rintro e w3 ⟨rfl, b3⟩
  have B3 := Lib.hid (B2.out.trans (b3.mono B2.out.size))
  clear b3 B2
  go_wp2
  go_ret3
  exact ⟨rfl, B3.out⟩

set_option maxHeartbeats 1000000 in
set_option maxRecDepth 100000 in
theorem unframe_yes (v : Value) (l : List UInt8) (lo : Nat) (p n : Nat) (w : World) (hv : Gs e8 w lo w.heap.size v l) (hp : p + n + 8 ≤ l.length) (hE : szE (l.drop p) = 0) (hN : szN (l.drop p) = n) (hn : n ≤ 100000) (hl : l.length ≤ 1000000)
    (hs : fn (l.drop (p + 4 + n)) = crc ((l.drop (p + 4)).take n)) :
    Calls Try.prog 13 #[v, .int .i64 p] w fun e w' => ∃ A c, e = .returned (.tuple #[.slice A n c, .int .i64 (p + 4 + n + 4), .int .i64 0]) ∧ Gw e8 w' w.heap.size (.slice A n c) ((l.drop (p + 4)).take n) ∧ Below w.heap.size w w' := by
  have hlen := hv.len
  have HV := Lib.hid hv
  obtain ⟨A, c, rfl, -, -, -, -⟩ := hv
  have hcl := HV.out.cap_le
  have hpl : p ≤ l.length := by omega
  have hli : (l.length : Int) ≤ 1000000 := by omega
  have hpi : (p : Int) + n + 8 ≤ l.length := by omega
  have hpc : (p : Int) + n + 8 ≤ c := by omega
  have hc0 : c ≠ p := by omega
  have hc1 : c ≠ p + 4 := by omega
  have hc2 : c ≠ p + 4 + n := by omega
  have HP := Lib.hid hp
  have hml : ((l.drop (p + 4)).take n).length = n := by simp; omega
  have HML := Lib.hid hml
  clear hcl hn hp hl hlen hml
  go_enter Try.func13, Try.ntmps13
  go_wp2_with fail
  refine (sizeOf_any _ (l.drop p) lo _ (HV.out.tail (by have := HP.out; omega) hc0)).mono ?_
  rintro e w1 ⟨rfl, b1⟩
  rw [hE, hN]
  have B1 := Lib.hid b1
  clear b1
  go_wp2_with fail
  refine (firstNumber_any _ (l.drop (p + 4 + n)) lo _ (((HV.out.tail (by have := HP.out; omega) hc2).below B1.out).more (Nat.le_refl _) B1.out.size)).mono ?_
  rintro e w2 ⟨rfl, b2⟩
  have B2 := Lib.hid (B1.out.trans (b2.mono B1.out.size))
  clear b2 B1
  rw [hs]
  go_wp2_with fail
  refine (sum_any _ ((l.drop (p + 4)).take n) lo _ (by exact (((HV.out.mid (p := p + 4) (m := n) (by have := HP.out; omega) hc1).below B2.out).more (Nat.le_refl _) B2.out.size))).mono ?_
  rintro e w3 ⟨rfl, b3⟩
  have B3 := Lib.hid (B2.out.trans (b3.mono B2.out.size))
  clear b3 B2
  go_wp2_with fail
  refine (bclone_any _ ((l.drop (p + 4)).take n) lo _ (by exact (((HV.out.mid (p := p + 4) (m := n) (by have := HP.out; omega) hc1).below B3.out).more (Nat.le_refl _) B3.out.size)) (by have := HML.out; have := HP.out; omega)).mono ?_
  rintro e w4 ⟨v4, rfl, o4, b4⟩
  obtain ⟨A4, c4, rfl, -⟩ := o4.sl
  rw [HML.out] at o4 ⊢
  have B4 := Lib.hid (B3.out.trans (b4.mono B3.out.size))
  have O4 := Lib.hid (o4.more (base' := w.heap.size) B3.out.size)
  clear b4 o4 B3
  go_wp2
  go_ret3
  exact ⟨A4, c4, rfl, O4.out, B4.out⟩

/-- What Unframe tells: the error, the contents, the place behind. -/
def unE (l : List UInt8) (a : Int) : Nat := if a < 0 ∨ (l.length : Int) < a then 2 else
  if szE (l.drop a.toNat) ≠ 0 then szE (l.drop a.toNat) else if fn (l.drop (a.toNat + 4 + szN (l.drop a.toNat))) ≠ crc ((l.drop (a.toNat + 4)).take (szN (l.drop a.toNat))) then 6 else 0
def unX (l : List UInt8) (a : Int) : List UInt8 := if unE l a = 0 then (l.drop (a.toNat + 4)).take (szN (l.drop a.toNat)) else []
def unN (l : List UInt8) (a : Int) : Int := if unE l a = 0 then a + 4 + szN (l.drop a.toNat) + 4 else 0

theorem szE_zero (s : List UInt8) (h : szE s = 0) : szN s + 8 ≤ s.length ∧ szN s = leVal (s.take 4) := by
  unfold szE at h
  unfold szN
  split at h
  · cases h
  · split at h
    · cases h
    · split at h
      · cases h
      · rename_i h1 h2 h3
        rw [if_neg h1, if_neg h2, if_neg h3]
        exact ⟨by omega, rfl⟩

theorem unframe_any (v : Value) (l : List UInt8) (lo : Nat) (a : Int) (w : World) (hv : Gs e8 w lo w.heap.size v l) (hl : l.length ≤ 100000) :
    Calls Try.prog 13 #[v, .int .i64 a] w fun e w' => ∃ A c, e = .returned (.tuple #[.slice A (unX l a).length c, .int .i64 (unN l a), .int .i64 (unE l a)]) ∧ Gw e8 w' w.heap.size (.slice A (unX l a).length c) (unX l a) ∧ Below w.heap.size w w' := by
  have fail_ : ∀ E : Nat, unE l a = E → E ≠ 0 → (Calls Try.prog 13 #[v, .int .i64 a] w fun e w' => e = .returned (.tuple #[.slice none 0 0, .int .i64 0, .int .i64 E]) ∧ Below w.heap.size w w') → 
      Calls Try.prog 13 #[v, .int .i64 a] w fun e w' => ∃ A c, e = .returned (.tuple #[.slice A (unX l a).length c, .int .i64 (unN l a), .int .i64 (unE l a)]) ∧ Gw e8 w' w.heap.size (.slice A (unX l a).length c) (unX l a) ∧ Below w.heap.size w w' := by
    intro E hE h0 hc
    have h1 : unX l a = [] := by unfold unX; rw [hE, if_neg h0]
    have h2 : unN l a = 0 := by unfold unN; rw [hE, if_neg h0]
    rw [h1, h2, hE]
    refine hc.mono ?_
    rintro e w' ⟨rfl, b⟩
    exact ⟨none, 0, rfl, Gw.nil_ _ _, b⟩
  by_cases ha : a < 0 ∨ (l.length : Int) < a
  · exact fail_ 2 (by unfold unE; rw [if_pos ha]) (by omega) (unframe_arg v l lo a w hv ha)
  · obtain ⟨p, rfl⟩ := Int.eq_ofNat_of_zero_le (by omega : 0 ≤ a)
    have hp : p ≤ l.length := by omega
    have e0 : unE l p = if szE (l.drop p) ≠ 0 then szE (l.drop p) else if fn (l.drop (p + 4 + szN (l.drop p))) ≠ crc ((l.drop (p + 4)).take (szN (l.drop p))) then 6 else 0 := by
      unfold unE; rw [if_neg ha]; rfl
    by_cases h1 : szE (l.drop p) ≠ 0
    · rw [if_pos h1] at e0
      exact fail_ _ e0 h1 (unframe_no v l lo p w hv hp _ rfl h1)
    · rw [if_neg h1] at e0
      have h1' : szE (l.drop p) = 0 := by omega
      obtain ⟨h2, -⟩ := szE_zero _ h1'
      rw [List.length_drop] at h2
      by_cases h3 : fn (l.drop (p + 4 + szN (l.drop p))) ≠ crc ((l.drop (p + 4)).take (szN (l.drop p)))
      · rw [if_pos h3] at e0
        exact fail_ 6 e0 (by omega) (unframe_sum v l lo p _ w hv (by omega) h1' rfl (by omega) (by omega) h3)
      · rw [if_neg h3] at e0
        have e1 : unX l p = (l.drop (p + 4)).take (szN (l.drop p)) := by unfold unX; rw [if_pos e0]; rfl
        have e2 : unN l p = p + 4 + szN (l.drop p) + 4 := by unfold unN; rw [if_pos e0]; rfl
        have e3 : ((l.drop (p + 4)).take (szN (l.drop p))).length = szN (l.drop p) := by simp; omega
        rw [e0, e1, e2, e3]
        exact unframe_yes v l lo p _ w hv (by omega) h1' rfl (by omega) (by omega) (by simpa using h3)
end Go.Proofs.Ytdeiphimfpckaaa
