/- What any bytes are read as: one answer; Read of any bytes. -/
import Derived.Test.YtpanfpcfhgnkoaaSp
namespace Go.Proofs.Ytpanfpcfhgnkoaa
open Go.RowKit
set_option linter.unusedVariables false

/-- The answer: the fault, or 0. -/
def rdE (b : List UInt8) (rows many : Int) : Int :=
  if b.length < 9 then 4 else if 16777216 < rN b then 3 else if (rN b : Int) ≠ rows ∨ (rM b : Int) ≠ many then 5
  else if mayM rows many = false ∨ rW b ≠ wdm many then 5 else chE (b.drop 9) (rN b) (rM b) (rW b)
/-- The ids that are read. -/
def rdL (b : List UInt8) : List Int := (up (b.drop 9) (rN b) (rW b)).map fun x => (x.toNat : Int)
theorem chE_ok {P : List UInt8} {n m wI : Int} (h : chE P n m wI = 0) : upE P n wI = 0 ∧ ∀ x ∈ up P n.toNat wI.toNat, (x.toNat : Int) < m := by
  unfold chE at h
  by_cases h0 : upE P n wI = 0
  · rw [if_neg (by simpa using h0)] at h
    have hr : upR P n wI = up P n.toNat wI.toNat := by unfold upR; rw [if_pos h0]
    rw [hr] at h
    refine ⟨h0, fun x hx => ?_⟩
    by_cases hx2 : (x.toNat : Int) < m
    · exact hx2
    · rw [if_pos (List.any_eq_true.2 ⟨x, hx, decide_eq_true (by omega)⟩)] at h
      cases h
  · rw [if_pos h0] at h
    exact absurd h h0
/-- What holds where bytes are read. -/
structure RdOk (b : List UInt8) (rows many : Int) : Prop where
  len : 9 ≤ b.length
  small : rN b ≤ 16777216
  hr : (rN b : Int) = rows
  hm : (rM b : Int) = many
  may : mayM rows many = true
  wd : rW b = wdm many
  ch : chE (b.drop 9) (rN b) (rM b) (rW b) = 0
theorem rdE_ok {b : List UInt8} {rows many : Int} (h : rdE b rows many = 0) : RdOk b rows many := by
  unfold rdE at h
  split at h
  · cases h
  · split at h
    · cases h
    · split at h
      · cases h
      · split at h
        · cases h
        · rename_i h1 h2 h3 h4
          have h3' := not_or.1 h3
          have h4' := not_or.1 h4
          exact ⟨by omega, by omega, Decidable.not_not.1 h3'.1, Decidable.not_not.1 h3'.2, by simpa using h4'.1, Decidable.not_not.1 h4'.2, h⟩
theorem RdOk.e {b : List UInt8} {rows many : Int} (h : RdOk b rows many) : rdE b rows many = 0 := by
  unfold rdE
  rw [if_neg (by have := h.len; omega), if_neg (by have := h.small; omega), if_neg (by rw [not_or]; exact ⟨fun h2 => h2 h.hr, fun h2 => h2 h.hm⟩), if_neg (by rw [not_or]; exact ⟨by rw [h.may]; simp, fun h2 => h2 h.wd⟩)]
  exact h.ch
section
variable {b : List UInt8} {rows many : Int}
theorem RdOk.l (h : RdOk b rows many) : (rdL b).length = rN b := by unfold rdL; rw [List.length_map, up_length]
theorem RdOk.li (h : RdOk b rows many) : ((rdL b).length : Int) = rows := by rw [h.l]; exact h.hr
theorem RdOk.mayl (h : RdOk b rows many) : mayM (rdL b).length many = true := by rw [h.li]; exact h.may
theorem RdOk.mb (h : RdOk b rows many) : 0 ≤ many ∧ many ≤ 16777216 := by rcases mayM_iff.1 h.may with h | h <;> omega
theorem RdOk.wp (h : RdOk b rows many) : 1 ≤ rW b ∧ rW b ≤ 24 := by
  rw [h.wd]
  exact ⟨wdm_pos _, wdm_le h.mb.2⟩
theorem RdOk.up0 (h : RdOk b rows many) : (b.drop 9).length = sz (rN b) (rW b) ∧ tk (b.drop 9) (rN b * rW b) (8 * (b.drop 9).length - rN b * rW b) = 0 := by
  have h1 := upE_ok (chE_ok h.ch).1
  simp only [Int.toNat_natCast] at h1
  exact ⟨h1.2.1, h1.2.2⟩
theorem RdOk.all (h : RdOk b rows many) : (rdL b).all (inr many) = true := by
  have h1 := (chE_ok h.ch).2
  simp only [Int.toNat_natCast] at h1
  rw [List.all_eq_true]
  intro z hz
  unfold rdL at hz
  obtain ⟨x, hx, rfl⟩ := List.mem_map.1 hz
  have := h1 x hx
  rw [h.hm] at this
  unfold inr
  exact decide_eq_true ⟨by omega, this⟩
theorem RdOk.nums (h : RdOk b rows many) : nums (rdL b) = up (b.drop 9) (rN b) (rW b) := by
  unfold rdL
  show List.map _ (List.map _ _) = _
  rw [List.map_map]
  have : ∀ x : UInt64, ((fun z : Int => UInt64.ofNat z.toNat) ∘ fun x : UInt64 => (x.toNat : Int)) x = x := fun x => by
    show UInt64.ofNat ((x.toNat : Int)).toNat = x
    rw [Int.toNat_natCast]
    exact UInt64.ofNat_toNat
  rw [List.map_congr_left (fun x _ => this x), List.map_id']
theorem RdOk.p (h : RdOk b rows many) : iP (rdL b) many = b.drop 9 := by
  unfold iP
  rw [h.nums, ← h.wd]
  exact (pk_up _ _ _ (by have := h.wp; omega) (by have := h.wp; omega) h.up0.1 h.up0.2).symm
theorem RdOk.by_ (h : RdOk b rows many) : iB (rdL b) many = b := by
  unfold iB
  rw [h.p, h.l]
  have e1 : le 4 (rN b) = b.take 4 := by
    have := le_leVal (b.take 4)
    rw [List.length_take, Nat.min_eq_left (by have := h.len; omega)] at this
    exact this
  have e2 : le 4 many.toNat = (b.drop 4).take 4 := by
    have := le_leVal ((b.drop 4).take 4)
    rw [List.length_take, List.length_drop, Nat.min_eq_left (by have := h.len; omega)] at this
    rw [← h.hm, Int.toNat_natCast]
    exact this
  have h8 : 8 < b.length := by have := h.len; omega
  have e3 : [UInt8.ofNat (wdm many)] = (b.drop 8).take 1 := by
    rw [← h.wd]
    unfold rW
    rw [List.drop_eq_getElem_cons h8, List.take_succ_cons, List.take_zero, List.getD_eq_getElem?_getD, List.getElem?_eq_getElem h8, Option.getD_some]
    simp
  rw [e1, e2, e3, show (b.drop 4).take 4 = (b.drop 4).take 4 from rfl]
  have t1 : b.take 4 ++ (b.drop 4).take 4 = b.take 8 := by rw [← List.take_add]
  rw [t1]
  have t2 : b.take 8 ++ (b.drop 8).take 1 = b.take 9 := by rw [← List.take_add]
  rw [t2, List.take_append_drop]
theorem RdOk.count (h : RdOk b rows many) : (rdL b).length ≤ 8 * b.length := by
  have h1 := h.up0.1
  have h2 := sz_le (rN b) (rW b)
  have h3 := Nat.le_mul_of_pos_right (rN b) h.wp.1
  rw [List.length_drop] at h1
  rw [h.l]
  omega
end
theorem read_any (A : Option Addr) (c : Nat) (b : List UInt8) (rows many : Int) (w : World) (hG : Gs e8 w 0 w.heap.size (.slice A b.length c) b) (hl : b.length ≤ 10000) :
    Calls Try.prog 14 #[.slice A b.length c, .int .i64 rows, .int .i64 many] w fun e w' =>
      ∃ p, e = .returned (.tuple #[p, .int .i64 (rdE b rows many)]) ∧ (rdE b rows many = 0 → ∃ g A c, p = .pointer (some ⟨g, 0, none⟩) ∧ IxN w' w.heap.size g A c (rdL b) many) ∧ (rdE b rows many ≠ 0 → p = .pointer none) ∧ Below w.heap.size w w' := by
  have bad : ∀ E : Int, E ≠ 0 → rdE b rows many = E → (Calls Try.prog 14 #[.slice A b.length c, .int .i64 rows, .int .i64 many] w fun e w' => e = .returned (.tuple #[.pointer none, .int .i64 E]) ∧ Below w.heap.size w w') →
      Calls Try.prog 14 #[.slice A b.length c, .int .i64 rows, .int .i64 many] w fun e w' =>
      ∃ p, e = .returned (.tuple #[p, .int .i64 (rdE b rows many)]) ∧ (rdE b rows many = 0 → ∃ g A c, p = .pointer (some ⟨g, 0, none⟩) ∧ IxN w' w.heap.size g A c (rdL b) many) ∧ (rdE b rows many ≠ 0 → p = .pointer none) ∧ Below w.heap.size w w' := fun E h0 hE h => by
    rw [hE]
    exact h.mono fun e w' ⟨h1, h2⟩ => ⟨_, h1, fun h => absurd h h0, fun _ => rfl, h2⟩
  by_cases h1 : b.length < 9
  · exact bad 4 (by decide) (by unfold rdE; rw [if_pos h1]) (read_short A c b rows many w hG h1)
  · by_cases h2 : 16777216 < rN b
    · exact bad 3 (by decide) (by unfold rdE; rw [if_neg h1, if_pos h2]) (read_long A c b rows many w hG (by omega) h2)
    · by_cases h3 : (rN b : Int) = rows
      · by_cases h4 : (rM b : Int) = many
        · have n34 : ¬ ((rN b : Int) ≠ rows ∨ (rM b : Int) ≠ many) := by rw [not_or]; exact ⟨fun h => h h3, fun h => h h4⟩
          cases h5 : mayM rows many with
          | false => exact bad 5 (by decide) (by unfold rdE; rw [if_neg h1, if_neg h2, if_neg n34, if_pos (.inl h5)]) (read_may A c b rows many w hG (by omega) h2 h3 h4 h5)
          | true =>
            by_cases h6 : rW b = wdm many
            · have n56 : ¬ (mayM rows many = false ∨ rW b ≠ wdm many) := by rw [not_or]; exact ⟨by rw [h5]; simp, fun h => h h6⟩
              have hE : rdE b rows many = chE (b.drop 9) (rN b) (rM b) (rW b) := by unfold rdE; rw [if_neg h1, if_neg h2, if_neg n34, if_neg n56]
              by_cases h7 : chE (b.drop 9) (rN b) (rM b) (rW b) = 0
              · have ok : RdOk b rows many := ⟨by omega, by omega, h3, h4, h5, h6, h7⟩
                rw [hE, h7]
                refine (read_ok A c b rows many w hG (by omega) h2 h3 h4 h5 h6 (by omega) h7).mono ?_
                rintro e w' ⟨g, A9, c9, rfl, hg, hr, hs, hb⟩
                have hc := ok.count
                refine ⟨_, rfl, fun _ => ⟨g, A9, c9, rfl, ⟨⟨?_, ?_, ok.mayl, ok.all, by omega⟩, hg, ?_⟩⟩, fun h => absurd rfl h, hb⟩
                · rw [ok.p, ok.l, ← h4, ← h6.trans (congrArg wdm h4.symm)]
                  exact hr
                · rw [ok.p]
                  exact hs.more (Nat.zero_le _) (Nat.le_refl _)
                · rw [ok.p]
                  exact hs
              · rw [hE]
                exact (read_check A c b rows many w hG (by omega) h2 h3 h4 h5 h6 (by omega) h7).mono fun e w' ⟨q1, q2⟩ => ⟨_, q1, fun h => absurd h h7, fun _ => rfl, q2⟩
            · exact bad 5 (by decide) (by unfold rdE; rw [if_neg h1, if_neg h2, if_neg n34, if_pos (.inr h6)]) (read_width A c b rows many w hG (by omega) h2 h3 h4 h5 h6)
        · exact bad 5 (by decide) (by unfold rdE; rw [if_neg h1, if_neg h2, if_pos (.inr h4)]) (read_many A c b rows many w hG (by omega) h2 h3 h4)
      · exact bad 5 (by decide) (by unfold rdE; rw [if_neg h1, if_neg h2, if_pos (.inl h3)]) (read_rows A c b rows many w hG (by omega) h2 h3)
end Go.Proofs.Ytpanfpcfhgnkoaa
