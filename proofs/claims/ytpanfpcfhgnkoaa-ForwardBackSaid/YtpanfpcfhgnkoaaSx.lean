/- Mathematics of an index' bytes, read again. -/
import Derived.Test.YtpanfpcfhgnkoaaSq
namespace Go.Proofs.Ytpanfpcfhgnkoaa
open Go.RowKit
set_option linter.unusedVariables false

theorem heads_eq {L M : List UInt8} (h : L.take 9 = M.take 9) : rN L = rN M ∧ rM L = rM M ∧ rW L = rW M := by
  have e1 : ∀ X : List UInt8, rN X = leVal ((X.take 9).take 4) := fun X => by rw [List.take_take]; rfl
  have e2 : ∀ X : List UInt8, rM X = leVal (((X.take 9).drop 4).take 4) := fun X => by rw [List.drop_take, List.take_take]; rfl
  have e3 : ∀ X : List UInt8, rW X = ((X.take 9).getD 8 0).toNat := fun X => by
    unfold rW
    rw [List.getD_eq_getElem?_getD, List.getD_eq_getElem?_getD, List.getElem?_take]
    simp
  rw [e1 L, e1 M, e2 L, e2 M, e3 L, e3 M, h]
  exact ⟨rfl, rfl, rfl⟩
section
variable {zs : List Int} {many : Int}
theorem iB_eq (zs : List Int) (many : Int) : iB zs many = le 4 zs.length ++ (le 4 many.toNat ++ ([UInt8.ofNat (wdm many)] ++ iP zs many)) := by unfold iB; simp
theorem iB_d4 (zs : List Int) (many : Int) : (iB zs many).drop 4 = le 4 many.toNat ++ ([UInt8.ofNat (wdm many)] ++ iP zs many) := by
  rw [iB_eq]
  exact List.drop_left' (le_length 4 _)
theorem iB_d8 (zs : List Int) (many : Int) : (iB zs many).drop 8 = [UInt8.ofNat (wdm many)] ++ iP zs many := by
  rw [show 8 = 4 + 4 from rfl, ← List.drop_drop, iB_d4]
  exact List.drop_left' (le_length 4 _)
theorem iB_d9 (zs : List Int) (many : Int) : (iB zs many).drop 9 = iP zs many := by
  rw [show 9 = 8 + 1 from rfl, ← List.drop_drop, iB_d8]
  rfl
theorem iB_N (hn : zs.length ≤ 16777216) : rN (iB zs many) = zs.length := by
  unfold rN
  rw [iB_eq, List.take_left' (le_length 4 _)]
  exact leVal_le 4 _ (by have : (2 : Nat) ^ (8 * 4) = 4294967296 := by decide
                         omega)
theorem iB_M (h0 : 0 ≤ many) (hm : many ≤ 16777216) : (rM (iB zs many) : Int) = many := by
  unfold rM
  rw [iB_d4, List.take_left' (le_length 4 _), leVal_le 4 _ (by have : (2 : Nat) ^ (8 * 4) = 4294967296 := by decide
                                                               omega)]
  omega
theorem iB_W (hm : many ≤ 16777216) : rW (iB zs many) = wdm many := by
  unfold rW
  have h1 : (iB zs many)[8]? = some (UInt8.ofNat (wdm many)) := by
    have h2 := List.getElem?_drop (xs := iB zs many) (i := 8) (j := 0)
    rw [iB_d8] at h2
    exact h2.symm
  rw [List.getD_eq_getElem?_getD, h1, Option.getD_some, UInt8.toNat_ofNat', Nat.mod_eq_of_lt (by have := wdm_le hm; omega)]
theorem iP_upE (hm : many ≤ 16777216) (ha : zs.all (inr many) = true) (hn : zs.length ≤ 16777216) : upE (iP zs many) zs.length (wdm many) = 0 := by
  have h1 := wdm_pos many
  have h2 := wdm_le hm
  have hl := iP_len zs many
  have hr := pk_rest (nums zs) (wdm many) (by omega) (8 * (iP zs many).length - zs.length * wdm many)
  rw [nq_len] at hr
  unfold upE
  rw [if_pos ⟨by omega, by omega, by omega, by omega⟩]
  simp only [Int.toNat_natCast]
  rw [if_neg (by omega), if_neg (by omega)]
  exact if_pos hr
theorem iP_up (hm : many ≤ 16777216) (ha : zs.all (inr many) = true) : up (iP zs many) zs.length (wdm many) = nums zs := by
  have := up_pk (nums zs) (wdm many) (by have := wdm_le hm; omega) (fits_nq hm ha)
  rw [nq_len] at this
  exact this
theorem nums_toNat {z : Int} (h0 : 0 ≤ z) (h1 : z < 16777216) : ((UInt64.ofNat z.toNat).toNat : Int) = z := by
  rw [UInt64.toNat_ofNat', Nat.mod_eq_of_lt (by omega)]
  omega
theorem iP_chE (hm : many ≤ 16777216) (ha : zs.all (inr many) = true) (hn : zs.length ≤ 16777216) : chE (iP zs many) zs.length many (wdm many) = 0 := by
  have h0 := iP_upE hm ha hn
  unfold chE
  rw [if_neg (by rw [h0]; decide)]
  have hr : upR (iP zs many) zs.length (wdm many) = nums zs := by
    unfold upR
    rw [if_pos h0]
    simp only [Int.toNat_natCast]
    exact iP_up hm ha
  rw [hr, if_neg]
  intro h
  obtain ⟨x, hx, hd⟩ := List.any_eq_true.1 h
  unfold nums at hx
  obtain ⟨z, hz, rfl⟩ := List.mem_map.1 hx
  have hb := all_inr ha z hz
  rw [nums_toNat hb.1 (by omega)] at hd
  have := of_decide_eq_true hd
  omega
/-- The index' own numbers. -/
theorem back_E (hm : mayM zs.length many = true) (ha : zs.all (inr many) = true) (hn : zs.length ≤ 16777216) : rdE (iB zs many) zs.length many = 0 := by
  have hmb : 0 ≤ many ∧ many ≤ 16777216 := by rcases mayM_iff.1 hm with h | h <;> omega
  have hl := iB_len zs many
  have e1 := iB_N (many := many) hn
  have e2 := iB_M (zs := zs) hmb.1 hmb.2
  have e3 := iB_W (zs := zs) hmb.2
  exact RdOk.e ⟨by omega, by omega, by rw [e1], e2, hm, e3, by rw [iB_d9, e1, e2, e3]; exact iP_chE hmb.2 ha hn⟩
theorem back_L (hm : mayM zs.length many = true) (ha : zs.all (inr many) = true) (hn : zs.length ≤ 16777216) : rdL (iB zs many) = zs := by
  have hmb : 0 ≤ many ∧ many ≤ 16777216 := by rcases mayM_iff.1 hm with h | h <;> omega
  unfold rdL
  rw [iB_d9, iB_N hn, iB_W hmb.2, iP_up hmb.2 ha]
  unfold nums
  rw [List.map_map]
  have : ∀ z ∈ zs, ((fun x : UInt64 => (x.toNat : Int)) ∘ fun z : Int => UInt64.ofNat z.toNat) z = z := fun z hz => by
    have hb := all_inr ha z hz
    exact nums_toNat hb.1 (by omega)
  rw [List.map_congr_left this, List.map_id']
/-- Other numbers. -/
theorem back_other (hm : mayM zs.length many = true) (hn : zs.length ≤ 16777216) {rows others : Int} (h : rows ≠ zs.length ∨ others ≠ many) : rdE (iB zs many) rows others = 5 := by
  have hmb : 0 ≤ many ∧ many ≤ 16777216 := by rcases mayM_iff.1 hm with h | h <;> omega
  have hl := iB_len zs many
  have e1 := iB_N (many := many) hn
  have e2 := iB_M (zs := zs) hmb.1 hmb.2
  unfold rdE
  rw [if_neg (by omega), if_neg (by omega), if_pos]
  rw [e1, e2]
  rcases h with h | h
  · exact .inl (fun e => h e.symm)
  · exact .inr (fun e => h e.symm)
/-- A byte more. -/
theorem back_more (hm : mayM zs.length many = true) (hn : zs.length ≤ 16777216) (y : UInt8) : rdE (iB zs many ++ [y]) zs.length many = 5 := by
  have hmb : 0 ≤ many ∧ many ≤ 16777216 := by rcases mayM_iff.1 hm with h | h <;> omega
  have hl := iB_len zs many
  have hh := heads_eq (L := iB zs many ++ [y]) (M := iB zs many) (List.take_append_of_le_length (by omega))
  have e1 := iB_N (many := many) hn
  have e2 := iB_M (zs := zs) hmb.1 hmb.2
  have e3 := iB_W (zs := zs) hmb.2
  have hd : (iB zs many ++ [y]).drop 9 = iP zs many ++ [y] := by rw [List.drop_append_of_le_length (by omega), iB_d9]
  have h1 := wdm_pos many
  have h2 := wdm_le hmb.2
  have hu : upE (iP zs many ++ [y]) zs.length (wdm many) = 5 := by
    unfold upE
    rw [if_pos ⟨by omega, by omega, by omega, by omega⟩]
    simp only [Int.toNat_natCast, List.length_append, List.length_cons, List.length_nil]
    rw [iP_len, if_neg (by omega), if_pos (by omega)]
  unfold rdE
  rw [hh.1, hh.2.1, hh.2.2, if_neg (by rw [List.length_append]; omega), if_neg (by omega), if_neg (by rw [e1, e2, not_or]; exact ⟨fun h => h rfl, fun h => h rfl⟩), if_neg (by rw [hm, e3, not_or]; exact ⟨by simp, fun h => h rfl⟩), hd, e1, e2, e3]
  unfold chE
  rw [hu, if_pos (by decide)]
/-- A byte less. -/
theorem back_less (hm : mayM zs.length many = true) (hn : zs.length ≤ 16777216) : rdE ((iB zs many).take ((iB zs many).length - 1)) zs.length many = 4 := by
  have hmb : 0 ≤ many ∧ many ≤ 16777216 := by rcases mayM_iff.1 hm with h | h <;> omega
  have hl := iB_len zs many
  by_cases h0 : (iP zs many).length = 0
  · unfold rdE
    rw [if_pos (by rw [List.length_take]; omega)]
  · have hh := heads_eq (L := (iB zs many).take ((iB zs many).length - 1)) (M := iB zs many) (by rw [List.take_take, Nat.min_eq_left (by omega)])
    have e1 := iB_N (many := many) hn
    have e2 := iB_M (zs := zs) hmb.1 hmb.2
    have e3 := iB_W (zs := zs) hmb.2
    have hd : ((iB zs many).take ((iB zs many).length - 1)).drop 9 = (iP zs many).take ((iB zs many).length - 1 - 9) := by rw [List.drop_take, iB_d9]
    have h1 := wdm_pos many
    have h2 := wdm_le hmb.2
    have hpl := iP_len zs many
    have hu : upE ((iP zs many).take ((iB zs many).length - 1 - 9)) zs.length (wdm many) = 4 := by
      unfold upE
      rw [if_pos ⟨by omega, by omega, by omega, by omega⟩]
      simp only [Int.toNat_natCast, List.length_take]
      rw [if_pos (by omega)]
    unfold rdE
    rw [hh.1, hh.2.1, hh.2.2, if_neg (by rw [List.length_take]; omega), if_neg (by omega), if_neg (by rw [e1, e2, not_or]; exact ⟨fun h => h rfl, fun h => h rfl⟩), if_neg (by rw [hm, e3, not_or]; exact ⟨by simp, fun h => h rfl⟩), hd, e1, e2, e3]
    unfold chE
    rw [hu, if_pos (by decide)]
end
end Go.Proofs.Ytpanfpcfhgnkoaa
