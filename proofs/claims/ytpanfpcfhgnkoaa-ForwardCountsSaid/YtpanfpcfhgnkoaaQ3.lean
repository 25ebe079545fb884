/- Walks: numbers are packed, unpacked, got. -/
import Derived.Test.YtpanfpcfhgnkoaaQ2
namespace Go.Proofs.Ytpanfpcfhgnkoaa
open Go.RowKit
set_option linter.unusedVariables false

theorem put_int (v : Value) (l : List UInt8) (base : Nat) (aI nI cI : Int) (a n c : Nat) (h1 : aI = a) (h2 : nI = n) (h3 : cI = c) (W : World) (hv : Gw e8 W base v l) (hc0 : 1 ≤ c) (hc : c ≤ 64) (ha : a + c ≤ 8 * l.length) (hn : n < 18446744073709551616) (hl : l.length ≤ 1000000000) :
    Calls Try.prog 47 #[v, .int .i64 aI, .int .u64 nI, .int .i64 cI] W fun e w' => e = .returned (.tuple #[]) ∧ Gw e8 w' base v (pt l a n c) ∧ W.grownBy w' v.ownBlock := by
  subst h1 h2 h3
  exact put_any v l base a n c W hv hc0 hc ha hn hl
theorem take_int (v : Value) (l : List UInt8) (lo hi : Nat) (aI cI : Int) (a c : Nat) (h1 : aI = a) (h2 : cI = c) (W : World) (hv : Gs e8 W lo hi v l) (ha : a ≤ 100000000000000) (hc : c ≤ 64) (hl : l.length ≤ 1000000000) :
    Calls Try.prog 64 #[v, .int .i64 aI, .int .i64 cI] W fun e w' => e = .returned (.int .u64 (tk l a c)) ∧ W = w' := by
  subst h1 h2
  exact take_any v l lo hi a c W hv ha hc hl

theorem fit_yes (v : Value) (l : List UInt64) (lo hi w : Nat) (W : World) (hv : Gs e64 W lo hi v l) (h1 : 1 ≤ w) (h2 : w ≤ 64) (hf : fits l w) :
    Calls Try.prog 45 #[v, .int .i64 w] W fun e w' => e = .returned (.bool true) ∧ W = w' := by
  have h := fit_any v l lo hi w W hv (by omega) (by omega)
  rw [Int.toNat_natCast, (fitB_iff l w).2 hf] at h
  exact h
theorem fit_no (v : Value) (l : List UInt64) (lo hi w : Nat) (W : World) (hv : Gs e64 W lo hi v l) (h1 : 1 ≤ w) (h2 : w ≤ 64) (hf : ¬ fits l w) :
    Calls Try.prog 45 #[v, .int .i64 w] W fun e w' => e = .returned (.bool false) ∧ W = w' := by
  have h := fit_any v l lo hi w W hv (by omega) (by omega)
  have : fitB l w = false := by rw [← Bool.not_eq_true, fitB_iff]; exact hf
  rw [Int.toNat_natCast, this] at h
  exact h
theorem pack_noWidth (v : Value) (wI : Int) (W : World) (h : wI < 1 ∨ 64 < wI) :
    Calls Try.prog 27 #[v, .int .i64 wI] W fun e w' => e = .returned (.tuple #[.slice none 0 0, .int .i64 2]) ∧ W = w' := by
  go_enter Try.func27, Try.ntmps27
  go_wp2_with (go_at_call 44; refine (isWidth_no _ _ h).mono ?_; rintro e w1 ⟨rfl, rfl⟩)
  go_ret2
  exact ⟨rfl, rfl⟩
set_option maxHeartbeats 400000 in
theorem pack_noFit (v : Value) (l : List UInt64) (lo hi w : Nat) (W : World) (hv : Gs e64 W lo hi v l) (h1 : 1 ≤ w) (h2 : w ≤ 64) (hf : ¬ fits l w) :
    Calls Try.prog 27 #[v, .int .i64 w] W fun e w' => e = .returned (.tuple #[.slice none 0 0, .int .i64 2]) ∧ W = w' := by
  go_enter Try.func27, Try.ntmps27
  go_wp2_with (first | (go_at_call 44; refine (isWidth_yes _ _ (by omega) (by omega)).mono ?_; rintro e w1 ⟨rfl, rfl⟩) | (go_at_call 45; refine (fit_no v l lo hi w _ hv h1 h2 hf).mono ?_; rintro e w1 ⟨rfl, rfl⟩))
  go_ret2
  exact ⟨rfl, rfl⟩
set_option maxHeartbeats 1000000 in
theorem pack_yes (v : Value) (l : List UInt64) (lo w : Nat) (W : World) (hv : Gs e64 W lo W.heap.size v l) (h1 : 1 ≤ w) (h2 : w ≤ 64) (hf : fits l w) (hl : l.length ≤ 100000) :
    Calls Try.prog 27 #[v, .int .i64 w] W fun e w' => ∃ v', e = .returned (.tuple #[v', .int .i64 0]) ∧ Gw e8 w' W.heap.size v' (pk l w) ∧ Below W.heap.size W w' := by
  have hv0 := hv
  obtain ⟨A, c, rfl, -, -, -, -⟩ := hv
  have HV := Lib.hid hv0
  clear hv0
  have hm := mul_bound l.length w _ hl h2
  have hsz := sz_le l.length w
  have hsz' : sz l.length w ≤ 1000000 := by omega
  obtain ⟨S, hS⟩ : ∃ S, S = sz l.length w := ⟨_, rfl⟩
  have HS := Lib.hid hS
  rw [← hS] at hsz hsz'
  clear hS
  have hs2 : sz l.length w = S := HS.out.symm
  have HS2 := Lib.hid hs2
  clear hs2
  go_enter Try.func27, Try.ntmps27
  go_wp2_with (first
    | (go_at_call 44; refine (isWidth_yes _ _ (by omega) (by omega)).mono ?_; rintro e w1 ⟨rfl, rfl⟩)
    | (go_at_call 45; refine (fit_yes _ l lo W.heap.size w _ HV.out h1 h2 hf).mono ?_; rintro e w1 ⟨rfl, rfl⟩)
    | (go_at_call 46; refine (size_yes _ w _ (by omega) h1 h2).mono ?_; rintro e w1 ⟨rfl, rfl⟩; rw [HS2.out])
    | (at_make; refine wpList_gfull e8 _ rfl _ _ _ rfl sli8 inf8 _ _ _ _ S rfl rfl rfl rfl (by omega) ?_; intro w1 o1 g1))
  have hb1 : Below W.heap.size W w1 := below_of_grown g1 (fun k h => by cases h)
  obtain ⟨g, hg⟩ : ∃ g, g = W.heap.size := ⟨_, rfl⟩
  have o2 : Gw e8 w1 W.heap.size (.slice (some ⟨g, 0, none⟩) S S) (pks l w 0) := by rw [hg, pks, HS2.out]; exact o1
  have HG := Lib.hid hg
  rw [← hg]
  clear hg o1 g1
  go_loopw [25] (fun i wr => ∃ k : Nat, k ≤ l.length ∧ i = .int .i64 k ∧ Gw e8 wr W.heap.size (.slice (some ⟨g, 0, none⟩) S S) (pks l w k) ∧ Below W.heap.size W wr) (fun i _ => l.length - (intOf i).toNat)
  case atStart => exact ⟨0, Nat.zero_le _, rfl, o2, hb1⟩
  case round =>
    obtain ⟨k, hk, rfl, ok, bk⟩ := hrel
    by_cases hlt : k < l.length
    · obtain ⟨b, off, c', e', -, -, -, -, hcl⟩ := (HV.out.below bk).form (by rintro rfl; simp at hlt)
      injection e' with e1 e2 e3
      subst e1 e3
      have hck := hcl k l[k] (List.getElem?_eq_getElem hlt)
      simp only [e64, b64] at hck
      have hgd : l[k] = l.getD k 0 := by rw [List.getD_eq_getElem?_getD, List.getElem?_eq_getElem hlt, Option.getD_some]
      rw [hgd] at hck
      obtain ⟨z, hz⟩ : ∃ z : Int, z = ((l.getD k 0).toNat : Int) := ⟨_, rfl⟩
      rw [← hz] at hck
      have HZ := Lib.hid hz
      have hkm := mul_le k l.length w hlt
      have hpl := pks_length l w k
      rw [HS2.out] at hpl
      have hpl' : (pks l w k).length ≤ S ∧ S ≤ (pks l w k).length := by omega
      have hzt := (l.getD k 0).toNat_lt
      clear hcl hz hgd e2 hpl
      have OK := Lib.hid ok
      have BK := Lib.hid bk
      clear ok bk
      go_wp2_with (go_at_call 47; refine (put_int _ (pks l w k) W.heap.size _ _ _ (k * w) (l.getD k 0).toNat w (by push_cast; rfl) HZ.out rfl _ OK.out h1 h2 (by omega) hzt (by omega)).mono ?_; rintro e w2 ⟨rfl, o3, g3⟩)
      have b3 : Below W.heap.size W w2 := BK.out.grown g3 BK.out.size (fun j hj => (OK.out.lt j hj).1)
      go_roundw
      case rel => exact ⟨k + 1, hlt, by go_num, by rw [pks]; exact o3, b3⟩
      case measure => simp [intOf]; omega
    · obtain rfl : k = l.length := by omega
      go_wp2
      go_ret2
      exact ⟨_, rfl, ok, bk⟩
end Go.Proofs.Ytpanfpcfhgnkoaa
