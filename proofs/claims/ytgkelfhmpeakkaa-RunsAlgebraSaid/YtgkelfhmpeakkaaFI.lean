/- Walks: the document's Runs of marks and Marks of runs. -/
import Derived.Test.YtgkelfhmpeakkaaFH
import Derived.Test.YtgkelfhmpeakkaaFF
namespace Go.Proofs.Ytgkelfhmpeakkaa
open Go.RowKit
set_option linter.unusedVariables false

theorem rs_succ (p : Nat → Bool) (n : Nat) : rs p (n + 1) = if p n = true then (if (decide (0 < n) && p (n - 1)) = true then bump (rs p n) else rs p n ++ [(UInt16.ofNat n, 0)]) else rs p n := rfl
theorem rs_len_le (p : Nat → Bool) (n : Nat) (h : n ≤ 65536) : (rs p n).length ≤ n := by
  rw [(rs_inv p n h).2.2.2]
  exact ct_le' _ _
theorem rs_last (p : Nat → Bool) (n : Nat) (h : n ≤ 65536) (h0 : 0 < n) (hp : p (n - 1) = true) : ∃ L r, rs p n = L ++ [r] := by
  obtain ⟨L, r, e, -⟩ := (rs_inv p n h).2.2.1 (by rw [decide_eq_true h0, hp]; rfl)
  exact ⟨L, r, e⟩
set_option maxHeartbeats 8000000 in
set_option maxRecDepth 100000 in
theorem refruns_any (g : Nat) (p : Nat → Bool) (w : World) (h : Row w g 53 (mA 65536 p)) :
    Calls Try.prog 17 #[.pointer (some ⟨g, 0, none⟩)] w fun e w' => ∃ v', e = .returned v' ∧ Gw2 eR w' w.heap.size v' (rs p 65536) ∧ Below w.heap.size w w' := by
  have HH := Lib.hid h
  have hg := h.lt
  obtain ⟨R, hR⟩ : ∃ R, R = rs p 65536 := ⟨_, rfl⟩
  rw [← hR]
  have HR := Lib.hid hR
  clear h hR
  go_enter Try.func17, Try.ntmps17
  go_wp2
  go_loopw [3, 4] (fun s i wr => ∃ k : Nat, k ≤ 65536 ∧ i = .int .i64 k ∧ Gw2 eR wr w.heap.size s (rs p k) ∧ Below w.heap.size w wr) (fun _ i _ => ((65536 : Int) - intOf i).toNat)
  case atStart => exact ⟨0, Nat.zero_le _, rfl, Gw2.nil_ _ _, Below.refl _ _⟩
  case round =>
    obtain ⟨k, hk, rfl, own, hbl⟩ := hrel
    have HO := Lib.hid own
    have HB := Lib.hid hbl
    by_cases hlt : k < 65536
    · have hki : (k : Int) < 65536 := by omega
      have c0 : wr.cell? ⟨g, k, none⟩ = some (.bool (p k)) := by rw [(HH.out.below hbl hg).cell, mA_at _ _ _ hlt]
      have HLN := Lib.hid (rs_len_le p k hk)
      cases hp : p k with
      | false =>
        have HN := Lib.hid (show rs p (k + 1) = rs p k by rw [rs_succ, hp]; rfl)
        rw [hp] at c0
        have hk65 := Lib.hid hlt
        clear own hbl hp hlt hk
        go_wp2
        refine ⟨⟨k + 1, hk65.out, by go_num, by rw [HN.out]; exact HO.out, HB.out⟩, by have := hk65.out; simp [intOf]; omega⟩
      | true =>
        rw [hp] at c0
        have hk65 := Lib.hid hlt
        by_cases hb : 0 < k ∧ p (k - 1) = true
        · obtain ⟨m, rfl⟩ : ∃ m, k = m + 1 := ⟨k - 1, by omega⟩
          have hpm : p m = true := hb.2
          obtain ⟨L, r, hLr⟩ := rs_last p (m + 1) hk (by omega) hpm
          have hn : rs p (m + 1 + 1) = bump (L ++ [r]) := by rw [rs_succ, hp, decide_eq_true (p := 0 < m + 1) (by omega), Nat.add_sub_cancel, hpm, hLr]; rfl
          have c1 : wr.cell? ⟨g, m, none⟩ = some (.bool true) := by rw [(HH.out.below hbl hg).cell, mA_at _ _ _ (by omega), hpm]
          rw [hLr] at own HLN
          obtain ⟨bb, c3, rfl, -, -, hge, -, hcell, hfr⟩ := own.form (by simp)
          have hL : (L ++ [r]).length = L.length + 1 := by simp
          have q2 := (hcell L.length r (by simp)).2
          have q3 := hfr (L.length * 2 + 1)
          rw [Nat.mul_comm 2] at q2
          rw [hL] at own HLN
          simp only [hL] at HO ⊢
          have HN := Lib.hid hn
          have OW := Lib.hid own
          have HGE := Lib.hid hge
          have WM := Lib.hid (wrap_more r.2)
          simp only [eR] at q2
          have hLi : (L.length : Int) ≤ 65536 := by have := HLN.out; omega
          have w1 : IntKind.i64.wrap ((m : Int) + 1 - 1) = (m : Int) := by rw [IntKind.wrap_i64]; omega
          have q3 : decide ((m : Int) + 1 < 65536) = true := decide_eq_true (by omega)
          have hk3 : (m : Int) ≤ 65534 := by omega
          have w3 : IntKind.i64.wrap (((L.length + 1 : Nat) : Int) - 1) = (L.length : Int) := by simp [IntKind.wrap, IntKind.bits, IntKind.signed]; omega
          clear HO own hbl hn hLr hL hcell hfr hge hp hpm hb hlt hk hki
          go_wp2
          rw [WM.out]
          refine ⟨⟨m + 1 + 1, hk65.out, by go_num, by rw [HN.out]; exact bumped OW.out rfl _ rfl, HB.out.grown (grown_set _ _ _ _) HB.out.size (fun j hj => by injection hj with hj; subst hj; exact HGE.out)⟩, by have := hk65.out; simp [intOf]; omega⟩
        · have hn : rs p (k + 1) = rs p k ++ [(UInt16.ofNat k, 0)] := by
            rw [rs_succ, hp, if_pos rfl, if_neg]
            intro hc
            rw [Bool.and_eq_true, decide_eq_true_eq] at hc
            exact hb hc
          have HN := Lib.hid hn
          have HX := Lib.hid (show IntKind.u16.wrap (k : Int) = ((UInt16.ofNat k).toNat : Int) by rw [u16_of k hlt]; simp [IntKind.wrap, IntKind.bits, IntKind.signed]; omega)
          by_cases h0 : k = 0
          · subst h0
            clear own hbl hp hn hb hlt hk hki
            go_wp2_with (at_builtin; refine wpList_gapp2_one eR _ rfl _ _ _ rfl w.heap.size sliR infR _ _ rfl HO.out _ _ (UInt16.ofNat 0, 0) rfl rfl rfl (by have := HLN.out; omega) HB.out.size ?_; intro v2 w2 o2 g2 _; have O2 := Lib.hid o2; have G2 := Lib.hid g2; clear o2 g2)
            refine ⟨⟨1, by omega, by first | rfl | go_num, by rw [HN.out]; exact O2.out, HB.out.grown G2.out HB.out.size (fun j hj => (HO.out.lt j hj).1)⟩, by simp [intOf]; try omega⟩
          · obtain ⟨m, rfl⟩ : ∃ m, k = m + 1 := ⟨k - 1, by omega⟩
            have hpm : p m = false := by
              rw [Bool.eq_false_iff]
              intro hc
              exact hb ⟨by omega, hc⟩
            have c1 : wr.cell? ⟨g, m, none⟩ = some (.bool false) := by rw [(HH.out.below hbl hg).cell, mA_at _ _ _ (by omega), hpm]
            have w1 : IntKind.i64.wrap ((m : Int) + 1 - 1) = (m : Int) := by rw [IntKind.wrap_i64]; omega
            have q3 : decide ((m : Int) + 1 < 65536) = true := decide_eq_true (by omega)
            have hk3 : (m : Int) ≤ 65534 := by omega
            have HX2 := Lib.hid (show (m : Int) + 1 = ((UInt16.ofNat (m + 1)).toNat : Int) by rw [u16_of (m + 1) hlt]; push_cast; rfl)
            have w5 : IntKind.u16.wrap ((m : Int) + 1) = (m : Int) + 1 := by simp [IntKind.wrap, IntKind.bits, IntKind.signed]; omega
            clear own hbl hp hn hb h0 hlt hk hpm hki
            go_wp2_with (at_builtin; refine wpList_gapp2_one eR _ rfl _ _ _ rfl w.heap.size sliR infR _ _ rfl HO.out _ _ (UInt16.ofNat (m + 1), 0) (by exact congrArg (Value.int IntKind.u16) HX2.out) rfl rfl (by have := HLN.out; have := hk65.out; omega) HB.out.size ?_; intro v2 w2 o2 g2 _; have O2 := Lib.hid o2; have G2 := Lib.hid g2; clear o2 g2)
            refine ⟨⟨m + 1 + 1, hk65.out, by go_num, by rw [HN.out]; exact O2.out, HB.out.grown G2.out HB.out.size (fun j hj => (HO.out.lt j hj).1)⟩, by have := hk65.out; simp [intOf]; omega⟩
    · obtain rfl : k = 65536 := by omega
      rw [← HR.out] at own
      have HO := Lib.hid own
      clear own hbl
      go_wp2
      go_ret
      exact ⟨_, rfl, HO.out, HB.out⟩
end Go.Proofs.Ytgkelfhmpeakkaa
