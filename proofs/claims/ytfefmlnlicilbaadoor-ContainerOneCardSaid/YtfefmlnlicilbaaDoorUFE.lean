/- Runs: Of (cut from stages 4 to 6) -/
import Derived.Test.YtfefmlnlicilbaaDoorUFD
namespace Go.Proofs.YtfefmlnlicilbaaDoor
open Go.RowKit
set_option linter.unusedVariables false

/-- The runs of a row's first numbers. -/
def ofp (l : List UInt16) : Nat → List Rn
  | 0 => []
  | k + 1 => if (decide (0 < k) && decide ((at16 l k).toNat = (at16 l (k - 1)).toNat + 1)) = true then bump (ofp l k) else ofp l k ++ [(at16 l k, 0)]
theorem ofp_ne (l : List UInt16) (k : Nat) (h : 0 < k) : ∃ L r, ofp l k = L ++ [r] ∧ (ofp l k).length ≤ k := by
  induction k with
  | zero => omega
  | succ k ih =>
    rw [ofp]
    split
    · rename_i hc
      rw [Bool.and_eq_true, decide_eq_true_eq] at hc
      obtain ⟨L, r, e, hl⟩ := ih hc.1
      rw [e, bump_snoc]
      rw [e] at hl
      exact ⟨L, _, rfl, by simp at hl ⊢; omega⟩
    · refine ⟨_, _, rfl, ?_⟩
      cases k with
      | zero => simp [ofp]
      | succ k =>
        obtain ⟨L, r, e, hl⟩ := ih (by omega)
        simp
        omega
theorem ofp_succ (l : List UInt16) (k : Nat) : ofp l (k + 1) = if (decide (0 < k) && decide ((at16 l k).toNat = (at16 l (k - 1)).toNat + 1)) = true then bump (ofp l k) else ofp l k ++ [(at16 l k, 0)] := rfl
theorem wrap_more (r : UInt16) : IntKind.u16.wrap ((r.toNat : Int) + 1) = ((r + 1).toNat : Int) := by
  rw [UInt16.toNat_add]
  have : (1 : UInt16).toNat = 1 := rfl
  rw [this]
  simp [IntKind.wrap, IntKind.bits, IntKind.signed]
/-- The last run made one longer, where it lies. -/
theorem bumped {w : World} {base b c m : Nat} {L : List Rn} {r : Rn} (h : Gw2 eR w base (.slice (some ⟨b, 0, none⟩) (m + 1) c) (L ++ [r])) (hm : L.length = m) (a : Nat) (ha : a = m * 2 + 1) :
    Gw2 eR (w.setCell ⟨b, a, none⟩ (.int .u16 ((r.2 + 1).toNat : Int))) base (.slice (some ⟨b, 0, none⟩) (m + 1) c) (bump (L ++ [r])) := by
  subst ha
  have h1 := h.stored2 m r (r.1, r.2 + 1) (by rw [← hm]; simp) rfl
  have e : (L ++ [r]).set m (r.1, r.2 + 1) = bump (L ++ [r]) := by
    rw [bump_snoc, ← hm]
    simp
  rw [e, Nat.mul_comm 2 m] at h1
  exact h1
set_option maxHeartbeats 4000000 in
theorem rof_any (v : Value) (l : List UInt16) (w : World) (hv : Gs e16 w 0 w.heap.size v l) (hb : l.length ≤ 100000) :
    Calls Tryd.prog 81 #[v] w fun e w' => ∃ v', e = .returned v' ∧ Gw2 eR w' w.heap.size v' (ofp l l.length) ∧ Below w.heap.size w w' := by
  have hlen := hv.len
  have HV := Lib.hid hv
  obtain ⟨A1, c1, rfl, -⟩ := hv
  go_enter Tryd.func81, Tryd.ntmps81
  go_wp2
  go_loopw [3, 8] (fun s i wr => ∃ k : Nat, k ≤ l.length ∧ i = .int .i64 k ∧ Gw2 eR wr w.heap.size s (ofp l k) ∧ Below w.heap.size w wr) (fun _ i => fun _ => l.length - (intOf i).toNat)
  case atStart => exact ⟨0, Nat.zero_le _, rfl, Gw2.nil_ _ _, Below.refl _ _⟩
  case round =>
    obtain ⟨k, hk, rfl, own, hbl⟩ := hrel
    have HO := Lib.hid own
    have HB := Lib.hid hbl
    by_cases hlt : k < l.length
    · obtain ⟨b, off, c, e1, -, -, -, hbk, hc⟩ := HV.out.form (by rintro rfl; simp at hlt)
      injection e1 with e1 _ e2
      subst e1 e2
      have k1 := hc k _ (at16_get hlt)
      simp only [e16, b16] at k1
      rw [← hbl.cell (p := ⟨b, off + k, none⟩) hbk] at k1
      obtain ⟨x, hx⟩ : ∃ x : Nat, x = (at16 l k).toNat := ⟨_, rfl⟩
      have hxl := u16_lt (at16 l k)
      rw [← hx] at k1 hxl
      have hki : (k : Int) < l.length := by omega
      by_cases h0 : k = 0
      · have hn : ofp l (k + 1) = ofp l k ++ [(at16 l k, 0)] := by rw [ofp_succ, decide_eq_false (p := 0 < k) (by omega)]; rfl
        have hl0 : (ofp l k).length ≤ 100000 := by rw [h0]; simp [ofp]
        have HN := Lib.hid hn
        have HX := Lib.hid hx
        have HL := Lib.hid hl0
        have hk0 : ¬ (k : Int) > 0 := by omega
        clear own hbl hc hx hn h0 hl0
        go_wp2_with (at_builtin; refine wpList_gapp2_one eR _ rfl _ _ _ rfl w.heap.size sliR infR _ _ rfl HO.out _ _ (at16 l k, 0) (by rw [HX.out]; rfl) rfl rfl (by have := HL.out; omega) HB.out.size ?_; intro v2 w2 o2 g2 _; have O2 := Lib.hid o2; have G2 := Lib.hid g2; clear o2 g2)
        refine ⟨⟨k + 1, by omega, by go_num, by rw [HN.out]; exact O2.out, HB.out.grown G2.out HB.out.size (fun j hj => (HO.out.lt j hj).1)⟩, by simp [intOf]; omega⟩
      · obtain ⟨m, rfl⟩ : ∃ m, k = m + 1 := ⟨k - 1, by omega⟩
        obtain ⟨y, hy⟩ : ∃ y : Nat, y = (at16 l m).toNat := ⟨_, rfl⟩
        have hyl := u16_lt (at16 l m)
        have k2 := hc m _ (at16_get (by omega))
        simp only [e16, b16] at k2
        rw [← hbl.cell (p := ⟨b, off + m, none⟩) hbk, ← hy] at k2
        rw [← hy] at hyl
        have w1 : IntKind.i64.wrap (((m + 1 : Nat) : Int) - 1) = (m : Int) := by simp [IntKind.wrap, IntKind.bits, IntKind.signed]; omega
        have hk0 : ((m + 1 : Nat) : Int) > 0 := by omega
        have hmi : (m : Int) < l.length := by omega
        obtain ⟨L, r, hLr, hLn⟩ := ofp_ne l (m + 1) (by omega)
        by_cases hxy : x = y + 1
        · have hn : ofp l (m + 1 + 1) = bump (L ++ [r]) := by rw [ofp_succ, decide_eq_true (p := 0 < m + 1) (by omega), Nat.add_sub_cancel, decide_eq_true (p := (at16 l (m + 1)).toNat = _) (by rw [← hx, ← hy]; exact hxy), hLr]; rfl
          rw [hLr] at own hLn
          obtain ⟨bb, c3, rfl, -, -, hge, -, hcell, hfr⟩ := own.form (by simp)
          have hL : (L ++ [r]).length = L.length + 1 := by simp
          have q2 := (hcell L.length r (by simp)).2
          have q3 := hfr (L.length * 2 + 1)
          rw [Nat.mul_comm 2] at q2
          rw [hL] at own hLn
          simp only [hL] at HO ⊢
          have HN := Lib.hid hn
          have OW := Lib.hid own
          have HGE := Lib.hid hge
          have WM := Lib.hid (wrap_more r.2)
          simp only [eR] at q2
          have w3 : IntKind.i64.wrap (((L.length + 1 : Nat) : Int) - 1) = (L.length : Int) := by simp [IntKind.wrap, IntKind.bits, IntKind.signed]; omega
          have hxyi : (x : Int) = (y : Int) + 1 := by omega
          clear HO own hbl hc hx hy hn hLr hL hcell hfr hge h0 hxy
          go_wp2
          rw [WM.out]
          refine ⟨⟨m + 1 + 1, by omega, by go_num, by rw [HN.out]; exact bumped OW.out rfl _ rfl, HB.out.grown (grown_set _ _ _ _) HB.out.size (fun j hj => by injection hj with hj; subst hj; exact HGE.out)⟩, by simp [intOf]; omega⟩
        · have hn : ofp l (m + 1 + 1) = (L ++ [r]) ++ [(at16 l (m + 1), 0)] := by rw [ofp_succ, decide_eq_true (p := 0 < m + 1) (by omega), Nat.add_sub_cancel, decide_eq_false (p := (at16 l (m + 1)).toNat = _) (by rw [← hx, ← hy]; exact hxy), hLr]; rfl
          rw [hLr] at own hLn
          have HN := Lib.hid hn
          have HX := Lib.hid hx
          have OW := Lib.hid own
          have HL := Lib.hid hLn
          have hxyi : ¬ (x : Int) = (y : Int) + 1 := by omega
          clear HO own hbl hc hx hy hn hLr hLn h0 hxy
          go_wp2_with (at_builtin; refine wpList_gapp2_one eR _ rfl _ _ _ rfl w.heap.size sliR infR _ _ rfl OW.out _ _ (at16 l (m + 1), 0) (by rw [HX.out]; rfl) rfl rfl (by have := HL.out; omega) HB.out.size ?_; intro v2 w2 o2 g2 _; have O2 := Lib.hid o2; have G2 := Lib.hid g2; clear o2 g2)
          refine ⟨⟨m + 1 + 1, by omega, by go_num, by rw [HN.out]; exact O2.out, HB.out.grown G2.out HB.out.size (fun j hj => (OW.out.lt j hj).1)⟩, by simp [intOf]; omega⟩
    · obtain rfl : k = l.length := by omega
      clear own hbl
      go_wp2
      go_ret
      exact ⟨_, rfl, HO.out, HB.out⟩
end Go.Proofs.YtfefmlnlicilbaaDoor
