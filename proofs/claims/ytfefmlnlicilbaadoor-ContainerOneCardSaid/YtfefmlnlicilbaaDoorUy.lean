/- Whether two rows are the same; calls that keep what is below (cut from stages 4 to 6) -/
import Derived.Test.YtfefmlnlicilbaaDoorU9
namespace Go.Proofs.YtfefmlnlicilbaaDoor
open Go.RowKit
set_option linter.unusedVariables false

theorem take_succ_eq {l m : List UInt16} {k : Nat} (hl : k < l.length) (hm : k < m.length) (h : l.take k = m.take k) (he : at16 l k = at16 m k) : l.take (k + 1) = m.take (k + 1) := by
  rw [List.take_add_one, List.take_add_one, h, at16_get hl, at16_get hm, he]
set_option maxHeartbeats 1000000 in
theorem same_any (v u : Value) (l m : List UInt16) (lo hi lo' hi' : Nat) (W : World) (hv : Gs e16 W lo hi v l) (hu : Gs e16 W lo' hi' u m) :
    Calls Tryd.prog 11 #[v, u] W fun e w' => e = .returned (.bool (decide (l = m))) ∧ ∃ n, w' = W.drewN n := by
  have hlen := hv.len
  have hv0 := hv
  have hu0 := hu
  obtain ⟨A, c, rfl, -⟩ := hv
  obtain ⟨B, d, rfl, -⟩ := hu
  have HV := Lib.hid hv0
  have HU := Lib.hid hu0
  clear hv0 hu0
  by_cases hlm : l.length = m.length
  · obtain ⟨n, hn⟩ : ∃ n, n = l.length := ⟨_, rfl⟩
    have HN := Lib.hid hn
    have HM := Lib.hid (hn.trans hlm)
    rw [← hlm, ← hn]
    rw [← hn] at hlen
    clear hn hlm
    go_enter Tryd.func11, Tryd.ntmps11
    go_wp2
    go_loopw [5] (fun i wr => ∃ k q : Nat, k ≤ n ∧ i = .int .i64 k ∧ wr = W.drewN q ∧ l.take k = m.take k) (fun i _ => n - (intOf i).toNat)
    case atStart => exact ⟨0, 0, Nat.zero_le _, rfl, rfl, rfl⟩
    case round =>
      obtain ⟨k, q, hk, rfl, rfl, ht⟩ := hrel
      by_cases hlt : k < n
      · have hkl : k < l.length := by have := HN.out; omega
        have hkm : k < m.length := by have := HM.out; omega
        obtain ⟨b1, o1, c1, e1, -, -, -, -, hc1⟩ := HV.out.form (by rintro rfl; simp at hkl)
        rw [← HN.out] at e1
        injection e1 with e1 _ e2
        subst e1 e2
        obtain ⟨b2, o2, c2, e1, -, -, -, -, hc2⟩ := HU.out.form (by rintro rfl; simp at hkm)
        rw [← HM.out] at e1
        injection e1 with e1 _ e2
        subst e1 e2
        have k1 := hc1 k _ (at16_get hkl)
        have k2 := hc2 k _ (at16_get hkm)
        simp only [e16, b16] at k1 k2
        obtain ⟨x, hx⟩ : ∃ x : Int, x = ((at16 l k).toNat : Int) := ⟨_, rfl⟩
        obtain ⟨y, hy⟩ : ∃ y : Int, y = ((at16 m k).toNat : Int) := ⟨_, rfl⟩
        have hxy : x = y ↔ at16 l k = at16 m k := by rw [hx, hy, ← UInt16.toNat_inj]; omega
        rw [← hx] at k1
        rw [← hy] at k2
        clear hc1 hc2 hx hy
        by_cases he : x = y
        · have HT := Lib.hid (take_succ_eq hkl hkm ht (hxy.1 he))
          subst he
          clear ht hxy hkl hkm
          go_wp2
          go_quiet (fail)
          go_wp2
          go_roundw
          case rel => exact ⟨k + 1, _, hlt, by go_num, rfl, HT.out⟩
          case measure => simp [intOf]; omega
        · have hF : decide (l = m) = false := decide_eq_false (by rintro rfl; exact he (hxy.2 rfl))
          have HF := Lib.hid hF
          clear ht hxy hF hkl hkm
          go_wp2
          go_quiet (fail)
          go_wp2
          go_ret
          exact ⟨by rw [HF.out]; rfl, _, World.drewN_drewN ..⟩
      · obtain rfl : k = n := by omega
        have hT : decide (l = m) = true := decide_eq_true (by have := HN.out; have := HM.out; rwa [List.take_of_length_le (by omega), List.take_of_length_le (by omega)] at ht)
        have HT := Lib.hid hT
        clear hT ht
        go_wp2
        go_ret
        exact ⟨by rw [HT.out]; rfl, _, rfl⟩
  · have hF : decide (l = m) = false := decide_eq_false (by rintro rfl; exact hlm rfl)
    have HF := Lib.hid hF
    have hlm2 := HU.out.len
    have hlmi : ¬ (l.length : Int) = m.length := by omega
    have q1 : decide ((l.length : Int) = m.length) = false := decide_eq_false hlmi
    have q2 : ((l.length : Int) == m.length) = false := beq_false_of_ne hlmi
    have q3 : ((l.length : Int) != m.length) = true := by simp [bne, q2]
    clear hF
    go_enter Tryd.func11, Tryd.ntmps11
    go_wp2
    go_ret
    exact ⟨by rw [HF.out]; rfl, 0, rfl⟩
theorem below_drew {W : World} (n : Nat) : Below W.heap.size W (W.drewN n) := below_drewN (Below.refl _ _) n
theorem same_b (v u : Value) (l m : List UInt16) (lo hi lo' hi' : Nat) (W : World) (hv : Gs e16 W lo hi v l) (hu : Gs e16 W lo' hi' u m) :
    Calls Tryd.prog 11 #[v, u] W fun e w' => e = .returned (.bool (decide (l = m))) ∧ Below W.heap.size W w' :=
  (same_any v u l m lo hi lo' hi' W hv hu).mono fun e w' ⟨h1, n, h2⟩ => ⟨h1, h2 ▸ below_drew n⟩
theorem runs_b (v : Value) (l : List UInt16) (lo hi : Nat) (W : World) (hv : Gs e16 W lo hi v l) (hb : l.length ≤ 100000000) :
    Calls Tryd.prog 55 #[v] W fun e w' => e = .returned (.int .i64 (rn none l)) ∧ Below W.heap.size W w' :=
  (runs_any v l lo hi W hv hb).mono fun e w' ⟨h1, n, h2⟩ => ⟨h1, h2 ▸ below_drew n⟩
theorem u16_wf {a : Int} (h : (Lit.int .u16 a).wf = true) : ∃ x : UInt16, a = x.toNat := by
  simp [Lit.wf, IntKind.min, IntKind.max, IntKind.bits, IntKind.signed] at h
  exact ⟨UInt16.ofNat a.toNat, by rw [u16_of _ (by omega)]; omega⟩
theorem lit16 (w : World) (l : List UInt16) (cs : Array Value) (n : Nat) (hcs : cs = (l.map e16.val).toArray) (hn : l.length = n) (hs : n ≤ 1000) :
    Gs e16 (w.alloc (.cells cs 29)) 0 (w.alloc (.cells cs 29)).heap.size (.slice (some ⟨w.heap.size, 0, none⟩) n n) l :=
  (Gw.lit (k := e16) w w.heap.size (Nat.le_refl _) l cs n hcs hn hs).sl.more (Nat.zero_le _) (Nat.le_refl _)
end Go.Proofs.YtfefmlnlicilbaaDoor
