/- Words in the form of laws; whether two rows of numbers are the same (cut from stages 4 and 5). -/
import Derived.Test.YtgkelfhmpeakkaaDoorV5
import Derived.Test.YtgkelfhmpeakkaaDoorDz
namespace Go.Proofs.YtgkelfhmpeakkaaDoor
open Go.RowKit
set_option linter.unusedVariables false

theorem ls_wb (p : Nat → Bool) {n : Nat} (h : n ≤ 65536) : ls (wb (wm p)) n = ls p n := ls_ext fun j hj => wb_wm p j (by omega)
theorem ct_wb (p : Nat → Bool) {n : Nat} (h : n ≤ 65536) : ct (wb (wm p)) n = ct p n := ct_ext fun j hj => wb_wm p j (by omega)
theorem hm_wb (p : Nat → Bool) {n : Nat} (h : n ≤ 65536) : ct (hm (wb (wm p))) n = ct (hm p) n := ct_ext fun j hj => hm_ext (n := 65536) (fun i hi => wb_wm p i hi) j (by omega)
theorem flp_wb (p : Nat → Bool) (lo hi : Int) : wm (flp (wb (wm p)) lo hi) = wm (flp p lo hi) := wm_ext fun x hx => by unfold flp; rw [wb_wm p x hx]
theorem mix_wb (f : Bool → Bool → Bool) (p q : Nat → Bool) : wm (fun x => f (wb (wm p) x) (wb (wm q) x)) = wm fun x => f (p x) (q x) := wm_ext fun x hx => by rw [wb_wm p x hx, wb_wm q x hx]
theorem wm_wb {w : List UInt64} (h : w.length = 1024) : w = wm (wb w) := wm_of h fun x hx => rfl
theorem gw_wm {w : World} {base : Nat} {v : Value} {p : Nat → Bool} (h : Gw e64 w base v (wm p)) : ∃ A c, v = .slice A 1024 c := by
  obtain ⟨A, c, e, -⟩ := h.sl
  exact ⟨A, c, by rw [e, wm_length]⟩
theorem wof_k (l : List UInt16) (p : Nat → Bool) (hp : p = mk l) (v : Value) (w : World) (hv : Gs e16 w 0 w.heap.size v l) :
    Calls Tryd.prog 26 #[v] w fun e w' => ∃ A c, e = .returned (.slice A 1024 c) ∧ Gs e64 w' 0 w'.heap.size (.slice A 1024 c) (wm p) ∧ Below w.heap.size w w' := by
  subst hp
  refine (wof_any v l 0 w hv).mono ?_
  rintro e w' ⟨v', rfl, o, b⟩
  obtain ⟨A, c, rfl⟩ := gw_wm o
  exact ⟨A, c, rfl, o.sl.more (Nat.zero_le _) (Nat.le_refl _), b⟩
theorem take_succ_eq {l m : List UInt16} {k : Nat} (hl : k < l.length) (hm : k < m.length) (h : l.take k = m.take k) (he : at16 l k = at16 m k) : l.take (k + 1) = m.take (k + 1) := by
  rw [List.take_add_one, List.take_add_one, h, at16_get hl, at16_get hm, he]
set_option maxHeartbeats 1000000 in
theorem same_any (v u : Value) (l m : List UInt16) (lo hi lo' hi' : Nat) (W : World) (hv : Gs e16 W lo hi v l) (hu : Gs e16 W lo' hi' u m) :
    Calls Tryd.prog 15 #[v, u] W fun e w' => e = .returned (.bool (decide (l = m))) ∧ ∃ n, w' = W.drewN n := by
  have hlen := hv.len
  have hv0 := hv
  have hu0 := hu
  obtain ⟨A, c, rfl, -⟩ := hv
  obtain ⟨B, d, rfl, -⟩ := hu
  have HV := Lib.hid hv0
  have HU := Lib.hid hu0
  clear hv0 hu0
  by_cases hlm : l.length = m.length
  · obtain ⟨n, hn⟩ : ∃ n, n = l.length := ⟨_, rfl⟩
    have HN := Lib.hid hn
    have HM := Lib.hid (hn.trans hlm)
    rw [← hlm, ← hn]
    rw [← hn] at hlen
    clear hn hlm
    go_enter Tryd.func15, Tryd.ntmps15
    go_wp2
    go_loopw [5] (fun i wr => ∃ k q : Nat, k ≤ n ∧ i = .int .i64 k ∧ wr = W.drewN q ∧ l.take k = m.take k) (fun i _ => n - (intOf i).toNat)
    case atStart => exact ⟨0, 0, Nat.zero_le _, rfl, rfl, rfl⟩
    case round =>
      obtain ⟨k, q, hk, rfl, rfl, ht⟩ := hrel
      by_cases hlt : k < n
      · have hkl : k < l.length := by have := HN.out; omega
        have hkm : k < m.length := by have := HM.out; omega
        obtain ⟨b1, o1, c1, e1, -, -, -, -, hc1⟩ := HV.out.form (by rintro rfl; simp at hkl)
        rw [← HN.out] at e1
        injection e1 with e1 _ e2
        subst e1 e2
        obtain ⟨b2, o2, c2, e1, -, -, -, -, hc2⟩ := HU.out.form (by rintro rfl; simp at hkm)
        rw [← HM.out] at e1
        injection e1 with e1 _ e2
        subst e1 e2
        have k1 := hc1 k _ (at16_get hkl)
        have k2 := hc2 k _ (at16_get hkm)
        simp only [e16, b16] at k1 k2
        obtain ⟨x, hx⟩ : ∃ x : Int, x = ((at16 l k).toNat : Int) := ⟨_, rfl⟩
        obtain ⟨y, hy⟩ : ∃ y : Int, y = ((at16 m k).toNat : Int) := ⟨_, rfl⟩
        have hxy : x = y ↔ at16 l k = at16 m k := by rw [hx, hy, ← UInt16.toNat_inj]; omega
        rw [← hx] at k1
        rw [← hy] at k2
        clear hc1 hc2 hx hy
        by_cases he : x = y
        · have HT := Lib.hid (take_succ_eq hkl hkm ht (hxy.1 he))
          subst he
          clear ht hxy hkl hkm
          go_wp2
          go_quiet (fail)
          go_wp2
          go_roundw
          case rel => exact ⟨k + 1, _, hlt, by go_num, rfl, HT.out⟩
          case measure => simp [intOf]; omega
        · have hF : decide (l = m) = false := decide_eq_false (by rintro rfl; exact he (hxy.2 rfl))
          have HF := Lib.hid hF
          clear ht hxy hF hkl hkm
          go_wp2
          go_quiet (fail)
          go_wp2
          go_ret
          exact ⟨by rw [HF.out]; rfl, _, World.drewN_drewN ..⟩
      · obtain rfl : k = n := by omega
        have hT : decide (l = m) = true := decide_eq_true (by have := HN.out; have := HM.out; rwa [List.take_of_length_le (by omega), List.take_of_length_le (by omega)] at ht)
        have HT := Lib.hid hT
        clear hT ht
        go_wp2
        go_ret
        exact ⟨by rw [HT.out]; rfl, _, rfl⟩
  · have hF : decide (l = m) = false := decide_eq_false (by rintro rfl; exact hlm rfl)
    have HF := Lib.hid hF
    have hlm2 := HU.out.len
    have hlmi : ¬ (l.length : Int) = m.length := by omega
    have q1 : decide ((l.length : Int) = m.length) = false := decide_eq_false hlmi
    have q2 : ((l.length : Int) == m.length) = false := beq_false_of_ne hlmi
    have q3 : ((l.length : Int) != m.length) = true := by simp [bne, q2]
    clear hF
    go_enter Tryd.func15, Tryd.ntmps15
    go_wp2
    go_ret
    exact ⟨by rw [HF.out]; rfl, 0, rfl⟩
theorem below_drew {W : World} (n : Nat) : Below W.heap.size W (W.drewN n) := below_drewN (Below.refl _ _) n
theorem same_b (v u : Value) (l m : List UInt16) (lo hi lo' hi' : Nat) (W : World) (hv : Gs e16 W lo hi v l) (hu : Gs e16 W lo' hi' u m) :
    Calls Tryd.prog 15 #[v, u] W fun e w' => e = .returned (.bool (decide (l = m))) ∧ Below W.heap.size W w' :=
  (same_any v u l m lo hi lo' hi' W hv hu).mono fun e w' ⟨h1, n, h2⟩ => ⟨h1, h2 ▸ below_drew n⟩
theorem Gs.step {α : Type} {k : Elem α} {w w' : World} {v : Value} {l : List α} (h : Gs k w 0 w.heap.size v l) (b : Below w.heap.size w w') : Gs k w' 0 w'.heap.size v l := (h.below b).more (Nat.le_refl _) b.size
theorem Tb.step {w w' : World} (h : Tb w) (b : Below w.heap.size w w') : Tb w' := h.below b (Nat.le_refl _)
theorem wof_p (v : Value) (l : List UInt16) (w : World) (hv : Gs e16 w 0 w.heap.size v l) :
    Calls Tryd.prog 26 #[v] w fun e w' => ∃ A c, e = .returned (.slice A 1024 c) ∧ Gs e64 w' 0 w'.heap.size (.slice A 1024 c) (wm (mk l)) ∧ Below w.heap.size w w' := wof_k l _ rfl v w hv
theorem wlen_p (v : Value) (p : Nat → Bool) (n : Nat) (W : World) (hv : Gs e64 W 0 W.heap.size v (wm p)) (hn : ct p 65536 = n) :
    Calls Tryd.prog 20 #[v] W fun e w' => e = .returned (.int .i64 n) ∧ w' = W := by
  have h := wlen_any v _ 0 _ W hv
  rw [ct_wb p (Nat.le_refl _), hn] at h
  exact h
theorem wruns_p (v : Value) (p : Nat → Bool) (n : Nat) (W : World) (hv : Gs e64 W 0 W.heap.size v (wm p)) (hn : ct (hm p) 65536 = n) :
    Calls Tryd.prog 18 #[v] W fun e w' => e = .returned (.int .i64 n) ∧ w' = W := by
  have h := wruns_any v _ 0 _ W hv
  rw [hm_wb p (Nat.le_refl _), hn] at h
  exact h
theorem wlist_p (v : Value) (p : Nat → Bool) (n : Nat) (w : World) (hv : Gs e64 w 0 w.heap.size v (wm p)) (hT : Tb w) (hn : ct p 65536 = n) :
    Calls Tryd.prog 17 #[v] w fun e w' => ∃ A c, e = .returned (.slice A n c) ∧ Gs e16 w' 0 w'.heap.size (.slice A n c) (ls p 65536) ∧ Below w.heap.size w w' := by
  refine (wlist_any v _ 0 w hv hT).mono ?_
  rintro e w' ⟨v', rfl, o, b⟩
  rw [ls_wb p (Nat.le_refl _)] at o
  have s := o.sl.more (Nat.zero_le _) (Nat.le_refl _)
  obtain ⟨A, c, rfl, -⟩ := o.sl
  rw [ls_ct, hn] at s ⊢
  exact ⟨A, c, rfl, s, b⟩
theorem wflip_p (v : Value) (p : Nat → Bool) (lo hi : Int) (w : World) (hv : Gs e64 w 0 w.heap.size v (wm p)) :
    Calls Tryd.prog 27 #[v, .int .i64 lo, .int .i64 hi] w fun e w' => ∃ A c, e = .returned (.slice A 1024 c) ∧ Gs e64 w' 0 w'.heap.size (.slice A 1024 c) (wm (flp p lo hi)) ∧ Below w.heap.size w w' := by
  refine (wflip_any v _ 0 lo hi w hv).mono ?_
  rintro e w' ⟨v', rfl, o, b⟩
  rw [flp_wb] at o
  obtain ⟨A, c, rfl⟩ := gw_wm o
  exact ⟨A, c, rfl, o.sl.more (Nat.zero_le _) (Nat.le_refl _), b⟩
theorem wand_p (v u : Value) (p q : Nat → Bool) (w : World) (hv : Gs e64 w 0 w.heap.size v (wm p)) (hu : Gs e64 w 0 w.heap.size u (wm q)) :
    Calls Tryd.prog 11 #[v, u] w fun e w' => ∃ A c, e = .returned (.slice A 1024 c) ∧ Gs e64 w' 0 w'.heap.size (.slice A 1024 c) (wm fun x => fAnd (p x) (q x)) ∧ Below w.heap.size w w' := by
  refine (wand_any v u _ _ 0 w hv hu).mono ?_
  rintro e w' ⟨v', rfl, o, b⟩
  rw [mix_wb fAnd p q] at o
  obtain ⟨A, c, rfl⟩ := gw_wm o
  exact ⟨A, c, rfl, o.sl.more (Nat.zero_le _) (Nat.le_refl _), b⟩
theorem wor_p (v u : Value) (p q : Nat → Bool) (w : World) (hv : Gs e64 w 0 w.heap.size v (wm p)) (hu : Gs e64 w 0 w.heap.size u (wm q)) :
    Calls Tryd.prog 12 #[v, u] w fun e w' => ∃ A c, e = .returned (.slice A 1024 c) ∧ Gs e64 w' 0 w'.heap.size (.slice A 1024 c) (wm fun x => fOr (p x) (q x)) ∧ Below w.heap.size w w' := by
  refine (wor_any v u _ _ 0 w hv hu).mono ?_
  rintro e w' ⟨v', rfl, o, b⟩
  rw [mix_wb fOr p q] at o
  obtain ⟨A, c, rfl⟩ := gw_wm o
  exact ⟨A, c, rfl, o.sl.more (Nat.zero_le _) (Nat.le_refl _), b⟩
theorem wnot_p (v u : Value) (p q : Nat → Bool) (w : World) (hv : Gs e64 w 0 w.heap.size v (wm p)) (hu : Gs e64 w 0 w.heap.size u (wm q)) :
    Calls Tryd.prog 13 #[v, u] w fun e w' => ∃ A c, e = .returned (.slice A 1024 c) ∧ Gs e64 w' 0 w'.heap.size (.slice A 1024 c) (wm fun x => fNot (p x) (q x)) ∧ Below w.heap.size w w' := by
  refine (wnot_any v u _ _ 0 w hv hu).mono ?_
  rintro e w' ⟨v', rfl, o, b⟩
  rw [mix_wb fNot p q] at o
  obtain ⟨A, c, rfl⟩ := gw_wm o
  exact ⟨A, c, rfl, o.sl.more (Nat.zero_le _) (Nat.le_refl _), b⟩
theorem wxor_p (v u : Value) (p q : Nat → Bool) (w : World) (hv : Gs e64 w 0 w.heap.size v (wm p)) (hu : Gs e64 w 0 w.heap.size u (wm q)) :
    Calls Tryd.prog 14 #[v, u] w fun e w' => ∃ A c, e = .returned (.slice A 1024 c) ∧ Gs e64 w' 0 w'.heap.size (.slice A 1024 c) (wm fun x => fXor (p x) (q x)) ∧ Below w.heap.size w w' := by
  refine (wxor_any v u _ _ 0 w hv hu).mono ?_
  rintro e w' ⟨v', rfl, o, b⟩
  rw [mix_wb fXor p q] at o
  obtain ⟨A, c, rfl⟩ := gw_wm o
  exact ⟨A, c, rfl, o.sl.more (Nat.zero_le _) (Nat.le_refl _), b⟩
theorem same16_p (v u : Value) (l m : List UInt16) (W : World) (hv : Gs e16 W 0 W.heap.size v l) (hu : Gs e16 W 0 W.heap.size u m) (h : l = m) :
    Calls Tryd.prog 15 #[v, u] W fun e w' => e = .returned (.bool true) ∧ Below W.heap.size W w' :=
  (same_b v u l m 0 _ 0 _ W hv hu).mono fun e w' ⟨h1, h2⟩ => ⟨by rw [h1, decide_eq_true h], h2⟩
end Go.Proofs.YtgkelfhmpeakkaaDoor
