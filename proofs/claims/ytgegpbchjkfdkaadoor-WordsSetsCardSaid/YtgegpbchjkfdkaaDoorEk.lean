/- Proved of WordsSets: whatever its arguments. -/
import Derived.Test.YtgegpbchjkfdkaaDoorEj
import Derived.Test.YtgegpbchjkfdkaaDoorEh
namespace Go.Proofs.YtgegpbchjkfdkaaDoor
open Go.RowKit
set_option linter.unusedVariables false

theorem mlist_p (g : Nat) (p : Nat → Bool) (n : Nat) (w : World) (h : Row w g 55 (mA 65536 p)) (hn : ct p 65536 = n) :
    Calls Tryd.prog 11 #[.pointer (some ⟨g, 0, none⟩)] w fun e w' => ∃ A c, e = .returned (.slice A n c) ∧ Gs e16 w' 0 w'.heap.size (.slice A n c) (ls p 65536) ∧ Below w.heap.size w w' := by
  refine (list_any g p w h).mono ?_
  rintro e w' ⟨v', rfl, o, b⟩
  have s := o.sl.more (Nat.zero_le _) (Nat.le_refl _)
  obtain ⟨A, c, rfl, -⟩ := o.sl
  rw [ls_ct, hn] at s ⊢
  exact ⟨A, c, rfl, s, b⟩
theorem mbelow_p (g : Nat) (p : Nat → Bool) (x : Int) (n : Nat) (w : World) (h : Row w g 55 (mA 65536 p)) (hn : ct p (cl x) = n) :
    Calls Tryd.prog 19 #[.pointer (some ⟨g, 0, none⟩), .int .i64 x] w fun e w' => e = .returned (.int .i64 n) ∧ w' = w := by
  have h1 := refBelowAt_any g p x w h
  rw [hn] at h1
  exact h1
theorem mruns_p (g : Nat) (p : Nat → Bool) (r : Nat) (w : World) (h : Row w g 55 (mA 65536 p)) (hr : ct (hm p) 65536 = r) :
    Calls Tryd.prog 21 #[.pointer (some ⟨g, 0, none⟩)] w fun e w' => e = .returned (.int .i64 r) ∧ w' = w := by
  have h1 := refRuns_any g p w h
  rw [ls_ct, hr] at h1
  exact h1
set_option maxHeartbeats 400000 in
set_option maxRecDepth 100000 in
theorem ws_long (a0 a4 : Option Addr) (len0 cap0 len4 cap4 : Nat) (X K Q : Int) (w : World) (hT : Tb w) (h : 3000 < len0) (h2 : len0 ≤ 9223372036854775807) :
    Calls Tryd.prog 3 #[.slice a0 len0 cap0, .int .u16 X, .int .i64 K, .int .i64 Q, .slice a4 len4 cap4] w fun e w' => e = .returned (.bool true) ∧ Below w.heap.size w w' := by
  have hi' : (3000 : Int) < len0 := by omega
  clear h
  go_enter Tryd.func3, Tryd.ntmps3
  go_wp2_with (go_at_call 8; refine (known_p _ hT).mono ?_; rintro e w1 ⟨rfl, b1⟩)
  go_ret
  exact ⟨rfl, b1⟩
set_option maxHeartbeats 400000 in
set_option maxRecDepth 100000 in
theorem ws_long2 (a0 a4 : Option Addr) (len0 cap0 len4 cap4 : Nat) (X K Q : Int) (w : World) (hT : Tb w) (h0 : len0 ≤ 3000) (h : 2000 < len4) (h2 : len4 ≤ 9223372036854775807) :
    Calls Tryd.prog 3 #[.slice a0 len0 cap0, .int .u16 X, .int .i64 K, .int .i64 Q, .slice a4 len4 cap4] w fun e w' => e = .returned (.bool true) ∧ Below w.heap.size w w' := by
  have hi' : (2000 : Int) < len4 := by omega
  have hi0 : (len0 : Int) ≤ 3000 := by omega
  clear h h0
  go_enter Tryd.func3, Tryd.ntmps3
  go_wp2_with (go_at_call 8; refine (known_p _ hT).mono ?_; rintro e w1 ⟨rfl, b1⟩)
  go_ret
  exact ⟨rfl, b1⟩

set_option maxHeartbeats 8000000 in
set_option maxRecDepth 100000 in
theorem ws_yes (v u : Value) (l : List UInt16) (ol : List UInt64) (x : Nat) (hx : x < 65536) (K Q : Int) (hQ : Q ≤ 9223372036854775807) (w : World) (hv : Gs e16 w 0 w.heap.size v l) (hu : Gs e64 w 0 w.heap.size u ol) (hT : Tb w) (hl : l.length ≤ 3000) (hol : ol.length ≤ 2000) (hlo : 0 ≤ Q) (hhi : Q < (ct (mk l) 65536 : Nat)) :
    Calls Tryd.prog 3 #[v, .int .u16 x, .int .i64 K, .int .i64 Q, u] w fun e w' => e = .returned (.bool true) ∧ Below w.heap.size w w' := by
  have HV := Lib.hid hv
  have HU := Lib.hid hu
  have T0 := Lib.hid hT
  have HL := Lib.hid hl
  have HX := Lib.hid hx
  have HQM := Lib.hid hQ
  obtain ⟨A, c, rfl, -⟩ := hv
  obtain ⟨A', c', rfl, -⟩ := hu
  have hli : (l.length : Int) ≤ 3000 := by omega
  have hmi : (ol.length : Int) ≤ 2000 := by omega
  have hq1 : decide ((3000 : Int) < l.length) = false := decide_eq_false (by omega)
  have hq2 : decide ((2000 : Int) < ol.length) = false := decide_eq_false (by omega)
  obtain ⟨p, hp⟩ : ∃ p, p = mk l := ⟨_, rfl⟩
  obtain ⟨n, hn⟩ : ∃ n, n = ct p 65536 := ⟨_, rfl⟩
  obtain ⟨r, hr⟩ : ∃ r, r = ct (hm p) 65536 := ⟨_, rfl⟩
  obtain ⟨nb, hnb⟩ : ∃ nb, nb = ct p (cl K) := ⟨_, rfl⟩
  have hn6 : (n : Int) ≤ 65536 := by have := ct_le p 65536; omega
  have hxi : (x : Int) < 65536 := by omega
  have HP := Lib.hid hp
  have HN := Lib.hid hn
  have HR := Lib.hid hr
  have HNB := Lib.hid hnb
  rw [← hp, ← hn] at hhi
  have hK : Q.toNat < ct p 65536 := by rw [← hn]; omega
  obtain ⟨y, hy, y1, y2, y3⟩ := ls_nth p hK
  obtain ⟨s1, s2⟩ := sel_yes (K := Q) hy y1 (by rw [y2]; omega)
  have S1 := Lib.hid (show (sx p Q).toNat = y by rw [s1, u16_of y hy])
  have S2 := Lib.hid s2
  have Y3 := Lib.hid y3
  have HY := Lib.hid hy
  have hQ0 : 0 ≤ Q := by omega
  have hQn : Q < (n : Int) := by omega
  clear hK hy y1 y2 y3 s1 s2 hlo hhi
  clear hT hl hol hp hn hr hnb hx hQ
  go_enter Tryd.func3, Tryd.ntmps3
  go_wp2_with (at_builtin; refine wpList_gapp e16 _ rfl _ _ _ rfl w.heap.size sli16 inf16 _ [] rfl (Gw.empty_ _ _ (Nat.le_refl _)) 0 w.heap.size _ l rfl (HV.out.alloc (Nat.le_refl _) _) (by have := HL.out; simp; omega) (by simp) ?_; intro v1 w0 o1 g1 hh; clear hh; rw [List.nil_append] at o1; have O1 := Lib.hid o1; have B0 := Lib.hid (((Below.refl w.heap.size w).alloc (Nat.le_refl _) _).grown g1 (by simp) (fun i hi => by injection hi with hi; subst hi; exact Nat.le_refl _)); obtain ⟨A9, c9, rfl, -⟩ := o1.sl; clear o1 g1)
  have IN := Lib.hid (O1.out.sl.more (Nat.zero_le _) (Nat.le_refl _))
  have HV := Lib.hid (HV.out.step B0.out)
  have HU := Lib.hid (HU.out.step B0.out)
  have T0 := Lib.hid (T0.out.step B0.out)
  clear O1
  go_wp2_with fail
  refine (wof_p _ l _ IN.out).mono ?_
  rw [← HP.out]
  rintro e w1 ⟨A1, c1, rfl, g1, b1⟩
  have HV := Lib.hid (HV.out.step b1)
  have HU := Lib.hid (HU.out.step b1)
  have IN := Lib.hid (IN.out.step b1)
  have T1 := Lib.hid (T0.out.step b1)
  have B1 := Lib.hid (B0.out.trans (b1.mono B0.out.size))
  have X := Lib.hid g1
  clear g1 b1
  go_wp2_with fail
  refine (mof_p _ l _ HV.out HL.out).mono ?_
  rw [← HP.out]
  rintro e w2 ⟨gm, rfl, g2, b2⟩
  have HV := Lib.hid (HV.out.step b2)
  have HU := Lib.hid (HU.out.step b2)
  have IN := Lib.hid (IN.out.step b2)
  have X := Lib.hid (X.out.step b2)
  have T2 := Lib.hid (T1.out.step b2)
  have B2 := Lib.hid (B1.out.trans (b2.mono B1.out.size))
  have MA := Lib.hid g2
  clear g2 b2
  go_wp2_with fail
  refine (mlist_p gm p n _ MA.out HN.out.symm).mono ?_
  rintro e w3 ⟨A3, c3, rfl, g3, b3⟩
  have HV := Lib.hid (HV.out.step b3)
  have HU := Lib.hid (HU.out.step b3)
  have IN := Lib.hid (IN.out.step b3)
  have X := Lib.hid (X.out.step b3)
  have MA := Lib.hid (MA.out.step b3)
  have T3 := Lib.hid (T2.out.step b3)
  have B3 := Lib.hid (B2.out.trans (b3.mono B2.out.size))
  have L := Lib.hid g3
  clear g3 b3
  have GG := Lib.hid (show ∀ W, Below w3.heap.size w3 W → Gs e64 W 0 W.heap.size (.slice A1 1024 c1) (wm p) ∧ Gs e16 W 0 W.heap.size (.slice A3 n c3) (ls p 65536) ∧ Row W gm 55 (mA 65536 p) ∧ Gs e16 W 0 W.heap.size (.slice A9 l.length c9) l ∧ Gs e16 W 0 W.heap.size (.slice A l.length c) l ∧ Tb W from fun W hW =>
    ⟨X.out.step hW, L.out.step hW, MA.out.step hW, IN.out.step hW, HV.out.step hW, T3.out.step hW⟩)
  have KK := Lib.hid (show ∀ W, Below w3.heap.size w3 W → W.cell? ⟨gm, x, none⟩ = some (.bool (p x)) from fun W hW => ((MA.out.step hW).cell x).trans (mA_at _ _ _ HX.out))
  have hSc : Below w3.heap.size w3 w3.drew := (Below.refl w3.heap.size w3).drew
  go_wp2_with fail
  refine wp_region_held_drew (S := fun W => Below w3.heap.size w3 W) (by kernel_rfl) hSc (fun _ => ?_)
  refine held_take 0 ?_ rfl (by kernel_rfl) (by kernel_rfl) (by kernel_rfl) (fun _ _ _ h => h) (by rfl) ?_ hSc ?_
  rotate_left
  · (intro W hSW; go_simp; try rfl)
  try simp only [Act.put, List.setIfInBounds_toArray, List.set_cons_zero, List.set_cons_succ]
  refine held_take 1 ?_ rfl (by kernel_rfl) (by kernel_rfl) (by kernel_rfl) (fun _ _ _ h => h) (by rfl) ?_ hSc ?_
  rotate_left
  · (intro W hSW; go_simp; try rfl)
  try simp only [Act.put, List.setIfInBounds_toArray, List.set_cons_zero, List.set_cons_succ]
  refine held_next 2 rfl (by kernel_rfl) (by rfl) ?_
  go_simp
  refine (mwords_p gm p _ (GG.out _ hSc).2.2.1).mono ?_
  rintro e wq1 ⟨Aq, cq, rfl, gq, bq⟩
  have hbq : Below w3.heap.size w3 wq1 := hSc.trans (bq.mono hSc.size)
  refine ⟨fun W => Below w3.heap.size w3 W, fun W hW => hW, hbq, ?_⟩
  have GR := Lib.hid gq
  clear gq
  clear hSc bq
  have hSc : Below w3.heap.size w3 wq1 := hbq
  clear hbq
  try simp only [Act.put, List.setIfInBounds_toArray, List.set_cons_zero, List.set_cons_succ]
  refine held_next 3 rfl (by kernel_rfl) (by rfl) ?_
  go_simp
  refine (same64_p _ _ _ _ _ (GG.out _ hSc).1 GR.out rfl).mono ?_
  rintro e wq2 ⟨rfl, bq⟩
  have hbq : Below w3.heap.size w3 wq2 := hSc.trans (bq.mono hSc.size)
  refine ⟨fun W => Below w3.heap.size w3 W, fun W hW => hW, hbq, ?_⟩
  clear GR
  clear hSc bq
  have hSc : Below w3.heap.size w3 wq2 := hbq
  clear hbq
  try simp only [Act.put, List.setIfInBounds_toArray, List.set_cons_zero, List.set_cons_succ]
  refine held_take 4 ?_ rfl (by kernel_rfl) (by kernel_rfl) (by kernel_rfl) (fun _ _ _ h => h) (by rfl) ?_ hSc ?_
  rotate_left
  · (intro W hSW; go_simp; try rfl)
  try simp only [Act.put, List.setIfInBounds_toArray, List.set_cons_zero, List.set_cons_succ]
  refine held_take 5 ?_ rfl (by kernel_rfl) (by kernel_rfl) (by kernel_rfl) (fun _ _ _ h => h) (by rfl) ?_ hSc ?_
  rotate_left
  · (intro W hSW; go_simp; try rfl)
  try simp only [Act.put, List.setIfInBounds_toArray, List.set_cons_zero, List.set_cons_succ]
  refine held_take 6 ?_ rfl (by kernel_rfl) (by kernel_rfl) (by kernel_rfl) (fun _ _ _ h => h) (by rfl) ?_ hSc ?_
  rotate_left
  · (intro W hSW; go_simp; try rfl)
  try simp only [Act.put, List.setIfInBounds_toArray, List.set_cons_zero, List.set_cons_succ]
  refine held_take 8 ?_ rfl (by kernel_rfl) (by kernel_rfl) (by kernel_rfl) (fun _ _ _ h => h) (by rfl) ?_ hSc ?_
  rotate_left
  · (intro W hSW; go_simp; try rfl)
  try simp only [Act.put, List.setIfInBounds_toArray, List.set_cons_zero, List.set_cons_succ]
  refine held_next 7 rfl (by kernel_rfl) (by rfl) ?_
  go_simp
  refine (wlist_p _ p n _ (GG.out _ hSc).1 (GG.out _ hSc).2.2.2.2.2 HN.out.symm).mono ?_
  rintro e wq3 ⟨Aq, cq, rfl, gq, bq⟩
  have hbq : Below w3.heap.size w3 wq3 := hSc.trans (bq.mono hSc.size)
  refine ⟨fun W => Below w3.heap.size w3 W, fun W hW => hW, hbq, ?_⟩
  have GR := Lib.hid gq
  clear gq
  clear hSc bq
  have hSc : Below w3.heap.size w3 wq3 := hbq
  clear hbq
  try simp only [Act.put, List.setIfInBounds_toArray, List.set_cons_zero, List.set_cons_succ]
  refine held_next 9 rfl (by kernel_rfl) (by rfl) ?_
  go_simp
  refine (same16_p _ _ _ _ _ GR.out (GG.out _ hSc).2.1 rfl).mono ?_
  rintro e wq4 ⟨rfl, bq⟩
  have hbq : Below w3.heap.size w3 wq4 := hSc.trans (bq.mono hSc.size)
  refine ⟨fun W => Below w3.heap.size w3 W, fun W hW => hW, hbq, ?_⟩
  clear GR
  clear hSc bq
  have hSc : Below w3.heap.size w3 wq4 := hbq
  clear hbq
  try simp only [Act.put, List.setIfInBounds_toArray, List.set_cons_zero, List.set_cons_succ]
  refine held_take 10 ?_ rfl (by kernel_rfl) (by kernel_rfl) (by kernel_rfl) (fun _ _ _ h => h) (by rfl) ?_ hSc ?_
  rotate_left
  · (intro W hSW; go_simp; try rfl)
  try simp only [Act.put, List.setIfInBounds_toArray, List.set_cons_zero, List.set_cons_succ]
  refine held_take 11 ?_ rfl (by kernel_rfl) (by kernel_rfl) (by kernel_rfl) (fun _ _ _ h => h) (by rfl) ?_ hSc ?_
  rotate_left
  · (intro W hSW; go_simp; try rfl)
  try simp only [Act.put, List.setIfInBounds_toArray, List.set_cons_zero, List.set_cons_succ]
  refine held_take 12 ?_ rfl (by kernel_rfl) (by kernel_rfl) (by kernel_rfl) (fun _ _ _ h => h) (by rfl) ?_ hSc ?_
  rotate_left
  · (intro W hSW; go_simp; try rfl)
  try simp only [Act.put, List.setIfInBounds_toArray, List.set_cons_zero, List.set_cons_succ]
  refine held_take 13 ?_ rfl (by kernel_rfl) (by kernel_rfl) (by kernel_rfl) (fun _ _ _ h => h) (by rfl) ?_ hSc ?_
  rotate_left
  · (intro W hSW; go_simp; try rfl)
  try simp only [Act.put, List.setIfInBounds_toArray, List.set_cons_zero, List.set_cons_succ]
  refine held_take 15 ?_ rfl (by kernel_rfl) (by kernel_rfl) (by kernel_rfl) (fun _ _ _ h => h) (by rfl) ?_ hSc ?_
  rotate_left
  · (intro W hSW; go_simp; try rfl)
  try simp only [Act.put, List.setIfInBounds_toArray, List.set_cons_zero, List.set_cons_succ]
  refine held_take 16 ?_ rfl (by kernel_rfl) (by kernel_rfl) (by kernel_rfl) (fun _ _ _ h => h) (by rfl) ?_ hSc ?_
  rotate_left
  · (intro W hSW; go_simp; try rfl)
  try simp only [Act.put, List.setIfInBounds_toArray, List.set_cons_zero, List.set_cons_succ]
  refine held_next 14 rfl (by kernel_rfl) (by rfl) ?_
  go_simp
  refine (wlen_p _ p n _ (GG.out _ hSc).1 HN.out.symm).mono ?_
  rintro e wq ⟨rfl, hz⟩
  have hz := hz.symm
  subst hz
  refine ⟨fun W => Below w3.heap.size w3 W, fun W hW => hW, hSc, ?_⟩
  try simp only [Act.put, List.setIfInBounds_toArray, List.set_cons_zero, List.set_cons_succ]
  refine held_take 17 ?_ rfl (by kernel_rfl) (by kernel_rfl) (by kernel_rfl) (fun _ _ _ h => h) (by rfl) ?_ hSc ?_
  rotate_left
  · (intro W hSW; go_simp; try rfl)
  try simp only [Act.put, List.setIfInBounds_toArray, List.set_cons_zero, List.set_cons_succ]
  refine held_take 18 ?_ rfl (by kernel_rfl) (by kernel_rfl) (by kernel_rfl) (fun _ _ _ h => h) (by rfl) ?_ hSc ?_
  rotate_left
  · (intro W hSW; go_simp; try rfl)
  try simp only [Act.put, List.setIfInBounds_toArray, List.set_cons_zero, List.set_cons_succ]
  refine held_take 19 ?_ rfl (by kernel_rfl) (by kernel_rfl) (by kernel_rfl) (fun _ _ _ h => h) (by rfl) ?_ hSc ?_
  rotate_left
  · (intro W hSW; go_simp; try rfl)
  try simp only [Act.put, List.setIfInBounds_toArray, List.set_cons_zero, List.set_cons_succ]
  refine held_take 20 ?_ rfl (by kernel_rfl) (by kernel_rfl) (by kernel_rfl) (fun _ _ _ h => h) (by rfl) ?_ hSc ?_
  rotate_left
  · (intro W hSW; go_simp; try rfl)
  try simp only [Act.put, List.setIfInBounds_toArray, List.set_cons_zero, List.set_cons_succ]
  refine held_take 21 ?_ rfl (by kernel_rfl) (by kernel_rfl) (by kernel_rfl) (fun _ _ _ h => h) (by rfl) ?_ hSc ?_
  rotate_left
  · (intro W hSW; go_simp; try rfl)
  try simp only [Act.put, List.setIfInBounds_toArray, List.set_cons_zero, List.set_cons_succ]
  refine held_take 23 ?_ rfl (by kernel_rfl) (by kernel_rfl) (by kernel_rfl) (fun _ _ _ h => h) (by rfl) ?_ hSc ?_
  rotate_left
  · (intro W hSW; go_simp; try rfl)
  try simp only [Act.put, List.setIfInBounds_toArray, List.set_cons_zero, List.set_cons_succ]
  refine held_take 24 ?_ rfl (by kernel_rfl) (by kernel_rfl) (by kernel_rfl) (fun _ _ _ h => h) (by rfl) ?_ hSc ?_
  rotate_left
  · (intro W hSW; go_simp; try rfl)
  try simp only [Act.put, List.setIfInBounds_toArray, List.set_cons_zero, List.set_cons_succ]
  refine held_take 25 ?_ rfl (by kernel_rfl) (by kernel_rfl) (by kernel_rfl) (fun _ _ _ h => h) (by rfl) ?_ hSc ?_
  rotate_left
  · (intro W hSW; go_simp; try rfl)
  try simp only [Act.put, List.setIfInBounds_toArray, List.set_cons_zero, List.set_cons_succ]
  refine held_take 26 ?_ rfl (by kernel_rfl) (by kernel_rfl) (by kernel_rfl) (fun _ _ _ h => h) (by rfl) ?_ hSc ?_
  rotate_left
  · (intro W hSW; go_simp; try rfl)
  try simp only [Act.put, List.setIfInBounds_toArray, List.set_cons_zero, List.set_cons_succ]
  refine held_take 27 ?_ rfl (by kernel_rfl) (by kernel_rfl) (by kernel_rfl) (fun _ _ _ h => h) (by rfl) ?_ hSc ?_
  rotate_left
  · (intro W hSW; have k1 := KK.out W hSW; go_simp; try rfl)
  try simp only [Act.put, List.setIfInBounds_toArray, List.set_cons_zero, List.set_cons_succ]
  refine held_next 22 rfl (by kernel_rfl) (by rfl) ?_
  go_simp
  refine (whas_p _ p _ x _ (GG.out _ hSc).1 rfl HX.out).mono ?_
  rintro e wq ⟨rfl, hz⟩
  have hz := hz.symm
  subst hz
  refine ⟨fun W => Below w3.heap.size w3 W, fun W hW => hW, hSc, ?_⟩
  try simp only [Act.put, List.setIfInBounds_toArray, List.set_cons_zero, List.set_cons_succ]
  refine held_take 28 ?_ rfl (by kernel_rfl) (by kernel_rfl) (by kernel_rfl) (fun _ _ _ h => h) (by rfl) ?_ hSc ?_
  rotate_left
  · (intro W hSW; go_simp; try rfl)
  try simp only [Act.put, List.setIfInBounds_toArray, List.set_cons_zero, List.set_cons_succ]
  refine held_take 29 ?_ rfl (by kernel_rfl) (by kernel_rfl) (by kernel_rfl) (fun _ _ _ h => h) (by rfl) ?_ hSc ?_
  rotate_left
  · (intro W hSW; go_simp; try rfl)
  try simp only [Act.put, List.setIfInBounds_toArray, List.set_cons_zero, List.set_cons_succ]
  refine held_take 30 ?_ rfl (by kernel_rfl) (by kernel_rfl) (by kernel_rfl) (fun _ _ _ h => h) (by rfl) ?_ hSc ?_
  rotate_left
  · (intro W hSW; go_simp; try rfl)
  try simp only [Act.put, List.setIfInBounds_toArray, List.set_cons_zero, List.set_cons_succ]
  refine held_take 31 ?_ rfl (by kernel_rfl) (by kernel_rfl) (by kernel_rfl) (fun _ _ _ h => h) (by rfl) ?_ hSc ?_
  rotate_left
  · (intro W hSW; go_simp; try rfl)
  try simp only [Act.put, List.setIfInBounds_toArray, List.set_cons_zero, List.set_cons_succ]
  refine held_take 32 ?_ rfl (by kernel_rfl) (by kernel_rfl) (by kernel_rfl) (fun _ _ _ h => h) (by rfl) ?_ hSc ?_
  rotate_left
  · (intro W hSW; go_simp; try rfl)
  try simp only [Act.put, List.setIfInBounds_toArray, List.set_cons_zero, List.set_cons_succ]
  refine held_take 34 ?_ rfl (by kernel_rfl) (by kernel_rfl) (by kernel_rfl) (fun _ _ _ h => h) (by rfl) ?_ hSc ?_
  rotate_left
  · (intro W hSW; go_simp; try rfl)
  try simp only [Act.put, List.setIfInBounds_toArray, List.set_cons_zero, List.set_cons_succ]
  refine held_take 35 ?_ rfl (by kernel_rfl) (by kernel_rfl) (by kernel_rfl) (fun _ _ _ h => h) (by rfl) ?_ hSc ?_
  rotate_left
  · (intro W hSW; go_simp; try rfl)
  try simp only [Act.put, List.setIfInBounds_toArray, List.set_cons_zero, List.set_cons_succ]
  refine held_next 33 rfl (by kernel_rfl) (by rfl) ?_
  go_simp
  refine (wrank_p _ p _ nb _ (GG.out _ hSc).1 HNB.out.symm).mono ?_
  rintro e wq ⟨rfl, hz⟩
  have hz := hz.symm
  subst hz
  refine ⟨fun W => Below w3.heap.size w3 W, fun W hW => hW, hSc, ?_⟩
  try simp only [Act.put, List.setIfInBounds_toArray, List.set_cons_zero, List.set_cons_succ]
  refine held_next 36 rfl (by kernel_rfl) (by rfl) ?_
  go_simp
  refine (mbelow_p gm p _ nb _ (GG.out _ hSc).2.2.1 HNB.out.symm).mono ?_
  rintro e wq ⟨rfl, hz⟩
  have hz := hz.symm
  subst hz
  refine ⟨fun W => Below w3.heap.size w3 W, fun W hW => hW, hSc, ?_⟩
  try simp only [Act.put, List.setIfInBounds_toArray, List.set_cons_zero, List.set_cons_succ]
  refine held_take 37 ?_ rfl (by kernel_rfl) (by kernel_rfl) (by kernel_rfl) (fun _ _ _ h => h) (by rfl) ?_ hSc ?_
  rotate_left
  · (intro W hSW; go_simp; try rfl)
  try simp only [Act.put, List.setIfInBounds_toArray, List.set_cons_zero, List.set_cons_succ]
  refine held_take 38 ?_ rfl (by kernel_rfl) (by kernel_rfl) (by kernel_rfl) (fun _ _ _ h => h) (by rfl) ?_ hSc ?_
  rotate_left
  · (intro W hSW; go_simp; try rfl)
  try simp only [Act.put, List.setIfInBounds_toArray, List.set_cons_zero, List.set_cons_succ]
  refine held_take 39 ?_ rfl (by kernel_rfl) (by kernel_rfl) (by kernel_rfl) (fun _ _ _ h => h) (by rfl) ?_ hSc ?_
  rotate_left
  · (intro W hSW; go_simp; try rfl)
  try simp only [Act.put, List.setIfInBounds_toArray, List.set_cons_zero, List.set_cons_succ]
  refine held_take 40 ?_ rfl (by kernel_rfl) (by kernel_rfl) (by kernel_rfl) (fun _ _ _ h => h) (by rfl) ?_ hSc ?_
  rotate_left
  · (intro W hSW; go_simp; try rfl)
  try simp only [Act.put, List.setIfInBounds_toArray, List.set_cons_zero, List.set_cons_succ]
  refine held_take 42 ?_ rfl (by kernel_rfl) (by kernel_rfl) (by kernel_rfl) (fun _ _ _ h => h) (by rfl) ?_ hSc ?_
  rotate_left
  · (intro W hSW; go_simp; try rfl)
  try simp only [Act.put, List.setIfInBounds_toArray, List.set_cons_zero, List.set_cons_succ]
  refine held_next 41 rfl (by kernel_rfl) (by rfl) ?_
  go_simp
  refine (wruns_p _ p r _ (GG.out _ hSc).1 HR.out.symm).mono ?_
  rintro e wq ⟨rfl, hz⟩
  have hz := hz.symm
  subst hz
  refine ⟨fun W => Below w3.heap.size w3 W, fun W hW => hW, hSc, ?_⟩
  try simp only [Act.put, List.setIfInBounds_toArray, List.set_cons_zero, List.set_cons_succ]
  refine held_next 43 rfl (by kernel_rfl) (by rfl) ?_
  go_simp
  refine (mruns_p gm p r _ (GG.out _ hSc).2.2.1 HR.out.symm).mono ?_
  rintro e wq ⟨rfl, hz⟩
  have hz := hz.symm
  subst hz
  refine ⟨fun W => Below w3.heap.size w3 W, fun W hW => hW, hSc, ?_⟩
  try simp only [Act.put, List.setIfInBounds_toArray, List.set_cons_zero, List.set_cons_succ]
  refine held_take 44 ?_ rfl (by kernel_rfl) (by kernel_rfl) (by kernel_rfl) (fun _ _ _ h => h) (by rfl) ?_ hSc ?_
  rotate_left
  · (intro W hSW; go_simp; try rfl)
  try simp only [Act.put, List.setIfInBounds_toArray, List.set_cons_zero, List.set_cons_succ]
  refine held_take 45 ?_ rfl (by kernel_rfl) (by kernel_rfl) (by kernel_rfl) (fun _ _ _ h => h) (by rfl) ?_ hSc ?_
  rotate_left
  · (intro W hSW; go_simp; try rfl)
  try simp only [Act.put, List.setIfInBounds_toArray, List.set_cons_zero, List.set_cons_succ]
  refine held_take 46 ?_ rfl (by kernel_rfl) (by kernel_rfl) (by kernel_rfl) (fun _ _ _ h => h) (by rfl) ?_ hSc ?_
  rotate_left
  · (intro W hSW; go_simp; try rfl)
  try simp only [Act.put, List.setIfInBounds_toArray, List.set_cons_zero, List.set_cons_succ]
  refine held_take 47 ?_ rfl (by kernel_rfl) (by kernel_rfl) (by kernel_rfl) (fun _ _ _ h => h) (by rfl) ?_ hSc ?_
  rotate_left
  · (intro W hSW; go_simp; try rfl)
  try simp only [Act.put, List.setIfInBounds_toArray, List.set_cons_zero, List.set_cons_succ]
  refine held_take 48 ?_ rfl (by kernel_rfl) (by kernel_rfl) (by kernel_rfl) (fun _ _ _ h => h) (by rfl) ?_ hSc ?_
  rotate_left
  · (intro W hSW; go_simp; try rfl)
  try simp only [Act.put, List.setIfInBounds_toArray, List.set_cons_zero, List.set_cons_succ]
  refine held_next 49 rfl (by kernel_rfl) (by rfl) ?_
  go_simp
  refine (same16_p _ _ _ _ _ (GG.out _ hSc).2.2.2.1 (GG.out _ hSc).2.2.2.2.1 rfl).mono ?_
  rintro e wq5 ⟨rfl, bq⟩
  have hbq : Below w3.heap.size w3 wq5 := hSc.trans (bq.mono hSc.size)
  refine ⟨fun W => Below w3.heap.size w3 W, fun W hW => hW, hbq, ?_⟩
  clear hSc bq
  have hSc : Below w3.heap.size w3 wq5 := hbq
  clear hbq
  try simp only [Act.put, List.setIfInBounds_toArray, List.set_cons_zero, List.set_cons_succ]
  refine held_take 50 ?_ rfl (by kernel_rfl) (by kernel_rfl) (by kernel_rfl) (fun _ _ _ h => h) (by rfl) ?_ hSc ?_
  rotate_left
  · (intro W hSW; go_simp; try rfl)
  try simp only [Act.put, List.setIfInBounds_toArray, List.set_cons_zero, List.set_cons_succ]
  refine held_next 51 rfl (by kernel_rfl) (by rfl) ?_
  go_simp
  refine ⟨fun W => Below w3.heap.size w3 W, fun W hW => hW, hSc, ?_⟩
  refine wpAnyH_done (by kernel_rfl) ?_ _
  generalize hwz : (wq5 : World) = w4 at *
  clear hwz
  have HV := Lib.hid (HV.out.step hSc)
  have HU := Lib.hid (HU.out.step hSc)
  have IN := Lib.hid (IN.out.step hSc)
  have X := Lib.hid (X.out.step hSc)
  have L := Lib.hid (L.out.step hSc)
  have MA := Lib.hid (MA.out.step hSc)
  have T4 := Lib.hid (T3.out.step hSc)
  have B4 := Lib.hid (B3.out.trans (hSc.mono B3.out.size))
  clear hSc KK GG
  go_wp2_with fail
  refine (wselect_p _ p Q y true _ X.out T4.out HQM.out S1.out S2.out).mono ?_
  rintro e w' ⟨rfl, hz⟩
  have hz := hz.symm
  subst hz
  have hne : ls p 65536 ≠ [] := by rintro h; have := Y3.out; rw [h] at this; simp at this
  obtain ⟨b, o, c'', e1, -, -, -, -, hc⟩ := L.out.form hne
  have e2 := Option.some.inj ((congrArg some (Value.slice.inj e1).1))
  subst e2
  have k1 := hc Q.toNat _ Y3.out
  simp only [e16, b16] at k1
  rw [u16_of y HY.out] at k1
  clear hc e1 hne
  go_wp2_with fail
  refine (wlist_any _ ol 0 _ HU.out T4.out).mono ?_
  rintro e w5 ⟨v5, rfl, g5, b5⟩
  obtain ⟨Ax5, cx5, rfl, -⟩ := g5.sl
  have HV := Lib.hid (HV.out.step b5)
  have HU := Lib.hid (HU.out.step b5)
  have IN := Lib.hid (IN.out.step b5)
  have X := Lib.hid (X.out.step b5)
  have L := Lib.hid (L.out.step b5)
  have MA := Lib.hid (MA.out.step b5)
  have T5 := Lib.hid (T4.out.step b5)
  have B5 := Lib.hid (B4.out.trans (b5.mono B4.out.size))
  clear g5 b5
  go_wp2_with fail
  refine (wlen_any _ ol 0 _ _ HU.out).mono ?_
  rintro e w' ⟨rfl, hz⟩
  have hz := hz.symm
  subst hz
  go_wp2_with fail
  refine (whas_any _ ol 0 _ x _ HU.out (by omega) (by omega)).mono ?_
  rintro e w' ⟨rfl, hz⟩
  have hz := hz.symm
  subst hz
  go_wp2_with fail
  refine (wrank_any _ ol 0 _ K _ HU.out).mono ?_
  rintro e w' ⟨rfl, hz⟩
  have hz := hz.symm
  subst hz
  go_wp2_with fail
  refine (wselect_any _ ol 0 _ Q _ HU.out T5.out HQM.out).mono ?_
  rintro e w' ⟨rfl, hz⟩
  have hz := hz.symm
  subst hz
  go_wp2_with fail
  refine (wruns_any _ ol 0 _ _ HU.out).mono ?_
  rintro e w' ⟨rfl, hz⟩
  have hz := hz.symm
  subst hz
  go_wp2_with fail
  refine (wflip_any _ ol 0 K Q _ HU.out).mono ?_
  rintro e w6 ⟨v6, rfl, g6, b6⟩
  obtain ⟨Ax6, cx6, rfl, -⟩ := g6.sl
  have HV := Lib.hid (HV.out.step b6)
  have HU := Lib.hid (HU.out.step b6)
  have IN := Lib.hid (IN.out.step b6)
  have X := Lib.hid (X.out.step b6)
  have L := Lib.hid (L.out.step b6)
  have MA := Lib.hid (MA.out.step b6)
  have T6 := Lib.hid (T5.out.step b6)
  have B6 := Lib.hid (B5.out.trans (b6.mono B5.out.size))
  clear g6 b6
  go_wp2_with fail
  refine (wand_any _ _ ol _ 0 _ HU.out X.out).mono ?_
  rintro e w7 ⟨v7, rfl, g7, b7⟩
  obtain ⟨Ax7, cx7, rfl, -⟩ := g7.sl
  have HV := Lib.hid (HV.out.step b7)
  have HU := Lib.hid (HU.out.step b7)
  have IN := Lib.hid (IN.out.step b7)
  have X := Lib.hid (X.out.step b7)
  have L := Lib.hid (L.out.step b7)
  have MA := Lib.hid (MA.out.step b7)
  have T7 := Lib.hid (T6.out.step b7)
  have B7 := Lib.hid (B6.out.trans (b7.mono B6.out.size))
  clear g7 b7
  go_wp2_with fail
  refine (wxor_any _ _ _ ol 0 _ X.out HU.out).mono ?_
  rintro e w8 ⟨v8, rfl, g8, b8⟩
  obtain ⟨Ax8, cx8, rfl, -⟩ := g8.sl
  have HV := Lib.hid (HV.out.step b8)
  have HU := Lib.hid (HU.out.step b8)
  have IN := Lib.hid (IN.out.step b8)
  have X := Lib.hid (X.out.step b8)
  have L := Lib.hid (L.out.step b8)
  have MA := Lib.hid (MA.out.step b8)
  have T8 := Lib.hid (T7.out.step b8)
  have B8 := Lib.hid (B7.out.trans (b8.mono B7.out.size))
  clear g8 b8
  go_wp2_with fail
  refine (wor_any _ _ ol _ 0 _ HU.out X.out).mono ?_
  rintro e w9 ⟨v9, rfl, g9, b9⟩
  obtain ⟨Ax9, cx9, rfl, -⟩ := g9.sl
  have HV := Lib.hid (HV.out.step b9)
  have HU := Lib.hid (HU.out.step b9)
  have IN := Lib.hid (IN.out.step b9)
  have X := Lib.hid (X.out.step b9)
  have L := Lib.hid (L.out.step b9)
  have MA := Lib.hid (MA.out.step b9)
  have T9 := Lib.hid (T8.out.step b9)
  have B9 := Lib.hid (B8.out.trans (b9.mono B8.out.size))
  clear g9 b9
  go_wp2_with fail
  refine (wnot_any _ _ _ ol 0 _ X.out HU.out).mono ?_
  rintro e w10 ⟨v10, rfl, g10, b10⟩
  obtain ⟨Ax10, cx10, rfl, -⟩ := g10.sl
  have HV := Lib.hid (HV.out.step b10)
  have HU := Lib.hid (HU.out.step b10)
  have IN := Lib.hid (IN.out.step b10)
  have X := Lib.hid (X.out.step b10)
  have L := Lib.hid (L.out.step b10)
  have MA := Lib.hid (MA.out.step b10)
  have T10 := Lib.hid (T9.out.step b10)
  have B10 := Lib.hid (B9.out.trans (b10.mono B9.out.size))
  clear g10 b10
  go_wp2_with fail
  refine (mwords_p gm p _ MA.out).mono ?_
  rintro e w11 ⟨A7, c7, rfl, g11, b11⟩
  have HV := Lib.hid (HV.out.step b11)
  have HU := Lib.hid (HU.out.step b11)
  have IN := Lib.hid (IN.out.step b11)
  have X := Lib.hid (X.out.step b11)
  have L := Lib.hid (L.out.step b11)
  have MA := Lib.hid (MA.out.step b11)
  have T11 := Lib.hid (T10.out.step b11)
  have B11 := Lib.hid (B10.out.trans (b11.mono B10.out.size))
  have WS := Lib.hid g11
  clear g11 b11
  go_wp2_with fail
  refine (same64_p _ _ _ _ _ X.out WS.out rfl).mono ?_
  rintro e w12 ⟨rfl, b12⟩
  have HV := Lib.hid (HV.out.step b12)
  have HU := Lib.hid (HU.out.step b12)
  have IN := Lib.hid (IN.out.step b12)
  have X := Lib.hid (X.out.step b12)
  have L := Lib.hid (L.out.step b12)
  have WS := Lib.hid (WS.out.step b12)
  have MA := Lib.hid (MA.out.step b12)
  have T12 := Lib.hid (T11.out.step b12)
  have B12 := Lib.hid (B11.out.trans (b12.mono B11.out.size))
  clear b12
  go_wp2_with fail
  refine (known_p _ T12.out).mono ?_
  rintro e w13 ⟨rfl, b13⟩
  have HV := Lib.hid (HV.out.step b13)
  have HU := Lib.hid (HU.out.step b13)
  have IN := Lib.hid (IN.out.step b13)
  have X := Lib.hid (X.out.step b13)
  have L := Lib.hid (L.out.step b13)
  have WS := Lib.hid (WS.out.step b13)
  have MA := Lib.hid (MA.out.step b13)
  have T13 := Lib.hid (T12.out.step b13)
  have B13 := Lib.hid (B12.out.trans (b13.mono B12.out.size))
  clear b13
  go_wp2
  go_ret
  exact ⟨rfl, B13.out⟩

set_option maxHeartbeats 8000000 in
set_option maxRecDepth 100000 in
theorem ws_neg (v u : Value) (l : List UInt16) (ol : List UInt64) (x : Nat) (hx : x < 65536) (K Q : Int) (hQ : Q ≤ 9223372036854775807) (w : World) (hv : Gs e16 w 0 w.heap.size v l) (hu : Gs e64 w 0 w.heap.size u ol) (hT : Tb w) (hl : l.length ≤ 3000) (hol : ol.length ≤ 2000) (hlo : Q < 0) :
    Calls Tryd.prog 3 #[v, .int .u16 x, .int .i64 K, .int .i64 Q, u] w fun e w' => e = .returned (.bool true) ∧ Below w.heap.size w w' := by
  have HV := Lib.hid hv
  have HU := Lib.hid hu
  have T0 := Lib.hid hT
  have HL := Lib.hid hl
  have HX := Lib.hid hx
  have HQM := Lib.hid hQ
  obtain ⟨A, c, rfl, -⟩ := hv
  obtain ⟨A', c', rfl, -⟩ := hu
  have hli : (l.length : Int) ≤ 3000 := by omega
  have hmi : (ol.length : Int) ≤ 2000 := by omega
  have hq1 : decide ((3000 : Int) < l.length) = false := decide_eq_false (by omega)
  have hq2 : decide ((2000 : Int) < ol.length) = false := decide_eq_false (by omega)
  obtain ⟨p, hp⟩ : ∃ p, p = mk l := ⟨_, rfl⟩
  obtain ⟨n, hn⟩ : ∃ n, n = ct p 65536 := ⟨_, rfl⟩
  obtain ⟨r, hr⟩ : ∃ r, r = ct (hm p) 65536 := ⟨_, rfl⟩
  obtain ⟨nb, hnb⟩ : ∃ nb, nb = ct p (cl K) := ⟨_, rfl⟩
  have hn6 : (n : Int) ≤ 65536 := by have := ct_le p 65536; omega
  have hxi : (x : Int) < 65536 := by omega
  have HP := Lib.hid hp
  have HN := Lib.hid hn
  have HR := Lib.hid hr
  have HNB := Lib.hid hnb
  have q3 : decide ((0 : Int) ≤ Q) = false := decide_eq_false (by omega)
  have hno : Q < 0 ∨ ((n : Nat) : Int) ≤ Q := .inl hlo
  obtain ⟨s1, s2⟩ := sel_no (p := p) (K := Q) (by rw [← hn]; exact hno)
  have S1 := Lib.hid (show (sx p Q).toNat = 0 by rw [s1]; rfl)
  have S2 := Lib.hid s2
  clear s1 s2
  clear hno
  clear hT hl hol hp hn hr hnb hx hQ
  go_enter Tryd.func3, Tryd.ntmps3
  go_wp2_with (at_builtin; refine wpList_gapp e16 _ rfl _ _ _ rfl w.heap.size sli16 inf16 _ [] rfl (Gw.empty_ _ _ (Nat.le_refl _)) 0 w.heap.size _ l rfl (HV.out.alloc (Nat.le_refl _) _) (by have := HL.out; simp; omega) (by simp) ?_; intro v1 w0 o1 g1 hh; clear hh; rw [List.nil_append] at o1; have O1 := Lib.hid o1; have B0 := Lib.hid (((Below.refl w.heap.size w).alloc (Nat.le_refl _) _).grown g1 (by simp) (fun i hi => by injection hi with hi; subst hi; exact Nat.le_refl _)); obtain ⟨A9, c9, rfl, -⟩ := o1.sl; clear o1 g1)
  have IN := Lib.hid (O1.out.sl.more (Nat.zero_le _) (Nat.le_refl _))
  have HV := Lib.hid (HV.out.step B0.out)
  have HU := Lib.hid (HU.out.step B0.out)
  have T0 := Lib.hid (T0.out.step B0.out)
  clear O1
  go_wp2_with fail
  refine (wof_p _ l _ IN.out).mono ?_
  rw [← HP.out]
  rintro e w1 ⟨A1, c1, rfl, g1, b1⟩
  have HV := Lib.hid (HV.out.step b1)
  have HU := Lib.hid (HU.out.step b1)
  have IN := Lib.hid (IN.out.step b1)
  have T1 := Lib.hid (T0.out.step b1)
  have B1 := Lib.hid (B0.out.trans (b1.mono B0.out.size))
  have X := Lib.hid g1
  clear g1 b1
  go_wp2_with fail
  refine (mof_p _ l _ HV.out HL.out).mono ?_
  rw [← HP.out]
  rintro e w2 ⟨gm, rfl, g2, b2⟩
  have HV := Lib.hid (HV.out.step b2)
  have HU := Lib.hid (HU.out.step b2)
  have IN := Lib.hid (IN.out.step b2)
  have X := Lib.hid (X.out.step b2)
  have T2 := Lib.hid (T1.out.step b2)
  have B2 := Lib.hid (B1.out.trans (b2.mono B1.out.size))
  have MA := Lib.hid g2
  clear g2 b2
  go_wp2_with fail
  refine (mlist_p gm p n _ MA.out HN.out.symm).mono ?_
  rintro e w3 ⟨A3, c3, rfl, g3, b3⟩
  have HV := Lib.hid (HV.out.step b3)
  have HU := Lib.hid (HU.out.step b3)
  have IN := Lib.hid (IN.out.step b3)
  have X := Lib.hid (X.out.step b3)
  have MA := Lib.hid (MA.out.step b3)
  have T3 := Lib.hid (T2.out.step b3)
  have B3 := Lib.hid (B2.out.trans (b3.mono B2.out.size))
  have L := Lib.hid g3
  clear g3 b3
  have GG := Lib.hid (show ∀ W, Below w3.heap.size w3 W → Gs e64 W 0 W.heap.size (.slice A1 1024 c1) (wm p) ∧ Gs e16 W 0 W.heap.size (.slice A3 n c3) (ls p 65536) ∧ Row W gm 55 (mA 65536 p) ∧ Gs e16 W 0 W.heap.size (.slice A9 l.length c9) l ∧ Gs e16 W 0 W.heap.size (.slice A l.length c) l ∧ Tb W from fun W hW =>
    ⟨X.out.step hW, L.out.step hW, MA.out.step hW, IN.out.step hW, HV.out.step hW, T3.out.step hW⟩)
  have KK := Lib.hid (show ∀ W, Below w3.heap.size w3 W → W.cell? ⟨gm, x, none⟩ = some (.bool (p x)) from fun W hW => ((MA.out.step hW).cell x).trans (mA_at _ _ _ HX.out))
  have hSc : Below w3.heap.size w3 w3.drew := (Below.refl w3.heap.size w3).drew
  go_wp2_with fail
  refine wp_region_held_drew (S := fun W => Below w3.heap.size w3 W) (by kernel_rfl) hSc (fun _ => ?_)
  refine held_take 0 ?_ rfl (by kernel_rfl) (by kernel_rfl) (by kernel_rfl) (fun _ _ _ h => h) (by rfl) ?_ hSc ?_
  rotate_left
  · (intro W hSW; go_simp; try rfl)
  try simp only [Act.put, List.setIfInBounds_toArray, List.set_cons_zero, List.set_cons_succ]
  refine held_take 1 ?_ rfl (by kernel_rfl) (by kernel_rfl) (by kernel_rfl) (fun _ _ _ h => h) (by rfl) ?_ hSc ?_
  rotate_left
  · (intro W hSW; go_simp; try rfl)
  try simp only [Act.put, List.setIfInBounds_toArray, List.set_cons_zero, List.set_cons_succ]
  refine held_next 2 rfl (by kernel_rfl) (by rfl) ?_
  go_simp
  refine (mwords_p gm p _ (GG.out _ hSc).2.2.1).mono ?_
  rintro e wq1 ⟨Aq, cq, rfl, gq, bq⟩
  have hbq : Below w3.heap.size w3 wq1 := hSc.trans (bq.mono hSc.size)
  refine ⟨fun W => Below w3.heap.size w3 W, fun W hW => hW, hbq, ?_⟩
  have GR := Lib.hid gq
  clear gq
  clear hSc bq
  have hSc : Below w3.heap.size w3 wq1 := hbq
  clear hbq
  try simp only [Act.put, List.setIfInBounds_toArray, List.set_cons_zero, List.set_cons_succ]
  refine held_next 3 rfl (by kernel_rfl) (by rfl) ?_
  go_simp
  refine (same64_p _ _ _ _ _ (GG.out _ hSc).1 GR.out rfl).mono ?_
  rintro e wq2 ⟨rfl, bq⟩
  have hbq : Below w3.heap.size w3 wq2 := hSc.trans (bq.mono hSc.size)
  refine ⟨fun W => Below w3.heap.size w3 W, fun W hW => hW, hbq, ?_⟩
  clear GR
  clear hSc bq
  have hSc : Below w3.heap.size w3 wq2 := hbq
  clear hbq
  try simp only [Act.put, List.setIfInBounds_toArray, List.set_cons_zero, List.set_cons_succ]
  refine held_take 4 ?_ rfl (by kernel_rfl) (by kernel_rfl) (by kernel_rfl) (fun _ _ _ h => h) (by rfl) ?_ hSc ?_
  rotate_left
  · (intro W hSW; go_simp; try rfl)
  try simp only [Act.put, List.setIfInBounds_toArray, List.set_cons_zero, List.set_cons_succ]
  refine held_take 5 ?_ rfl (by kernel_rfl) (by kernel_rfl) (by kernel_rfl) (fun _ _ _ h => h) (by rfl) ?_ hSc ?_
  rotate_left
  · (intro W hSW; go_simp; try rfl)
  try simp only [Act.put, List.setIfInBounds_toArray, List.set_cons_zero, List.set_cons_succ]
  refine held_take 6 ?_ rfl (by kernel_rfl) (by kernel_rfl) (by kernel_rfl) (fun _ _ _ h => h) (by rfl) ?_ hSc ?_
  rotate_left
  · (intro W hSW; go_simp; try rfl)
  try simp only [Act.put, List.setIfInBounds_toArray, List.set_cons_zero, List.set_cons_succ]
  refine held_take 8 ?_ rfl (by kernel_rfl) (by kernel_rfl) (by kernel_rfl) (fun _ _ _ h => h) (by rfl) ?_ hSc ?_
  rotate_left
  · (intro W hSW; go_simp; try rfl)
  try simp only [Act.put, List.setIfInBounds_toArray, List.set_cons_zero, List.set_cons_succ]
  refine held_next 7 rfl (by kernel_rfl) (by rfl) ?_
  go_simp
  refine (wlist_p _ p n _ (GG.out _ hSc).1 (GG.out _ hSc).2.2.2.2.2 HN.out.symm).mono ?_
  rintro e wq3 ⟨Aq, cq, rfl, gq, bq⟩
  have hbq : Below w3.heap.size w3 wq3 := hSc.trans (bq.mono hSc.size)
  refine ⟨fun W => Below w3.heap.size w3 W, fun W hW => hW, hbq, ?_⟩
  have GR := Lib.hid gq
  clear gq
  clear hSc bq
  have hSc : Below w3.heap.size w3 wq3 := hbq
  clear hbq
  try simp only [Act.put, List.setIfInBounds_toArray, List.set_cons_zero, List.set_cons_succ]
  refine held_next 9 rfl (by kernel_rfl) (by rfl) ?_
  go_simp
  refine (same16_p _ _ _ _ _ GR.out (GG.out _ hSc).2.1 rfl).mono ?_
  rintro e wq4 ⟨rfl, bq⟩
  have hbq : Below w3.heap.size w3 wq4 := hSc.trans (bq.mono hSc.size)
  refine ⟨fun W => Below w3.heap.size w3 W, fun W hW => hW, hbq, ?_⟩
  clear GR
  clear hSc bq
  have hSc : Below w3.heap.size w3 wq4 := hbq
  clear hbq
  try simp only [Act.put, List.setIfInBounds_toArray, List.set_cons_zero, List.set_cons_succ]
  refine held_take 10 ?_ rfl (by kernel_rfl) (by kernel_rfl) (by kernel_rfl) (fun _ _ _ h => h) (by rfl) ?_ hSc ?_
  rotate_left
  · (intro W hSW; go_simp; try rfl)
  try simp only [Act.put, List.setIfInBounds_toArray, List.set_cons_zero, List.set_cons_succ]
  refine held_take 11 ?_ rfl (by kernel_rfl) (by kernel_rfl) (by kernel_rfl) (fun _ _ _ h => h) (by rfl) ?_ hSc ?_
  rotate_left
  · (intro W hSW; go_simp; try rfl)
  try simp only [Act.put, List.setIfInBounds_toArray, List.set_cons_zero, List.set_cons_succ]
  refine held_take 12 ?_ rfl (by kernel_rfl) (by kernel_rfl) (by kernel_rfl) (fun _ _ _ h => h) (by rfl) ?_ hSc ?_
  rotate_left
  · (intro W hSW; go_simp; try rfl)
  try simp only [Act.put, List.setIfInBounds_toArray, List.set_cons_zero, List.set_cons_succ]
  refine held_take 13 ?_ rfl (by kernel_rfl) (by kernel_rfl) (by kernel_rfl) (fun _ _ _ h => h) (by rfl) ?_ hSc ?_
  rotate_left
  · (intro W hSW; go_simp; try rfl)
  try simp only [Act.put, List.setIfInBounds_toArray, List.set_cons_zero, List.set_cons_succ]
  refine held_take 15 ?_ rfl (by kernel_rfl) (by kernel_rfl) (by kernel_rfl) (fun _ _ _ h => h) (by rfl) ?_ hSc ?_
  rotate_left
  · (intro W hSW; go_simp; try rfl)
  try simp only [Act.put, List.setIfInBounds_toArray, List.set_cons_zero, List.set_cons_succ]
  refine held_take 16 ?_ rfl (by kernel_rfl) (by kernel_rfl) (by kernel_rfl) (fun _ _ _ h => h) (by rfl) ?_ hSc ?_
  rotate_left
  · (intro W hSW; go_simp; try rfl)
  try simp only [Act.put, List.setIfInBounds_toArray, List.set_cons_zero, List.set_cons_succ]
  refine held_next 14 rfl (by kernel_rfl) (by rfl) ?_
  go_simp
  refine (wlen_p _ p n _ (GG.out _ hSc).1 HN.out.symm).mono ?_
  rintro e wq ⟨rfl, hz⟩
  have hz := hz.symm
  subst hz
  refine ⟨fun W => Below w3.heap.size w3 W, fun W hW => hW, hSc, ?_⟩
  try simp only [Act.put, List.setIfInBounds_toArray, List.set_cons_zero, List.set_cons_succ]
  refine held_take 17 ?_ rfl (by kernel_rfl) (by kernel_rfl) (by kernel_rfl) (fun _ _ _ h => h) (by rfl) ?_ hSc ?_
  rotate_left
  · (intro W hSW; go_simp; try rfl)
  try simp only [Act.put, List.setIfInBounds_toArray, List.set_cons_zero, List.set_cons_succ]
  refine held_take 18 ?_ rfl (by kernel_rfl) (by kernel_rfl) (by kernel_rfl) (fun _ _ _ h => h) (by rfl) ?_ hSc ?_
  rotate_left
  · (intro W hSW; go_simp; try rfl)
  try simp only [Act.put, List.setIfInBounds_toArray, List.set_cons_zero, List.set_cons_succ]
  refine held_take 19 ?_ rfl (by kernel_rfl) (by kernel_rfl) (by kernel_rfl) (fun _ _ _ h => h) (by rfl) ?_ hSc ?_
  rotate_left
  · (intro W hSW; go_simp; try rfl)
  try simp only [Act.put, List.setIfInBounds_toArray, List.set_cons_zero, List.set_cons_succ]
  refine held_take 20 ?_ rfl (by kernel_rfl) (by kernel_rfl) (by kernel_rfl) (fun _ _ _ h => h) (by rfl) ?_ hSc ?_
  rotate_left
  · (intro W hSW; go_simp; try rfl)
  try simp only [Act.put, List.setIfInBounds_toArray, List.set_cons_zero, List.set_cons_succ]
  refine held_take 21 ?_ rfl (by kernel_rfl) (by kernel_rfl) (by kernel_rfl) (fun _ _ _ h => h) (by rfl) ?_ hSc ?_
  rotate_left
  · (intro W hSW; go_simp; try rfl)
  try simp only [Act.put, List.setIfInBounds_toArray, List.set_cons_zero, List.set_cons_succ]
  refine held_take 23 ?_ rfl (by kernel_rfl) (by kernel_rfl) (by kernel_rfl) (fun _ _ _ h => h) (by rfl) ?_ hSc ?_
  rotate_left
  · (intro W hSW; go_simp; try rfl)
  try simp only [Act.put, List.setIfInBounds_toArray, List.set_cons_zero, List.set_cons_succ]
  refine held_take 24 ?_ rfl (by kernel_rfl) (by kernel_rfl) (by kernel_rfl) (fun _ _ _ h => h) (by rfl) ?_ hSc ?_
  rotate_left
  · (intro W hSW; go_simp; try rfl)
  try simp only [Act.put, List.setIfInBounds_toArray, List.set_cons_zero, List.set_cons_succ]
  refine held_take 25 ?_ rfl (by kernel_rfl) (by kernel_rfl) (by kernel_rfl) (fun _ _ _ h => h) (by rfl) ?_ hSc ?_
  rotate_left
  · (intro W hSW; go_simp; try rfl)
  try simp only [Act.put, List.setIfInBounds_toArray, List.set_cons_zero, List.set_cons_succ]
  refine held_take 26 ?_ rfl (by kernel_rfl) (by kernel_rfl) (by kernel_rfl) (fun _ _ _ h => h) (by rfl) ?_ hSc ?_
  rotate_left
  · (intro W hSW; go_simp; try rfl)
  try simp only [Act.put, List.setIfInBounds_toArray, List.set_cons_zero, List.set_cons_succ]
  refine held_take 27 ?_ rfl (by kernel_rfl) (by kernel_rfl) (by kernel_rfl) (fun _ _ _ h => h) (by rfl) ?_ hSc ?_
  rotate_left
  · (intro W hSW; have k1 := KK.out W hSW; go_simp; try rfl)
  try simp only [Act.put, List.setIfInBounds_toArray, List.set_cons_zero, List.set_cons_succ]
  refine held_next 22 rfl (by kernel_rfl) (by rfl) ?_
  go_simp
  refine (whas_p _ p _ x _ (GG.out _ hSc).1 rfl HX.out).mono ?_
  rintro e wq ⟨rfl, hz⟩
  have hz := hz.symm
  subst hz
  refine ⟨fun W => Below w3.heap.size w3 W, fun W hW => hW, hSc, ?_⟩
  try simp only [Act.put, List.setIfInBounds_toArray, List.set_cons_zero, List.set_cons_succ]
  refine held_take 28 ?_ rfl (by kernel_rfl) (by kernel_rfl) (by kernel_rfl) (fun _ _ _ h => h) (by rfl) ?_ hSc ?_
  rotate_left
  · (intro W hSW; go_simp; try rfl)
  try simp only [Act.put, List.setIfInBounds_toArray, List.set_cons_zero, List.set_cons_succ]
  refine held_take 29 ?_ rfl (by kernel_rfl) (by kernel_rfl) (by kernel_rfl) (fun _ _ _ h => h) (by rfl) ?_ hSc ?_
  rotate_left
  · (intro W hSW; go_simp; try rfl)
  try simp only [Act.put, List.setIfInBounds_toArray, List.set_cons_zero, List.set_cons_succ]
  refine held_take 30 ?_ rfl (by kernel_rfl) (by kernel_rfl) (by kernel_rfl) (fun _ _ _ h => h) (by rfl) ?_ hSc ?_
  rotate_left
  · (intro W hSW; go_simp; try rfl)
  try simp only [Act.put, List.setIfInBounds_toArray, List.set_cons_zero, List.set_cons_succ]
  refine held_take 31 ?_ rfl (by kernel_rfl) (by kernel_rfl) (by kernel_rfl) (fun _ _ _ h => h) (by rfl) ?_ hSc ?_
  rotate_left
  · (intro W hSW; go_simp; try rfl)
  try simp only [Act.put, List.setIfInBounds_toArray, List.set_cons_zero, List.set_cons_succ]
  refine held_take 32 ?_ rfl (by kernel_rfl) (by kernel_rfl) (by kernel_rfl) (fun _ _ _ h => h) (by rfl) ?_ hSc ?_
  rotate_left
  · (intro W hSW; go_simp; try rfl)
  try simp only [Act.put, List.setIfInBounds_toArray, List.set_cons_zero, List.set_cons_succ]
  refine held_take 34 ?_ rfl (by kernel_rfl) (by kernel_rfl) (by kernel_rfl) (fun _ _ _ h => h) (by rfl) ?_ hSc ?_
  rotate_left
  · (intro W hSW; go_simp; try rfl)
  try simp only [Act.put, List.setIfInBounds_toArray, List.set_cons_zero, List.set_cons_succ]
  refine held_take 35 ?_ rfl (by kernel_rfl) (by kernel_rfl) (by kernel_rfl) (fun _ _ _ h => h) (by rfl) ?_ hSc ?_
  rotate_left
  · (intro W hSW; go_simp; try rfl)
  try simp only [Act.put, List.setIfInBounds_toArray, List.set_cons_zero, List.set_cons_succ]
  refine held_next 33 rfl (by kernel_rfl) (by rfl) ?_
  go_simp
  refine (wrank_p _ p _ nb _ (GG.out _ hSc).1 HNB.out.symm).mono ?_
  rintro e wq ⟨rfl, hz⟩
  have hz := hz.symm
  subst hz
  refine ⟨fun W => Below w3.heap.size w3 W, fun W hW => hW, hSc, ?_⟩
  try simp only [Act.put, List.setIfInBounds_toArray, List.set_cons_zero, List.set_cons_succ]
  refine held_next 36 rfl (by kernel_rfl) (by rfl) ?_
  go_simp
  refine (mbelow_p gm p _ nb _ (GG.out _ hSc).2.2.1 HNB.out.symm).mono ?_
  rintro e wq ⟨rfl, hz⟩
  have hz := hz.symm
  subst hz
  refine ⟨fun W => Below w3.heap.size w3 W, fun W hW => hW, hSc, ?_⟩
  try simp only [Act.put, List.setIfInBounds_toArray, List.set_cons_zero, List.set_cons_succ]
  refine held_take 37 ?_ rfl (by kernel_rfl) (by kernel_rfl) (by kernel_rfl) (fun _ _ _ h => h) (by rfl) ?_ hSc ?_
  rotate_left
  · (intro W hSW; go_simp; try rfl)
  try simp only [Act.put, List.setIfInBounds_toArray, List.set_cons_zero, List.set_cons_succ]
  refine held_take 38 ?_ rfl (by kernel_rfl) (by kernel_rfl) (by kernel_rfl) (fun _ _ _ h => h) (by rfl) ?_ hSc ?_
  rotate_left
  · (intro W hSW; go_simp; try rfl)
  try simp only [Act.put, List.setIfInBounds_toArray, List.set_cons_zero, List.set_cons_succ]
  refine held_take 39 ?_ rfl (by kernel_rfl) (by kernel_rfl) (by kernel_rfl) (fun _ _ _ h => h) (by rfl) ?_ hSc ?_
  rotate_left
  · (intro W hSW; go_simp; try rfl)
  try simp only [Act.put, List.setIfInBounds_toArray, List.set_cons_zero, List.set_cons_succ]
  refine held_take 40 ?_ rfl (by kernel_rfl) (by kernel_rfl) (by kernel_rfl) (fun _ _ _ h => h) (by rfl) ?_ hSc ?_
  rotate_left
  · (intro W hSW; go_simp; try rfl)
  try simp only [Act.put, List.setIfInBounds_toArray, List.set_cons_zero, List.set_cons_succ]
  refine held_take 42 ?_ rfl (by kernel_rfl) (by kernel_rfl) (by kernel_rfl) (fun _ _ _ h => h) (by rfl) ?_ hSc ?_
  rotate_left
  · (intro W hSW; go_simp; try rfl)
  try simp only [Act.put, List.setIfInBounds_toArray, List.set_cons_zero, List.set_cons_succ]
  refine held_next 41 rfl (by kernel_rfl) (by rfl) ?_
  go_simp
  refine (wruns_p _ p r _ (GG.out _ hSc).1 HR.out.symm).mono ?_
  rintro e wq ⟨rfl, hz⟩
  have hz := hz.symm
  subst hz
  refine ⟨fun W => Below w3.heap.size w3 W, fun W hW => hW, hSc, ?_⟩
  try simp only [Act.put, List.setIfInBounds_toArray, List.set_cons_zero, List.set_cons_succ]
  refine held_next 43 rfl (by kernel_rfl) (by rfl) ?_
  go_simp
  refine (mruns_p gm p r _ (GG.out _ hSc).2.2.1 HR.out.symm).mono ?_
  rintro e wq ⟨rfl, hz⟩
  have hz := hz.symm
  subst hz
  refine ⟨fun W => Below w3.heap.size w3 W, fun W hW => hW, hSc, ?_⟩
  try simp only [Act.put, List.setIfInBounds_toArray, List.set_cons_zero, List.set_cons_succ]
  refine held_take 44 ?_ rfl (by kernel_rfl) (by kernel_rfl) (by kernel_rfl) (fun _ _ _ h => h) (by rfl) ?_ hSc ?_
  rotate_left
  · (intro W hSW; go_simp; try rfl)
  try simp only [Act.put, List.setIfInBounds_toArray, List.set_cons_zero, List.set_cons_succ]
  refine held_take 45 ?_ rfl (by kernel_rfl) (by kernel_rfl) (by kernel_rfl) (fun _ _ _ h => h) (by rfl) ?_ hSc ?_
  rotate_left
  · (intro W hSW; go_simp; try rfl)
  try simp only [Act.put, List.setIfInBounds_toArray, List.set_cons_zero, List.set_cons_succ]
  refine held_take 46 ?_ rfl (by kernel_rfl) (by kernel_rfl) (by kernel_rfl) (fun _ _ _ h => h) (by rfl) ?_ hSc ?_
  rotate_left
  · (intro W hSW; go_simp; try rfl)
  try simp only [Act.put, List.setIfInBounds_toArray, List.set_cons_zero, List.set_cons_succ]
  refine held_take 47 ?_ rfl (by kernel_rfl) (by kernel_rfl) (by kernel_rfl) (fun _ _ _ h => h) (by rfl) ?_ hSc ?_
  rotate_left
  · (intro W hSW; go_simp; try rfl)
  try simp only [Act.put, List.setIfInBounds_toArray, List.set_cons_zero, List.set_cons_succ]
  refine held_take 48 ?_ rfl (by kernel_rfl) (by kernel_rfl) (by kernel_rfl) (fun _ _ _ h => h) (by rfl) ?_ hSc ?_
  rotate_left
  · (intro W hSW; go_simp; try rfl)
  try simp only [Act.put, List.setIfInBounds_toArray, List.set_cons_zero, List.set_cons_succ]
  refine held_next 49 rfl (by kernel_rfl) (by rfl) ?_
  go_simp
  refine (same16_p _ _ _ _ _ (GG.out _ hSc).2.2.2.1 (GG.out _ hSc).2.2.2.2.1 rfl).mono ?_
  rintro e wq5 ⟨rfl, bq⟩
  have hbq : Below w3.heap.size w3 wq5 := hSc.trans (bq.mono hSc.size)
  refine ⟨fun W => Below w3.heap.size w3 W, fun W hW => hW, hbq, ?_⟩
  clear hSc bq
  have hSc : Below w3.heap.size w3 wq5 := hbq
  clear hbq
  try simp only [Act.put, List.setIfInBounds_toArray, List.set_cons_zero, List.set_cons_succ]
  refine held_take 50 ?_ rfl (by kernel_rfl) (by kernel_rfl) (by kernel_rfl) (fun _ _ _ h => h) (by rfl) ?_ hSc ?_
  rotate_left
  · (intro W hSW; go_simp; try rfl)
  try simp only [Act.put, List.setIfInBounds_toArray, List.set_cons_zero, List.set_cons_succ]
  refine held_next 51 rfl (by kernel_rfl) (by rfl) ?_
  go_simp
  refine ⟨fun W => Below w3.heap.size w3 W, fun W hW => hW, hSc, ?_⟩
  refine wpAnyH_done (by kernel_rfl) ?_ _
  generalize hwz : (wq5 : World) = w4 at *
  clear hwz
  have HV := Lib.hid (HV.out.step hSc)
  have HU := Lib.hid (HU.out.step hSc)
  have IN := Lib.hid (IN.out.step hSc)
  have X := Lib.hid (X.out.step hSc)
  have L := Lib.hid (L.out.step hSc)
  have MA := Lib.hid (MA.out.step hSc)
  have T4 := Lib.hid (T3.out.step hSc)
  have B4 := Lib.hid (B3.out.trans (hSc.mono B3.out.size))
  clear hSc KK GG
  go_wp2_with fail
  refine (wselect_p _ p Q 0 false _ X.out T4.out HQM.out S1.out S2.out).mono ?_
  rintro e w' ⟨rfl, hz⟩
  have hz := hz.symm
  subst hz
  go_wp2_with fail
  refine (wlist_any _ ol 0 _ HU.out T4.out).mono ?_
  rintro e w5 ⟨v5, rfl, g5, b5⟩
  obtain ⟨Ax5, cx5, rfl, -⟩ := g5.sl
  have HV := Lib.hid (HV.out.step b5)
  have HU := Lib.hid (HU.out.step b5)
  have IN := Lib.hid (IN.out.step b5)
  have X := Lib.hid (X.out.step b5)
  have L := Lib.hid (L.out.step b5)
  have MA := Lib.hid (MA.out.step b5)
  have T5 := Lib.hid (T4.out.step b5)
  have B5 := Lib.hid (B4.out.trans (b5.mono B4.out.size))
  clear g5 b5
  go_wp2_with fail
  refine (wlen_any _ ol 0 _ _ HU.out).mono ?_
  rintro e w' ⟨rfl, hz⟩
  have hz := hz.symm
  subst hz
  go_wp2_with fail
  refine (whas_any _ ol 0 _ x _ HU.out (by omega) (by omega)).mono ?_
  rintro e w' ⟨rfl, hz⟩
  have hz := hz.symm
  subst hz
  go_wp2_with fail
  refine (wrank_any _ ol 0 _ K _ HU.out).mono ?_
  rintro e w' ⟨rfl, hz⟩
  have hz := hz.symm
  subst hz
  go_wp2_with fail
  refine (wselect_any _ ol 0 _ Q _ HU.out T5.out HQM.out).mono ?_
  rintro e w' ⟨rfl, hz⟩
  have hz := hz.symm
  subst hz
  go_wp2_with fail
  refine (wruns_any _ ol 0 _ _ HU.out).mono ?_
  rintro e w' ⟨rfl, hz⟩
  have hz := hz.symm
  subst hz
  go_wp2_with fail
  refine (wflip_any _ ol 0 K Q _ HU.out).mono ?_
  rintro e w6 ⟨v6, rfl, g6, b6⟩
  obtain ⟨Ax6, cx6, rfl, -⟩ := g6.sl
  have HV := Lib.hid (HV.out.step b6)
  have HU := Lib.hid (HU.out.step b6)
  have IN := Lib.hid (IN.out.step b6)
  have X := Lib.hid (X.out.step b6)
  have L := Lib.hid (L.out.step b6)
  have MA := Lib.hid (MA.out.step b6)
  have T6 := Lib.hid (T5.out.step b6)
  have B6 := Lib.hid (B5.out.trans (b6.mono B5.out.size))
  clear g6 b6
  go_wp2_with fail
  refine (wand_any _ _ ol _ 0 _ HU.out X.out).mono ?_
  rintro e w7 ⟨v7, rfl, g7, b7⟩
  obtain ⟨Ax7, cx7, rfl, -⟩ := g7.sl
  have HV := Lib.hid (HV.out.step b7)
  have HU := Lib.hid (HU.out.step b7)
  have IN := Lib.hid (IN.out.step b7)
  have X := Lib.hid (X.out.step b7)
  have L := Lib.hid (L.out.step b7)
  have MA := Lib.hid (MA.out.step b7)
  have T7 := Lib.hid (T6.out.step b7)
  have B7 := Lib.hid (B6.out.trans (b7.mono B6.out.size))
  clear g7 b7
  go_wp2_with fail
  refine (wxor_any _ _ _ ol 0 _ X.out HU.out).mono ?_
  rintro e w8 ⟨v8, rfl, g8, b8⟩
  obtain ⟨Ax8, cx8, rfl, -⟩ := g8.sl
  have HV := Lib.hid (HV.out.step b8)
  have HU := Lib.hid (HU.out.step b8)
  have IN := Lib.hid (IN.out.step b8)
  have X := Lib.hid (X.out.step b8)
  have L := Lib.hid (L.out.step b8)
  have MA := Lib.hid (MA.out.step b8)
  have T8 := Lib.hid (T7.out.step b8)
  have B8 := Lib.hid (B7.out.trans (b8.mono B7.out.size))
  clear g8 b8
  go_wp2_with fail
  refine (wor_any _ _ ol _ 0 _ HU.out X.out).mono ?_
  rintro e w9 ⟨v9, rfl, g9, b9⟩
  obtain ⟨Ax9, cx9, rfl, -⟩ := g9.sl
  have HV := Lib.hid (HV.out.step b9)
  have HU := Lib.hid (HU.out.step b9)
  have IN := Lib.hid (IN.out.step b9)
  have X := Lib.hid (X.out.step b9)
  have L := Lib.hid (L.out.step b9)
  have MA := Lib.hid (MA.out.step b9)
  have T9 := Lib.hid (T8.out.step b9)
  have B9 := Lib.hid (B8.out.trans (b9.mono B8.out.size))
  clear g9 b9
  go_wp2_with fail
  refine (wnot_any _ _ _ ol 0 _ X.out HU.out).mono ?_
  rintro e w10 ⟨v10, rfl, g10, b10⟩
  obtain ⟨Ax10, cx10, rfl, -⟩ := g10.sl
  have HV := Lib.hid (HV.out.step b10)
  have HU := Lib.hid (HU.out.step b10)
  have IN := Lib.hid (IN.out.step b10)
  have X := Lib.hid (X.out.step b10)
  have L := Lib.hid (L.out.step b10)
  have MA := Lib.hid (MA.out.step b10)
  have T10 := Lib.hid (T9.out.step b10)
  have B10 := Lib.hid (B9.out.trans (b10.mono B9.out.size))
  clear g10 b10
  go_wp2_with fail
  refine (mwords_p gm p _ MA.out).mono ?_
  rintro e w11 ⟨A7, c7, rfl, g11, b11⟩
  have HV := Lib.hid (HV.out.step b11)
  have HU := Lib.hid (HU.out.step b11)
  have IN := Lib.hid (IN.out.step b11)
  have X := Lib.hid (X.out.step b11)
  have L := Lib.hid (L.out.step b11)
  have MA := Lib.hid (MA.out.step b11)
  have T11 := Lib.hid (T10.out.step b11)
  have B11 := Lib.hid (B10.out.trans (b11.mono B10.out.size))
  have WS := Lib.hid g11
  clear g11 b11
  go_wp2_with fail
  refine (same64_p _ _ _ _ _ X.out WS.out rfl).mono ?_
  rintro e w12 ⟨rfl, b12⟩
  have HV := Lib.hid (HV.out.step b12)
  have HU := Lib.hid (HU.out.step b12)
  have IN := Lib.hid (IN.out.step b12)
  have X := Lib.hid (X.out.step b12)
  have L := Lib.hid (L.out.step b12)
  have WS := Lib.hid (WS.out.step b12)
  have MA := Lib.hid (MA.out.step b12)
  have T12 := Lib.hid (T11.out.step b12)
  have B12 := Lib.hid (B11.out.trans (b12.mono B11.out.size))
  clear b12
  go_wp2_with fail
  refine (known_p _ T12.out).mono ?_
  rintro e w13 ⟨rfl, b13⟩
  have HV := Lib.hid (HV.out.step b13)
  have HU := Lib.hid (HU.out.step b13)
  have IN := Lib.hid (IN.out.step b13)
  have X := Lib.hid (X.out.step b13)
  have L := Lib.hid (L.out.step b13)
  have WS := Lib.hid (WS.out.step b13)
  have MA := Lib.hid (MA.out.step b13)
  have T13 := Lib.hid (T12.out.step b13)
  have B13 := Lib.hid (B12.out.trans (b13.mono B12.out.size))
  clear b13
  go_wp2
  go_ret
  exact ⟨rfl, B13.out⟩

set_option maxHeartbeats 8000000 in
set_option maxRecDepth 100000 in
theorem ws_past (v u : Value) (l : List UInt16) (ol : List UInt64) (x : Nat) (hx : x < 65536) (K Q : Int) (hQ : Q ≤ 9223372036854775807) (w : World) (hv : Gs e16 w 0 w.heap.size v l) (hu : Gs e64 w 0 w.heap.size u ol) (hT : Tb w) (hl : l.length ≤ 3000) (hol : ol.length ≤ 2000) (hlo : 0 ≤ Q) (hhi : (ct (mk l) 65536 : Nat) ≤ Q) :
    Calls Tryd.prog 3 #[v, .int .u16 x, .int .i64 K, .int .i64 Q, u] w fun e w' => e = .returned (.bool true) ∧ Below w.heap.size w w' := by
  have HV := Lib.hid hv
  have HU := Lib.hid hu
  have T0 := Lib.hid hT
  have HL := Lib.hid hl
  have HX := Lib.hid hx
  have HQM := Lib.hid hQ
  obtain ⟨A, c, rfl, -⟩ := hv
  obtain ⟨A', c', rfl, -⟩ := hu
  have hli : (l.length : Int) ≤ 3000 := by omega
  have hmi : (ol.length : Int) ≤ 2000 := by omega
  have hq1 : decide ((3000 : Int) < l.length) = false := decide_eq_false (by omega)
  have hq2 : decide ((2000 : Int) < ol.length) = false := decide_eq_false (by omega)
  obtain ⟨p, hp⟩ : ∃ p, p = mk l := ⟨_, rfl⟩
  obtain ⟨n, hn⟩ : ∃ n, n = ct p 65536 := ⟨_, rfl⟩
  obtain ⟨r, hr⟩ : ∃ r, r = ct (hm p) 65536 := ⟨_, rfl⟩
  obtain ⟨nb, hnb⟩ : ∃ nb, nb = ct p (cl K) := ⟨_, rfl⟩
  have hn6 : (n : Int) ≤ 65536 := by have := ct_le p 65536; omega
  have hxi : (x : Int) < 65536 := by omega
  have HP := Lib.hid hp
  have HN := Lib.hid hn
  have HR := Lib.hid hr
  have HNB := Lib.hid hnb
  rw [← hp, ← hn] at hhi
  have q3 : decide ((0 : Int) ≤ Q) = true := decide_eq_true (by omega)
  have q4 : decide (Q < ((n : Nat) : Int)) = false := decide_eq_false (by omega)
  have hno : Q < 0 ∨ ((n : Nat) : Int) ≤ Q := .inr hhi
  obtain ⟨s1, s2⟩ := sel_no (p := p) (K := Q) (by rw [← hn]; exact hno)
  have S1 := Lib.hid (show (sx p Q).toNat = 0 by rw [s1]; rfl)
  have S2 := Lib.hid s2
  clear s1 s2
  clear hno
  clear hT hl hol hp hn hr hnb hx hQ
  go_enter Tryd.func3, Tryd.ntmps3
  go_wp2_with (at_builtin; refine wpList_gapp e16 _ rfl _ _ _ rfl w.heap.size sli16 inf16 _ [] rfl (Gw.empty_ _ _ (Nat.le_refl _)) 0 w.heap.size _ l rfl (HV.out.alloc (Nat.le_refl _) _) (by have := HL.out; simp; omega) (by simp) ?_; intro v1 w0 o1 g1 hh; clear hh; rw [List.nil_append] at o1; have O1 := Lib.hid o1; have B0 := Lib.hid (((Below.refl w.heap.size w).alloc (Nat.le_refl _) _).grown g1 (by simp) (fun i hi => by injection hi with hi; subst hi; exact Nat.le_refl _)); obtain ⟨A9, c9, rfl, -⟩ := o1.sl; clear o1 g1)
  have IN := Lib.hid (O1.out.sl.more (Nat.zero_le _) (Nat.le_refl _))
  have HV := Lib.hid (HV.out.step B0.out)
  have HU := Lib.hid (HU.out.step B0.out)
  have T0 := Lib.hid (T0.out.step B0.out)
  clear O1
  go_wp2_with fail
  refine (wof_p _ l _ IN.out).mono ?_
  rw [← HP.out]
  rintro e w1 ⟨A1, c1, rfl, g1, b1⟩
  have HV := Lib.hid (HV.out.step b1)
  have HU := Lib.hid (HU.out.step b1)
  have IN := Lib.hid (IN.out.step b1)
  have T1 := Lib.hid (T0.out.step b1)
  have B1 := Lib.hid (B0.out.trans (b1.mono B0.out.size))
  have X := Lib.hid g1
  clear g1 b1
  go_wp2_with fail
  refine (mof_p _ l _ HV.out HL.out).mono ?_
  rw [← HP.out]
  rintro e w2 ⟨gm, rfl, g2, b2⟩
  have HV := Lib.hid (HV.out.step b2)
  have HU := Lib.hid (HU.out.step b2)
  have IN := Lib.hid (IN.out.step b2)
  have X := Lib.hid (X.out.step b2)
  have T2 := Lib.hid (T1.out.step b2)
  have B2 := Lib.hid (B1.out.trans (b2.mono B1.out.size))
  have MA := Lib.hid g2
  clear g2 b2
  go_wp2_with fail
  refine (mlist_p gm p n _ MA.out HN.out.symm).mono ?_
  rintro e w3 ⟨A3, c3, rfl, g3, b3⟩
  have HV := Lib.hid (HV.out.step b3)
  have HU := Lib.hid (HU.out.step b3)
  have IN := Lib.hid (IN.out.step b3)
  have X := Lib.hid (X.out.step b3)
  have MA := Lib.hid (MA.out.step b3)
  have T3 := Lib.hid (T2.out.step b3)
  have B3 := Lib.hid (B2.out.trans (b3.mono B2.out.size))
  have L := Lib.hid g3
  clear g3 b3
  have GG := Lib.hid (show ∀ W, Below w3.heap.size w3 W → Gs e64 W 0 W.heap.size (.slice A1 1024 c1) (wm p) ∧ Gs e16 W 0 W.heap.size (.slice A3 n c3) (ls p 65536) ∧ Row W gm 55 (mA 65536 p) ∧ Gs e16 W 0 W.heap.size (.slice A9 l.length c9) l ∧ Gs e16 W 0 W.heap.size (.slice A l.length c) l ∧ Tb W from fun W hW =>
    ⟨X.out.step hW, L.out.step hW, MA.out.step hW, IN.out.step hW, HV.out.step hW, T3.out.step hW⟩)
  have KK := Lib.hid (show ∀ W, Below w3.heap.size w3 W → W.cell? ⟨gm, x, none⟩ = some (.bool (p x)) from fun W hW => ((MA.out.step hW).cell x).trans (mA_at _ _ _ HX.out))
  have hSc : Below w3.heap.size w3 w3.drew := (Below.refl w3.heap.size w3).drew
  go_wp2_with fail
  refine wp_region_held_drew (S := fun W => Below w3.heap.size w3 W) (by kernel_rfl) hSc (fun _ => ?_)
  refine held_take 0 ?_ rfl (by kernel_rfl) (by kernel_rfl) (by kernel_rfl) (fun _ _ _ h => h) (by rfl) ?_ hSc ?_
  rotate_left
  · (intro W hSW; go_simp; try rfl)
  try simp only [Act.put, List.setIfInBounds_toArray, List.set_cons_zero, List.set_cons_succ]
  refine held_take 1 ?_ rfl (by kernel_rfl) (by kernel_rfl) (by kernel_rfl) (fun _ _ _ h => h) (by rfl) ?_ hSc ?_
  rotate_left
  · (intro W hSW; go_simp; try rfl)
  try simp only [Act.put, List.setIfInBounds_toArray, List.set_cons_zero, List.set_cons_succ]
  refine held_next 2 rfl (by kernel_rfl) (by rfl) ?_
  go_simp
  refine (mwords_p gm p _ (GG.out _ hSc).2.2.1).mono ?_
  rintro e wq1 ⟨Aq, cq, rfl, gq, bq⟩
  have hbq : Below w3.heap.size w3 wq1 := hSc.trans (bq.mono hSc.size)
  refine ⟨fun W => Below w3.heap.size w3 W, fun W hW => hW, hbq, ?_⟩
  have GR := Lib.hid gq
  clear gq
  clear hSc bq
  have hSc : Below w3.heap.size w3 wq1 := hbq
  clear hbq
  try simp only [Act.put, List.setIfInBounds_toArray, List.set_cons_zero, List.set_cons_succ]
  refine held_next 3 rfl (by kernel_rfl) (by rfl) ?_
  go_simp
  refine (same64_p _ _ _ _ _ (GG.out _ hSc).1 GR.out rfl).mono ?_
  rintro e wq2 ⟨rfl, bq⟩
  have hbq : Below w3.heap.size w3 wq2 := hSc.trans (bq.mono hSc.size)
  refine ⟨fun W => Below w3.heap.size w3 W, fun W hW => hW, hbq, ?_⟩
  clear GR
  clear hSc bq
  have hSc : Below w3.heap.size w3 wq2 := hbq
  clear hbq
  try simp only [Act.put, List.setIfInBounds_toArray, List.set_cons_zero, List.set_cons_succ]
  refine held_take 4 ?_ rfl (by kernel_rfl) (by kernel_rfl) (by kernel_rfl) (fun _ _ _ h => h) (by rfl) ?_ hSc ?_
  rotate_left
  · (intro W hSW; go_simp; try rfl)
  try simp only [Act.put, List.setIfInBounds_toArray, List.set_cons_zero, List.set_cons_succ]
  refine held_take 5 ?_ rfl (by kernel_rfl) (by kernel_rfl) (by kernel_rfl) (fun _ _ _ h => h) (by rfl) ?_ hSc ?_
  rotate_left
  · (intro W hSW; go_simp; try rfl)
  try simp only [Act.put, List.setIfInBounds_toArray, List.set_cons_zero, List.set_cons_succ]
  refine held_take 6 ?_ rfl (by kernel_rfl) (by kernel_rfl) (by kernel_rfl) (fun _ _ _ h => h) (by rfl) ?_ hSc ?_
  rotate_left
  · (intro W hSW; go_simp; try rfl)
  try simp only [Act.put, List.setIfInBounds_toArray, List.set_cons_zero, List.set_cons_succ]
  refine held_take 8 ?_ rfl (by kernel_rfl) (by kernel_rfl) (by kernel_rfl) (fun _ _ _ h => h) (by rfl) ?_ hSc ?_
  rotate_left
  · (intro W hSW; go_simp; try rfl)
  try simp only [Act.put, List.setIfInBounds_toArray, List.set_cons_zero, List.set_cons_succ]
  refine held_next 7 rfl (by kernel_rfl) (by rfl) ?_
  go_simp
  refine (wlist_p _ p n _ (GG.out _ hSc).1 (GG.out _ hSc).2.2.2.2.2 HN.out.symm).mono ?_
  rintro e wq3 ⟨Aq, cq, rfl, gq, bq⟩
  have hbq : Below w3.heap.size w3 wq3 := hSc.trans (bq.mono hSc.size)
  refine ⟨fun W => Below w3.heap.size w3 W, fun W hW => hW, hbq, ?_⟩
  have GR := Lib.hid gq
  clear gq
  clear hSc bq
  have hSc : Below w3.heap.size w3 wq3 := hbq
  clear hbq
  try simp only [Act.put, List.setIfInBounds_toArray, List.set_cons_zero, List.set_cons_succ]
  refine held_next 9 rfl (by kernel_rfl) (by rfl) ?_
  go_simp
  refine (same16_p _ _ _ _ _ GR.out (GG.out _ hSc).2.1 rfl).mono ?_
  rintro e wq4 ⟨rfl, bq⟩
  have hbq : Below w3.heap.size w3 wq4 := hSc.trans (bq.mono hSc.size)
  refine ⟨fun W => Below w3.heap.size w3 W, fun W hW => hW, hbq, ?_⟩
  clear GR
  clear hSc bq
  have hSc : Below w3.heap.size w3 wq4 := hbq
  clear hbq
  try simp only [Act.put, List.setIfInBounds_toArray, List.set_cons_zero, List.set_cons_succ]
  refine held_take 10 ?_ rfl (by kernel_rfl) (by kernel_rfl) (by kernel_rfl) (fun _ _ _ h => h) (by rfl) ?_ hSc ?_
  rotate_left
  · (intro W hSW; go_simp; try rfl)
  try simp only [Act.put, List.setIfInBounds_toArray, List.set_cons_zero, List.set_cons_succ]
  refine held_take 11 ?_ rfl (by kernel_rfl) (by kernel_rfl) (by kernel_rfl) (fun _ _ _ h => h) (by rfl) ?_ hSc ?_
  rotate_left
  · (intro W hSW; go_simp; try rfl)
  try simp only [Act.put, List.setIfInBounds_toArray, List.set_cons_zero, List.set_cons_succ]
  refine held_take 12 ?_ rfl (by kernel_rfl) (by kernel_rfl) (by kernel_rfl) (fun _ _ _ h => h) (by rfl) ?_ hSc ?_
  rotate_left
  · (intro W hSW; go_simp; try rfl)
  try simp only [Act.put, List.setIfInBounds_toArray, List.set_cons_zero, List.set_cons_succ]
  refine held_take 13 ?_ rfl (by kernel_rfl) (by kernel_rfl) (by kernel_rfl) (fun _ _ _ h => h) (by rfl) ?_ hSc ?_
  rotate_left
  · (intro W hSW; go_simp; try rfl)
  try simp only [Act.put, List.setIfInBounds_toArray, List.set_cons_zero, List.set_cons_succ]
  refine held_take 15 ?_ rfl (by kernel_rfl) (by kernel_rfl) (by kernel_rfl) (fun _ _ _ h => h) (by rfl) ?_ hSc ?_
  rotate_left
  · (intro W hSW; go_simp; try rfl)
  try simp only [Act.put, List.setIfInBounds_toArray, List.set_cons_zero, List.set_cons_succ]
  refine held_take 16 ?_ rfl (by kernel_rfl) (by kernel_rfl) (by kernel_rfl) (fun _ _ _ h => h) (by rfl) ?_ hSc ?_
  rotate_left
  · (intro W hSW; go_simp; try rfl)
  try simp only [Act.put, List.setIfInBounds_toArray, List.set_cons_zero, List.set_cons_succ]
  refine held_next 14 rfl (by kernel_rfl) (by rfl) ?_
  go_simp
  refine (wlen_p _ p n _ (GG.out _ hSc).1 HN.out.symm).mono ?_
  rintro e wq ⟨rfl, hz⟩
  have hz := hz.symm
  subst hz
  refine ⟨fun W => Below w3.heap.size w3 W, fun W hW => hW, hSc, ?_⟩
  try simp only [Act.put, List.setIfInBounds_toArray, List.set_cons_zero, List.set_cons_succ]
  refine held_take 17 ?_ rfl (by kernel_rfl) (by kernel_rfl) (by kernel_rfl) (fun _ _ _ h => h) (by rfl) ?_ hSc ?_
  rotate_left
  · (intro W hSW; go_simp; try rfl)
  try simp only [Act.put, List.setIfInBounds_toArray, List.set_cons_zero, List.set_cons_succ]
  refine held_take 18 ?_ rfl (by kernel_rfl) (by kernel_rfl) (by kernel_rfl) (fun _ _ _ h => h) (by rfl) ?_ hSc ?_
  rotate_left
  · (intro W hSW; go_simp; try rfl)
  try simp only [Act.put, List.setIfInBounds_toArray, List.set_cons_zero, List.set_cons_succ]
  refine held_take 19 ?_ rfl (by kernel_rfl) (by kernel_rfl) (by kernel_rfl) (fun _ _ _ h => h) (by rfl) ?_ hSc ?_
  rotate_left
  · (intro W hSW; go_simp; try rfl)
  try simp only [Act.put, List.setIfInBounds_toArray, List.set_cons_zero, List.set_cons_succ]
  refine held_take 20 ?_ rfl (by kernel_rfl) (by kernel_rfl) (by kernel_rfl) (fun _ _ _ h => h) (by rfl) ?_ hSc ?_
  rotate_left
  · (intro W hSW; go_simp; try rfl)
  try simp only [Act.put, List.setIfInBounds_toArray, List.set_cons_zero, List.set_cons_succ]
  refine held_take 21 ?_ rfl (by kernel_rfl) (by kernel_rfl) (by kernel_rfl) (fun _ _ _ h => h) (by rfl) ?_ hSc ?_
  rotate_left
  · (intro W hSW; go_simp; try rfl)
  try simp only [Act.put, List.setIfInBounds_toArray, List.set_cons_zero, List.set_cons_succ]
  refine held_take 23 ?_ rfl (by kernel_rfl) (by kernel_rfl) (by kernel_rfl) (fun _ _ _ h => h) (by rfl) ?_ hSc ?_
  rotate_left
  · (intro W hSW; go_simp; try rfl)
  try simp only [Act.put, List.setIfInBounds_toArray, List.set_cons_zero, List.set_cons_succ]
  refine held_take 24 ?_ rfl (by kernel_rfl) (by kernel_rfl) (by kernel_rfl) (fun _ _ _ h => h) (by rfl) ?_ hSc ?_
  rotate_left
  · (intro W hSW; go_simp; try rfl)
  try simp only [Act.put, List.setIfInBounds_toArray, List.set_cons_zero, List.set_cons_succ]
  refine held_take 25 ?_ rfl (by kernel_rfl) (by kernel_rfl) (by kernel_rfl) (fun _ _ _ h => h) (by rfl) ?_ hSc ?_
  rotate_left
  · (intro W hSW; go_simp; try rfl)
  try simp only [Act.put, List.setIfInBounds_toArray, List.set_cons_zero, List.set_cons_succ]
  refine held_take 26 ?_ rfl (by kernel_rfl) (by kernel_rfl) (by kernel_rfl) (fun _ _ _ h => h) (by rfl) ?_ hSc ?_
  rotate_left
  · (intro W hSW; go_simp; try rfl)
  try simp only [Act.put, List.setIfInBounds_toArray, List.set_cons_zero, List.set_cons_succ]
  refine held_take 27 ?_ rfl (by kernel_rfl) (by kernel_rfl) (by kernel_rfl) (fun _ _ _ h => h) (by rfl) ?_ hSc ?_
  rotate_left
  · (intro W hSW; have k1 := KK.out W hSW; go_simp; try rfl)
  try simp only [Act.put, List.setIfInBounds_toArray, List.set_cons_zero, List.set_cons_succ]
  refine held_next 22 rfl (by kernel_rfl) (by rfl) ?_
  go_simp
  refine (whas_p _ p _ x _ (GG.out _ hSc).1 rfl HX.out).mono ?_
  rintro e wq ⟨rfl, hz⟩
  have hz := hz.symm
  subst hz
  refine ⟨fun W => Below w3.heap.size w3 W, fun W hW => hW, hSc, ?_⟩
  try simp only [Act.put, List.setIfInBounds_toArray, List.set_cons_zero, List.set_cons_succ]
  refine held_take 28 ?_ rfl (by kernel_rfl) (by kernel_rfl) (by kernel_rfl) (fun _ _ _ h => h) (by rfl) ?_ hSc ?_
  rotate_left
  · (intro W hSW; go_simp; try rfl)
  try simp only [Act.put, List.setIfInBounds_toArray, List.set_cons_zero, List.set_cons_succ]
  refine held_take 29 ?_ rfl (by kernel_rfl) (by kernel_rfl) (by kernel_rfl) (fun _ _ _ h => h) (by rfl) ?_ hSc ?_
  rotate_left
  · (intro W hSW; go_simp; try rfl)
  try simp only [Act.put, List.setIfInBounds_toArray, List.set_cons_zero, List.set_cons_succ]
  refine held_take 30 ?_ rfl (by kernel_rfl) (by kernel_rfl) (by kernel_rfl) (fun _ _ _ h => h) (by rfl) ?_ hSc ?_
  rotate_left
  · (intro W hSW; go_simp; try rfl)
  try simp only [Act.put, List.setIfInBounds_toArray, List.set_cons_zero, List.set_cons_succ]
  refine held_take 31 ?_ rfl (by kernel_rfl) (by kernel_rfl) (by kernel_rfl) (fun _ _ _ h => h) (by rfl) ?_ hSc ?_
  rotate_left
  · (intro W hSW; go_simp; try rfl)
  try simp only [Act.put, List.setIfInBounds_toArray, List.set_cons_zero, List.set_cons_succ]
  refine held_take 32 ?_ rfl (by kernel_rfl) (by kernel_rfl) (by kernel_rfl) (fun _ _ _ h => h) (by rfl) ?_ hSc ?_
  rotate_left
  · (intro W hSW; go_simp; try rfl)
  try simp only [Act.put, List.setIfInBounds_toArray, List.set_cons_zero, List.set_cons_succ]
  refine held_take 34 ?_ rfl (by kernel_rfl) (by kernel_rfl) (by kernel_rfl) (fun _ _ _ h => h) (by rfl) ?_ hSc ?_
  rotate_left
  · (intro W hSW; go_simp; try rfl)
  try simp only [Act.put, List.setIfInBounds_toArray, List.set_cons_zero, List.set_cons_succ]
  refine held_take 35 ?_ rfl (by kernel_rfl) (by kernel_rfl) (by kernel_rfl) (fun _ _ _ h => h) (by rfl) ?_ hSc ?_
  rotate_left
  · (intro W hSW; go_simp; try rfl)
  try simp only [Act.put, List.setIfInBounds_toArray, List.set_cons_zero, List.set_cons_succ]
  refine held_next 33 rfl (by kernel_rfl) (by rfl) ?_
  go_simp
  refine (wrank_p _ p _ nb _ (GG.out _ hSc).1 HNB.out.symm).mono ?_
  rintro e wq ⟨rfl, hz⟩
  have hz := hz.symm
  subst hz
  refine ⟨fun W => Below w3.heap.size w3 W, fun W hW => hW, hSc, ?_⟩
  try simp only [Act.put, List.setIfInBounds_toArray, List.set_cons_zero, List.set_cons_succ]
  refine held_next 36 rfl (by kernel_rfl) (by rfl) ?_
  go_simp
  refine (mbelow_p gm p _ nb _ (GG.out _ hSc).2.2.1 HNB.out.symm).mono ?_
  rintro e wq ⟨rfl, hz⟩
  have hz := hz.symm
  subst hz
  refine ⟨fun W => Below w3.heap.size w3 W, fun W hW => hW, hSc, ?_⟩
  try simp only [Act.put, List.setIfInBounds_toArray, List.set_cons_zero, List.set_cons_succ]
  refine held_take 37 ?_ rfl (by kernel_rfl) (by kernel_rfl) (by kernel_rfl) (fun _ _ _ h => h) (by rfl) ?_ hSc ?_
  rotate_left
  · (intro W hSW; go_simp; try rfl)
  try simp only [Act.put, List.setIfInBounds_toArray, List.set_cons_zero, List.set_cons_succ]
  refine held_take 38 ?_ rfl (by kernel_rfl) (by kernel_rfl) (by kernel_rfl) (fun _ _ _ h => h) (by rfl) ?_ hSc ?_
  rotate_left
  · (intro W hSW; go_simp; try rfl)
  try simp only [Act.put, List.setIfInBounds_toArray, List.set_cons_zero, List.set_cons_succ]
  refine held_take 39 ?_ rfl (by kernel_rfl) (by kernel_rfl) (by kernel_rfl) (fun _ _ _ h => h) (by rfl) ?_ hSc ?_
  rotate_left
  · (intro W hSW; go_simp; try rfl)
  try simp only [Act.put, List.setIfInBounds_toArray, List.set_cons_zero, List.set_cons_succ]
  refine held_take 40 ?_ rfl (by kernel_rfl) (by kernel_rfl) (by kernel_rfl) (fun _ _ _ h => h) (by rfl) ?_ hSc ?_
  rotate_left
  · (intro W hSW; go_simp; try rfl)
  try simp only [Act.put, List.setIfInBounds_toArray, List.set_cons_zero, List.set_cons_succ]
  refine held_take 42 ?_ rfl (by kernel_rfl) (by kernel_rfl) (by kernel_rfl) (fun _ _ _ h => h) (by rfl) ?_ hSc ?_
  rotate_left
  · (intro W hSW; go_simp; try rfl)
  try simp only [Act.put, List.setIfInBounds_toArray, List.set_cons_zero, List.set_cons_succ]
  refine held_next 41 rfl (by kernel_rfl) (by rfl) ?_
  go_simp
  refine (wruns_p _ p r _ (GG.out _ hSc).1 HR.out.symm).mono ?_
  rintro e wq ⟨rfl, hz⟩
  have hz := hz.symm
  subst hz
  refine ⟨fun W => Below w3.heap.size w3 W, fun W hW => hW, hSc, ?_⟩
  try simp only [Act.put, List.setIfInBounds_toArray, List.set_cons_zero, List.set_cons_succ]
  refine held_next 43 rfl (by kernel_rfl) (by rfl) ?_
  go_simp
  refine (mruns_p gm p r _ (GG.out _ hSc).2.2.1 HR.out.symm).mono ?_
  rintro e wq ⟨rfl, hz⟩
  have hz := hz.symm
  subst hz
  refine ⟨fun W => Below w3.heap.size w3 W, fun W hW => hW, hSc, ?_⟩
  try simp only [Act.put, List.setIfInBounds_toArray, List.set_cons_zero, List.set_cons_succ]
  refine held_take 44 ?_ rfl (by kernel_rfl) (by kernel_rfl) (by kernel_rfl) (fun _ _ _ h => h) (by rfl) ?_ hSc ?_
  rotate_left
  · (intro W hSW; go_simp; try rfl)
  try simp only [Act.put, List.setIfInBounds_toArray, List.set_cons_zero, List.set_cons_succ]
  refine held_take 45 ?_ rfl (by kernel_rfl) (by kernel_rfl) (by kernel_rfl) (fun _ _ _ h => h) (by rfl) ?_ hSc ?_
  rotate_left
  · (intro W hSW; go_simp; try rfl)
  try simp only [Act.put, List.setIfInBounds_toArray, List.set_cons_zero, List.set_cons_succ]
  refine held_take 46 ?_ rfl (by kernel_rfl) (by kernel_rfl) (by kernel_rfl) (fun _ _ _ h => h) (by rfl) ?_ hSc ?_
  rotate_left
  · (intro W hSW; go_simp; try rfl)
  try simp only [Act.put, List.setIfInBounds_toArray, List.set_cons_zero, List.set_cons_succ]
  refine held_take 47 ?_ rfl (by kernel_rfl) (by kernel_rfl) (by kernel_rfl) (fun _ _ _ h => h) (by rfl) ?_ hSc ?_
  rotate_left
  · (intro W hSW; go_simp; try rfl)
  try simp only [Act.put, List.setIfInBounds_toArray, List.set_cons_zero, List.set_cons_succ]
  refine held_take 48 ?_ rfl (by kernel_rfl) (by kernel_rfl) (by kernel_rfl) (fun _ _ _ h => h) (by rfl) ?_ hSc ?_
  rotate_left
  · (intro W hSW; go_simp; try rfl)
  try simp only [Act.put, List.setIfInBounds_toArray, List.set_cons_zero, List.set_cons_succ]
  refine held_next 49 rfl (by kernel_rfl) (by rfl) ?_
  go_simp
  refine (same16_p _ _ _ _ _ (GG.out _ hSc).2.2.2.1 (GG.out _ hSc).2.2.2.2.1 rfl).mono ?_
  rintro e wq5 ⟨rfl, bq⟩
  have hbq : Below w3.heap.size w3 wq5 := hSc.trans (bq.mono hSc.size)
  refine ⟨fun W => Below w3.heap.size w3 W, fun W hW => hW, hbq, ?_⟩
  clear hSc bq
  have hSc : Below w3.heap.size w3 wq5 := hbq
  clear hbq
  try simp only [Act.put, List.setIfInBounds_toArray, List.set_cons_zero, List.set_cons_succ]
  refine held_take 50 ?_ rfl (by kernel_rfl) (by kernel_rfl) (by kernel_rfl) (fun _ _ _ h => h) (by rfl) ?_ hSc ?_
  rotate_left
  · (intro W hSW; go_simp; try rfl)
  try simp only [Act.put, List.setIfInBounds_toArray, List.set_cons_zero, List.set_cons_succ]
  refine held_next 51 rfl (by kernel_rfl) (by rfl) ?_
  go_simp
  refine ⟨fun W => Below w3.heap.size w3 W, fun W hW => hW, hSc, ?_⟩
  refine wpAnyH_done (by kernel_rfl) ?_ _
  generalize hwz : (wq5 : World) = w4 at *
  clear hwz
  have HV := Lib.hid (HV.out.step hSc)
  have HU := Lib.hid (HU.out.step hSc)
  have IN := Lib.hid (IN.out.step hSc)
  have X := Lib.hid (X.out.step hSc)
  have L := Lib.hid (L.out.step hSc)
  have MA := Lib.hid (MA.out.step hSc)
  have T4 := Lib.hid (T3.out.step hSc)
  have B4 := Lib.hid (B3.out.trans (hSc.mono B3.out.size))
  clear hSc KK GG
  go_wp2_with fail
  refine (wselect_p _ p Q 0 false _ X.out T4.out HQM.out S1.out S2.out).mono ?_
  rintro e w' ⟨rfl, hz⟩
  have hz := hz.symm
  subst hz
  go_wp2_with fail
  refine (wlist_any _ ol 0 _ HU.out T4.out).mono ?_
  rintro e w5 ⟨v5, rfl, g5, b5⟩
  obtain ⟨Ax5, cx5, rfl, -⟩ := g5.sl
  have HV := Lib.hid (HV.out.step b5)
  have HU := Lib.hid (HU.out.step b5)
  have IN := Lib.hid (IN.out.step b5)
  have X := Lib.hid (X.out.step b5)
  have L := Lib.hid (L.out.step b5)
  have MA := Lib.hid (MA.out.step b5)
  have T5 := Lib.hid (T4.out.step b5)
  have B5 := Lib.hid (B4.out.trans (b5.mono B4.out.size))
  clear g5 b5
  go_wp2_with fail
  refine (wlen_any _ ol 0 _ _ HU.out).mono ?_
  rintro e w' ⟨rfl, hz⟩
  have hz := hz.symm
  subst hz
  go_wp2_with fail
  refine (whas_any _ ol 0 _ x _ HU.out (by omega) (by omega)).mono ?_
  rintro e w' ⟨rfl, hz⟩
  have hz := hz.symm
  subst hz
  go_wp2_with fail
  refine (wrank_any _ ol 0 _ K _ HU.out).mono ?_
  rintro e w' ⟨rfl, hz⟩
  have hz := hz.symm
  subst hz
  go_wp2_with fail
  refine (wselect_any _ ol 0 _ Q _ HU.out T5.out HQM.out).mono ?_
  rintro e w' ⟨rfl, hz⟩
  have hz := hz.symm
  subst hz
  go_wp2_with fail
  refine (wruns_any _ ol 0 _ _ HU.out).mono ?_
  rintro e w' ⟨rfl, hz⟩
  have hz := hz.symm
  subst hz
  go_wp2_with fail
  refine (wflip_any _ ol 0 K Q _ HU.out).mono ?_
  rintro e w6 ⟨v6, rfl, g6, b6⟩
  obtain ⟨Ax6, cx6, rfl, -⟩ := g6.sl
  have HV := Lib.hid (HV.out.step b6)
  have HU := Lib.hid (HU.out.step b6)
  have IN := Lib.hid (IN.out.step b6)
  have X := Lib.hid (X.out.step b6)
  have L := Lib.hid (L.out.step b6)
  have MA := Lib.hid (MA.out.step b6)
  have T6 := Lib.hid (T5.out.step b6)
  have B6 := Lib.hid (B5.out.trans (b6.mono B5.out.size))
  clear g6 b6
  go_wp2_with fail
  refine (wand_any _ _ ol _ 0 _ HU.out X.out).mono ?_
  rintro e w7 ⟨v7, rfl, g7, b7⟩
  obtain ⟨Ax7, cx7, rfl, -⟩ := g7.sl
  have HV := Lib.hid (HV.out.step b7)
  have HU := Lib.hid (HU.out.step b7)
  have IN := Lib.hid (IN.out.step b7)
  have X := Lib.hid (X.out.step b7)
  have L := Lib.hid (L.out.step b7)
  have MA := Lib.hid (MA.out.step b7)
  have T7 := Lib.hid (T6.out.step b7)
  have B7 := Lib.hid (B6.out.trans (b7.mono B6.out.size))
  clear g7 b7
  go_wp2_with fail
  refine (wxor_any _ _ _ ol 0 _ X.out HU.out).mono ?_
  rintro e w8 ⟨v8, rfl, g8, b8⟩
  obtain ⟨Ax8, cx8, rfl, -⟩ := g8.sl
  have HV := Lib.hid (HV.out.step b8)
  have HU := Lib.hid (HU.out.step b8)
  have IN := Lib.hid (IN.out.step b8)
  have X := Lib.hid (X.out.step b8)
  have L := Lib.hid (L.out.step b8)
  have MA := Lib.hid (MA.out.step b8)
  have T8 := Lib.hid (T7.out.step b8)
  have B8 := Lib.hid (B7.out.trans (b8.mono B7.out.size))
  clear g8 b8
  go_wp2_with fail
  refine (wor_any _ _ ol _ 0 _ HU.out X.out).mono ?_
  rintro e w9 ⟨v9, rfl, g9, b9⟩
  obtain ⟨Ax9, cx9, rfl, -⟩ := g9.sl
  have HV := Lib.hid (HV.out.step b9)
  have HU := Lib.hid (HU.out.step b9)
  have IN := Lib.hid (IN.out.step b9)
  have X := Lib.hid (X.out.step b9)
  have L := Lib.hid (L.out.step b9)
  have MA := Lib.hid (MA.out.step b9)
  have T9 := Lib.hid (T8.out.step b9)
  have B9 := Lib.hid (B8.out.trans (b9.mono B8.out.size))
  clear g9 b9
  go_wp2_with fail
  refine (wnot_any _ _ _ ol 0 _ X.out HU.out).mono ?_
  rintro e w10 ⟨v10, rfl, g10, b10⟩
  obtain ⟨Ax10, cx10, rfl, -⟩ := g10.sl
  have HV := Lib.hid (HV.out.step b10)
  have HU := Lib.hid (HU.out.step b10)
  have IN := Lib.hid (IN.out.step b10)
  have X := Lib.hid (X.out.step b10)
  have L := Lib.hid (L.out.step b10)
  have MA := Lib.hid (MA.out.step b10)
  have T10 := Lib.hid (T9.out.step b10)
  have B10 := Lib.hid (B9.out.trans (b10.mono B9.out.size))
  clear g10 b10
  go_wp2_with fail
  refine (mwords_p gm p _ MA.out).mono ?_
  rintro e w11 ⟨A7, c7, rfl, g11, b11⟩
  have HV := Lib.hid (HV.out.step b11)
  have HU := Lib.hid (HU.out.step b11)
  have IN := Lib.hid (IN.out.step b11)
  have X := Lib.hid (X.out.step b11)
  have L := Lib.hid (L.out.step b11)
  have MA := Lib.hid (MA.out.step b11)
  have T11 := Lib.hid (T10.out.step b11)
  have B11 := Lib.hid (B10.out.trans (b11.mono B10.out.size))
  have WS := Lib.hid g11
  clear g11 b11
  go_wp2_with fail
  refine (same64_p _ _ _ _ _ X.out WS.out rfl).mono ?_
  rintro e w12 ⟨rfl, b12⟩
  have HV := Lib.hid (HV.out.step b12)
  have HU := Lib.hid (HU.out.step b12)
  have IN := Lib.hid (IN.out.step b12)
  have X := Lib.hid (X.out.step b12)
  have L := Lib.hid (L.out.step b12)
  have WS := Lib.hid (WS.out.step b12)
  have MA := Lib.hid (MA.out.step b12)
  have T12 := Lib.hid (T11.out.step b12)
  have B12 := Lib.hid (B11.out.trans (b12.mono B11.out.size))
  clear b12
  go_wp2_with fail
  refine (known_p _ T12.out).mono ?_
  rintro e w13 ⟨rfl, b13⟩
  have HV := Lib.hid (HV.out.step b13)
  have HU := Lib.hid (HU.out.step b13)
  have IN := Lib.hid (IN.out.step b13)
  have X := Lib.hid (X.out.step b13)
  have L := Lib.hid (L.out.step b13)
  have WS := Lib.hid (WS.out.step b13)
  have MA := Lib.hid (MA.out.step b13)
  have T13 := Lib.hid (T12.out.step b13)
  have B13 := Lib.hid (B12.out.trans (b13.mono B12.out.size))
  clear b13
  go_wp2
  go_ret
  exact ⟨rfl, B13.out⟩
end Go.Proofs.YtgegpbchjkfdkaaDoor
