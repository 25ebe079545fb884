/- Walks: numbers part by part of one key. -/
import Derived.Test.YtponcpneflhpfaaGreatDoorSc4
namespace Go.Proofs.YtponcpneflhpfaaGreatDoor
open Go.RowKit
set_option linter.unusedVariables false

theorem highB_c (x : Nat) (w : World) (hx : x < 4294967296) :
    Calls Tryz.prog 66 #[.int .u32 x] w fun e w' => e = .returned (.int .u16 (x / 65536 : Nat)) ∧ Below w.heap.size w w' :=
  (high_c x w hx).mono fun e w' ⟨h1, h2⟩ => ⟨h1, h2 ▸ Below.refl _ _⟩
set_option maxHeartbeats 4000000 in
theorem keyNeU_c (p k g4 g6 : Nat) (w : World) (hp : p < 4294967296) (r4 : Row w g4 110 #[.func (.func 66) #[] #[]]) (r6 : Row w g6 72 #[.int .u16 k]) :
    Calls Tryz.prog 161 #[.int .u32 p, .pointer (some ⟨g4, 0, none⟩), .pointer (some ⟨g6, 0, none⟩)] w fun e w' => e = .returned (.bool (decide (p / 65536 ≠ k))) ∧ Below w.heap.size w w' := by
  have HE : Enters Tryz.prog 66 := enters_of Tryz.func66 (by kernel_rfl) rfl
  unfold Enters at HE
  have R4 := Lib.hid r4
  have R6 := Lib.hid r6
  obtain ⟨r, hr⟩ : ∃ r : Nat, p / 65536 = r := ⟨_, rfl⟩
  have hc := fun W => highB_c p W hp
  rw [hr] at hc ⊢
  have HD : Hid (decide (r ≠ k) = ((r : Int) != (k : Int))) := Lib.hid (by by_cases h : r = k <;> simp [h] <;> omega)
  rw [HD.out]
  obtain ⟨bb, hbb⟩ : ∃ bb, bb = ((r : Int) != (k : Int)) := ⟨_, rfl⟩
  have HBB := Lib.hid hbb
  rw [← hbb]
  have hSc : Below w.heap.size w w.drew := (Below.refl w.heap.size w).drew
  clear r4 r6 hr HD hbb
  go_enter Tryz.func161, Tryz.ntmps161
  go_wp2_with fail
  refine wp_region_held_drew (S := fun W => Below w.heap.size w W) (by kernel_rfl) hSc (fun _ => ?_)
  refine held_take 0 ?_ rfl (by kernel_rfl) (by kernel_rfl) (by kernel_rfl) (fun _ _ _ h => h) (by rfl) ?_ hSc ?_
  rotate_left
  · (intro W hSW; have rr := R4.out.below hSW R4.out.lt; have k0 := rr.cell 0; go_simp; try rfl)
  try simp only [Act.put, List.setIfInBounds_toArray, List.set_cons_zero, List.set_cons_succ]
  refine held_take 1 ?_ rfl (by kernel_rfl) (by kernel_rfl) (by kernel_rfl) (fun _ _ _ h => h) (by rfl) ?_ hSc ?_
  rotate_left
  · (intro W hSW; go_simp; try rfl)
  try simp only [Act.put, List.setIfInBounds_toArray, List.set_cons_zero, List.set_cons_succ]
  refine held_take 3 ?_ rfl (by kernel_rfl) (by kernel_rfl) (by kernel_rfl) (fun _ _ _ h => h) (by rfl) ?_ hSc ?_
  rotate_left
  · (intro W hSW; have rr := R6.out.below hSW R6.out.lt; have k0 := rr.cell 0; go_simp; try rfl)
  try simp only [Act.put, List.setIfInBounds_toArray, List.set_cons_zero, List.set_cons_succ]
  refine held_next 2 rfl (by kernel_rfl) (by rfl) ?_
  go_simp
  refine (hc _).mono ?_
  rintro e wq1 ⟨rfl, bq⟩
  have hbq : Below w.heap.size w wq1 := hSc.trans (bq.mono hSc.size)
  refine ⟨fun W => Below w.heap.size w W, fun W hW => hW, hbq, ?_⟩
  clear hSc bq
  have hSc : Below w.heap.size w wq1 := hbq
  clear hbq
  try simp only [Act.put, List.setIfInBounds_toArray, List.set_cons_zero, List.set_cons_succ]
  refine held_take 4 ?_ rfl (by kernel_rfl) (by kernel_rfl) (by kernel_rfl) (fun _ _ _ h => h) (by rfl) ?_ hSc ?_
  rotate_left
  · (intro W hSW; go_simp; try rfl)
  try simp only [Act.put, List.setIfInBounds_toArray, List.set_cons_zero, List.set_cons_succ]
  refine held_next 5 rfl (by kernel_rfl) (by rfl) ?_
  go_simp
  refine ⟨fun W => Below w.heap.size w W, fun W hW => hW, hSc, ?_⟩
  refine wpAnyH_done (by kernel_rfl) ?_ _
  have BB := Lib.hid hSc
  go_wp2
  go_ret
  exact ⟨by rw [HBB.out]; rfl, BB.out⟩
/-- What IndexFunc tells of a row whose keys rise. -/
def IdxU (l : List UInt32) (k : Nat) (z : Int) : Prop := (z = -1 ∧ ∀ s ∈ l, ukey s = k) ∨ (∃ n : Nat, z = n ∧ n < l.length ∧ (∀ i s, i < n → l[i]? = some s → ukey s = k) ∧ ∀ s, l[n]? = some s → ukey s ≠ k)
set_option maxHeartbeats 4000000 in
theorem indexU_c (v : Value) (l : List UInt32) (k g4 g6 : Nat) (w : World) (hv : Gs e32 w 0 w.heap.size v l) (hl : l.length ≤ 100000000) (h32 : ∀ s ∈ l, s.toNat < 4294967296) (r4 : Row w g4 110 #[.func (.func 66) #[] #[]]) (r6 : Row w g6 72 #[.int .u16 k]) :
    Calls Tryz.prog 160 #[v, .func (.func 161) #[] #[.pointer (some ⟨g4, 0, none⟩), .pointer (some ⟨g6, 0, none⟩)]] w fun e w' => ∃ z, e = .returned (.int .i64 z) ∧ IdxU l k z ∧ Below w.heap.size w w' := by
  have HE : Enters Tryz.prog 161 := enters_of Tryz.func161 (by kernel_rfl) rfl
  unfold Enters at HE
  have HV := Lib.hid hv
  have H32 := Lib.hid h32
  have R4 := Lib.hid r4
  have R6 := Lib.hid r6
  obtain ⟨A, c, rfl, -⟩ := hv
  clear h32 r4 r6
  go_enter Tryz.func160, Tryz.ntmps160
  go_wp2
  go_loopw [8] (fun s8 wr => ∃ i : Nat, i ≤ l.length ∧ s8 = .int .i64 i ∧ Hid ((∀ j s, j < i → l[j]? = some s → ukey s = k) ∧ Below w.heap.size w wr)) (fun s8 _ => l.length - (intOf s8).toNat)
  case atStart => exact ⟨0, Nat.zero_le _, rfl, Lib.hid ⟨fun j s h => absurd h (Nat.not_lt_zero _), Below.refl _ _⟩⟩
  case round =>
    obtain ⟨i, hi, rfl, hj⟩ := hrel
    have HJ := Lib.hid hj.out
    by_cases hlt : i < l.length
    · obtain ⟨b, off, s, e1, -, hlo, hb, hg, c0⟩ := gs32_at HV.out hlt
      subst e1
      have hbl := hj.out.2
      rw [← hbl.cell (p := ⟨b, off + i, none⟩) hb] at c0
      have hp32 := H32.out s (List.mem_of_getElem? hg)
      obtain ⟨p, hp⟩ : ∃ p : Nat, p = s.toNat := ⟨_, rfl⟩
      rw [← hp] at c0 hp32
      have HP := Lib.hid hp
      have HP32 := Lib.hid hp32
      have HG := Lib.hid hg
      have hil : (i : Int) < l.length := by omega
      have hcall := keyNeU_c p k g4 g6 wr hp32 (R4.out.below hbl R4.out.lt) (R6.out.below hbl R6.out.lt)
      obtain ⟨bb, hbb⟩ : ∃ bb, decide (p / 65536 ≠ k) = bb := ⟨_, rfl⟩
      rw [hbb] at hcall
      have HBB := Lib.hid hbb
      clear hlo hg hbl hj hp hbb hp32
      go_wp2_with fail
      refine hcall.mono ?_
      clear hcall
      rintro e w2 ⟨rfl, b2⟩
      have B2 := Lib.hid (below_both HJ.out.2 b2)
      clear b2
      cases bb with
      | true =>
        have HX : Hid (IdxU l k i) := Lib.hid (.inr ⟨i, rfl, by omega, HJ.out.1, fun s' hs' => by
          rw [HG.out] at hs'
          injection hs' with hs'
          subst hs'
          have := of_decide_eq_true HBB.out
          rw [HP.out] at this
          exact this⟩)
        go_wp2
        go_ret
        exact ⟨_, rfl, HX.out, B2.out⟩
      | false =>
        have HX : Hid (∀ j s, j < i + 1 → l[j]? = some s → ukey s = k) := Lib.hid (fun j s' hj hs' => by
          by_cases h : j < i
          · exact HJ.out.1 j s' h hs'
          · obtain rfl : j = i := by omega
            rw [HG.out] at hs'
            injection hs' with hs'
            subst hs'
            have := of_decide_eq_false HBB.out
            rw [HP.out] at this
            unfold ukey
            omega)
        go_wp2
        refine ⟨⟨i + 1, by omega, by go_num, Lib.hid ⟨HX.out, B2.out⟩⟩, by simp [intOf]; omega⟩
    · obtain rfl : i = l.length := by omega
      have HX : Hid (IdxU l k (-1)) := Lib.hid (.inl ⟨rfl, fun s hs => by
        obtain ⟨j, hj⟩ := List.mem_iff_getElem?.1 hs
        exact HJ.out.1 j s (List.getElem?_eq_some_iff.1 hj).1 hj⟩)
      clear hj
      go_wp2
      go_ret
      exact ⟨_, rfl, HX.out, HJ.out.2⟩
set_option maxHeartbeats 4000000 in
/-- What lays the pieces of one key: the closure of Spans. -/
theorem layU_c {N : Nat → Prop} (v s pv : Value) (R : Nat → Bool) (b K k g3 : Nat) (es : List En) (l : List UInt32) (w : World) (hT : Tb w) (hN : ∀ x, w.heap.size ≤ x → N x) (S : Sx N w v R b K s es) (r3 : Row w g3 24 #[v]) (hv : Gs e32 w 0 w.heap.size pv l) (hq : rsu l) (hk : ∀ s ∈ l, ukey s = k)
    (hK : K ≤ k) (hk2 : k < 65536) (gap : ∀ j, K ≤ j → j < k → nz R j = false) (hR : ∀ x, x < 65536 → mk32 l (65536 * k + x) = blk R k x) (hg3 : g3 ≠ b ∧ s.ownBlock ≠ some g3) :
    Calls Tryz.prog 92 #[.int .u16 k, pv, .pointer (some ⟨g3, 0, none⟩)] w fun e w' => e = .returned (.tuple #[]) ∧ Put N v R b (k + 1) s w w' := by
  have HO := Lib.hid (fun W (hW : Below w.heap.size w W) => ofNumbers_c (N := N) pv l k W (hT.step hW) (fun x hx => hN x (Nat.le_trans hW.size hx)) (hv.step hW) hq hk)
  have SS := Lib.hid S
  have R3 := Lib.hid r3
  have HR := Lib.hid hR
  have GAP := Lib.hid gap
  have NG := Lib.hid hg3
  obtain ⟨A, n, rfl, -⟩ := hv
  have hform := S.form
  subst hform
  clear S r3 hR gap hT hN hq hk
  go_enter Tryz.func92, Tryz.ntmps92
  go_wp2_with fail
  have hSc : Row w.drew g3 24 #[.pointer (some ⟨b, 0, none⟩)] := R3.out
  refine wp_region_held_drew (S := fun W => Row W g3 24 #[.pointer (some ⟨b, 0, none⟩)]) (by kernel_rfl) hSc (fun _ => ?_)
  refine held_take 0 ?_ rfl (by kernel_rfl) (by kernel_rfl) (by kernel_rfl) (fun _ _ _ h => h) (by rfl) ?_ hSc ?_
  rotate_left
  · (intro W hSW; have k0 := hSW.cell 0; go_simp; try rfl)
  try simp only [Act.put, List.setIfInBounds_toArray, List.set_cons_zero, List.set_cons_succ]
  refine held_take 1 ?_ rfl (by kernel_rfl) (by kernel_rfl) (by kernel_rfl) (fun _ _ _ h => h) (by rfl) ?_ hSc ?_
  rotate_left
  · (intro W hSW; go_simp; try rfl)
  try simp only [Act.put, List.setIfInBounds_toArray, List.set_cons_zero, List.set_cons_succ]
  refine held_take 2 ?_ rfl (by kernel_rfl) (by kernel_rfl) (by kernel_rfl) (fun _ _ _ h => h) (by rfl) ?_ hSc ?_
  rotate_left
  · (intro W hSW; go_simp; try rfl)
  try simp only [Act.put, List.setIfInBounds_toArray, List.set_cons_zero, List.set_cons_succ]
  refine held_next 3 rfl (by kernel_rfl) (by rfl) ?_
  go_simp
  refine (HO.out _ (below_drewN (Below.refl _ _) 1)).mono ?_
  rintro e wq ⟨v', rfl, g, bq⟩
  obtain ⟨κv, Av, nv, cv, Bv, mv, dv, Dv, qv, ev, rfl⟩ := g.form
  have hbq : Below w.heap.size w wq := (below_drewN (Below.refl w.heap.size w) 1).trans bq
  have GQ := Lib.hid g
  have BQ := Lib.hid hbq
  clear hSc bq g
  have hSc : Row wq g3 24 #[.pointer (some ⟨b, 0, none⟩)] := R3.out.below hbq R3.out.lt
  clear hbq
  refine ⟨fun W => Row W g3 24 #[.pointer (some ⟨b, 0, none⟩)], fun W hW => hW, hSc, ?_⟩
  try simp only [Act.put, List.setIfInBounds_toArray, List.set_cons_zero, List.set_cons_succ]
  have HC : Hid (Cn N wq (.agg #[.int .u8 κv, .slice Av nv cv, .slice Bv mv dv, .slice Dv qv ev]) (blk R k) (ck (blk R k))) := Lib.hid (by rw [← ck_ext HR.out]; exact GQ.out.ext HR.out)
  refine held_next 4 rfl (by kernel_rfl) (by rfl) ?_
  go_simp
  refine (put_c _ s R b K k es ⟨κv, Av, nv, cv, Bv, mv, dv, Dv, qv, ev⟩ _ (SS.out.step BQ.out) hK hk2 GAP.out HC.out).mono ?_
  rintro r w' ⟨rfl, hp⟩
  have R5 : Row w' g3 24 #[.pointer (some ⟨b, 0, none⟩)] := hSc.keep (hp.2.block g3 hSc.lt (fun e => by rcases e with e | e; exact NG.out.1 e; exact NG.out.2 e))
  have PP : Hid (Put N (.pointer (some ⟨b, 0, none⟩)) R b (k + 1) s w w') := Lib.hid (by
    obtain ⟨⟨N', s', es', a1, a2, a3⟩, a4⟩ := hp
    refine ⟨⟨N', s', es', a1, ⟨fun x hx hn => a2.old x (Nat.lt_of_lt_of_le hx BQ.out.size) hn, a2.new, a2.sub⟩, ?_⟩, ?_⟩
    · rcases a3 with e | ⟨g, e, hg⟩
      · exact .inl e
      · exact .inr ⟨g, e, Nat.le_trans BQ.out.size hg⟩
    · exact (Off.of (M := fun x => False) BQ.out).trans a4 (fun x _ h => h.elim) (fun x _ h => h))
  refine ⟨fun W => Row W g3 24 #[.pointer (some ⟨b, 0, none⟩)], fun W hW => hW, R5, ?_⟩
  refine wpAnyH_done (by kernel_rfl) ?_ _
  clear hp R5 hSc
  go_wp2
  go_end0
  exact ⟨rfl, PP.out⟩
end Go.Proofs.YtponcpneflhpfaaGreatDoor
