/- Walks: whether a dictionary tells these values (told). -/
import Derived.Test.YtjojhoaienjjeaaMa9
namespace Go.Proofs.Ytjojhoaienjjeaa
open Go.RowKit Go.Shelf
set_option linter.unusedVariables false

attribute [local go_sem] Oper.semAt_some

/-- A pair has come that is not the next one. -/
def toldBad (l : List VV) (c : Code) (xs : List (Nat × VV)) : Prop := c = .ret ∧ ∃ ini x, xs = ini ++ [x] ∧ (x.1 ≠ ini.length ∨ l[ini.length]? ≠ some x.2)
set_option maxHeartbeats 8000000 in
set_option maxRecDepth 100000 in
theorem told_any (p : Value) (kind : Int) (A2 : Option Addr) (d2 : Nat) (l : List VV) (w : World) (hD : Dc w p kind l) (hG : GsV eV w 0 w.heap.size (.slice A2 l.length d2) l) (hn : l.length ≤ 1000) :
    Calls Try.prog 15 #[p, .int .u8 kind, .slice A2 l.length d2] w fun e w' => e = .returned (.bool true) ∧ Below w.heap.size w w' := by
  obtain ⟨g, A, d, rfl, hm⟩ := hD
  obtain ⟨W1, hW1⟩ : ∃ W1, W1 = (w.alloc (.cells #[.slice A2 l.length d2] 22)).alloc (.cells #[.bool false] 4) := ⟨_, rfl⟩
  have L1 := Lib.hid (show Row W1 w.heap.size 22 #[.slice A2 l.length d2] by rw [hW1]; exact (Row.new _ _ _).alloc _)
  have X1 := Lib.hid (show Row W1 (w.heap.size + 1) 4 #[.bool false] by rw [hW1]; have := Row.new (w.alloc (.cells #[.slice A2 l.length d2] 22)) 4 #[.bool false]; simpa using this)
  have B1 := Lib.hid (show Below w.heap.size w W1 by rw [hW1]; exact ((Below.refl _ _).alloc (Nat.le_refl _) _).alloc (by simp) _)
  have M1 := Lib.hid (hm.step B1.out)
  have G0 := Lib.hid (hG.step B1.out)
  have HN := Lib.hid hn
  have HMA := Lib.hid (show ∀ x ∈ l, mayW x = true from fun x hx => (hm.may x hx).1)
  obtain ⟨K, hK⟩ : ∃ K : UInt8, (K.toNat : Int) = kind := by
    rcases hm.kind with h | h
    · exact ⟨1, by rw [h]; rfl⟩
    · exact ⟨2, by rw [h]; rfl⟩
  have hcat : (catV l).length ≤ 500000000 := by
    have := cat_small l (fun x hx => HMA.out x hx)
    omega
  have HLen := Lib.hid (fun W (b : Below W1.heap.size W1 W) => len_any _ kind A l.length d W (M1.out.step b).at_)
  have HKind := Lib.hid (fun W (b : Below W1.heap.size W1 W) => kind_any _ kind _ W (M1.out.step b).at_)
  have hc1 := fun W (b : Below W1.heap.size W1 W) => bytes_at K kind hK g A d l W (M1.out.step b) (by omega) hcat
  have hc2 := fun W (b : Below W1.heap.size W1 W) => dbytes_c K A2 d2 l W (G0.out.step b) (by omega) (fun x hx => mayW_small (HMA.out x hx)) hcat
  rw [hK] at hc2
  generalize dB K l = bs at hc1 hc2
  have CB1 := Lib.hid hc1
  have CB2 := Lib.hid hc2
  clear hc1 hc2 hcat hK hm hG hn
  refine (callsIn_wide (n := 3)).1 ?_
  refine callsIn_of_wp_marks Try.func15 rfl trivial ?_ rfl
  refine wpIn_wide.2 ?_
  simp only [Try.ntmps15, List.size_toArray, List.length_cons, List.length_nil, Nat.reduceAdd, Nat.reduceSub, Array.replicate_succ, Array.replicate_zero, List.push_toArray, List.append_toArray, List.nil_append, List.cons_append]
  go_wp2_with fail
  rw [← hW1]
  clear hW1
  refine wp_only ?_
  have hSc := (Below.refl W1.heap.size W1).drew
  refine wp_region_all (S := fun W => Below W1.heap.size W1 W) (by kernel_rfl) hSc (fun W0 hSc => ?_)
  refine held_take 0 ?_ rfl (by kernel_rfl) (by kernel_rfl) (by kernel_rfl) (fun _ _ _ h => h) (by rfl) ?_ hSc ?_
  rotate_left
  · (intro W hSW; go_simp; try rfl)
  try simp only [Act.put, List.setIfInBounds_toArray, List.set_cons_zero, List.set_cons_succ]
  refine held_take 1 ?_ rfl (by kernel_rfl) (by kernel_rfl) (by kernel_rfl) (fun _ _ _ h => h) (by rfl) ?_ hSc ?_
  rotate_left
  · (intro W hSW; go_simp; try rfl)
  try simp only [Act.put, List.setIfInBounds_toArray, List.set_cons_zero, List.set_cons_succ]
  refine held_take 2 ?_ rfl (by kernel_rfl) (by kernel_rfl) (by kernel_rfl) (fun _ _ _ h => h) (by rfl) ?_ hSc ?_
  rotate_left
  · (intro W hSW; go_simp; try rfl)
  try simp only [Act.put, List.setIfInBounds_toArray, List.set_cons_zero, List.set_cons_succ]
  refine held_take 3 ?_ rfl (by kernel_rfl) (by kernel_rfl) (by kernel_rfl) (fun _ _ _ h => h) (by rfl) ?_ hSc ?_
  rotate_left
  · (intro W hSW; go_simp; try rfl)
  try simp only [Act.put, List.setIfInBounds_toArray, List.set_cons_zero, List.set_cons_succ]
  refine held_take 5 ?_ rfl (by kernel_rfl) (by kernel_rfl) (by kernel_rfl) (fun _ _ _ h => h) (by rfl) ?_ hSc ?_
  rotate_left
  · (intro W hSW; have c5 := (L1.out.below hSW L1.out.lt).cell 0; go_simp; try rfl)
  try simp only [Act.put, List.setIfInBounds_toArray, List.set_cons_zero, List.set_cons_succ]
  refine held_take 6 ?_ rfl (by kernel_rfl) (by kernel_rfl) (by kernel_rfl) (fun _ _ _ h => h) (by rfl) ?_ hSc ?_
  rotate_left
  · (intro W hSW; go_simp; try rfl)
  try simp only [Act.put, List.setIfInBounds_toArray, List.set_cons_zero, List.set_cons_succ]
  refine held_next 4 rfl (by kernel_rfl) (by rfl) ?_
  go_simp
  refine (HLen.out _ hSc).mono ?_
  rintro e _ ⟨rfl, rfl⟩
  refine ⟨fun W => Below W1.heap.size W1 W, fun W hW => hW, hSc, ?_⟩
  try simp only [Act.put, List.setIfInBounds_toArray, List.set_cons_zero, List.set_cons_succ]
  refine held_take 7 ?_ rfl (by kernel_rfl) (by kernel_rfl) (by kernel_rfl) (fun _ _ _ h => h) (by rfl) ?_ hSc ?_
  rotate_left
  · (intro W hSW; go_simp; try rfl)
  try simp only [Act.put, List.setIfInBounds_toArray, List.set_cons_zero, List.set_cons_succ]
  refine held_take 8 ?_ rfl (by kernel_rfl) (by kernel_rfl) (by kernel_rfl) (fun _ _ _ h => h) (by rfl) ?_ hSc ?_
  rotate_left
  · (intro W hSW; go_simp; try rfl)
  try simp only [Act.put, List.setIfInBounds_toArray, List.set_cons_zero, List.set_cons_succ]
  refine held_take 9 ?_ rfl (by kernel_rfl) (by kernel_rfl) (by kernel_rfl) (fun _ _ _ h => h) (by rfl) ?_ hSc ?_
  rotate_left
  · (intro W hSW; go_simp; try rfl)
  try simp only [Act.put, List.setIfInBounds_toArray, List.set_cons_zero, List.set_cons_succ]
  refine held_take 10 ?_ rfl (by kernel_rfl) (by kernel_rfl) (by kernel_rfl) (fun _ _ _ h => h) (by rfl) ?_ hSc ?_
  rotate_left
  · (intro W hSW; go_simp; try rfl)
  try simp only [Act.put, List.setIfInBounds_toArray, List.set_cons_zero, List.set_cons_succ]
  refine held_take 12 ?_ rfl (by kernel_rfl) (by kernel_rfl) (by kernel_rfl) (fun _ _ _ h => h) (by rfl) ?_ hSc ?_
  rotate_left
  · (intro W hSW; go_simp; try rfl)
  try simp only [Act.put, List.setIfInBounds_toArray, List.set_cons_zero, List.set_cons_succ]
  refine held_next 11 rfl (by kernel_rfl) (by rfl) ?_
  go_simp
  refine (HKind.out _ hSc).mono ?_
  rintro e _ ⟨rfl, rfl⟩
  refine ⟨fun W => Below W1.heap.size W1 W, fun W hW => hW, hSc, ?_⟩
  try simp only [Act.put, List.setIfInBounds_toArray, List.set_cons_zero, List.set_cons_succ]
  refine held_take 13 ?_ rfl (by kernel_rfl) (by kernel_rfl) (by kernel_rfl) (fun _ _ _ h => h) (by rfl) ?_ hSc ?_
  rotate_left
  · (intro W hSW; go_simp; try rfl)
  try simp only [Act.put, List.setIfInBounds_toArray, List.set_cons_zero, List.set_cons_succ]
  refine held_take 14 ?_ rfl (by kernel_rfl) (by kernel_rfl) (by kernel_rfl) (fun _ _ _ h => h) (by rfl) ?_ hSc ?_
  rotate_left
  · (intro W hSW; go_simp; try rfl)
  try simp only [Act.put, List.setIfInBounds_toArray, List.set_cons_zero, List.set_cons_succ]
  refine held_take 15 ?_ rfl (by kernel_rfl) (by kernel_rfl) (by kernel_rfl) (fun _ _ _ h => h) (by rfl) ?_ hSc ?_
  rotate_left
  · (intro W hSW; go_simp; try rfl)
  try simp only [Act.put, List.setIfInBounds_toArray, List.set_cons_zero, List.set_cons_succ]
  refine held_take 16 ?_ rfl (by kernel_rfl) (by kernel_rfl) (by kernel_rfl) (fun _ _ _ h => h) (by rfl) ?_ hSc ?_
  rotate_left
  · (intro W hSW; go_simp; try rfl)
  try simp only [Act.put, List.setIfInBounds_toArray, List.set_cons_zero, List.set_cons_succ]
  refine held_take 19 ?_ rfl (by kernel_rfl) (by kernel_rfl) (by kernel_rfl) (fun _ _ _ h => h) (by rfl) ?_ hSc ?_
  rotate_left
  · (intro W hSW; go_simp; try rfl)
  try simp only [Act.put, List.setIfInBounds_toArray, List.set_cons_zero, List.set_cons_succ]
  refine held_take 20 ?_ rfl (by kernel_rfl) (by kernel_rfl) (by kernel_rfl) (fun _ _ _ h => h) (by rfl) ?_ hSc ?_
  rotate_left
  · (intro W hSW; have c5 := (L1.out.below hSW L1.out.lt).cell 0; go_simp; try rfl)
  try simp only [Act.put, List.setIfInBounds_toArray, List.set_cons_zero, List.set_cons_succ]
  refine held_next 17 rfl (by kernel_rfl) (by rfl) ?_
  go_simp
  refine (CB1.out _ hSc).mono ?_
  rintro e x1 ⟨v1, rfl, o1, b1⟩
  have G1 := Lib.hid (o1.sl.more (Nat.zero_le _) (Nat.le_refl _))
  have U1 := Lib.hid (hSc.trans (b1.mono hSc.size))
  refine ⟨fun W => Below x1.heap.size x1 W, fun W hW => U1.out.trans (hW.mono U1.out.size), Below.refl _ _, ?_⟩
  obtain ⟨A1x, d1x, rfl, -⟩ := o1.sl
  clear o1 b1
  have hSc := Below.refl x1.heap.size x1
  try simp only [Act.put, List.setIfInBounds_toArray, List.set_cons_zero, List.set_cons_succ]
  refine held_take 18 ?_ rfl (by kernel_rfl) (by kernel_rfl) (by kernel_rfl) (fun _ _ _ h => h) (by rfl) ?_ hSc ?_
  rotate_left
  · (intro W hSW; have s1 := str8 (G1.out.below hSW); go_simp; try rfl)
  try simp only [Act.put, List.setIfInBounds_toArray, List.set_cons_zero, List.set_cons_succ]
  refine held_next 21 rfl (by kernel_rfl) (by rfl) ?_
  go_simp
  refine (CB2.out _ U1.out).mono ?_
  rintro e x2 ⟨v2, rfl, o2, b2⟩
  have G2 := Lib.hid (o2.sl.more (Nat.zero_le _) (Nat.le_refl _))
  have b2h := Lib.hid b2
  have U2 := Lib.hid (U1.out.trans (b2.mono U1.out.size))
  refine ⟨fun W => Below x2.heap.size x2 W, fun W hW => b2h.out.trans (hW.mono b2h.out.size), Below.refl _ _, ?_⟩
  obtain ⟨A2x, d2x, rfl, -⟩ := o2.sl
  clear o2 b2
  have hSc := Below.refl x2.heap.size x2
  try simp only [Act.put, List.setIfInBounds_toArray, List.set_cons_zero, List.set_cons_succ]
  refine held_take 22 ?_ rfl (by kernel_rfl) (by kernel_rfl) (by kernel_rfl) (fun _ _ _ h => h) (by rfl) ?_ hSc ?_
  rotate_left
  · (intro W hSW; have s1 := str8 (G2.out.below hSW); go_simp; try rfl)
  try simp only [Act.put, List.setIfInBounds_toArray, List.set_cons_zero, List.set_cons_succ]
  refine held_next 23 rfl (by kernel_rfl) (by rfl) ?_
  go_simp
  refine ⟨fun W => Below x2.heap.size x2 W, fun W hW => hW, hSc, ?_⟩
  try simp only [Act.put, List.setIfInBounds_toArray, List.set_cons_zero, List.set_cons_succ]
  refine held_next 24 rfl (by kernel_rfl) (by rfl) ?_
  go_simp
  refine ⟨fun W => Below x2.heap.size x2 W, fun W hW => hW, hSc, ?_⟩
  refine wpAnyH_done (by kernel_rfl) ?_ _
  unfold onlyN
  have U9 := Lib.hid (B1.out.trans (U2.out.mono B1.out.size))
  have M9 := Lib.hid (M1.out.step U2.out)
  have X9 := Lib.hid (X1.out.below U2.out X1.out.lt)
  have L9 := Lib.hid (L1.out.below U2.out L1.out.lt)
  have G9 := Lib.hid (G0.out.step U2.out)
  obtain ⟨u, hu⟩ : ∃ u, u = x2 := ⟨_, rfl⟩
  subst hu
  have hqn := fun W f a b => run_eql_func_nil (P := Try.prog) W 33 _ _ _ f a b Try.underlying33
  clear G1 G2 b2h U1 G0 L1 X1 M1 U2 CB1 CB2 HLen HKind
  go_wp2_with (go_at_call 14; refine (all_any _ kind A l.length d _ (M9.out.step ((Below.refl _ _).alloc (Nat.le_refl _) _)).at_).mono ?_; rintro e w5 ⟨rfl, hz⟩; have L5 := Lib.hid (show Row w5 u.heap.size 3 #[.int .i64 0] by rw [hz]; exact (Row.new _ _ _).alloc _); have U5 := Lib.hid (show Below u.heap.size u w5 by rw [hz]; exact ((Below.refl _ _).alloc (Nat.le_refl _) _).alloc (by simp) _); clear hz; go_wp2_with (go_at_call 14; refine (all_any _ kind A l.length d _ (M9.out.step U5.out).at_).mono ?_; rintro e w6 ⟨rfl, hz⟩; have L6 := Lib.hid (show Row w6 u.heap.size 3 #[.int .i64 0] by rw [hz]; exact L5.out.alloc _); have U6 := Lib.hid (show Below u.heap.size u w6 by rw [hz]; exact U5.out.alloc U5.out.size _); have S6 := Lib.hid (show Row w6 w5.heap.size 22 #[.slice A l.length d] by rw [hz]; exact Row.new _ _ _); clear hz))
  have HSEQ := all_stops w5.heap.size A d l w6 u.heap.size (M9.out.small) U6.out.size S6.out.lt (S6.out.cell 0) (M9.out.vals.below U6.out)
  have HUP := Lib.hid M9.out.up
  refine (wpIn_wide (n := 3)).1 ?_
  refine range_box (n₀ := u.heap.size) (d1 := 8) (d2 := 9) U6.out.size rfl (enters_of Try.func34 (by kernel_rfl) rfl) HSEQ (Below.refl _ _)
    (fun xs W => Row W u.heap.size 3 #[.int .i64 (xs.length : Int)] ∧ Below u.heap.size u W)
    (fun c xs _ => toldBad l c xs)
    (fun s X Y row hs hg hr => ⟨row_own (β := Unit) hs.1 hg (fun r e => (hr r e).2), (ownFrom_below (β := List (Nat × VV)) (Nat.le_refl _) U6.out.size) s X Y row hs.2 hg hr⟩)
    (fun c => ownFrom_pure _ _) ⟨L6.out, U6.out⟩ ?assign ?body ?done ?stop
  case assign =>
    intro l x W K hK
    gi_wp2
    exact hK
  case body =>
    rintro y pre x Bx W hBx ⟨hL, hB⟩ hrow hpl
    have HL := Lib.hid hL
    have HB := Lib.hid hB
    have HR := Lib.hid hrow
    obtain ⟨i0, ⟨k2, n2, s2⟩⟩ := x
    obtain ⟨p0, hp0⟩ : ∃ p0, pre.length = p0 := ⟨_, rfl⟩
    have HP0 := Lib.hid hp0
    have hl5 := L9.out.below hB L9.out.lt
    rw [hp0] at hL hpl
    have XB := Lib.hid (X9.out.below hB X9.out.lt)
    have a0 := hL.cell 0
    have f0 := hL.frozen 0
    have c5 := hl5.cell 0
    have b0 := hrow.cell 0
    have b1 := hrow.cell 1
    have b2 := hrow.cell 2
    have x0 := XB.out.cell 0
    have y0 := XB.out.frozen 0
    have hG := G9.out.below hB
    obtain ⟨b, boff, bc', e, -, -, -, bw, hc⟩ := hG.form (fun e => by have h := congrArg List.length e; simp only [List.length_nil] at h; omega)
    injection e with e1 e2 e3
    clear e2
    subst e1 e3
    obtain ⟨Y, hY⟩ : ∃ Y, l[p0]? = some Y := ⟨_, List.getElem?_eq_getElem (by omega)⟩
    have q0 := vcell0 (hc p0 Y hY)
    have q1 := vcell1 (hc p0 Y hY)
    have q2 := vcell2 (hc p0 Y hY)
    have HY := Lib.hid hY
    have hn := HN.out
    have gl : decide ((p0 : Int) ≥ (l.length : Int)) = false := decide_eq_false (by omega)
    have gl2 : decide ((l.length : Int) ≤ (p0 : Int)) = false := decide_eq_false (by omega)
    have tt := neql_V ⟨k2, n2, s2⟩ Y
    have ha := add1 (a := p0) (n := l.length) (by omega) (by omega)
    clear hL hB hrow hl5 hc hG hY hp0
    unfold rfr
    try simp only [List.setIfInBounds_toArray, List.set_cons_zero, List.set_cons_succ]
    by_cases h0 : i0 = p0
    · subst h0
      cases hq : eqW ⟨k2, n2, s2⟩ Y with
      | true =>
        rw [hq] at tt
        have HQ := Lib.hid (eqW_iff.1 hq)
        clear hq
        gi_wp2_with fail
        refine wpIn_round_quiet (by kernel_rfl) (by kernel_rfl) (by kernel_rfl) ?_
        repeat (quiet_step_in (fail))
        refine wpQuietIn_nil ?_
        rintro _ ⟨nq, rfl⟩
        gi_wp2
        refine ⟨(keepsFrom_below (below_drewN (Below.refl _ _) nq)).trans (KeepsFrom.of_grownBy (grown_set (W.drewN nq) u.heap.size 0 _) (fun j e => by injection e with e; have := L6.out.lt; omega)), (below_drewN (Below.refl u.heap.size W) nq).setCell (p := ⟨u.heap.size, 0, none⟩) (Nat.le_refl _) _, ?_, (below_drewN HB.out nq).setCell (p := ⟨u.heap.size, 0, none⟩) (Nat.le_refl _) _⟩
        have hs := Row.set_ (HL.out : Row (W.drewN nq) _ _ _) 0 (.int .i64 ((pre.length + 1 : Nat) : Int))
        rw [List.length_append, List.length_cons, List.length_nil, HP0.out] at *
        exact hs
      | false =>
        rw [hq] at tt
        have HQ := Lib.hid (eqW_not.1 hq)
        clear hq
        gi_wp2_with fail
        refine wpIn_round_quiet (by kernel_rfl) (by kernel_rfl) (by kernel_rfl) ?_
        repeat (quiet_step_in (fail))
        refine wpQuietIn_nil ?_
        rintro _ ⟨nq, rfl⟩
        gi_wp2
        exact ⟨(keepsFrom_below (below_drewN (Below.refl _ _) nq)).trans ((KeepsOthers.setCell _ _ _).from _), rfl, pre, _, rfl, .inr (by rw [HP0.out, HY.out]; intro e; injection e with e; exact HQ.out e.symm)⟩
    · have hne : ((i0 : Int) != (p0 : Int)) = true := by simp; omega
      have HI0 := Lib.hid h0
      clear h0
      gi_wp2_with fail
      refine wpIn_round_quiet (by kernel_rfl) (by kernel_rfl) (by kernel_rfl) ?_
      repeat (quiet_step_in (fail))
      refine wpQuietIn_nil ?_
      rintro _ ⟨nq, rfl⟩
      gi_wp2
      exact ⟨(keepsFrom_below (below_drewN (Below.refl _ _) nq)).trans ((KeepsOthers.setCell _ _ _).from _), rfl, pre, _, rfl, .inl (by rw [HP0.out]; exact HI0.out)⟩
  case done =>
    rintro D xs u7 hD hxs ⟨hL, hB⟩ hK
    rw [hxs, prs_len] at hL
    have HK7 := Lib.hid hK
    have HD7 := Lib.hid (show w.heap.size + 1 < D by have := X9.out.lt; have := U6.out.size; omega)
    have M7 := Lib.hid (M9.out.step hB)
    have X7 := Lib.hid (X9.out.below hB X9.out.lt)
    have L7 := Lib.hid (L9.out.below hB L9.out.lt)
    have G7 := Lib.hid (G9.out.step hB)
    have N7 := Lib.hid hL
    have B7 := Lib.hid (U9.out.trans (hB.mono U9.out.size))
    clear hK hL hB hxs hD HSEQ
    have hn := HN.out
    obtain ⟨L, hLl⟩ : ∃ L, l.length = L := ⟨_, rfl⟩
    have HLL := Lib.hid hLl
    rw [hLl] at hn
    clear hLl
    go_wp2_with fail
    go_loopw [10] (fun i wr => ∃ I : Int, i = .int .i64 I ∧ Hid (-1 ≤ I ∧ I ≤ (L : Int) + 1 ∧ Below u7.heap.size u7 wr)) (fun i _ => ((L : Int) + 1 - intOf i).toNat)
    case atStart => exact ⟨-1, rfl, Lib.hid ⟨by omega, by omega, Below.refl _ _⟩⟩
    case round =>
      obtain ⟨I, rfl, hI⟩ := hrel
      have HI := Lib.hid hI.out
      obtain ⟨hi1, hi2, hb⟩ := hI.out
      clear hI
      have Lr := Lib.hid (L7.out.below hb L7.out.lt)
      have Mr := Lib.hid (M7.out.step hb)
      have Gr := Lib.hid (G7.out.step hb)
      have c5 := Lr.out.cell 0
      rw [HLL.out] at c5
      by_cases hgt : I ≤ (L : Int)
      · have hw : IntKind.i64.wrap (I + 1) = I + 1 := by rw [IntKind.wrap_i64]; omega
        have hle : decide (I ≤ (L : Int)) = true := decide_eq_true hgt
        by_cases hout : I < 0 ∨ (L : Int) ≤ I
        · have tt := neql_V ⟨0, 0, ⟨#[]⟩⟩ ⟨0, 0, ⟨#[]⟩⟩
          rw [eqW_iff.2 rfl] at tt
          have HV := Lib.hid (value_out _ kind A d l I wr Mr.out.at_ (by have := Mr.out.kind; omega) (by rw [HLL.out]; exact hout))
          clear hb
          by_cases hneg : I < 0
          · have d1 : decide (I < 0) = true := decide_eq_true hneg
            clear hout
            go_wp2_with (go_at_call 19; refine HV.out.mono ?_; rintro e w8 ⟨rfl, b8⟩; have c5 := ((Lr.out.below b8 Lr.out.lt).alloc (.cells #[.int .u8 0, .int .i64 0, .string ⟨#[]⟩] 38)).cell 0; rw [HLL.out] at c5; have B8 := Lib.hid (HI.out.2.2.trans ((b8.alloc b8.size (.cells #[.int .u8 0, .int .i64 0, .string ⟨#[]⟩] 38)).mono HI.out.2.2.size)); clear b8)
            go_roundw
            case rel => exact ⟨I + 1, by first | rfl | rw [hw] | go_num, Lib.hid ⟨by omega, by omega, B8.out⟩⟩
            case measure => simp [intOf]; omega
          · have d1 : decide (I < 0) = false := decide_eq_false hneg
            have d2 : decide ((L : Int) ≤ I) = true := decide_eq_true (by omega)
            have d3 : decide (I ≥ (L : Int)) = true := decide_eq_true (by omega)
            clear hout
            go_wp2_with (go_at_call 19; refine HV.out.mono ?_; rintro e w8 ⟨rfl, b8⟩; have c5 := ((Lr.out.below b8 Lr.out.lt).alloc (.cells #[.int .u8 0, .int .i64 0, .string ⟨#[]⟩] 38)).cell 0; rw [HLL.out] at c5; have B8 := Lib.hid (HI.out.2.2.trans ((b8.alloc b8.size (.cells #[.int .u8 0, .int .i64 0, .string ⟨#[]⟩] 38)).mono HI.out.2.2.size)); clear b8)
            go_roundw
            case rel => exact ⟨I + 1, by first | rfl | rw [hw] | go_num, Lib.hid ⟨by omega, by omega, B8.out⟩⟩
            case measure => simp [intOf]; omega
        · obtain ⟨j, rfl⟩ : ∃ j : Nat, I = (j : Int) := ⟨I.toNat, by omega⟩
          have hjl : j < L := by omega
          obtain ⟨Y, hY⟩ : ∃ Y, l[j]? = some Y := ⟨_, List.getElem?_eq_getElem (by rw [HLL.out]; exact hjl)⟩
          have HV := Lib.hid (value_at g kind A d l j Y wr Mr.out hY)
          have hfe := fAt_eq Mr.out.up Y
          rw [mem_has Mr.out.up (List.mem_of_getElem? hY), if_pos rfl, ← there_at Mr.out.up hY] at hfe
          have hfd := fun W (h : Dc W (.pointer (some ⟨g, 0, none⟩)) kind l) => dc_find W _ kind l Y h
          rw [hfe.1, hfe.2] at hfd
          have HFD := Lib.hid hfd
          obtain ⟨b, boff, bc', e, -, -, -, bw, hc⟩ := Gr.out.form (fun e => by have h := congrArg List.length e; have := HLL.out; simp only [List.length_nil] at h; omega)
          injection e with e1 e2 e3
          clear e2
          subst e1 e3
          have hq0 := vcell0 (hc j Y hY)
          have hq1 := vcell1 (hc j Y hY)
          have hq2 := vcell2 (hc j Y hY)
          have HQ := Lib.hid (fun (W : World) (h : Below wr.heap.size wr W) => (⟨(h.cell (p := ⟨b, _, none⟩) bw).trans hq0, (h.cell (p := ⟨b, _, none⟩) bw).trans hq1, (h.cell (p := ⟨b, _, none⟩) bw).trans hq2⟩ : W.cell? _ = _ ∧ W.cell? _ = _ ∧ W.cell? _ = _))
          have tt := neql_V Y Y
          rw [eqW_iff.2 rfl] at tt
          have d1 : decide ((j : Int) < 0) = false := decide_eq_false (by omega)
          have d2 : decide ((L : Int) ≤ (j : Int)) = false := decide_eq_false (by omega)
          have d3 : decide ((j : Int) ≥ (L : Int)) = false := decide_eq_false (by omega)
          have hji : (j : Int) < (L : Int) := by omega
          have ha := add1 (a := j) (n := L) (by omega) (by omega)
          clear hY hfe hfd hc hq0 hq1 hq2 hb hout hi1 hi2 hgt hw
          go_wp2_with (first
            | (go_at_call 19; refine HV.out.mono ?_; rintro e w8 ⟨rfl, b8⟩; have b8a := b8.alloc b8.size (.cells #[.int .u8 Y.k, .int .i64 Y.n, .string Y.s] 38); have c5 := (Lr.out.below b8a Lr.out.lt).cell 0; rw [HLL.out] at c5; obtain ⟨q0, q1, q2⟩ := HQ.out _ b8a; have B8 := Lib.hid b8a; have R8 := Lib.hid (Row.new w8 38 #[.int .u8 Y.k, .int .i64 Y.n, .string Y.s]); have M8 := Lib.hid (show Dc _ _ kind l from ⟨g, A, d, rfl, Mr.out.step b8a⟩); clear b8 b8a)
            | (go_at_call 18; refine (HFD.out _ M8.out).mono ?_; rintro e w9 ⟨rfl, b9⟩; have b9a := B8.out.trans (b9.mono B8.out.size); clear c5 q0 q1 q2; have c5 := (Lr.out.below b9a Lr.out.lt).cell 0; rw [HLL.out] at c5; obtain ⟨q0, q1, q2⟩ := HQ.out _ b9a; have r9 := R8.out.below b9 R8.out.lt; have a0 := r9.cell 0; have a1 := r9.cell 1; have a2 := r9.cell 2; have B9 := Lib.hid b9a; clear b9 b9a r9))
          go_quiet (fail)
          go_wp2
          go_roundw
          case rel => exact ⟨((j + 1 : Nat) : Int), by go_num, Lib.hid ⟨by omega, by omega, below_drewN (HI.out.2.2.trans (B9.out.mono HI.out.2.2.size)) nq⟩⟩
          case measure => simp [intOf]; omega
      · have eI : I = (L : Int) + 1 := by omega
        subst eI
        have hle : decide ((L : Int) + 1 ≤ (L : Int)) = false := decide_eq_false (by omega)
        have n0 := (N7.out.below hb N7.out.lt).cell 0
        rw [HLL.out] at n0
        have XR := Lib.hid (X7.out.below hb X7.out.lt)
        have KR := Lib.hid (keepD HK7.out hb)
        have BR := Lib.hid (B7.out.trans (hb.mono B7.out.size))
        have c0 := XR.out.cell 0
        have f0 := XR.out.frozen 0
        clear hb
        go_wp2
        have hD0 := HD7.out
        have hne : D ≠ w.heap.size + 1 := by omega
        have hK' : (wr.setCell ⟨w.heap.size + 1, 0, none⟩ (.bool true)).heap[D]? = some (.deferred (some [])) := (Below.heap_setCell wr ⟨w.heap.size + 1, 0, none⟩ _ _ hne).trans KR.out
        have hc : ((wr.setCell ⟨w.heap.size + 1, 0, none⟩ (.bool true)).putObj D (.deferred none)).cell? ⟨w.heap.size + 1, 0, none⟩ = some (.bool true) :=
          (World.cell?_of_block (World.putObj_heap_other (k := w.heap.size + 1) (Ne.symm hne))).trans (World.cell?_setCell_same' _ _ _ (by rw [c0]; rfl))
        have BF : Below w.heap.size w ((wr.setCell ⟨w.heap.size + 1, 0, none⟩ (.bool true)).putObj D (.deferred none)) := (BR.out.setCell (p := ⟨w.heap.size + 1, 0, none⟩) (Nat.le_succ _) _).trans (belowK_b (w := w) (Nat.le_refl _) _ D _ _ (by omega) hK' rfl rfl)
        refine leaves_mark (D := D) (v := .bool true) rfl hK' ?_ ⟨rfl, BF⟩
        have hres : Try.f15.results = #[.cell 6 4] := by kernel_rfl
        simp only [results, hres]
        go_simp
  case stop =>
    rintro D c pre W hD ⟨k, hk, hpre⟩ ⟨rfl, ini, x, e1, e2⟩ hK
    exfalso
    cases k with
    | zero => rw [hpre] at e1; simp [prs] at e1
    | succ k =>
      rw [hpre, prs_succ] at e1
      obtain ⟨e4, e5⟩ := List.append_inj' e1 rfl
      injection e5 with e5
      subst e4 e5
      rw [prs_len] at e2
      rcases e2 with e2 | e2
      · exact e2 rfl
      · exact e2 (by rw [getElem!_pos l k (by omega)]; exact List.getElem?_eq_getElem (by omega))
end Go.Proofs.Ytjojhoaienjjeaa
