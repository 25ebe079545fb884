/- Walks: appendNumber, Bytes. -/
import Derived.Test.YtigjkolhhhmdhaaTc
import Derived.Test.YtigjkolhhhmdhaaRg
import Derived.Test.YtigjkolhhhmdhaaRb
import Derived.Shelf.RegionOpen
namespace Go.Proofs.Ytigjkolhhhmdhaa
open Go.RowKit Go.Shelf
set_option linter.unusedVariables false

attribute [local go_sem] Oper.semAt_some

/-- A region that draws, walked in any world that meets S. -/
theorem wp_region_all {P : Program} {ops : Array Oper} {Q : Exit → Act → World → Prop} {S : World → Prop} {id : Nat} {a : Act} {w : World} (hm : P.follows .mixedOrders = true) (hS : S w.drew)
    (h : ∀ W, S W → wpAnyH P .any ops Q S ops.size (Array.replicate ops.size false) a W) : (Code.region id ops true).wp P Q a w :=
  wp_region_held_drew hm hS (fun h' => h _ h')
/-- make of bytes as one operation: no length, room for n. -/
theorem wp_mk {P : Program} (w : World) {o : Oper} {a : Act} {K : Act → World → Prop} {Q : Exit → Act → World → Prop} (x c : Operand) (t : TypeId) (ho : o.op = Op.makeSlice t x c)
    (ht : P.underlying t = some (.slice e8.E)) (hinf : (P.info? e8.E).map (fun i => (i.zero, i.size, i.bytes)) = some (some (e8.val e8.zero), 1, e8.bytes))
    (kl kc : IntKind) (C : Int) (n : Nat) (hx : a.eval x = .int kl 0) (hc : a.eval c = .int kc C) (hC : C = (n : Int)) (hn : n ≤ 1000000000)
    (h : ∀ w', Gw e8 w' w.heap.size (.slice (some ⟨w.heap.size, 0, none⟩) 0 n) [] → w.grownBy w' none → K (a.put o.dst (.slice (some ⟨w.heap.size, 0, none⟩) 0 n)) w') : o.wp P a w K Q := by
  obtain ⟨i, hi, hz, hsz, hby⟩ := info_parts hinf
  obtain ⟨w', hrun, r1, r2⟩ := run_make_own (P := P) w w.heap.size t e8.E i (e8.val e8.zero) 1 ht hi hz hsz kl kc n (by rw [hby]; show 1 * n ≤ _; omega) (by unfold maxLen; omega) (Nat.le_refl _)
  subst hC
  unfold Oper.wp
  simp [execOp, ho, hx, hc, hrun, Result.andThen]
  exact h w' r1 r2
theorem grown_any {a b : World} (h : a.grownBy b none) (row : Option Nat) : a.grownBy b row := ⟨h.os, h.tape, h.output, h.size, fun k hk _ => h.block k hk (by simp)⟩
set_option maxHeartbeats 1000000 in
theorem appNum_any (v : Value) (l : List UInt8) (base : Nat) (z : Int) (w : World) (hv : Gw e8 w base v l) (hb : base ≤ w.heap.size) (hl : l.length ≤ 100000000) :
    Calls Try.prog 32 #[v, .int .i64 z] w fun e w' => ∃ v', e = .returned v' ∧ Gw e8 w' base v' (l ++ le 8 (n8 z)) ∧ w.grownBy w' v.ownBlock := by
  have u1 := n8_wrap z
  have HV := Lib.hid hv
  have HL := Lib.hid hl
  have HN := Lib.hid (n8_lt z)
  have HB := Lib.hid hb
  clear hv hl hb
  generalize n8 z = N at *
  obtain ⟨Z, hZ⟩ : ∃ Z : Int, Z = z := ⟨_, rfl⟩
  go_enter Try.func32, Try.ntmps32
  go_wp2_with (first
    | (go_at_call 38; refine (appendU64_any (.slice none 0 0) [] 0 N _ (Gs.nil_ _ _ _) HN.out (by simp)).mono ?_; rintro e w1 ⟨v1, rfl, o1, b1⟩; have B1 := Lib.hid b1; have O1 := Lib.hid o1; have V1 := Lib.hid (HV.out.below b1 (Nat.le_refl _)); clear o1 b1)
    | (at_builtin; refine wpList_gapp e8 _ rfl _ _ _ rfl base sli8 inf8 _ _ rfl V1.out _ _ _ (le 8 N) rfl O1.out.sl (by have := HL.out; rw [le_length]; omega) (Nat.le_trans HB.out B1.out.size) ?_; intro v2 w2 o2 g2 hj; clear hj; have O2 := Lib.hid o2; have G2 := Lib.hid g2; clear o2 g2))
  go_ret
  exact ⟨_, rfl, O2.out, (grown_any (grown_of_below B1.out) _).trans G2.out⟩
set_option maxHeartbeats 1000000 in
theorem bytes_none (p : Value) (A : Option Addr) (n c : Nat) (a z : Int) (w : World) (h : CxAt w p false A n c a z) :
    Calls Try.prog 19 #[p] w fun e w' => e = .returned (.slice none 0 0) ∧ Below w.heap.size w w' := by
  have HC := Lib.hid (told_any p false A n c a z w h)
  clear h
  go_enter Try.func19, Try.ntmps19
  go_wp2_with (go_at_call 30; refine HC.out.mono ?_; rintro e w1 ⟨rfl, b1⟩; have B1 := Lib.hid b1; clear b1)
  go_ret
  exact ⟨rfl, B1.out.alloc B1.out.size _⟩
set_option maxHeartbeats 4000000 in
set_option maxRecDepth 100000 in
theorem bytes_c (g : Nat) (A : Option Addr) (c : Nat) (zs : List Int) (w : World) (h : CxM w g A c zs) :
    Calls Try.prog 19 #[.pointer (some ⟨g, 0, none⟩)] w fun e w' => ∃ v', e = .returned v' ∧ Gw e8 w' w.heap.size v' (cB zs) ∧ Below w.heap.size w w' := by
  have HC := Lib.hid (told_any _ _ A _ c _ _ w h.at_)
  have D0 := Lib.hid h.dat
  have HS0 := h.small
  clear h
  unfold cB
  generalize loI zs = a at *
  generalize hiI zs = z at *
  obtain ⟨n, hn⟩ : ∃ n, zs.length = n := ⟨_, rfl⟩
  have HNN := Lib.hid hn
  rw [hn] at HC D0 HS0 ⊢
  have HS := Lib.hid HS0
  have u1 : IntKind.u32.wrap (n : Int) = (n : Int) := by rw [IntKind.wrap_u32]; omega
  clear hn HS0
  go_enter Try.func19, Try.ntmps19
  go_wp2_with (go_at_call 30; refine HC.out.mono ?_; rintro e w1 ⟨rfl, b1⟩; have B1 := Lib.hid b1; have R1 := Lib.hid (Row.new w1 37 #[.bool true, .slice A n c, .int .i64 a, .int .i64 z]); have BA := Lib.hid (b1.alloc b1.size (.cells #[.bool true, .slice A n c, .int .i64 a, .int .i64 z] 37)); clear b1)
  obtain ⟨W2, hW2⟩ : ∃ W, W = w1.alloc (.cells #[.bool true, .slice A n c, .int .i64 a, .int .i64 z] 37) := ⟨_, rfl⟩
  rw [← hW2] at R1 BA ⊢
  have R2 := R1
  have BW := BA
  clear R1 BA hW2
  have D2 := Lib.hid (D0.out.step BW.out)
  have hSc := (Below.refl W2.heap.size W2).drew
  refine wp_region_all (S := fun W => Below W2.heap.size W2 W) (by kernel_rfl) hSc (fun W0 hSc => ?_)
  refine held_take 0 ?_ rfl (by kernel_rfl) (by kernel_rfl) (by kernel_rfl) (fun _ _ _ h => h) (by rfl) ?_ hSc ?_
  rotate_left
  · (intro W hSW; go_simp; try rfl)
  try simp only [Act.put, List.setIfInBounds_toArray, List.set_cons_zero, List.set_cons_succ]
  refine held_take 1 ?_ rfl (by kernel_rfl) (by kernel_rfl) (by kernel_rfl) (fun _ _ _ h => h) (by rfl) ?_ hSc ?_
  rotate_left
  · (intro W hSW; have c1 := (R2.out.below hSW R2.out.lt).cell 1; go_simp; try rfl)
  try simp only [Act.put, List.setIfInBounds_toArray, List.set_cons_zero, List.set_cons_succ]
  refine held_take 2 ?_ rfl (by kernel_rfl) (by kernel_rfl) (by kernel_rfl) (fun _ _ _ h => h) (by rfl) ?_ hSc ?_
  rotate_left
  · (intro W hSW; go_simp; try rfl)
  try simp only [Act.put, List.setIfInBounds_toArray, List.set_cons_zero, List.set_cons_succ]
  refine held_take 5 ?_ rfl (by kernel_rfl) (by kernel_rfl) (by kernel_rfl) (fun _ _ _ h => h) (by rfl) ?_ hSc ?_
  rotate_left
  · (intro W hSW; go_simp; try rfl)
  try simp only [Act.put, List.setIfInBounds_toArray, List.set_cons_zero, List.set_cons_succ]
  refine held_take 6 ?_ rfl (by kernel_rfl) (by kernel_rfl) (by kernel_rfl) (fun _ _ _ h => h) (by rfl) ?_ hSc ?_
  rotate_left
  · (intro W hSW; have c1 := (R2.out.below hSW R2.out.lt).cell 1; go_simp; try rfl)
  try simp only [Act.put, List.setIfInBounds_toArray, List.set_cons_zero, List.set_cons_succ]
  refine held_take 7 ?_ rfl (by kernel_rfl) (by kernel_rfl) (by kernel_rfl) (fun _ _ _ h => h) (by rfl) ?_ hSc ?_
  rotate_left
  · (intro W hSW; go_simp; try rfl)
  try simp only [Act.put, List.setIfInBounds_toArray, List.set_cons_zero, List.set_cons_succ]
  refine held_take 8 ?_ rfl (by kernel_rfl) (by kernel_rfl) (by kernel_rfl) (fun _ _ _ h => h) (by rfl) ?_ hSc ?_
  rotate_left
  · (intro W hSW; go_simp; try rfl)
  try simp only [Act.put, List.setIfInBounds_toArray, List.set_cons_zero, List.set_cons_succ]
  refine held_next 3 rfl (by kernel_rfl) (by rfl) ?_
  go_simp
  refine (size_any n _ (by have := HS.out; omega)).mono ?_
  rintro e _ ⟨rfl, rfl⟩
  refine ⟨fun W => Below W2.heap.size W2 W, fun W hW => hW, hSc, ?_⟩
  try simp only [Act.put, List.setIfInBounds_toArray, List.set_cons_zero, List.set_cons_succ]
  refine held_two 4 9 rfl rfl (by kernel_rfl) (by rfl) (by rfl) ?_ ?_
  · refine wp_mk _ _ _ _ rfl sli8 inf8 _ _ _ (20 + 8 * n) rfl rfl rfl (by have := HS.out; omega) ?_
    intro x1 o1 g1
    have B1a := Lib.hid (hSc.grown g1 hSc.size (by simp))
    have O1a := Lib.hid (o1.more hSc.size)
    clear g1 o1
    have hSd := B1a.out
    refine ⟨fun W => Below W2.heap.size W2 W, fun W hW => hW, hSd, ?_⟩
    clear hSc
    have hSc := hSd
    clear hSd
    try simp only [Act.put, List.setIfInBounds_toArray, List.set_cons_zero, List.set_cons_succ]
    refine held_next 9 rfl (by kernel_rfl) (by rfl) ?_
    go_simp
    refine (appendU32_any (.slice none 0 0) [] 0 n _ (Gs.nil_ _ _ _) (by have := HS.out; omega) (by simp)).mono ?_
    rintro e x2 ⟨v2, rfl, o2, b2⟩
    have O1 := Lib.hid (O1a.out.below b2 (Nat.le_refl _))
    have O2 := Lib.hid (o2.more hSc.size)
    clear O1a
    clear o2
    have hSd := hSc.trans (b2.mono hSc.size)
    refine ⟨fun W => Below W2.heap.size W2 W, fun W hW => hW, hSd, ?_⟩
    clear hSc b2
    have hSc := hSd
    clear hSd
    try simp only [Act.put, List.setIfInBounds_toArray, List.set_cons_zero, List.set_cons_succ]
    refine held_next 10 rfl (by kernel_rfl) (by rfl) ?_
    refine wp_gapp e8 _ _ _ _ rfl W2.heap.size sli8 inf8 _ [] rfl O1.out _ _ _ (le 4 n) rfl O2.out.sl (by simp [le_length]) hSc.size ?_
    intro v3 x3 o3 g3
    have B3 := Lib.hid (hSc.grown g3 hSc.size (fun j hj => (O1.out.lt j hj).1))
    have O3 := Lib.hid (show Gw e8 x3 W2.heap.size v3 (le 4 n) by simpa using o3)
    clear o3 g3 hSc O1 O2
    refine ⟨fun W => Below W2.heap.size W2 W, fun W hW => hW, B3.out, ?_⟩
    try simp only [Act.put, List.setIfInBounds_toArray, List.set_cons_zero, List.set_cons_succ]
    refine held_next 11 rfl (by kernel_rfl) (by rfl) ?_
    go_simp
    refine ⟨fun W => Below W2.heap.size W2 W, fun W hW => hW, B3.out, ?_⟩
    refine wpAnyH_done (by kernel_rfl) ?_ _
    clear B1a
    go_wp2_with fail
    have hSc := B3.out.drew
    refine wp_region_held_drew (S := fun W => Below W2.heap.size W2 W) (by kernel_rfl) hSc (fun _ => ?_)
    refine held_take 0 ?_ rfl (by kernel_rfl) (by kernel_rfl) (by kernel_rfl) (fun _ _ _ h => h) (by rfl) ?_ hSc ?_
    rotate_left
    · (intro W hSW; go_simp; try rfl)
    try simp only [Act.put, List.setIfInBounds_toArray, List.set_cons_zero, List.set_cons_succ]
    refine held_take 1 ?_ rfl (by kernel_rfl) (by kernel_rfl) (by kernel_rfl) (fun _ _ _ h => h) (by rfl) ?_ hSc ?_
    rotate_left
    · (intro W hSW; go_simp; try rfl)
    try simp only [Act.put, List.setIfInBounds_toArray, List.set_cons_zero, List.set_cons_succ]
    refine held_take 2 ?_ rfl (by kernel_rfl) (by kernel_rfl) (by kernel_rfl) (fun _ _ _ h => h) (by rfl) ?_ hSc ?_
    rotate_left
    · (intro W hSW; have c2 := (R2.out.below hSW R2.out.lt).cell 2; go_simp; try rfl)
    try simp only [Act.put, List.setIfInBounds_toArray, List.set_cons_zero, List.set_cons_succ]
    refine held_take 4 ?_ rfl (by kernel_rfl) (by kernel_rfl) (by kernel_rfl) (fun _ _ _ h => h) (by rfl) ?_ hSc ?_
    rotate_left
    · (intro W hSW; go_simp; try rfl)
    try simp only [Act.put, List.setIfInBounds_toArray, List.set_cons_zero, List.set_cons_succ]
    refine held_take 5 ?_ rfl (by kernel_rfl) (by kernel_rfl) (by kernel_rfl) (fun _ _ _ h => h) (by rfl) ?_ hSc ?_
    rotate_left
    · (intro W hSW; have c3 := (R2.out.below hSW R2.out.lt).cell 3; go_simp; try rfl)
    try simp only [Act.put, List.setIfInBounds_toArray, List.set_cons_zero, List.set_cons_succ]
    refine held_next 3 rfl (by kernel_rfl) (by rfl) ?_
    go_simp
    refine (appNum_any v3 (le 4 n) W2.heap.size a _ O3.out.drew B3.out.drew.size (by rw [le_length]; omega)).mono ?_
    rintro e x4 ⟨v4, rfl, o4, g4⟩
    have B4 := Lib.hid (B3.out.drew.grown g4 B3.out.drew.size (fun j hj => (O3.out.lt j hj).1))
    have O4 := Lib.hid o4
    clear o4 g4 hSc
    refine ⟨fun W => Below W2.heap.size W2 W, fun W hW => hW, B4.out, ?_⟩
    try simp only [Act.put, List.setIfInBounds_toArray, List.set_cons_zero, List.set_cons_succ]
    refine held_next 6 rfl (by kernel_rfl) (by rfl) ?_
    go_simp
    refine (appNum_any v4 _ W2.heap.size z _ O4.out B4.out.size (by simp [le_length])).mono ?_
    rintro e x5 ⟨v5, rfl, o5, g5⟩
    have B5 := Lib.hid (B4.out.grown g5 B4.out.size (fun j hj => (O4.out.lt j hj).1))
    have O5 := Lib.hid o5
    clear o5 g5
    refine ⟨fun W => Below W2.heap.size W2 W, fun W hW => hW, B5.out, ?_⟩
    try simp only [Act.put, List.setIfInBounds_toArray, List.set_cons_zero, List.set_cons_succ]
    refine held_next 7 rfl (by kernel_rfl) (by rfl) ?_
    go_simp
    refine ⟨fun W => Below W2.heap.size W2 W, fun W hW => hW, B5.out, ?_⟩
    refine wpAnyH_done (by kernel_rfl) ?_ _

    obtain ⟨P5, hP5⟩ : ∃ P5, le 4 n ++ le 8 (n8 a) ++ le 8 (n8 z) = P5 := ⟨_, rfl⟩
    have HP5 := Lib.hid hP5
    have HPL := Lib.hid (show P5.length ≤ 100 by rw [← hP5]; simp [le_length])
    rw [hP5] at O5
    clear hP5 B4 O4 B3 O3
    have R5 := Lib.hid (R2.out.below B5.out R2.out.lt)
    have c1 := R5.out.cell 1
    go_wp2
    go_loopw [4, 33] (fun lv i wr => ∃ k : Nat, k ≤ n ∧ i = .int .i64 k ∧ Gw e8 wr W2.heap.size lv (P5 ++ cN (zs.take k)) ∧ Below W2.heap.size W2 wr) (fun _ i _ => n - (intOf i).toNat)
    case atStart => exact ⟨0, Nat.zero_le _, rfl, by simpa [cN] using O5.out, B5.out⟩
    case round =>
      obtain ⟨k, hk, rfl, ok, bk⟩ := hrel
      have OK := Lib.hid ok
      have BK := Lib.hid bk
      clear ok bk c1
      have hnb := HS.out
      by_cases hlt : k < n
      · obtain ⟨y, hy⟩ : ∃ y, zs[k]? = some y := ⟨_, List.getElem?_eq_getElem (by rw [HNN.out]; omega)⟩
        have HSN := Lib.hid (cN_snoc hy)
        have HLN := Lib.hid (show (P5 ++ cN (zs.take k)).length ≤ 100000000 by rw [List.length_append, cN_len, List.length_take]; have := HPL.out; have := HS.out; omega)
        have hG := D2.out.below BK.out
        obtain ⟨b, boff, bc', e, -, -, -, bw, hc⟩ := hG.form (fun e => by have h := congrArg List.length e; have := HNN.out; simp only [List.length_nil] at h; omega)
        injection e with e4 e5 e6
        subst e4
        have q0 := hc k y hy
        simp only [eL] at q0
        have HAP := Lib.hid (fun v W (hv : Gw e8 W W2.heap.size v (P5 ++ cN (zs.take k))) (hb : W2.heap.size ≤ W.heap.size) => appNum_any v _ W2.heap.size y W hv hb HLN.out)
        clear hG hc hy e5 e6
        go_wp2_with (go_at_call 32; refine (HAP.out _ _ OK.out BK.out.size).mono ?_; rintro e w8 ⟨v8, rfl, o8, g8⟩; have B8 := Lib.hid (BK.out.grown g8 BK.out.size (fun j hj => (OK.out.lt j hj).1)); have O8 := Lib.hid o8; clear o8 g8)
        go_roundw
        case rel => exact ⟨k + 1, by omega, by go_num, by rw [HSN.out, ← List.append_assoc]; exact O8.out, B8.out⟩
        case measure => simp [intOf]; omega
      · obtain rfl : k = n := by omega
        have e9 : zs.take k = zs := by rw [← HNN.out, List.take_length]
        have ok := OK.out
        rw [e9] at ok
        have OK9 := Lib.hid ok
        clear e9 ok OK
        go_wp2
        go_ret
        exact ⟨_, rfl, by rw [HP5.out]; exact OK9.out.more BW.out.size, BW.out.trans (BK.out.mono BW.out.size)⟩
  · go_simp
    refine (appendU32_any (.slice none 0 0) [] 0 n _ (Gs.nil_ _ _ _) (by have := HS.out; omega) (by simp)).mono ?_
    rintro e x2 ⟨v2, rfl, o2, b2⟩
    have O2a := Lib.hid (o2.more hSc.size)
    clear o2
    have hSd := hSc.trans (b2.mono hSc.size)
    refine ⟨fun W => Below W2.heap.size W2 W, fun W hW => hW, hSd, ?_⟩
    clear hSc b2
    have hSc := hSd
    clear hSd
    try simp only [Act.put, List.setIfInBounds_toArray, List.set_cons_zero, List.set_cons_succ]
    refine held_next 4 rfl (by kernel_rfl) (by rfl) ?_
    refine wp_mk _ _ _ _ rfl sli8 inf8 _ _ _ (20 + 8 * n) rfl rfl rfl (by have := HS.out; omega) ?_
    intro x1 o1 g1
    have B1a := Lib.hid (hSc.grown g1 hSc.size (by simp))
    have O1 := Lib.hid (o1.more hSc.size)
    have O2 := Lib.hid ((O2a.out.kept g1 (fun k hk => by simp)))
    clear O2a
    clear g1 o1
    have hSd := B1a.out
    refine ⟨fun W => Below W2.heap.size W2 W, fun W hW => hW, hSd, ?_⟩
    clear hSc
    have hSc := hSd
    clear hSd
    try simp only [Act.put, List.setIfInBounds_toArray, List.set_cons_zero, List.set_cons_succ]
    refine held_next 10 rfl (by kernel_rfl) (by rfl) ?_
    refine wp_gapp e8 _ _ _ _ rfl W2.heap.size sli8 inf8 _ [] rfl O1.out _ _ _ (le 4 n) rfl O2.out.sl (by simp [le_length]) hSc.size ?_
    intro v3 x3 o3 g3
    have B3 := Lib.hid (hSc.grown g3 hSc.size (fun j hj => (O1.out.lt j hj).1))
    have O3 := Lib.hid (show Gw e8 x3 W2.heap.size v3 (le 4 n) by simpa using o3)
    clear o3 g3 hSc O1 O2
    refine ⟨fun W => Below W2.heap.size W2 W, fun W hW => hW, B3.out, ?_⟩
    try simp only [Act.put, List.setIfInBounds_toArray, List.set_cons_zero, List.set_cons_succ]
    refine held_next 11 rfl (by kernel_rfl) (by rfl) ?_
    go_simp
    refine ⟨fun W => Below W2.heap.size W2 W, fun W hW => hW, B3.out, ?_⟩
    refine wpAnyH_done (by kernel_rfl) ?_ _
    clear B1a
    go_wp2_with fail
    have hSc := B3.out.drew
    refine wp_region_held_drew (S := fun W => Below W2.heap.size W2 W) (by kernel_rfl) hSc (fun _ => ?_)
    refine held_take 0 ?_ rfl (by kernel_rfl) (by kernel_rfl) (by kernel_rfl) (fun _ _ _ h => h) (by rfl) ?_ hSc ?_
    rotate_left
    · (intro W hSW; go_simp; try rfl)
    try simp only [Act.put, List.setIfInBounds_toArray, List.set_cons_zero, List.set_cons_succ]
    refine held_take 1 ?_ rfl (by kernel_rfl) (by kernel_rfl) (by kernel_rfl) (fun _ _ _ h => h) (by rfl) ?_ hSc ?_
    rotate_left
    · (intro W hSW; go_simp; try rfl)
    try simp only [Act.put, List.setIfInBounds_toArray, List.set_cons_zero, List.set_cons_succ]
    refine held_take 2 ?_ rfl (by kernel_rfl) (by kernel_rfl) (by kernel_rfl) (fun _ _ _ h => h) (by rfl) ?_ hSc ?_
    rotate_left
    · (intro W hSW; have c2 := (R2.out.below hSW R2.out.lt).cell 2; go_simp; try rfl)
    try simp only [Act.put, List.setIfInBounds_toArray, List.set_cons_zero, List.set_cons_succ]
    refine held_take 4 ?_ rfl (by kernel_rfl) (by kernel_rfl) (by kernel_rfl) (fun _ _ _ h => h) (by rfl) ?_ hSc ?_
    rotate_left
    · (intro W hSW; go_simp; try rfl)
    try simp only [Act.put, List.setIfInBounds_toArray, List.set_cons_zero, List.set_cons_succ]
    refine held_take 5 ?_ rfl (by kernel_rfl) (by kernel_rfl) (by kernel_rfl) (fun _ _ _ h => h) (by rfl) ?_ hSc ?_
    rotate_left
    · (intro W hSW; have c3 := (R2.out.below hSW R2.out.lt).cell 3; go_simp; try rfl)
    try simp only [Act.put, List.setIfInBounds_toArray, List.set_cons_zero, List.set_cons_succ]
    refine held_next 3 rfl (by kernel_rfl) (by rfl) ?_
    go_simp
    refine (appNum_any v3 (le 4 n) W2.heap.size a _ O3.out.drew B3.out.drew.size (by rw [le_length]; omega)).mono ?_
    rintro e x4 ⟨v4, rfl, o4, g4⟩
    have B4 := Lib.hid (B3.out.drew.grown g4 B3.out.drew.size (fun j hj => (O3.out.lt j hj).1))
    have O4 := Lib.hid o4
    clear o4 g4 hSc
    refine ⟨fun W => Below W2.heap.size W2 W, fun W hW => hW, B4.out, ?_⟩
    try simp only [Act.put, List.setIfInBounds_toArray, List.set_cons_zero, List.set_cons_succ]
    refine held_next 6 rfl (by kernel_rfl) (by rfl) ?_
    go_simp
    refine (appNum_any v4 _ W2.heap.size z _ O4.out B4.out.size (by simp [le_length])).mono ?_
    rintro e x5 ⟨v5, rfl, o5, g5⟩
    have B5 := Lib.hid (B4.out.grown g5 B4.out.size (fun j hj => (O4.out.lt j hj).1))
    have O5 := Lib.hid o5
    clear o5 g5
    refine ⟨fun W => Below W2.heap.size W2 W, fun W hW => hW, B5.out, ?_⟩
    try simp only [Act.put, List.setIfInBounds_toArray, List.set_cons_zero, List.set_cons_succ]
    refine held_next 7 rfl (by kernel_rfl) (by rfl) ?_
    go_simp
    refine ⟨fun W => Below W2.heap.size W2 W, fun W hW => hW, B5.out, ?_⟩
    refine wpAnyH_done (by kernel_rfl) ?_ _

    obtain ⟨P5, hP5⟩ : ∃ P5, le 4 n ++ le 8 (n8 a) ++ le 8 (n8 z) = P5 := ⟨_, rfl⟩
    have HP5 := Lib.hid hP5
    have HPL := Lib.hid (show P5.length ≤ 100 by rw [← hP5]; simp [le_length])
    rw [hP5] at O5
    clear hP5 B4 O4 B3 O3
    have R5 := Lib.hid (R2.out.below B5.out R2.out.lt)
    have c1 := R5.out.cell 1
    go_wp2
    go_loopw [4, 33] (fun lv i wr => ∃ k : Nat, k ≤ n ∧ i = .int .i64 k ∧ Gw e8 wr W2.heap.size lv (P5 ++ cN (zs.take k)) ∧ Below W2.heap.size W2 wr) (fun _ i _ => n - (intOf i).toNat)
    case atStart => exact ⟨0, Nat.zero_le _, rfl, by simpa [cN] using O5.out, B5.out⟩
    case round =>
      obtain ⟨k, hk, rfl, ok, bk⟩ := hrel
      have OK := Lib.hid ok
      have BK := Lib.hid bk
      clear ok bk c1
      have hnb := HS.out
      by_cases hlt : k < n
      · obtain ⟨y, hy⟩ : ∃ y, zs[k]? = some y := ⟨_, List.getElem?_eq_getElem (by rw [HNN.out]; omega)⟩
        have HSN := Lib.hid (cN_snoc hy)
        have HLN := Lib.hid (show (P5 ++ cN (zs.take k)).length ≤ 100000000 by rw [List.length_append, cN_len, List.length_take]; have := HPL.out; have := HS.out; omega)
        have hG := D2.out.below BK.out
        obtain ⟨b, boff, bc', e, -, -, -, bw, hc⟩ := hG.form (fun e => by have h := congrArg List.length e; have := HNN.out; simp only [List.length_nil] at h; omega)
        injection e with e4 e5 e6
        subst e4
        have q0 := hc k y hy
        simp only [eL] at q0
        have HAP := Lib.hid (fun v W (hv : Gw e8 W W2.heap.size v (P5 ++ cN (zs.take k))) (hb : W2.heap.size ≤ W.heap.size) => appNum_any v _ W2.heap.size y W hv hb HLN.out)
        clear hG hc hy e5 e6
        go_wp2_with (go_at_call 32; refine (HAP.out _ _ OK.out BK.out.size).mono ?_; rintro e w8 ⟨v8, rfl, o8, g8⟩; have B8 := Lib.hid (BK.out.grown g8 BK.out.size (fun j hj => (OK.out.lt j hj).1)); have O8 := Lib.hid o8; clear o8 g8)
        go_roundw
        case rel => exact ⟨k + 1, by omega, by go_num, by rw [HSN.out, ← List.append_assoc]; exact O8.out, B8.out⟩
        case measure => simp [intOf]; omega
      · obtain rfl : k = n := by omega
        have e9 : zs.take k = zs := by rw [← HNN.out, List.take_length]
        have ok := OK.out
        rw [e9] at ok
        have OK9 := Lib.hid ok
        clear e9 ok OK
        go_wp2
        go_ret
        exact ⟨_, rfl, by rw [HP5.out]; exact OK9.out.more BW.out.size, BW.out.trans (BK.out.mono BW.out.size)⟩
end Go.Proofs.Ytigjkolhhhmdhaa
