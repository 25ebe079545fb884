/- Walks: values.Append behind many bytes. Mathematics: what is written is read again. -/
import Derived.Test.YtigngijpbchlaaaLm
import Derived.Test.YtigngijpbchlaaaLq
namespace Go.Proofs.Ytigngijpbchlaaa
open Go.RowKit
set_option linter.unusedVariables false

set_option maxHeartbeats 400000 in
theorem appendUint_big (v : Value) (l : List UInt8) (lo : Nat) (x : Int) (w : World) (hv : Sl w lo w.heap.size v l) (h0 : 0 ≤ x) (h1 : x ≤ 18446744073709551615) (hb : l.length ≤ 10000000) :
    Calls Try.prog 27 #[v, .int .u64 x] w fun e w' => ∃ v', e = .returned v' ∧ Ow w' w.heap.size v' (l ++ short x.toNat) ∧ Below w.heap.size w w' := by
  have hsl := short_length_le x.toNat (by omega)
  go_enter Try.func27, Try.ntmps27
  go_wp2_with (first | (go_at_call 41; refine (shortSize_any _ _ h0 h1).mono ?_; rintro e w1 ⟨rfl, rfl⟩) | (go_at_call 40; refine (copyWithRoom_any v l lo _ _ hv (by omega) (by omega)).mono ?_; rintro e w1 ⟨v1, rfl, o1, b1⟩))
  go_loopw [1, 5] (fun n u wr => ∃ (D : Int) (p : List UInt8), 0 ≤ D ∧ D ≤ 18446744073709551615 ∧ short x.toNat = p ++ short D.toNat ∧ n = .int .u64 D ∧ Ow wr w.heap.size u (l ++ p) ∧ Below w.heap.size w wr) (fun n _ _ => (intOf n).toNat)
  case atStart => exact ⟨x, [], h0, h1, rfl, rfl, by simpa using o1, b1⟩
  case round =>
    obtain ⟨D, p, d0, d1, hp, rfl, ok, bk⟩ := hrel
    have hpl : p.length ≤ 10 := by have := congrArg List.length hp; simp at this; omega
    have HP := Lib.hid hp
    clear hp
    by_cases hlt : 128 ≤ D
    · go_wp2_with (at_builtin; refine wpList_app1 _ rfl _ _ _ rfl w.heap.size Try.underlying30 info8 u5 (l ++ p) rfl ok _ (UInt8.ofNat (D.toNat % 128 + 128)) (or128 D d0) rfl (by simp; omega) bk.size ?_; intro v2 w2 o2 g2 _)
      have b2 : Below w.heap.size w w2 := bk.grown g2 bk.size (fun j hj => (ok.lt j hj).1)
      go_roundw
      case rel => exact ⟨D / 128, p ++ [UInt8.ofNat (D.toNat % 128 + 128)], by omega, by omega, by rw [HP.out, short_ge (by omega), show (D / 128).toNat = D.toNat / 128 from by omega]; simp, rfl, by rw [← List.append_assoc]; exact o2, b2⟩
      case measure => simp [intOf]; omega
    · go_wp2_with (at_builtin; refine wpList_app1 _ rfl _ _ _ rfl w.heap.size Try.underlying30 info8 u5 (l ++ p) rfl ok _ (UInt8.ofNat D.toNat) (by rw [u8_mod]; omega) rfl (by simp; omega) bk.size ?_; intro v2 w2 o2 g2 _)
      have b2 : Below w.heap.size w w2 := bk.grown g2 bk.size (fun j hj => (ok.lt j hj).1)
      go_ret
      exact ⟨v2, rfl, by rw [HP.out, short_lt (by omega), ← List.append_assoc]; exact o2, b2⟩
set_option maxHeartbeats 400000 in
theorem appendU64_big (v : Value) (l : List UInt8) (lo : Nat) (N : Nat) (w : World) (hv : Sl w lo w.heap.size v l) (hN : N < 18446744073709551616) (hb : l.length ≤ 10000000) :
    Calls Try.prog 26 #[v, .int .u64 N] w fun e w' => ∃ v', e = .returned v' ∧ Ow w' w.heap.size v' (l ++ le 8 N) ∧ Below w.heap.size w w' := by
  go_enter Try.func26, Try.ntmps26
  go_wp2_with (go_at_call 39; refine (appendWhole_any v l lo N 8 _ hv (by omega) (by omega) (by omega) (by omega)).mono ?_; rintro e w1 ⟨v1, rfl, o1, b1⟩)
  go_ret
  exact ⟨v1, rfl, o1, b1⟩
set_option maxHeartbeats 400000 in
theorem append_big (v : Value) (l : List UInt8) (lo : Nat) (k n : Int) (s : ByteArray) (w : World) (hv : Sl w lo w.heap.size v l) (hl : l.length ≤ 10000000) (hs : s.size ≤ 1000000) :
    Calls Try.prog 14 #[v, vV k n s] w fun e w' => ∃ v', e = .returned v' ∧ Ow w' w.heap.size v' (l ++ byV k (u64 n) (bls s)) ∧ Below w.heap.size w w' := by
  have HV := Lib.hid hv
  by_cases h1 : k = 1
  · subst h1
    have hw := u64_wrap n
    have hlt := u64_lt n
    rw [bytes_one]
    generalize u64 n = N at *
    have HL := Lib.hid hlt
    clear hlt hv
    go_enter Try.func14, Try.ntmps14
    go_wp2_with (go_at_call 26; refine (appendU64_big v l lo N _ (HV.out.alloc (Nat.le_refl _) _ |>.more (Nat.le_refl _) (by simp)) HL.out hl).mono ?_; rintro e w1 ⟨v1, rfl, o1, b1⟩)
    go_ret
    exact ⟨v1, rfl, o1.more (by simp), ((Bx1.new w 1 n s).step b1).below⟩
  · by_cases h2 : k = 2
    · subst h2
      rw [bytes_two]
      clear hv
      obtain ⟨k, hk⟩ : ∃ k : Int, k = 2 := ⟨_, rfl⟩
      rw [← hk]
      have hk1 : (k == 1) = false := by rw [hk]; rfl
      have hk2 : (k == 2) = true := by rw [hk]; rfl
      have HK := Lib.hid hk
      clear hk
      have hw : IntKind.u64.wrap (s.size : Int) = (s.size : Int) := by rw [IntKind.wrap_u64]; omega
      go_enter Try.func14, Try.ntmps14
      go_wp2_with fail
      have hSc := (Bx1.new w k n s).drew
      refine wp_region_all (S := fun W => Bx1 w W k n s) (by kernel_rfl) hSc (fun W0 hSc => ?_)
      refine held_take 0 ?_ rfl (by kernel_rfl) (by kernel_rfl) (by kernel_rfl) (fun _ _ _ h => h) (by rfl) ?_ hSc ?_
      rotate_left
      · (intro W hSW; have a0 := hSW.a0; have a1 := hSW.a1; have a2 := hSW.a2; go_simp; try rfl)
      try simp only [Act.put, List.setIfInBounds_toArray, List.set_cons_zero, List.set_cons_succ]
      refine held_take 1 ?_ rfl (by kernel_rfl) (by kernel_rfl) (by kernel_rfl) (fun _ _ _ h => h) (by rfl) ?_ hSc ?_
      rotate_left
      · (intro W hSW; have a0 := hSW.a0; have a1 := hSW.a1; have a2 := hSW.a2; go_simp; try rfl)
      try simp only [Act.put, List.setIfInBounds_toArray, List.set_cons_zero, List.set_cons_succ]
      refine held_take 2 ?_ rfl (by kernel_rfl) (by kernel_rfl) (by kernel_rfl) (fun _ _ _ h => h) (by rfl) ?_ hSc ?_
      rotate_left
      · (intro W hSW; have a0 := hSW.a0; have a1 := hSW.a1; have a2 := hSW.a2; go_simp; try rfl)
      try simp only [Act.put, List.setIfInBounds_toArray, List.set_cons_zero, List.set_cons_succ]
      refine held_take 3 ?_ rfl (by kernel_rfl) (by kernel_rfl) (by kernel_rfl) (fun _ _ _ h => h) (by rfl) ?_ hSc ?_
      rotate_left
      · (intro W hSW; have a0 := hSW.a0; have a1 := hSW.a1; have a2 := hSW.a2; go_simp; try rfl)
      try simp only [Act.put, List.setIfInBounds_toArray, List.set_cons_zero, List.set_cons_succ]
      refine held_take 4 ?_ rfl (by kernel_rfl) (by kernel_rfl) (by kernel_rfl) (fun _ _ _ h => h) (by rfl) ?_ hSc ?_
      rotate_left
      · (intro W hSW; have a0 := hSW.a0; have a1 := hSW.a1; have a2 := hSW.a2; go_simp; try rfl)
      try simp only [Act.put, List.setIfInBounds_toArray, List.set_cons_zero, List.set_cons_succ]
      refine held_take 6 ?_ rfl (by kernel_rfl) (by kernel_rfl) (by kernel_rfl) (fun _ _ _ h => h) (by rfl) ?_ hSc ?_
      rotate_left
      · (intro W hSW; have a0 := hSW.a0; have a1 := hSW.a1; have a2 := hSW.a2; go_simp; try rfl)
      try simp only [Act.put, List.setIfInBounds_toArray, List.set_cons_zero, List.set_cons_succ]
      refine held_take 7 ?_ rfl (by kernel_rfl) (by kernel_rfl) (by kernel_rfl) (fun _ _ _ h => h) (by rfl) ?_ hSc ?_
      rotate_left
      · (intro W hSW; have a0 := hSW.a0; have a1 := hSW.a1; have a2 := hSW.a2; go_simp; try rfl)
      try simp only [Act.put, List.setIfInBounds_toArray, List.set_cons_zero, List.set_cons_succ]
      refine held_next 5 rfl (by kernel_rfl) (by rfl) ?_
      go_simp
      refine (appendUint_big v l lo (s.size : Int) _ ((HV.out.below hSc.below).more (Nat.le_refl _) hSc.below.size) (by omega) (by omega) (by omega)).mono ?_
      rintro e w1 ⟨v1, rfl, o1, b1⟩
      rw [Int.toNat_natCast] at o1
      have hSd : (fun W => Bx1 w W k n s) w1 := hSc.step b1
      refine ⟨fun W => Bx1 w W k n s, fun W hW => hW, hSd, ?_⟩
      try simp only [Act.put, List.setIfInBounds_toArray, List.set_cons_zero, List.set_cons_succ]
      refine held_next 8 rfl (by kernel_rfl) (by rfl) ?_
      refine wp_appS _ _ _ _ _ rfl w.heap.size sli8 inf8 rfl v1 (l ++ short s.size) rfl (o1.more hSc.below.size) s rfl (by have := short_length_le s.size (by omega); simp; omega) hSd.below.size ?_
      intro v2 w2 o2 g2
      have hSe : (fun W => Bx1 w W k n s) w2 := hSd.grown g2 (fun x hx => by have := (o1.lt x hx).1; have := hSc.lt; omega)
      refine ⟨fun W => Bx1 w W k n s, fun W hW => hW, hSe, ?_⟩
      try simp only [Act.put, List.setIfInBounds_toArray, List.set_cons_zero, List.set_cons_succ]
      clear hSc
      have hSc := hSe
      refine held_next 9 rfl (by kernel_rfl) (by rfl) ?_
      go_simp
      refine ⟨fun W => Bx1 w W k n s, fun W hW => hW, hSc, ?_⟩
      refine wpAnyH_done (by kernel_rfl) ?_ _
      go_wp2
      go_ret
      exact ⟨v2, rfl, by simpa [bls_len] using o2, hSe.below⟩
    · have e1 : (k == 1) = false := by simp [h1]
      have e2 : (k == 2) = false := by simp [h2]
      rw [bytes_none h1 h2, List.append_nil]
      clear hv
      go_enter Try.func14, Try.ntmps14
      go_wp2_with (go_at_call 28; refine (clone_any v l lo _ (HV.out.alloc (Nat.le_refl _) _ |>.more (Nat.le_refl _) (by simp)) (by omega)).mono ?_; rintro e w1 ⟨v1, rfl, o1, b1⟩)
      go_ret
      exact ⟨v1, rfl, o1.more (by simp), ((Bx1.new w k n s).step b1).below⟩


/-- Whether a value may be. -/
def VV.may (x : VV) : Bool := mayV x.k x.n (bls x.s)
/-- Its bytes. -/
def VV.by (x : VV) : List UInt8 := byV x.k (u64 x.n) (bls x.s)
/-- The bytes of all. -/
def catV (l : List VV) : List UInt8 := (l.map VV.by).flatten
theorem catV_snoc (l : List VV) (x : VV) : catV (l ++ [x]) = catV l ++ x.by := by simp [catV]
theorem catV_take {l : List VV} {j : Nat} {x : VV} (h : l[j]? = some x) : catV (l.take (j + 1)) = catV (l.take j) ++ x.by := by
  rw [List.take_add_one, h]; exact catV_snoc _ _
theorem catV_cut {l : List VV} {j : Nat} {x : VV} (h : l[j]? = some x) : catV l = catV (l.take j) ++ (x.by ++ catV (l.drop (j + 1))) := by
  have hj := (List.getElem?_eq_some_iff.1 h).1
  have e : l = l.take j ++ (x :: l.drop (j + 1)) := by
    have h2 : l[j] = x := (List.getElem?_eq_some_iff.1 h).2
    rw [← h2, ← List.drop_eq_getElem_cons hj, List.take_append_drop]
  have e2 : catV l = catV (l.take j ++ (x :: l.drop (j + 1))) := congrArg catV e
  rw [e2]
  simp only [catV, List.map_append, List.map_cons, List.flatten_append, List.flatten_cons]
theorem by_small {x : VV} (h : x.may = true) : x.by.length ≤ 65545 := by
  unfold VV.may mayV at h
  unfold VV.by byV
  split
  · rw [le_length]; omega
  · rename_i h1
    rw [if_neg h1] at h
    split
    · rename_i h2
      rw [if_pos h2] at h
      have h3 : (bls x.s).length ≤ 65535 := by simp only [Bool.and_eq_true, decide_eq_true_eq] at h; exact h.2
      rw [List.length_append]
      have := short_length_le (bls x.s).length (by omega)
      omega
    · simp
theorem cat_small : ∀ l : List VV, (∀ x ∈ l, x.may = true) → (catV l).length ≤ l.length * 65545
  | [], _ => by simp [catV]
  | x :: l, h => by
    have h1 := by_small (h x (by simp))
    have h2 := cat_small l (fun y hy => h y (by simp [hy]))
    have e : catV (x :: l) = x.by ++ catV l := by simp [catV]
    rw [e, List.length_append, List.length_cons, Nat.succ_mul]
    omega
theorem wrap_u64 {n : Int} (h : (Lit.int .i64 n).wf = true) : wrap64 (u64 n : Int) = n := by
  simp [Lit.wf, IntKind.min, IntKind.max, IntKind.bits, IntKind.signed] at h
  unfold u64 wrap64
  omega
/-- What may be, and is written at p, is read again. -/
theorem read_back (x : VV) (hx : x.may = true) (ho : x.ok) (bs a c : List UInt8) (hb : bs = a ++ (x.by ++ c)) :
    rV bs a.length false x.k = (x.k, x.n, bls x.s, true, a.length + x.by.length, false) := by
  have hd : bs.drop a.length = x.by ++ c := by rw [hb, List.drop_left]
  have hlb : bs.length = a.length + (x.by.length + c.length) := by rw [hb]; simp
  obtain ⟨k, n, s⟩ := x
  unfold VV.may mayV at hx
  simp only at hx hd hlb ⊢
  unfold rV
  by_cases h1 : k = 1
  · subst h1
    rw [if_pos rfl] at hx
    have hs : bls s = [] := by simpa using hx
    have hby : VV.by ⟨1, n, s⟩ = le 8 (u64 n) := rfl
    rw [hby] at hd hlb ⊢
    have hr : rd bs a.length false 8 = (u64 n, a.length + 8, false) := by
      unfold rd
      rw [if_neg (by simp)]
      simp only [if_neg (show (8 : Nat) ≠ 0 by omega)]
      have h2 : rdW (bs.drop a.length) 8 = (u64 n, 8) := by
        rw [hd, rdW, if_neg (by rw [List.length_append, le_length]; omega)]
        have h3 : (le 8 (u64 n) ++ c).take 8 = le 8 (u64 n) := by rw [List.take_append_of_le_length (by rw [le_length]; omega)]; exact List.take_of_length_le (by rw [le_length]; omega)
        rw [h3, leVal_le 8 _ (by have := u64_lt n; omega)]
      rw [h2]
      rfl
    rw [if_pos rfl, hr]
    simp only [Bool.false_eq_true, if_false, le_length, hs, wrap_u64 ho.2.1]
  · rw [if_neg h1] at hx
    by_cases h2 : k = 2
    · subst h2
      rw [if_pos rfl] at hx
      simp only [Bool.and_eq_true, decide_eq_true_eq] at hx
      obtain ⟨rfl, hs⟩ := hx
      have hby : VV.by ⟨2, 0, s⟩ = short (bls s).length ++ bls s := rfl
      rw [hby] at hd hlb ⊢
      rw [List.append_assoc] at hd
      have hsl := short_length_le (bls s).length (by omega)
      have hr : rd bs a.length false 0 = ((bls s).length, a.length + (short (bls s).length).length, false) := by
        unfold rd
        rw [if_neg (by simp)]
        simp only [if_true]
        rw [rdS_of (bs.drop a.length) (bls s).length (by omega) (by rw [hd, List.take_left])]
        have h3 : ((short (bls s).length).length == 0) = false := by
          rw [beq_eq_false_iff_ne]
          obtain ⟨u, y, e, -⟩ := short_shape (bls s).length
          rw [e]; simp
        simp only [h3]
      have hb2 : rb bs (a.length + (short (bls s).length).length) false ((bls s).length : Int) = (bls s, a.length + (short (bls s).length).length + (bls s).length, false) := by
        unfold rb
        rw [if_neg (by simp), if_neg (by rw [hlb]; simp; omega)]
        have h4 : bs.drop (a.length + (short (bls s).length).length) = bls s ++ c := by rw [← List.drop_drop, hd, List.drop_left]
        rw [h4, Int.toNat_natCast, List.take_left]
      rw [if_neg (by decide), if_pos rfl, hr]
      simp only [Bool.false_eq_true, if_false]
      rw [if_neg (by omega), hb2]
      simp only [Bool.false_eq_true, if_false, List.length_append, Nat.add_assoc]
    · rw [if_neg h2] at hx
      cases hx
theorem string_of (s : ByteArray) : ByteArray.mk (bls s).toArray = s := by
  apply ByteArray.ext
  simp [bls]
end Go.Proofs.Ytigngijpbchlaaa
