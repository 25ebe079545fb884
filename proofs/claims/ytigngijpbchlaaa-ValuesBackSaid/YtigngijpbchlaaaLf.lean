/- Walks: the bytes of a value: values.Append; the document's Bytes. -/
import Derived.Test.YtigngijpbchlaaaLe
import Derived.Test.YtigngijpbchlaaaWa
import Derived.Test.YtigngijpbchlaaaRf
import Derived.Lib.AppendStr
namespace Go.Proofs.Ytigngijpbchlaaa
open Go.RowKit
set_option linter.unusedVariables false

/-- append of a string onto a slice of bytes of the call's own, at one operation. -/
theorem wp_appS {P : Program} (w : World) {o : Oper} {a : Act} {K : Act → World → Prop} {Q : Exit → Act → World → Prop} (sl x : Operand) (t u : TypeId)
    (ho : o.op = .call { callee := .builtin .append, args := #[sl, x], argTypes := #[t, u] }) (base : Nat) (ht : P.underlying t = some (.slice e8.E))
    (hinf : (P.info? e8.E).map (fun i => (i.zero, i.size, i.bytes)) = some (some (e8.val e8.zero), 1, e8.bytes)) (hu : P.underlying u = some .string)
    (v : Value) (l : List UInt8) (hs : a.eval sl = v) (hown : Ow w base v l) (s : ByteArray) (hx : a.eval x = .string s)
    (hb : l.length + s.size ≤ 1000000000) (hbase : base ≤ w.heap.size)
    (h : ∀ v' w', Ow w' base v' (l ++ bls s) → w.grownBy w' v.ownBlock → K (a.put o.dst v') w') : o.wp P a w K Q := by
  obtain ⟨i, hi, hz, hsz, hby⟩ := info_parts hinf
  obtain ⟨v', w', hr, h2, h3, h4⟩ := Lib.run_append_own_string (P := P) w base t u o.type e8.E i ht hu hi hz hsz hby v l.length (l.map e8.val) hown s (by unfold maxLen; omega) (by omega) hbase
  unfold Oper.wp execOp
  simp only [ho, resolve, invoke, builtin, Sem.run_bind, Sem.run_pure, Result.andThen_ok, List.map_toArray, List.map_cons, List.map_nil, hs, hx, hr]
  refine h v' w' ?_ h3
  have e1 : Lib.strCells s = (bls s).map e8.val := rfl
  have e2 : l.length + s.size = (l ++ bls s).length := by rw [List.length_append, bls_len]
  show World.ownsRow _ _ _ _ _ (l ++ bls s).length ((l ++ bls s).map e8.val)
  rw [e1, ← List.map_append, e2] at h2
  exact h2

/-- '[]byte(s)', at one operation: a new block with the string's bytes. -/
theorem wp_conv {P : Program} (w : World) {o : Oper} {a : Act} {K : Act → World → Prop} {Q : Exit → Act → World → Prop} {src dst : TypeId} (x : Operand) (ho : o.op = .convert src dst x) (s : ByteArray) (hx : a.eval x = .string s)
    (hl : s.size ≤ 1000000000) (hs : P.underlying src = some .string) (hd : P.underlying dst = some (.slice e8.E)) (he : P.underlying e8.E = some (.int .u8))
    (h : ∀ c w', Below w.heap.size w w' → Gs e8 w' w.heap.size w'.heap.size (.slice (some ⟨w.heap.size, 0, none⟩) s.size c) (bls s) → K (a.put o.dst (.slice (some ⟨w.heap.size, 0, none⟩) s.size c)) w') : o.wp P a w K Q := by
  have hr := run_bytes_of_string (P := P) w src dst e8.E s hs hd he
  unfold Oper.wp execOp
  simp only [ho, hx, Sem.run_bind, hr, Result.andThen_ok, Sem.run_pure]
  refine h _ _ ?_ ?_
  · exact (Below.refl _ _).drew.alloc (Nat.le_refl _) _
  · have hge := grownCap_ge w s.size 0 e8.E
    have hle := grownCap_le_maxLen w s.size 0 e8.E (by unfold maxLen; omega)
    refine ⟨some ⟨w.heap.size, 0, none⟩, _, (by rw [bls_len]), fun e => (by cases e), (by rw [bls_len]; exact hge), hle, fun _ => ⟨w.heap.size, 0, rfl, Nat.le_refl _, (by simp), fun j y hy => ?_⟩⟩
    have hj : j < s.size := by rw [← bls_len]; exact (List.getElem?_eq_some_iff.1 hy).1
    have hn : (w.drew.alloc (.cells (bytesRow s (grownCap w s.size 0 e8.E)) e8.E ((bytesRow s (grownCap w s.size 0 e8.E)).size, (bytesRow s (grownCap w s.size 0 e8.E)).size + 1))).heap[w.heap.size]? = some (.cells (bytesRow s (grownCap w s.size 0 e8.E)) e8.E ((bytesRow s (grownCap w s.size 0 e8.E)).size, (bytesRow s (grownCap w s.size 0 e8.E)).size + 1)) := heap_alloc_new w.drew _
    rw [Nat.zero_add, cell_of_row _ _ _ _ _ _ hn]
    unfold bytesRow
    rw [Array.getElem?_append_left (by rw [Array.size_map]; exact hj), Array.getElem?_map]
    rw [show s.data[j]? = some y from by rw [← hy]; simp [bls]]
    rfl

/-- The block in which a value lies; older blocks are as they were. -/
structure Bx1 (w W : World) (k n : Int) (s : ByteArray) : Prop where
  below : Below w.heap.size w W
  r1 : Row W w.heap.size 23 #[.int .u8 k, .int .i64 n, .string s]
section
variable {w W W' : World} {k n : Int} {s : ByteArray}
theorem Bx1.new (w : World) (k n : Int) (s : ByteArray) : Bx1 w (w.alloc (.cells #[.int .u8 k, .int .i64 n, .string s] 23)) k n s := ⟨(Below.refl _ _).alloc (Nat.le_refl _) _, Row.new _ _ _⟩
theorem Bx1.a0 (h : Bx1 w W k n s) : W.cell? ⟨w.heap.size, 0, none⟩ = some (.int .u8 k) := by rw [h.r1.cell]; rfl
theorem Bx1.a1 (h : Bx1 w W k n s) : W.cell? ⟨w.heap.size, 1, none⟩ = some (.int .i64 n) := by rw [h.r1.cell]; rfl
theorem Bx1.a2 (h : Bx1 w W k n s) : W.cell? ⟨w.heap.size, 2, none⟩ = some (.string s) := by rw [h.r1.cell]; rfl
theorem Bx1.lt (h : Bx1 w W k n s) : w.heap.size < W.heap.size := h.r1.lt
theorem Bx1.alloc (h : Bx1 w W k n s) (o : Obj) : Bx1 w (W.alloc o) k n s := ⟨h.below.alloc (by have := h.lt; omega) _, h.r1.alloc _⟩
theorem Bx1.step (h : Bx1 w W k n s) (b : Below W.heap.size W W') : Bx1 w W' k n s := ⟨h.below.trans (b.mono (by have := h.lt; omega)), h.r1.below b h.r1.lt⟩
theorem Bx1.drew (h : Bx1 w W k n s) : Bx1 w W.drew k n s := ⟨h.below.drew, h.r1⟩
theorem Bx1.grown {row : Option Nat} (h : Bx1 w W k n s) (hg : W.grownBy W' row) (hr : ∀ x, row = some x → w.heap.size < x) : Bx1 w W' k n s :=
  ⟨h.below.grown hg (by have := h.lt; omega) (fun x hx => by have := hr x hx; omega), h.r1.grown hg (fun e => by have := hr _ e; omega)⟩
end

/-- The bytes of a value. -/
def byV (k : Int) (n : Nat) (s : List UInt8) : List UInt8 := if k = 1 then le 8 n else if k = 2 then short s.length ++ s else []
theorem bytes_one (n : Nat) (s : List UInt8) : byV 1 n s = le 8 n := rfl
theorem bytes_two (n : Nat) (s : List UInt8) : byV 2 n s = short s.length ++ s := rfl
theorem bytes_none {k : Int} (h1 : k ≠ 1) (h2 : k ≠ 2) (n : Nat) (s : List UInt8) : byV k n s = [] := by unfold byV; rw [if_neg h1, if_neg h2]
/-- A whole number as a natural one. -/
def u64 (n : Int) : Nat := (n % 18446744073709551616).toNat
theorem u64_wrap (n : Int) : IntKind.u64.wrap n = (u64 n : Int) := by unfold u64; rw [IntKind.wrap_u64]; omega
theorem u64_lt (n : Int) : u64 n < 18446744073709551616 := by unfold u64; omega

set_option maxHeartbeats 400000 in
theorem little_any (N : Nat) (m : Int) (w : World) (hm : 0 ≤ m) (hm2 : m ≤ 8) (hN : N < 18446744073709551616) :
    Calls Try.prog 29 #[.int .u64 N, .int .i64 m] w fun e w' => ∃ v', e = .returned v' ∧ Gw e8 w' w.heap.size v' (le m.toNat N) ∧ Below w.heap.size w w' := by
  obtain ⟨m, rfl⟩ := Int.eq_ofNat_of_zero_le hm
  have HN := Lib.hid hN
  clear hN
  go_enter Try.func29, Try.ntmps29
  go_wp2
  go_loopw [0, 5, 6] (fun n u i wr => ∃ k D : Nat, k ≤ m ∧ D = N / 256 ^ k ∧ i = .int .i64 k ∧ n = .int .u64 D ∧ Gw e8 wr w.heap.size u (le k N) ∧ Below w.heap.size w wr) (fun _ _ i _ => m - (intOf i).toNat)
  case atStart => exact ⟨0, N, by omega, by simp, rfl, rfl, Gw.nil_ _ _, Below.refl _ _⟩
  case round =>
    obtain ⟨k, D, hk, hD, rfl, rfl, ok, bk⟩ := hrel
    have h2 : D ≤ N := by rw [hD]; exact Nat.div_le_self _ _
    have dB : (D : Int) ≤ 18446744073709551615 := by have h1 := HN.out; omega
    clear h2
    have HD := Lib.hid hD
    clear hD
    by_cases hlt : k < m
    · go_wp2_with (at_builtin; refine wpList_gapp1 e8 _ rfl _ _ _ rfl w.heap.size sli8 inf8 u5 (le k N) rfl ok _ (UInt8.ofNat D) (congrArg (Value.int IntKind.u8) (u8_mod D).symm) rfl (by simp [le_length]; omega) bk.size ?_; intro v2 w2 o2 g2 _)
      have b2 : Below w.heap.size w w2 := bk.grown g2 bk.size (fun j hj => (ok.lt j hj).1)
      go_roundw
      case rel => exact ⟨k + 1, D / 256, by omega, by rw [HD.out, div_pow_succ], by go_num, by go_num, by rw [le_snoc, ← HD.out]; exact o2, b2⟩
      case measure => simp [intOf]; omega
    · obtain rfl : k = m := by omega
      go_wp2
      go_ret
      exact ⟨u5, rfl, by simpa using ok, bk⟩


set_option maxHeartbeats 400000 in
theorem append_any (v : Value) (l : List UInt8) (lo : Nat) (k n : Int) (s : ByteArray) (w : World) (hv : Sl w lo w.heap.size v l) (hl : l.length ≤ 1000000) (hs : s.size ≤ 1000000) :
    Calls Try.prog 14 #[v, vV k n s] w fun e w' => ∃ v', e = .returned v' ∧ Ow w' w.heap.size v' (l ++ byV k (u64 n) (bls s)) ∧ Below w.heap.size w w' := by
  have HV := Lib.hid hv
  by_cases h1 : k = 1
  · subst h1
    have hw := u64_wrap n
    have hlt := u64_lt n
    rw [bytes_one]
    generalize u64 n = N at *
    have HL := Lib.hid hlt
    clear hlt hv
    go_enter Try.func14, Try.ntmps14
    go_wp2_with (go_at_call 26; refine (appendU64_any v l lo N _ (HV.out.alloc (Nat.le_refl _) _ |>.more (Nat.le_refl _) (by simp)) HL.out hl).mono ?_; rintro e w1 ⟨v1, rfl, o1, b1⟩)
    go_ret
    exact ⟨v1, rfl, o1.more (by simp), ((Bx1.new w 1 n s).step b1).below⟩
  · by_cases h2 : k = 2
    · subst h2
      rw [bytes_two]
      clear hv
      obtain ⟨k, hk⟩ : ∃ k : Int, k = 2 := ⟨_, rfl⟩
      rw [← hk]
      have hk1 : (k == 1) = false := by rw [hk]; rfl
      have hk2 : (k == 2) = true := by rw [hk]; rfl
      have HK := Lib.hid hk
      clear hk
      have hw : IntKind.u64.wrap (s.size : Int) = (s.size : Int) := by rw [IntKind.wrap_u64]; omega
      go_enter Try.func14, Try.ntmps14
      go_wp2_with fail
      have hSc := (Bx1.new w k n s).drew
      refine wp_region_all (S := fun W => Bx1 w W k n s) (by kernel_rfl) hSc (fun W0 hSc => ?_)
      refine held_take 0 ?_ rfl (by kernel_rfl) (by kernel_rfl) (by kernel_rfl) (fun _ _ _ h => h) (by rfl) ?_ hSc ?_
      rotate_left
      · (intro W hSW; have a0 := hSW.a0; have a1 := hSW.a1; have a2 := hSW.a2; go_simp; try rfl)
      try simp only [Act.put, List.setIfInBounds_toArray, List.set_cons_zero, List.set_cons_succ]
      refine held_take 1 ?_ rfl (by kernel_rfl) (by kernel_rfl) (by kernel_rfl) (fun _ _ _ h => h) (by rfl) ?_ hSc ?_
      rotate_left
      · (intro W hSW; have a0 := hSW.a0; have a1 := hSW.a1; have a2 := hSW.a2; go_simp; try rfl)
      try simp only [Act.put, List.setIfInBounds_toArray, List.set_cons_zero, List.set_cons_succ]
      refine held_take 2 ?_ rfl (by kernel_rfl) (by kernel_rfl) (by kernel_rfl) (fun _ _ _ h => h) (by rfl) ?_ hSc ?_
      rotate_left
      · (intro W hSW; have a0 := hSW.a0; have a1 := hSW.a1; have a2 := hSW.a2; go_simp; try rfl)
      try simp only [Act.put, List.setIfInBounds_toArray, List.set_cons_zero, List.set_cons_succ]
      refine held_take 3 ?_ rfl (by kernel_rfl) (by kernel_rfl) (by kernel_rfl) (fun _ _ _ h => h) (by rfl) ?_ hSc ?_
      rotate_left
      · (intro W hSW; have a0 := hSW.a0; have a1 := hSW.a1; have a2 := hSW.a2; go_simp; try rfl)
      try simp only [Act.put, List.setIfInBounds_toArray, List.set_cons_zero, List.set_cons_succ]
      refine held_take 4 ?_ rfl (by kernel_rfl) (by kernel_rfl) (by kernel_rfl) (fun _ _ _ h => h) (by rfl) ?_ hSc ?_
      rotate_left
      · (intro W hSW; have a0 := hSW.a0; have a1 := hSW.a1; have a2 := hSW.a2; go_simp; try rfl)
      try simp only [Act.put, List.setIfInBounds_toArray, List.set_cons_zero, List.set_cons_succ]
      refine held_take 6 ?_ rfl (by kernel_rfl) (by kernel_rfl) (by kernel_rfl) (fun _ _ _ h => h) (by rfl) ?_ hSc ?_
      rotate_left
      · (intro W hSW; have a0 := hSW.a0; have a1 := hSW.a1; have a2 := hSW.a2; go_simp; try rfl)
      try simp only [Act.put, List.setIfInBounds_toArray, List.set_cons_zero, List.set_cons_succ]
      refine held_take 7 ?_ rfl (by kernel_rfl) (by kernel_rfl) (by kernel_rfl) (fun _ _ _ h => h) (by rfl) ?_ hSc ?_
      rotate_left
      · (intro W hSW; have a0 := hSW.a0; have a1 := hSW.a1; have a2 := hSW.a2; go_simp; try rfl)
      try simp only [Act.put, List.setIfInBounds_toArray, List.set_cons_zero, List.set_cons_succ]
      refine held_next 5 rfl (by kernel_rfl) (by rfl) ?_
      go_simp
      refine (appendUint_any v l lo (s.size : Int) _ ((HV.out.below hSc.below).more (Nat.le_refl _) hSc.below.size) (by omega) (by omega) (by omega)).mono ?_
      rintro e w1 ⟨v1, rfl, o1, b1⟩
      rw [Int.toNat_natCast] at o1
      have hSd : (fun W => Bx1 w W k n s) w1 := hSc.step b1
      refine ⟨fun W => Bx1 w W k n s, fun W hW => hW, hSd, ?_⟩
      try simp only [Act.put, List.setIfInBounds_toArray, List.set_cons_zero, List.set_cons_succ]
      refine held_next 8 rfl (by kernel_rfl) (by rfl) ?_
      refine wp_appS _ _ _ _ _ rfl w.heap.size sli8 inf8 rfl v1 (l ++ short s.size) rfl (o1.more hSc.below.size) s rfl (by have := short_length_le s.size (by omega); simp; omega) hSd.below.size ?_
      intro v2 w2 o2 g2
      have hSe : (fun W => Bx1 w W k n s) w2 := hSd.grown g2 (fun x hx => by have := (o1.lt x hx).1; have := hSc.lt; omega)
      refine ⟨fun W => Bx1 w W k n s, fun W hW => hW, hSe, ?_⟩
      try simp only [Act.put, List.setIfInBounds_toArray, List.set_cons_zero, List.set_cons_succ]
      clear hSc
      have hSc := hSe
      refine held_next 9 rfl (by kernel_rfl) (by rfl) ?_
      go_simp
      refine ⟨fun W => Bx1 w W k n s, fun W hW => hW, hSc, ?_⟩
      refine wpAnyH_done (by kernel_rfl) ?_ _
      go_wp2
      go_ret
      exact ⟨v2, rfl, by simpa [bls_len] using o2, hSe.below⟩
    · have e1 : (k == 1) = false := by simp [h1]
      have e2 : (k == 2) = false := by simp [h2]
      rw [bytes_none h1 h2, List.append_nil]
      clear hv
      go_enter Try.func14, Try.ntmps14
      go_wp2_with (go_at_call 28; refine (clone_any v l lo _ (HV.out.alloc (Nat.le_refl _) _ |>.more (Nat.le_refl _) (by simp)) (by omega)).mono ?_; rintro e w1 ⟨v1, rfl, o1, b1⟩)
      go_ret
      exact ⟨v1, rfl, o1.more (by simp), ((Bx1.new w k n s).step b1).below⟩

set_option maxHeartbeats 400000 in
theorem refbytes_any (k n : Int) (s : ByteArray) (w : World) (hs : s.size ≤ 1000000) :
    Calls Try.prog 15 #[vV k n s] w fun e w' => ∃ v', e = .returned v' ∧ Ow w' w.heap.size v' (byV k (u64 n) (bls s)) ∧ Below w.heap.size w w' := by
  by_cases h1 : k = 1
  · subst h1
    have hw := u64_wrap n
    have hlt := u64_lt n
    rw [bytes_one]
    generalize u64 n = N at *
    have HL := Lib.hid hlt
    clear hlt
    go_enter Try.func15, Try.ntmps15
    go_wp2_with (go_at_call 29; refine (little_any N 8 _ (by omega) (by omega) HL.out).mono ?_; rintro e w1 ⟨v1, rfl, o1, b1⟩)
    go_ret
    exact ⟨v1, rfl, o1.more (by simp), ((Bx1.new w 1 n s).step b1).below⟩
  · by_cases h2 : k = 2
    · subst h2
      obtain ⟨k, hk⟩ : ∃ k : Int, k = 2 := ⟨_, rfl⟩
      have hk1 : (k == 1) = false := by rw [hk]; rfl
      have hk2 : (k == 2) = true := by rw [hk]; rfl
      rw [← hk]
      have HK := Lib.hid hk
      clear hk
      have hw : IntKind.u64.wrap (s.size : Int) = (s.size : Int) := by rw [IntKind.wrap_u64]; omega
      go_enter Try.func15, Try.ntmps15
      go_wp2_with fail
      have hSc := (Bx1.new w k n s).drew
      refine wp_region_all (S := fun W => Bx1 w W k n s) (by kernel_rfl) hSc (fun W0 hSc => ?_)
      refine held_take 0 ?_ rfl (by kernel_rfl) (by kernel_rfl) (by kernel_rfl) (fun _ _ _ h => h) (by rfl) ?_ hSc ?_
      rotate_left
      · (intro W hSW; have a0 := hSW.a0; have a1 := hSW.a1; have a2 := hSW.a2; go_simp; try rfl)
      try simp only [Act.put, List.setIfInBounds_toArray, List.set_cons_zero, List.set_cons_succ]
      refine held_take 1 ?_ rfl (by kernel_rfl) (by kernel_rfl) (by kernel_rfl) (fun _ _ _ h => h) (by rfl) ?_ hSc ?_
      rotate_left
      · (intro W hSW; have a0 := hSW.a0; have a1 := hSW.a1; have a2 := hSW.a2; go_simp; try rfl)
      try simp only [Act.put, List.setIfInBounds_toArray, List.set_cons_zero, List.set_cons_succ]
      refine held_take 2 ?_ rfl (by kernel_rfl) (by kernel_rfl) (by kernel_rfl) (fun _ _ _ h => h) (by rfl) ?_ hSc ?_
      rotate_left
      · (intro W hSW; have a0 := hSW.a0; have a1 := hSW.a1; have a2 := hSW.a2; go_simp; try rfl)
      try simp only [Act.put, List.setIfInBounds_toArray, List.set_cons_zero, List.set_cons_succ]
      refine held_take 3 ?_ rfl (by kernel_rfl) (by kernel_rfl) (by kernel_rfl) (fun _ _ _ h => h) (by rfl) ?_ hSc ?_
      rotate_left
      · (intro W hSW; have a0 := hSW.a0; have a1 := hSW.a1; have a2 := hSW.a2; go_simp; try rfl)
      try simp only [Act.put, List.setIfInBounds_toArray, List.set_cons_zero, List.set_cons_succ]
      refine held_take 5 ?_ rfl (by kernel_rfl) (by kernel_rfl) (by kernel_rfl) (fun _ _ _ h => h) (by rfl) ?_ hSc ?_
      rotate_left
      · (intro W hSW; have a0 := hSW.a0; have a1 := hSW.a1; have a2 := hSW.a2; go_simp; try rfl)
      try simp only [Act.put, List.setIfInBounds_toArray, List.set_cons_zero, List.set_cons_succ]
      refine held_take 6 ?_ rfl (by kernel_rfl) (by kernel_rfl) (by kernel_rfl) (fun _ _ _ h => h) (by rfl) ?_ hSc ?_
      rotate_left
      · (intro W hSW; have a0 := hSW.a0; have a1 := hSW.a1; have a2 := hSW.a2; go_simp; try rfl)
      try simp only [Act.put, List.setIfInBounds_toArray, List.set_cons_zero, List.set_cons_succ]
      refine held_two 4 7 rfl rfl (by kernel_rfl) (by rfl) (by rfl) ?_ ?_
      · go_simp
        refine (refShort_any (s.size : Int) _ (by omega) (by omega)).mono ?_
        rintro e w1 ⟨v1, rfl, o1, b1⟩
        rw [Int.toNat_natCast] at o1
        have hSd : (fun W => Bx1 w W k n s) w1 := hSc.step b1
        refine ⟨fun W => Bx1 w W k n s, fun W hW => hW, hSd, ?_⟩
        try simp only [Act.put, List.setIfInBounds_toArray, List.set_cons_zero, List.set_cons_succ]
        refine held_next 7 rfl (by kernel_rfl) (by rfl) ?_
        refine wp_conv _ _ rfl s rfl (by omega) Try.underlying9 sli8 Try.underlying5 ?_
        intro c w2 b2 g2
        have hSe : (fun W => Bx1 w W k n s) w2 := hSd.step b2
        refine ⟨fun W => Bx1 w W k n s, fun W hW => hW, hSe, ?_⟩
        try simp only [Act.put, List.setIfInBounds_toArray, List.set_cons_zero, List.set_cons_succ]
        refine held_next 8 rfl (by kernel_rfl) (by rfl) ?_
        refine wp_gapp e8 _ _ _ _ rfl w.heap.size sli8 inf8 v1 (short s.size) rfl ((o1.below b2 (Nat.le_refl _)).more hSc.below.size) _ _ _ (bls s) rfl (g2) (by have := short_length_le s.size (by omega); rw [bls_len]; omega) hSe.below.size ?_
        intro v3 w3 o3 g3
        have hSf : (fun W => Bx1 w W k n s) w3 := hSe.grown g3 (fun x hx => by have := (o1.lt x hx).1; have := hSc.lt; have := b2.size; omega)
        refine ⟨fun W => Bx1 w W k n s, fun W hW => hW, hSf, ?_⟩
        try simp only [Act.put, List.setIfInBounds_toArray, List.set_cons_zero, List.set_cons_succ]
        clear hSc
        have hSc := hSf
        refine held_next 9 rfl (by kernel_rfl) (by rfl) ?_
        go_simp
        refine ⟨fun W => Bx1 w W k n s, fun W hW => hW, hSc, ?_⟩
        refine wpAnyH_done (by kernel_rfl) ?_ _
        go_wp2
        go_ret
        exact ⟨v3, rfl, by rw [HK.out, bytes_two, bls_len]; exact o3, hSf.below⟩
      · refine wp_conv _ _ rfl s rfl (by omega) Try.underlying9 sli8 Try.underlying5 ?_
        intro c w2 b2 g2
        have hSe : (fun W => Bx1 w W k n s) w2 := hSc.step b2
        refine ⟨fun W => Bx1 w W k n s, fun W hW => hW, hSe, ?_⟩
        try simp only [Act.put, List.setIfInBounds_toArray, List.set_cons_zero, List.set_cons_succ]
        refine held_next 4 rfl (by kernel_rfl) (by rfl) ?_
        go_simp
        refine (refShort_any (s.size : Int) _ (by omega) (by omega)).mono ?_
        rintro e w1 ⟨v1, rfl, o1, b1⟩
        rw [Int.toNat_natCast] at o1
        have hSd : (fun W => Bx1 w W k n s) w1 := hSe.step b1
        refine ⟨fun W => Bx1 w W k n s, fun W hW => hW, hSd, ?_⟩
        try simp only [Act.put, List.setIfInBounds_toArray, List.set_cons_zero, List.set_cons_succ]
        refine held_next 8 rfl (by kernel_rfl) (by rfl) ?_
        refine wp_gapp e8 _ _ _ _ rfl w.heap.size sli8 inf8 v1 (short s.size) rfl (o1.more (Nat.le_trans hSc.below.size b2.size)) _ _ _ (bls s) rfl (g2.below b1) (by have := short_length_le s.size (by omega); rw [bls_len]; omega) hSd.below.size ?_
        intro v3 w3 o3 g3
        have hSf : (fun W => Bx1 w W k n s) w3 := hSd.grown g3 (fun x hx => by have := (o1.lt x hx).1; have := hSc.lt; have := b2.size; omega)
        refine ⟨fun W => Bx1 w W k n s, fun W hW => hW, hSf, ?_⟩
        try simp only [Act.put, List.setIfInBounds_toArray, List.set_cons_zero, List.set_cons_succ]
        clear hSc
        have hSc := hSf
        refine held_next 9 rfl (by kernel_rfl) (by rfl) ?_
        go_simp
        refine ⟨fun W => Bx1 w W k n s, fun W hW => hW, hSc, ?_⟩
        refine wpAnyH_done (by kernel_rfl) ?_ _
        go_wp2
        go_ret
        exact ⟨v3, rfl, by rw [HK.out, bytes_two, bls_len]; exact o3, hSf.below⟩
    · have e1 : (k == 1) = false := by simp [h1]
      have e2 : (k == 2) = false := by simp [h2]
      rw [bytes_none h1 h2]
      go_enter Try.func15, Try.ntmps15
      go_wp2
      go_ret
      exact ⟨_, rfl, Gw.nil_ _ _, (Bx1.new w k n s).below⟩
end Go.Proofs.Ytigngijpbchlaaa
