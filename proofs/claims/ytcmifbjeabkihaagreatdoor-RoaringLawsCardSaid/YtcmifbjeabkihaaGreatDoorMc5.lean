/- Walks: the container of pieces of one key. -/
import Derived.Test.YtcmifbjeabkihaaGreatDoorMb7
import Derived.Test.YtcmifbjeabkihaaGreatDoorMc4
namespace Go.Proofs.YtcmifbjeabkihaaGreatDoor
open Go.RowKit
set_option linter.unusedVariables false

section
variable {α : Type} (k : Elem2 α)
theorem row2_rep (n : Nat) (z : α) : (madeCells #[k.fst z, k.snd z] (n * 2)).toList = k.row (List.replicate n z) := by
  apply List.ext_getElem?
  intro j
  by_cases hj : j < n * 2
  · have hj2 : j / 2 < n := by omega
    have e1 : (List.replicate n z)[j / 2]? = some z := by rw [List.getElem?_replicate, if_pos hj2]
    rcases Nat.mod_two_eq_zero_or_one j with hm | hm
    · have := row2_fst k _ _ _ e1
      rw [show 2 * (j / 2) = j by omega] at this
      rw [this]
      simp [madeCells, hj, hm]
    · have := row2_snd k _ _ _ e1
      rw [show 2 * (j / 2) + 1 = j by omega] at this
      rw [this]
      simp [madeCells, hj, hm]
  · rw [List.getElem?_eq_none (by simp [madeCells]; omega), List.getElem?_eq_none (by rw [row2_len, List.length_replicate]; omega)]
theorem wpList_gfull2 {P : Program} (w : World) {ops : Array Oper} {rest : List Oper} {o : Oper} {a : Act} {Q : Exit → Act → World → Prop} (hgd : o.guard = none) (x c : Operand) (t : TypeId) (ho : o.op = Op.makeSlice t x c)
    (ht : P.underlying t = some (.slice k.E)) (hinf : (P.info? k.E).map (fun i => (i.zero, i.size, i.bytes)) = some (some (k.val k.zero), 2, k.bytes))
    (kl kc : IntKind) (L C : Int) (n : Nat) (hx : a.eval x = .int kl L) (hc : a.eval c = .int kc C) (hL : L = (n : Int)) (hC : C = (n : Int)) (hn : n ≤ 1000000000)
    (h : ∀ w', Gw2 k w' w.heap.size (.slice (some ⟨w.heap.size, 0, none⟩) n n) (List.replicate n k.zero) → w.grownBy w' none → wpList P ops Q rest (a.put o.dst (.slice (some ⟨w.heap.size, 0, none⟩) n n)) w') : wpList P ops Q (o :: rest) a w := by
  obtain ⟨i, hi, hz, hsz, hby⟩ := info_parts hinf
  have hs := k.small
  have hbb : k.bytes * n ≤ 1000 * 1000000000 := Nat.mul_le_mul hs hn
  refine wpList_make_full w hgd x c t ho w.heap.size k.E i (k.val k.zero) 2 ht hi hz hsz kl kc L C n hx hc hL hC (by rw [hby]; omega) (by unfold maxLen; omega) (Nat.le_refl _) fun w' h1 h2 => h w' ?_ h2
  unfold Gw2
  rw [List.length_replicate, ← row2_rep]
  exact h1
theorem row2_set12 (l : List α) (j : Nat) (x y : α) (h : l[j]? = some x) : ((k.row l).set (2 * j) (k.fst y)).set (2 * j + 1) (k.snd y) = k.row (l.set j y) := by
  induction l generalizing j with
  | nil => simp at h
  | cons z l ih =>
    cases j with
    | zero => rfl
    | succ j =>
      have e1 : 2 * (j + 1) = 2 * j + 1 + 1 := by omega
      have e2 : 2 * (j + 1) + 1 = 2 * j + 1 + 1 + 1 := by omega
      rw [e1]
      have := ih j (by simpa using h)
      simp only [Elem2.row, List.set_cons_succ]
      rw [this]
theorem Gw2.stored12 {w : World} {base b c n : Nat} {l : List α} (h : Gw2 k w base (.slice (some ⟨b, 0, none⟩) n c) l) (j : Nat) (x y : α) (hx : l[j]? = some x) :
    Gw2 k ((w.setCell ⟨b, 2 * j, none⟩ (k.fst y)).setCell ⟨b, 2 * j + 1, none⟩ (k.snd y)) base (.slice (some ⟨b, 0, none⟩) n c) (l.set j y) := by
  have hn : n = l.length := by
    rcases h.2 with ⟨e, _⟩ | ⟨g, cap, cur, e, _⟩
    · cases e
    · injection e
  subst hn
  have h1 := (World.ownsRow.stored (World.ownsRow.stored h (2 * j) (k.fst y)).1 (2 * j + 1) (k.snd y)).1
  unfold Gw2
  rw [← row2_set12 k l j x y hx, List.length_set]
  exact h1
end
theorem map_take_set {l : List Sn} {k : Nat} {s : Sn} (h : l[k]? = some s) (hk : k < l.length) :
    ((l.take k).map tor ++ List.replicate (l.length - k) ((0, 0) : Rn)).set k (tor s) = (l.take (k + 1)).map tor ++ List.replicate (l.length - (k + 1)) ((0, 0) : Rn) := by
  have e1 : l.length - k = (l.length - (k + 1)) + 1 := by omega
  have e2 : ((l.take k).map tor).length = k := by rw [List.length_map, List.length_take]; omega
  rw [e1, List.replicate_succ, List.set_append_right _ _ (by omega), e2, Nat.sub_self, List.set_cons_zero, take_snoc h, List.map_append, List.append_assoc]
  rfl
set_option maxHeartbeats 8000000 in
theorem ofPieces_c {N : Nat → Prop} (v : Value) (l : List Sn) (n0 k0 : Nat) (w : World) (hT : Tb w) (hN : ∀ b, w.heap.size ≤ b → N b) (hv : Gs2 eSp w 0 w.heap.size v l) (hq : myq n0 l) (hk : ∀ s ∈ l, skey s = k0) (h0 : ∀ s r, l = s :: r → 65536 * k0 ≤ s.1.toNat) :
    Calls Tryz.prog 51 #[v] w fun e w' => ∃ v', e = .returned v' ∧ Cn N w' v' (fun x => sp l (65536 * k0 + x)) (ck (fun x => sp l (65536 * k0 + x))) ∧ Below w.heap.size w w' := by
  obtain ⟨hr1, hr2⟩ := part_runs (k := k0) l n0 0 hq hk (fun s r e => by have := h0 s r e; omega)
  have hrs : l.map tor = rs (fun x => sp l (65536 * k0 + x)) 65536 := rs_mr hr1 (fun x hx => hr2 x hx)
  have hcn : ct (hm (fun x => sp l (65536 * k0 + x))) 65536 = l.length := by rw [← rs_len, ← hrs, List.length_map]
  have hlen : l.length ≤ 65536 := by rw [← List.length_map (f := tor), hrs]; exact rs_short _
  have HIN := Lib.hid (myq_in l n0 hq)
  obtain ⟨p0, hp0⟩ : ∃ p0, p0 = (fun x => sp l (65536 * k0 + x)) := ⟨_, rfl⟩
  rw [← hp0] at hrs hcn ⊢
  have HRS := Lib.hid hrs
  have HCN := Lib.hid hcn
  have HV := Lib.hid hv
  have TT := Lib.hid hT
  have NN := Lib.hid hN
  have HLEN := Lib.hid hlen
  obtain ⟨A, c, rfl, -⟩ := hv
  have bz := bx w (.cells #[.int .u8 0, .slice none 0 0, .slice none 0 0, .slice none 0 0] 65)
  have rz := Row.new w 65 #[.int .u8 0, .slice none 0 0, .slice none 0 0, .slice none 0 0]
  clear hr1 hr2 hrs hcn hq hk h0 hp0 hT hN
  go_enter Tryz.func51, Tryz.ntmps51
  go_upto_region 1 with fail
  generalize w.alloc (.cells #[.int .u8 0, .slice none 0 0, .slice none 0 0, .slice none 0 0] 65) = w1 at *
  have B1 := Lib.hid bz
  have R1 := Lib.hid rz
  clear bz rz
  have hln : l.length ≤ 1000000000 := by omega
  clear hlen
  go_wp2_with (at_make; refine wpList_gfull2 eR _ rfl _ _ _ rfl sliR infR _ _ _ _ l.length rfl rfl rfl rfl hln ?_; intro w2 o2 g2; have O2 := Lib.hid o2; have G2 := Lib.hid g2; clear o2 g2)
  have R2 := Lib.hid (R1.out.grown G2.out (by simp))
  have B2 : Hid (Below w1.heap.size w1 w2) := Lib.hid (below_of_grown G2.out (fun k e => by cases e))
  clear hln
  go_loopw [13] (fun s13 wr => ∃ k : Nat, k ≤ l.length ∧ s13 = .int .i64 k ∧ Hid (Gw2 eR wr w1.heap.size (.slice (some ⟨w1.heap.size, 0, none⟩) l.length l.length) ((l.take k).map tor ++ List.replicate (l.length - k) ((0, 0) : Rn)) ∧ Below w1.heap.size w1 wr)) (fun s13 _ => l.length - (intOf s13).toNat)
  case atStart => exact ⟨0, Nat.zero_le _, rfl, Lib.hid ⟨by have h := O2.out; rw [show eR.zero = ((0, 0) : Rn) from rfl] at h; simpa using h, B2.out⟩⟩
  case round =>
    obtain ⟨k, hk, rfl, hj⟩ := hrel
    have HJ := Lib.hid hj.out
    by_cases hlt : k < l.length
    · obtain ⟨b, off, s, e1, -, hb, hdr, hg', c0, c1⟩ := gss_at HV.out hlt
      subst e1
      have hbl : Below w.heap.size w wr := B1.out.trans (hj.out.2.mono B1.out.size)
      rw [← hbl.cell (p := ⟨b, off + k * 2, none⟩) hb] at c0
      rw [← hbl.cell (p := ⟨b, off + k * 2 + 1, none⟩) hb] at c1
      obtain ⟨q1, q2, q3⟩ := HIN.out s (List.mem_of_getElem? hg')
      obtain ⟨t1, t2, t3⟩ := tor_spec q1 q2
      obtain ⟨p, hp⟩ : ∃ p : Nat, p = s.1.toNat := ⟨_, rfl⟩
      obtain ⟨q, hq⟩ : ∃ q : Nat, q = s.2.toNat := ⟨_, rfl⟩
      rw [← hp, ← hq] at q1 q2 t2
      rw [← hq] at q3
      rw [← hp] at t1 c0
      rw [← hq] at c1
      have HT1 := Lib.hid t1
      have HT2 : Hid (((tor s).2.toNat : Int) = (q : Int) - p - 1) := Lib.hid (by rw [t2]; omega)
      have w1' : IntKind.u32.wrap (p : Int) = p := by rw [IntKind.wrap_u32]; omega
      have w2' : IntKind.u64.wrap ((q : Int) - p) = (q : Int) - p := by rw [IntKind.wrap_u64]; omega
      have w3' : IntKind.u64.wrap ((q : Int) - p - 1) = (q : Int) - p - 1 := by rw [IntKind.wrap_u64]; omega
      have w4' : IntKind.u16.wrap ((q : Int) - p - 1) = (q : Int) - p - 1 := by rw [IntKind.wrap_u16]; omega
      have HP32 : Hid (p < 4294967296) := Lib.hid (by omega)
      have HG := Lib.hid hg'
      have hkl : (k : Int) < l.length := by omega
      have bz := bx wr (.cells #[.int .u64 (p : Int), .int .u64 (q : Int)] 34)
      have rz := Row.new wr 34 #[.int .u64 (p : Int), .int .u64 (q : Int)]
      have hbw := HJ.out.2.size
      have hgn : wr.heap.size ≠ w1.heap.size := by
        have := (HJ.out.1.lt w1.heap.size rfl).2
        omega
      have HGN := Lib.hid hgn
      clear hdr hg' hbl hj t1 t2 t3 q1 q2 q3 hp hq hbw hgn
      go_wp2_with fail
      generalize wr.alloc (.cells #[.int .u64 (p : Int), .int .u64 (q : Int)] 34) = W at *
      have HJW : Hid (Gw2 eR W.drew w1.heap.size (.slice (some ⟨w1.heap.size, 0, none⟩) l.length l.length) ((l.take k).map tor ++ List.replicate (l.length - k) ((0, 0) : Rn)) ∧ Below w1.heap.size w1 W.drew) := Lib.hid ⟨(HJ.out.1.below bz (Nat.le_refl _)).drewN 1, below_drewN (HJ.out.2.trans (bz.mono HJ.out.2.size)) 1⟩
      have hSc : Row W.drew wr.heap.size 34 #[.int .u64 (p : Int), .int .u64 (q : Int)] := rz
      obtain ⟨_, _, e0, -, -, -, -, hcl, hfz⟩ := HJW.out.1.form (by intro e; have := congrArg List.length e; simp at this; omega)
      injection e0 with e0 e01 e02
      clear e01
      subst e02
      injection e0 with e0
      injection e0 with e0
      subst e0
      have hx : ((l.take k).map tor ++ List.replicate (l.length - k) ((0, 0) : Rn))[k]? = some (0, 0) := by
        rw [List.getElem?_append_right (by rw [List.length_map, List.length_take]; omega), List.getElem?_replicate, if_pos (by rw [List.length_map, List.length_take]; omega)]
      have d0 := (hcl k _ hx).1
      have d1 := (hcl k _ hx).2
      have f0 := hfz (2 * k)
      have f1 := hfz (2 * k + 1)
      rw [Nat.mul_comm 2 k] at d0 d1 f0 f1
      have d0 : W.drew.cell? ⟨w1.heap.size, k * 2, none⟩ = some (.int .u16 0) := d0
      have d1 : W.drew.cell? ⟨w1.heap.size, k * 2 + 1, none⟩ = some (.int .u16 0) := d1
      have d1' : W.cell? ⟨w1.heap.size, k * 2 + 1, none⟩ = some (.int .u16 0) := d1
      have f1' : W.frozen? ⟨w1.heap.size, k * 2 + 1, none⟩ = false := f1
      have d0' : W.cell? ⟨w1.heap.size, k * 2, none⟩ = some (.int .u16 0) := d0
      have f0' : W.frozen? ⟨w1.heap.size, k * 2, none⟩ = false := f0
      have ST := HJW.out.1.stored12 eR k _ (tor s) hx
      rw [map_take_set HG.out hlt] at ST
      have HST := Lib.hid ST
      clear bz rz hcl hfz hx ST
      refine wp_region_held_drew (S := fun W => Row W wr.heap.size 34 #[.int .u64 (p : Int), .int .u64 (q : Int)]) (by kernel_rfl) hSc (fun _ => ?_)
      refine held_take 0 ?_ rfl (by kernel_rfl) (by kernel_rfl) (by kernel_rfl) (fun _ _ _ h => h) (by rfl) ?_ hSc ?_
      rotate_left
      · (intro W hSW; go_simp; try rfl)
      try simp only [Act.put, List.setIfInBounds_toArray, List.set_cons_zero, List.set_cons_succ]
      refine held_take 1 ?_ rfl (by kernel_rfl) (by kernel_rfl) (by kernel_rfl) (fun _ _ _ h => h) (by rfl) ?_ hSc ?_
      rotate_left
      · (intro W hSW; go_simp; try rfl)
      try simp only [Act.put, List.setIfInBounds_toArray, List.set_cons_zero, List.set_cons_succ]
      refine held_take 2 ?_ rfl (by kernel_rfl) (by kernel_rfl) (by kernel_rfl) (fun _ _ _ h => h) (by rfl) ?_ hSc ?_
      rotate_left
      · (intro W hSW; go_simp; try rfl)
      try simp only [Act.put, List.setIfInBounds_toArray, List.set_cons_zero, List.set_cons_succ]
      refine held_take 3 ?_ rfl (by kernel_rfl) (by kernel_rfl) (by kernel_rfl) (fun _ _ _ h => h) (by rfl) ?_ hSc ?_
      rotate_left
      · (intro W hSW; have k0 := hSW.cell 0; have k1 := hSW.cell 1; go_simp; try rfl)
      try simp only [Act.put, List.setIfInBounds_toArray, List.set_cons_zero, List.set_cons_succ]
      refine held_take 4 ?_ rfl (by kernel_rfl) (by kernel_rfl) (by kernel_rfl) (fun _ _ _ h => h) (by rfl) ?_ hSc ?_
      rotate_left
      · (intro W hSW; go_simp; try rfl)
      try simp only [Act.put, List.setIfInBounds_toArray, List.set_cons_zero, List.set_cons_succ]
      refine held_take 6 ?_ rfl (by kernel_rfl) (by kernel_rfl) (by kernel_rfl) (fun _ _ _ h => h) (by rfl) ?_ hSc ?_
      rotate_left
      · (intro W hSW; go_simp; try rfl)
      try simp only [Act.put, List.setIfInBounds_toArray, List.set_cons_zero, List.set_cons_succ]
      refine held_take 7 ?_ rfl (by kernel_rfl) (by kernel_rfl) (by kernel_rfl) (fun _ _ _ h => h) (by rfl) ?_ hSc ?_
      rotate_left
      · (intro W hSW; have k0 := hSW.cell 0; have k1 := hSW.cell 1; go_simp; try rfl)
      try simp only [Act.put, List.setIfInBounds_toArray, List.set_cons_zero, List.set_cons_succ]
      refine held_take 8 ?_ rfl (by kernel_rfl) (by kernel_rfl) (by kernel_rfl) (fun _ _ _ h => h) (by rfl) ?_ hSc ?_
      rotate_left
      · (intro W hSW; go_simp; try rfl)
      try simp only [Act.put, List.setIfInBounds_toArray, List.set_cons_zero, List.set_cons_succ]
      refine held_take 9 ?_ rfl (by kernel_rfl) (by kernel_rfl) (by kernel_rfl) (fun _ _ _ h => h) (by rfl) ?_ hSc ?_
      rotate_left
      · (intro W hSW; have k0 := hSW.cell 0; have k1 := hSW.cell 1; go_simp; try rfl)
      try simp only [Act.put, List.setIfInBounds_toArray, List.set_cons_zero, List.set_cons_succ]
      refine held_take 10 ?_ rfl (by kernel_rfl) (by kernel_rfl) (by kernel_rfl) (fun _ _ _ h => h) (by rfl) ?_ hSc ?_
      rotate_left
      · (intro W hSW; go_simp; try rfl)
      try simp only [Act.put, List.setIfInBounds_toArray, List.set_cons_zero, List.set_cons_succ]
      refine held_take 11 ?_ rfl (by kernel_rfl) (by kernel_rfl) (by kernel_rfl) (fun _ _ _ h => h) (by rfl) ?_ hSc ?_
      rotate_left
      · (intro W hSW; go_simp; try rfl)
      try simp only [Act.put, List.setIfInBounds_toArray, List.set_cons_zero, List.set_cons_succ]
      refine held_take 12 ?_ rfl (by kernel_rfl) (by kernel_rfl) (by kernel_rfl) (fun _ _ _ h => h) (by rfl) ?_ hSc ?_
      rotate_left
      · (intro W hSW; go_simp; try rfl)
      try simp only [Act.put, List.setIfInBounds_toArray, List.set_cons_zero, List.set_cons_succ]
      refine held_next 5 rfl (by kernel_rfl) (by rfl) ?_
      go_simp
      refine (low_c p _ HP32.out).mono ?_
      rintro e wq ⟨rfl, hz⟩
      have hz := hz.symm
      subst hz
      refine ⟨fun W => Row W wr.heap.size 34 #[.int .u64 (p : Int), .int .u64 (q : Int)], fun W hW => hW, hSc, ?_⟩
      try simp only [Act.put, List.setIfInBounds_toArray, List.set_cons_zero, List.set_cons_succ]
      refine held_take 13 ?_ rfl (by kernel_rfl) (by kernel_rfl) (by kernel_rfl) (fun _ _ _ h => h) (by rfl) ?_ hSc ?_
      rotate_left
      · (intro W hSW; go_simp; try rfl)
      try simp only [Act.put, List.setIfInBounds_toArray, List.set_cons_zero, List.set_cons_succ]
      refine held_take 14 ?_ rfl (by kernel_rfl) (by kernel_rfl) (by kernel_rfl) (fun _ _ _ h => h) (by rfl) ?_ hSc ?_
      rotate_left
      · (intro W hSW; go_simp; try rfl)
      try simp only [Act.put, List.setIfInBounds_toArray, List.set_cons_zero, List.set_cons_succ]
      have G3 : W.grownBy ((W.setCell ⟨w1.heap.size, k * 2, none⟩ (.int .u16 ((p : Int) % 65536))).setCell ⟨w1.heap.size, k * 2 + 1, none⟩ (.int .u16 ((q : Int) - p - 1))) (some w1.heap.size) := by
        have a := grown_set W w1.heap.size (k * 2) (.int .u16 ((p : Int) % 65536))
        have c := grown_set (W.setCell ⟨w1.heap.size, k * 2, none⟩ (.int .u16 ((p : Int) % 65536))) w1.heap.size (k * 2 + 1) (.int .u16 ((q : Int) - p - 1))
        exact ⟨c.os.trans a.os, c.tape.trans a.tape, c.output.trans a.output, Nat.le_trans a.size c.size, fun j hj hne => (c.block j (Nat.lt_of_lt_of_le hj a.size) hne).trans (a.block j hj hne)⟩
      have HS2 : Gw2 eR ((W.setCell ⟨w1.heap.size, 2 * k, none⟩ (eR.fst (tor s))).setCell ⟨w1.heap.size, 2 * k + 1, none⟩ (eR.snd (tor s))) w1.heap.size (.slice (some ⟨w1.heap.size, 0, none⟩) l.length l.length) ((l.take (k + 1)).map tor ++ List.replicate (l.length - (k + 1)) ((0, 0) : Rn)) := HST.out
      have ev : eR.fst (tor s) = (.int .u16 ((p : Int) % 65536)) := by show Value.int .u16 ((tor s).1.toNat : Int) = _; rw [HT1.out]; rfl
      have ew : eR.snd (tor s) = (.int .u16 ((q : Int) - p - 1)) := by show Value.int .u16 ((tor s).2.toNat : Int) = _; rw [HT2.out]
      rw [ev, ew, Nat.mul_comm 2 k] at HS2
      have hS4 := (show Row W wr.heap.size 34 #[.int .u64 (p : Int), .int .u64 (q : Int)] from hSc).grown G3 (by intro e; injection e with e; exact HGN.out e.symm)
      have B4 : Hid (Below w1.heap.size w1 ((W.setCell ⟨w1.heap.size, k * 2, none⟩ (.int .u16 ((p : Int) % 65536))).setCell ⟨w1.heap.size, k * 2 + 1, none⟩ (.int .u16 ((q : Int) - p - 1)))) := Lib.hid ((show Below w1.heap.size w1 W from ⟨HJW.out.2.os, HJW.out.2.tape, HJW.out.2.output, HJW.out.2.size, HJW.out.2.block⟩).grown G3 HJW.out.2.size (fun j e => by injection e with e; omega))
      refine held_next 15 rfl (by kernel_rfl) (by rfl) ?_
      go_simp
      generalize (W.setCell ⟨w1.heap.size, k * 2, none⟩ (.int .u16 ((p : Int) % 65536))).setCell ⟨w1.heap.size, k * 2 + 1, none⟩ (.int .u16 ((q : Int) - p - 1)) = w6 at *
      have NX : Hid (Gw2 eR w6.drew w1.heap.size (.slice (some ⟨w1.heap.size, 0, none⟩) l.length l.length) ((l.take (k + 1)).map tor ++ List.replicate (l.length - (k + 1)) ((0, 0) : Rn)) ∧ Below w1.heap.size w1 w6.drew) := Lib.hid ⟨HS2.drewN 1, below_drewN B4.out 1⟩
      refine ⟨fun W => Row W wr.heap.size 34 #[.int .u64 (p : Int), .int .u64 (q : Int)], fun W hW => hW, hS4, ?_⟩
      refine wpAnyH_done (by kernel_rfl) ?_ _
      have hlen := HLEN.out
      clear HS2 hS4 G3 ev ew hSc d0 d1 f0 f1 d0' d1' f0' f1'
      go_wp2
      refine ⟨⟨k + 1, by omega, by go_num, NX⟩, by simp [intOf]; omega⟩
    · obtain rfl : k = l.length := by omega
      have hj2 := hj.out
      rw [List.take_length, Nat.sub_self, List.replicate_zero, List.append_nil, HRS.out] at hj2
      have HG : Hid (Gs2 eR wr 0 wr.heap.size (.slice (some ⟨w1.heap.size, 0, none⟩) l.length l.length) (rs p0 65536)) := Lib.hid (hj2.1.sl.more (Nat.zero_le _) (Nat.le_refl _))
      have HB : Hid (Below w1.heap.size w1 wr) := Lib.hid hj2.2
      have HBW : Hid (Below w.heap.size w wr) := Lib.hid (B1.out.trans (hj2.2.mono B1.out.size))
      clear hj hj2 HJ
      go_wp2_with fail
      refine (ofRuns_yes (N := fun x => N x ∧ x ≠ w.heap.size) _ _ _ p0 _ (fun x hx => ⟨NN.out x (Nat.le_trans HBW.out.size hx), by have := R1.out.lt; have := HB.out.size; omega⟩) HCN.out HG.out).mono ?_
      rintro e w3 ⟨v3, rfl, g3, b3⟩
      obtain ⟨κv, Av, nv, cv, Bv, mv, dv, Dv, qv, ev, rfl⟩ := g3.form
      have G3 := Lib.hid g3
      have B3 := Lib.hid (below_both HBW.out b3)
      have R3 := Lib.hid ((R1.out.below HB.out R1.out.lt).below b3 (Nat.lt_of_lt_of_le R1.out.lt HB.out.size))
      clear g3 b3
      go_wp2_with fail
      have bz := bx w3 (.cells #[.int .u8 κv, .slice Av nv cv, .slice Bv mv dv, .slice Dv qv ev] 65)
      generalize w3.alloc (.cells #[.int .u8 κv, .slice Av nv cv, .slice Bv mv dv, .slice Dv qv ev] 65) = w4 at *
      have G4 := Lib.hid (G3.out.step bz)
      have B4 := Lib.hid (below_both B3.out bz)
      have R4 := Lib.hid (R3.out.below bz R3.out.lt)
      clear bz
      refine (canonical_c (N := fun x => N x ∧ x ≠ w.heap.size) _ p0 3 _ (TT.out.step B4.out) (fun x hx => ⟨NN.out x (Nat.le_trans B4.out.size hx), by have := R4.out.lt; omega⟩) G4.out).mono ?_
      rintro e w5 ⟨v5, rfl, g5, b5⟩
      obtain ⟨κu, Au, nu, cu, Bu, mu, du, Du, qu, eu, rfl⟩ := g5.form
      have G5 := Lib.hid g5
      have B5 := Lib.hid (below_both B4.out b5)
      have R5 := Lib.hid (R4.out.below b5 R4.out.lt)
      clear g5 b5
      have d0 : w5.cell? ⟨w.heap.size, 0, none⟩ = some (.int .u8 0) := R5.out.cell 0
      have f0 := R5.out.frozen 0
      have d1 : w5.cell? ⟨w.heap.size, 1, none⟩ = some (.slice none 0 0) := R5.out.cell 1
      have f1 := R5.out.frozen 1
      have d2 : w5.cell? ⟨w.heap.size, 2, none⟩ = some (.slice none 0 0) := R5.out.cell 2
      have f2 := R5.out.frozen 2
      have d3 : w5.cell? ⟨w.heap.size, 3, none⟩ = some (.slice none 0 0) := R5.out.cell 3
      have f3 := R5.out.frozen 3
      go_wp2
      have S4 := set4 (a' := .int .u8 κu) (b' := .slice Au nu cu) (c' := .slice Bu mu du) (d' := .slice Du qu eu) R5.out
      have B6 := Lib.hid (B5.out.grown S4.2 B5.out.size (fun j e => by injection e with e; subst e; omega))
      refine bodyPost_ret (ret_row rfl rfl S4.1) rfl ⟨_, rfl, (G5.out.grown S4.2 (fun h => h.2 rfl)).mono (fun x _ h => h.1), B6.out⟩
end Go.Proofs.YtcmifbjeabkihaaGreatDoor
