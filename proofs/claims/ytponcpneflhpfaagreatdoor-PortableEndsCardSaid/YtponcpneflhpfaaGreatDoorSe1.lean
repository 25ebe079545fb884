/- Walks: an image is read. -/
import Derived.Test.YtponcpneflhpfaaGreatDoorSe0
import Derived.Test.YtponcpneflhpfaaGreatDoorSc1
namespace Go.Proofs.YtponcpneflhpfaaGreatDoor
open Go.RowKit
set_option linter.unusedVariables false

/-- An operation that its guard passes over is taken first. -/
theorem held_skip {P : Program} {ops : Array Oper} {Q : Exit → Act → World → Prop} {md : Region.Mode} {S : World → Prop} (i : Nat) {oi : Oper} {rest : List Oper} {fuel : Nat} {listed : Array Bool} {a : Act} {w : World} (hl : ops.toList.drop i = oi :: rest)
    (hs : Region.noSelect ops = true) (hf : Region.free md ops listed i = true) (hr : (Region.ready md ops listed).contains i = true)
    (hQ : ∀ c a w, Q (.panic c) (a.put oi.dst undef) w → Q (.panic c) a w) (hw : Region.wanted oi (yielded ops a.tmps) = false) (hS : S w)
    (h : wpAnyH P md ops Q S fuel (listed.setIfInBounds i true) (a.put oi.dst undef) w) : wpAnyH P md ops Q S (fuel + 1) listed a w :=
  wpAnyH_take (op_at hl) hs hf hr hQ (Or.inr ⟨hw, rfl⟩) hS h
/-- The containers cs are the set P's. -/
structure OfP (P : Nat → Bool) (cs : List Ct) : Prop where
  keys : cs.map Ct.key = ls (nz P) 65536
  bk : ∀ c ∈ cs, ∀ x, x < 65536 → c.p x = blk P c.key.toNat x
theorem OfP.cso (P : Nat → Bool) : OfP P (cso P) := ⟨cso_keys P, fun c hc x _ => by rw [(cso_mem hc).1]; rfl⟩
section
variable {P : Nat → Bool} {cs : List Ct}
theorem OfP.len (h : OfP P cs) : cs.length ≤ 65536 := by have := ls_len (nz P) 65536; rw [← h.keys, List.length_map] at this; exact this
theorem OfP.nz_ (h : OfP P cs) {c : Ct} (hc : c ∈ cs) : nz P c.key.toNat = true := ((ls_mem _ _ (Nat.le_refl _) _).1 (h.keys ▸ List.mem_map_of_mem hc)).2
theorem OfP.ok (h : OfP P cs) : ∀ c ∈ cs, c.ok := fun c hc => by
  have h1 := h.nz_ hc
  unfold Ct.ok Ct.n
  rw [ct_ext (h.bk c hc)]
  exact of_decide_eq_true h1
theorem OfP.at_ (h : OfP P cs) {i : Nat} {c : Ct} (hc : cs[i]? = some c) : at16 (cs.map Ct.key) i = c.key := at16_eq (by rw [List.getElem?_map, hc]; rfl)
theorem OfP.lt (h : OfP P cs) {i j : Nat} {c d : Ct} (hc : cs[i]? = some c) (hd : cs[j]? = some d) (hij : i < j) : c.key.toNat < d.key.toNat := by
  have := ris_at (by rw [h.keys]; exact ris_ls _ _ (Nat.le_refl _) : ris (cs.map Ct.key) = true) hij (by rw [List.length_map]; exact (List.getElem?_eq_some_iff.1 hd).1)
  rwa [h.at_ hc, h.at_ hd] at this
theorem OfP.rising (h : OfP P cs) : Rising cs := fun i c d hc hd => h.lt hc hd (Nat.lt_succ_self i)
theorem OfP.has (h : OfP P cs) {j : Nat} (hj : j < 65536) (hn : nz P j = true) : ∃ (i : Nat) (c : Ct), cs[i]? = some c ∧ c.key.toNat = j := by
  have e : (UInt16.ofNat j).toNat = j := by rw [UInt16.toNat_ofNat']; omega
  have hm : UInt16.ofNat j ∈ cs.map Ct.key := by rw [h.keys]; exact (ls_mem _ _ (Nat.le_refl _) _).2 (by rw [e]; exact ⟨hj, hn⟩)
  obtain ⟨c, hc, hk⟩ := List.mem_map.1 hm
  obtain ⟨i, hi⟩ := List.mem_iff_getElem?.1 hc
  exact ⟨i, c, hi, by rw [hk, e]⟩
/-- The key behind the first k ones. -/
def nxk (cs : List Ct) (k : Nat) : Nat := match k with
  | 0 => 0
  | k + 1 => ((cs[k]?).map fun c => c.key.toNat + 1).getD 0
theorem nxk_succ {k : Nat} {c : Ct} (h : cs[k]? = some c) : nxk cs (k + 1) = c.key.toNat + 1 := by simp [nxk, h]
theorem OfP.nxk_le (h : OfP P cs) {k : Nat} {d : Ct} (hd : cs[k]? = some d) : nxk cs k ≤ d.key.toNat := by
  cases k with
  | zero => exact Nat.zero_le _
  | succ k =>
    have hk := (List.getElem?_eq_some_iff.1 hd).1
    obtain ⟨c, hc⟩ : ∃ c, cs[k]? = some c := ⟨_, List.getElem?_eq_getElem (by omega)⟩
    rw [nxk_succ hc]
    exact h.lt hc hd (Nat.lt_succ_self k)
theorem OfP.behind (h : OfP P cs) {k j i : Nat} {c : Ct} (hc : cs[i]? = some c) (hk : nxk cs k ≤ j) (hj : c.key.toNat = j) (hkl : k ≤ cs.length) : k ≤ i := by
  rcases Nat.lt_or_ge i k with hik | hik
  · exfalso
    cases k with
    | zero => omega
    | succ k =>
      obtain ⟨cc, hcc⟩ : ∃ cc, cs[k]? = some cc := ⟨_, List.getElem?_eq_getElem (by omega)⟩
      rw [nxk_succ hcc] at hk
      rcases Nat.lt_or_ge i k with h2 | h2
      · have := h.lt hc hcc h2; omega
      · obtain rfl : i = k := by omega
        rw [hcc] at hc; injection hc with hc; subst hc; omega
  · exact hik
theorem OfP.gap (h : OfP P cs) {k : Nat} {d : Ct} (hd : cs[k]? = some d) : ∀ j, nxk cs k ≤ j → j < d.key.toNat → nz P j = false := fun j h1 h2 => by
  cases hn : nz P j with
  | false => rfl
  | true =>
    have hdk := d.key.toNat_lt
    obtain ⟨i, c, hc, hk⟩ := h.has (by omega) hn
    have hki := h.behind hc h1 hk (Nat.le_of_lt (List.getElem?_eq_some_iff.1 hd).1)
    rcases Nat.lt_or_ge k i with h3 | h3
    · have := h.lt hd hc h3; omega
    · obtain rfl : i = k := by omega
      rw [hd] at hc; injection hc with hc; subst hc; omega
theorem OfP.rest (h : OfP P cs) : ∀ j, nxk cs cs.length ≤ j → j < 65536 → nz P j = false := fun j h1 h2 => by
  cases hn : nz P j with
  | false => rfl
  | true =>
    obtain ⟨i, c, hc, hk⟩ := h.has h2 hn
    have := h.behind hc h1 hk (Nat.le_refl _)
    have := (List.getElem?_eq_some_iff.1 hc).1
    omega
end
theorem below_world {B : Nat} {w w' : World} (h : Below B w w') : ∃ W, W = w' := ⟨w', rfl⟩
/-- A set that is joined, as far as it has come. -/
structure Jn (w wr : World) (P : Nat → Bool) (cs : List Ct) (bs : List Bd) (b k : Nat) (N : Nat → Prop) (s : Value) (es : List En) : Prop where
  sx : Sx N wr (.pointer (some ⟨b, 0, none⟩)) P b (nxk cs k) s es
  cn : ∀ (i : Nat) (x : Bd) (c : Ct), bs[i]? = some x → cs[i]? = some c → Cn N wr x.val c.p c.k
  nw : ∀ x, wr.heap.size ≤ x → N x
  wb : w.heap.size ≤ b
  ow : ∀ y, s.ownBlock = some y → w.heap.size ≤ y
  bl : Below w.heap.size w wr
set_option maxHeartbeats 16000000 in
theorem join_c (kv lv : Value) (P : Nat → Bool) (bs : List Bd) (cs : List Ct) (w : World) (hT : Tb w) (hO : OfP P cs) (hk : Gs e16 w 0 w.heap.size kv (cs.map Ct.key)) (hl : Cl (fun _ => True) w lv bs cs) :
    Calls Tryz.prog 41 #[kv, lv] w fun e w' => ∃ b, e = .returned (.tuple #[.pointer (some ⟨b, 0, none⟩), .int .i64 0]) ∧ St (fun _ => True) w' (.pointer (some ⟨b, 0, none⟩)) P ∧ Below w.heap.size w w' := by
  obtain ⟨n, hn⟩ : ∃ n, cs.length = n := ⟨_, rfl⟩
  have hni : (n : Int) ≤ 65536 := by have := hO.len; omega
  have hbl := hl.len
  have HK := Lib.hid hk
  have HL := Lib.hid hl
  have HO := Lib.hid hO
  have TT := Lib.hid hT
  have HN := Lib.hid hn
  obtain ⟨A3, c3, rfl, -⟩ := hk
  obtain ⟨A, c, rfl, -⟩ := hl.sl
  rw [List.length_map, hn] at HK ⊢
  rw [hbl, hn] at HL ⊢
  have g0 : ((n : Int) != (n : Int)) = false := by simp
  clear hl hO hT hbl hn
  go_enter Tryz.func41, Tryz.ntmps41
  go_wp2_with fail
  refine (new_c (N := fun _ => True) P w (fun _ _ => trivial)).mono ?_
  rintro e w1 ⟨b, rfl, hb, sx, nx, b1⟩
  have HJ0 : Hid (Jn w w1 P cs bs b 0 (fun x => True ∧ x ≠ b) (.slice none 0 0) []) := Lib.hid ⟨sx, fun i x c h1 h2 => ((HL.out.cn i x c h1 h2).mono (N' := fun x => True ∧ x ≠ b) (fun y hy _ => ⟨trivial, by omega⟩)).step b1, fun x hx => ⟨trivial, by have := sx.box.lt; omega⟩, by omega, fun y hy => by simp [Value.ownBlock] at hy, b1⟩
  clear hb sx nx b1 g0
  go_wp2
  go_loopw [17] (fun s17 wr => ∃ (k : Nat) (N : Nat → Prop) (s : Value) (es : List En), k ≤ n ∧ s17 = .int .i64 k ∧ Hid (Jn w wr P cs bs b k N s es)) (fun s17 _ => n - (intOf s17).toNat)
  case atStart => exact ⟨0, _, _, _, Nat.zero_le _, rfl, HJ0⟩
  case round =>
    obtain ⟨k, N, s, es, hkn, rfl, hj⟩ := hrel
    by_cases hlt : k < n
    · obtain ⟨bl, off, x, d, e1, -, hb1, hbx, hd, -, c0, c1, c2, c3⟩ := clf_at HL.out hj.out.bl (k := k) (by rw [HN.out]; exact hlt)
      subst e1
      obtain ⟨b3, off3, y, e3, -, hl3, hh3, hy, cy⟩ := gse_at HK.out (k := k) (by rw [List.length_map, HN.out]; exact hlt)
      subst e3
      rw [List.getElem?_map, hd] at hy
      injection hy with hy
      obtain ⟨Y, hY⟩ : ∃ Y, Y = d.key.toNat := ⟨_, rfl⟩
      have cK : wr.cell? ⟨b3, off3 + k, none⟩ = some (.int .u16 Y) := (hj.out.bl.cell (p := ⟨b3, off3 + k, none⟩) hh3).trans (by rw [hY, hy]; exact cy)
      have hkl : (k : Int) < n := by omega
      obtain ⟨m, hm⟩ : ∃ m, ct d.p 65536 = m := ⟨_, rfl⟩
      have hm0 : ((m : Int) == 0) = false := beq_false_of_ne (by have := HO.out.ok d (List.mem_of_getElem? hd); unfold Ct.ok Ct.n at this; omega)
      have bz := bxr wr 65 #[.int .u8 x.κ, .slice x.A x.n x.c, .slice x.A2 x.n2 x.c2, .slice x.A3 x.n3 x.c3]
      have RX := Lib.hid (Row.new wr 65 #[.int .u8 x.κ, .slice x.A x.n x.c, .slice x.A2 x.n2 x.c2, .slice x.A3 x.n3 x.c3])
      have BZ := Lib.hid bz
      have HD := Lib.hid hd
      have HY := Lib.hid hY
      have HM := Lib.hid hm
      have CN := Lib.hid ((hj.out.cn k x d hbx hd).step bz)
      have HJ := Lib.hid hj.out
      have hlt6 := Nat.lt_of_lt_of_le hh3 hj.out.bl.size
      have HCK := Lib.hid ((bz.cell (p := ⟨b3, off3 + k, none⟩) hlt6).trans cK)
      have HL6 := Lib.hid hlt6
      have HBW := Lib.hid hh3
      -- the key ahead
      have HPRE : Hid (k = 0 ∨ ∃ (j Z : Nat), k = j + 1 ∧ (wr.alloc (.cells #[.int .u8 x.κ, .slice x.A x.n x.c, .slice x.A2 x.n2 x.c2, .slice x.A3 x.n3 x.c3] 65)).cell? ⟨b3, off3 + j, none⟩ = some (.int .u16 Z) ∧ Z < Y) := Lib.hid (by
        by_cases hk0 : k = 0
        · exact .inl hk0
        · refine .inr ⟨k - 1, ?_⟩
          obtain ⟨f, hf⟩ : ∃ f, cs[k - 1]? = some f := ⟨_, List.getElem?_eq_getElem (by rw [HN.out]; omega)⟩
          obtain ⟨b4, off4, z, e4, -, -, hh4, hz, cz⟩ := gse_at HK.out (k := k - 1) (by rw [List.length_map, HN.out]; omega)
          injection e4 with e4
          injection e4 with e4 e5
          subst e4 e5
          rw [List.getElem?_map, hf] at hz
          injection hz with hz
          refine ⟨f.key.toNat, by omega, (bz.cell (p := ⟨b3, off3 + (k - 1), none⟩) hlt6).trans ((hj.out.bl.cell (p := ⟨b3, off3 + (k - 1), none⟩) hh3).trans (by rw [hz]; exact cz)), ?_⟩
          rw [hY]; exact HO.out.lt hf hd (by omega))
      clear hb1 hbx hd hl3 hh3 hy cy hY hm bz hj hlt6
      have cK := HCK.out
      have HCNZ := Lib.hid (CN.out.step (Below.refl _ _).drew)
      go_upto_region 7 with fail
      go_cut [40] (fun s40 wx => s40 = .bool false ∧ Hid (Below (wr.alloc (.cells #[.int .u8 x.κ, .slice x.A x.n x.c, .slice x.A2 x.n2 x.c2, .slice x.A3 x.n3 x.c3] 65)).heap.size (wr.alloc (.cells #[.int .u8 x.κ, .slice x.A x.n x.c, .slice x.A2 x.n2 x.c2, .slice x.A3 x.n3 x.c3] 65)) wx))
      case first =>
        rcases HPRE.out with hk0 | ⟨j, Z, hkj, cZ, hZ⟩
        · subst hk0
          have g0 : decide ((0 : Int) > 0) = false := by decide
          have k0 := RX.out.cell 0
          have k1 := RX.out.cell 1
          have k2 := RX.out.cell 2
          have k3 := RX.out.cell 3
          have hSc := (show (fun W => Row W wr.heap.size 65 #[.int .u8 x.κ, .slice x.A x.n x.c, .slice x.A2 x.n2 x.c2, .slice x.A3 x.n3 x.c3]) (wr.alloc (.cells #[.int .u8 x.κ, .slice x.A x.n x.c, .slice x.A2 x.n2 x.c2, .slice x.A3 x.n3 x.c3] 65)).drew from RX.out.below (Below.refl _ _).drew RX.out.lt)
          refine wp_region_held_drew (S := fun W => Row W wr.heap.size 65 #[.int .u8 x.κ, .slice x.A x.n x.c, .slice x.A2 x.n2 x.c2, .slice x.A3 x.n3 x.c3]) (by kernel_rfl) hSc (fun _ => ?_)
          refine held_take 0 ?_ rfl (by kernel_rfl) (by kernel_rfl) (by kernel_rfl) (fun _ _ _ h => h) (by rfl) ?_ hSc ?_
          rotate_left
          · (intro W hSW; go_simp; try rfl)
          try simp only [Act.put, List.setIfInBounds_toArray, List.set_cons_zero, List.set_cons_succ]
          refine held_take 1 ?_ rfl (by kernel_rfl) (by kernel_rfl) (by kernel_rfl) (fun _ _ _ h => h) (by rfl) ?_ hSc ?_
          rotate_left
          · (intro W hSW; go_simp; try rfl)
          try simp only [Act.put, List.setIfInBounds_toArray, List.set_cons_zero, List.set_cons_succ]
          refine held_take 2 ?_ rfl (by kernel_rfl) (by kernel_rfl) (by kernel_rfl) (fun _ _ _ h => h) (by rfl) ?_ hSc ?_
          rotate_left
          · (intro W hSW; go_simp; try rfl)
          try simp only [Act.put, List.setIfInBounds_toArray, List.set_cons_zero, List.set_cons_succ]
          refine held_skip 3 rfl (by kernel_rfl) (by kernel_rfl) (by kernel_rfl) (fun _ _ _ h => h) (by rfl) hSc ?_
          try simp only [Act.put, List.setIfInBounds_toArray, List.set_cons_zero, List.set_cons_succ]
          refine held_skip 4 rfl (by kernel_rfl) (by kernel_rfl) (by kernel_rfl) (fun _ _ _ h => h) (by rfl) hSc ?_
          try simp only [Act.put, List.setIfInBounds_toArray, List.set_cons_zero, List.set_cons_succ]
          refine held_skip 5 rfl (by kernel_rfl) (by kernel_rfl) (by kernel_rfl) (fun _ _ _ h => h) (by rfl) hSc ?_
          try simp only [Act.put, List.setIfInBounds_toArray, List.set_cons_zero, List.set_cons_succ]
          refine held_skip 6 rfl (by kernel_rfl) (by kernel_rfl) (by kernel_rfl) (fun _ _ _ h => h) (by rfl) hSc ?_
          try simp only [Act.put, List.setIfInBounds_toArray, List.set_cons_zero, List.set_cons_succ]
          refine held_skip 7 rfl (by kernel_rfl) (by kernel_rfl) (by kernel_rfl) (fun _ _ _ h => h) (by rfl) hSc ?_
          try simp only [Act.put, List.setIfInBounds_toArray, List.set_cons_zero, List.set_cons_succ]
          refine held_skip 8 rfl (by kernel_rfl) (by kernel_rfl) (by kernel_rfl) (fun _ _ _ h => h) (by rfl) hSc ?_
          try simp only [Act.put, List.setIfInBounds_toArray, List.set_cons_zero, List.set_cons_succ]
          refine held_skip 9 rfl (by kernel_rfl) (by kernel_rfl) (by kernel_rfl) (fun _ _ _ h => h) (by rfl) hSc ?_
          try simp only [Act.put, List.setIfInBounds_toArray, List.set_cons_zero, List.set_cons_succ]
          refine held_skip 10 rfl (by kernel_rfl) (by kernel_rfl) (by kernel_rfl) (fun _ _ _ h => h) (by rfl) hSc ?_
          try simp only [Act.put, List.setIfInBounds_toArray, List.set_cons_zero, List.set_cons_succ]
          refine held_skip 11 rfl (by kernel_rfl) (by kernel_rfl) (by kernel_rfl) (fun _ _ _ h => h) (by rfl) hSc ?_
          try simp only [Act.put, List.setIfInBounds_toArray, List.set_cons_zero, List.set_cons_succ]
          refine held_skip 12 rfl (by kernel_rfl) (by kernel_rfl) (by kernel_rfl) (fun _ _ _ h => h) (by rfl) hSc ?_
          try simp only [Act.put, List.setIfInBounds_toArray, List.set_cons_zero, List.set_cons_succ]
          refine held_take 13 ?_ rfl (by kernel_rfl) (by kernel_rfl) (by kernel_rfl) (fun _ _ _ h => h) (by rfl) ?_ hSc ?_
          rotate_left
          · (intro W hSW; go_simp; try rfl)
          try simp only [Act.put, List.setIfInBounds_toArray, List.set_cons_zero, List.set_cons_succ]
          refine held_take 14 ?_ rfl (by kernel_rfl) (by kernel_rfl) (by kernel_rfl) (fun _ _ _ h => h) (by rfl) ?_ hSc ?_
          rotate_left
          · (intro W hSW; go_simp; try rfl)
          try simp only [Act.put, List.setIfInBounds_toArray, List.set_cons_zero, List.set_cons_succ]
          refine held_take 15 ?_ rfl (by kernel_rfl) (by kernel_rfl) (by kernel_rfl) (fun _ _ _ h => h) (by rfl) ?_ hSc ?_
          rotate_left
          · (intro W hSW; have k0 := hSW.cell 0; have k1 := hSW.cell 1; have k2 := hSW.cell 2; have k3 := hSW.cell 3; go_simp; try rfl)
          try simp only [Act.put, List.setIfInBounds_toArray, List.set_cons_zero, List.set_cons_succ]
          refine held_next 16 rfl (by kernel_rfl) (by rfl) ?_
          go_simp
          refine (len_c _ d.p d.k m _ HM.out HCNZ.out).mono ?_
          rintro e wq1 ⟨rfl, bq⟩
          have B3 := Lib.hid (below_both (Below.refl _ _).drew bq)
          have hSd : (fun W => Row W wr.heap.size 65 #[.int .u8 x.κ, .slice x.A x.n x.c, .slice x.A2 x.n2 x.c2, .slice x.A3 x.n3 x.c3]) wq1 := (hSc.below bq hSc.lt)
          refine ⟨fun W => Row W wr.heap.size 65 #[.int .u8 x.κ, .slice x.A x.n x.c, .slice x.A2 x.n2 x.c2, .slice x.A3 x.n3 x.c3], fun W hW => hW, hSd, ?_⟩
          clear hSc bq
          have hSc := hSd
          clear hSd
          try simp only [Act.put, List.setIfInBounds_toArray, List.set_cons_zero, List.set_cons_succ]
          refine held_take 17 ?_ rfl (by kernel_rfl) (by kernel_rfl) (by kernel_rfl) (fun _ _ _ h => h) (by rfl) ?_ hSc ?_
          rotate_left
          · (intro W hSW; go_simp; try rfl)
          try simp only [Act.put, List.setIfInBounds_toArray, List.set_cons_zero, List.set_cons_succ]
          refine held_take 18 ?_ rfl (by kernel_rfl) (by kernel_rfl) (by kernel_rfl) (fun _ _ _ h => h) (by rfl) ?_ hSc ?_
          rotate_left
          · (intro W hSW; go_simp; try rfl)
          try simp only [Act.put, List.setIfInBounds_toArray, List.set_cons_zero, List.set_cons_succ]
          refine wpAnyH_done (by kernel_rfl) ?_ _
          clear hSc
          go_wp2_with fail
          go_meet
          exact ⟨rfl, B3⟩
        · have g0 : decide ((k : Int) > 0) = true := decide_eq_true (by omega)
          have g0n : decide (k > 0) = true := decide_eq_true (by omega)
          have hkj1 : (k : Int) - 1 = (j : Int) := by omega
          have g1 : decide ((Y : Int) ≤ (Z : Int)) = false := decide_eq_false (by omega)
          have g1n : decide (Y ≤ Z) = false := decide_eq_false (by omega)
          have hjn : (j : Int) < n := by omega
          have hwj : IntKind.i64.wrap (j : Int) = (j : Int) := by rw [IntKind.wrap_i64]; omega
          have k0 := RX.out.cell 0
          have k1 := RX.out.cell 1
          have k2 := RX.out.cell 2
          have k3 := RX.out.cell 3
          clear hkj hZ
          have hSc := (show (fun W => W.cell? ⟨b3, off3 + k, none⟩ = some (.int .u16 Y) ∧ W.cell? ⟨b3, off3 + j, none⟩ = some (.int .u16 Z) ∧ Row W wr.heap.size 65 #[.int .u8 x.κ, .slice x.A x.n x.c, .slice x.A2 x.n2 x.c2, .slice x.A3 x.n3 x.c3]) (wr.alloc (.cells #[.int .u8 x.κ, .slice x.A x.n x.c, .slice x.A2 x.n2 x.c2, .slice x.A3 x.n3 x.c3] 65)).drew from ⟨HCK.out, cZ, RX.out.below (Below.refl _ _).drew RX.out.lt⟩)
          refine wp_region_held_drew (S := fun W => W.cell? ⟨b3, off3 + k, none⟩ = some (.int .u16 Y) ∧ W.cell? ⟨b3, off3 + j, none⟩ = some (.int .u16 Z) ∧ Row W wr.heap.size 65 #[.int .u8 x.κ, .slice x.A x.n x.c, .slice x.A2 x.n2 x.c2, .slice x.A3 x.n3 x.c3]) (by kernel_rfl) hSc (fun _ => ?_)
          refine held_take 0 ?_ rfl (by kernel_rfl) (by kernel_rfl) (by kernel_rfl) (fun _ _ _ h => h) (by rfl) ?_ hSc ?_
          rotate_left
          · (intro W hSW; go_simp; try rfl)
          try simp only [Act.put, List.setIfInBounds_toArray, List.set_cons_zero, List.set_cons_succ]
          refine held_take 1 ?_ rfl (by kernel_rfl) (by kernel_rfl) (by kernel_rfl) (fun _ _ _ h => h) (by rfl) ?_ hSc ?_
          rotate_left
          · (intro W hSW; go_simp; try rfl)
          try simp only [Act.put, List.setIfInBounds_toArray, List.set_cons_zero, List.set_cons_succ]
          refine held_take 2 ?_ rfl (by kernel_rfl) (by kernel_rfl) (by kernel_rfl) (fun _ _ _ h => h) (by rfl) ?_ hSc ?_
          rotate_left
          · (intro W hSW; go_simp; try rfl)
          try simp only [Act.put, List.setIfInBounds_toArray, List.set_cons_zero, List.set_cons_succ]
          refine held_take 3 ?_ rfl (by kernel_rfl) (by kernel_rfl) (by kernel_rfl) (fun _ _ _ h => h) (by rfl) ?_ hSc ?_
          rotate_left
          · (intro W hSW; go_simp; try rfl)
          try simp only [Act.put, List.setIfInBounds_toArray, List.set_cons_zero, List.set_cons_succ]
          refine held_take 4 ?_ rfl (by kernel_rfl) (by kernel_rfl) (by kernel_rfl) (fun _ _ _ h => h) (by rfl) ?_ hSc ?_
          rotate_left
          · (intro W hSW; go_simp; try rfl)
          try simp only [Act.put, List.setIfInBounds_toArray, List.set_cons_zero, List.set_cons_succ]
          refine held_take 5 ?_ rfl (by kernel_rfl) (by kernel_rfl) (by kernel_rfl) (fun _ _ _ h => h) (by rfl) ?_ hSc ?_
          rotate_left
          · (intro W hSW; go_simp; try rfl)
          try simp only [Act.put, List.setIfInBounds_toArray, List.set_cons_zero, List.set_cons_succ]
          refine held_take 6 ?_ rfl (by kernel_rfl) (by kernel_rfl) (by kernel_rfl) (fun _ _ _ h => h) (by rfl) ?_ hSc ?_
          rotate_left
          · (intro W hSW; have kk := hSW.1; go_simp; try rfl)
          try simp only [Act.put, List.setIfInBounds_toArray, List.set_cons_zero, List.set_cons_succ]
          refine held_take 7 ?_ rfl (by kernel_rfl) (by kernel_rfl) (by kernel_rfl) (fun _ _ _ h => h) (by rfl) ?_ hSc ?_
          rotate_left
          · (intro W hSW; go_simp; try rfl)
          try simp only [Act.put, List.setIfInBounds_toArray, List.set_cons_zero, List.set_cons_succ]
          refine held_take 8 ?_ rfl (by kernel_rfl) (by kernel_rfl) (by kernel_rfl) (fun _ _ _ h => h) (by rfl) ?_ hSc ?_
          rotate_left
          · (intro W hSW; go_simp; try rfl)
          try simp only [Act.put, List.setIfInBounds_toArray, List.set_cons_zero, List.set_cons_succ]
          refine held_take 9 ?_ rfl (by kernel_rfl) (by kernel_rfl) (by kernel_rfl) (fun _ _ _ h => h) (by rfl) ?_ hSc ?_
          rotate_left
          · (intro W hSW; go_simp; try rfl)
          try simp only [Act.put, List.setIfInBounds_toArray, List.set_cons_zero, List.set_cons_succ]
          refine held_take 10 ?_ rfl (by kernel_rfl) (by kernel_rfl) (by kernel_rfl) (fun _ _ _ h => h) (by rfl) ?_ hSc ?_
          rotate_left
          · (intro W hSW; go_simp; try rfl)
          try simp only [Act.put, List.setIfInBounds_toArray, List.set_cons_zero, List.set_cons_succ]
          refine held_take 11 ?_ rfl (by kernel_rfl) (by kernel_rfl) (by kernel_rfl) (fun _ _ _ h => h) (by rfl) ?_ hSc ?_
          rotate_left
          · (intro W hSW; have kk := hSW.2.1; go_simp; try rfl)
          try simp only [Act.put, List.setIfInBounds_toArray, List.set_cons_zero, List.set_cons_succ]
          refine held_take 12 ?_ rfl (by kernel_rfl) (by kernel_rfl) (by kernel_rfl) (fun _ _ _ h => h) (by rfl) ?_ hSc ?_
          rotate_left
          · (intro W hSW; go_simp; try rfl)
          try simp only [Act.put, List.setIfInBounds_toArray, List.set_cons_zero, List.set_cons_succ]
          refine held_take 13 ?_ rfl (by kernel_rfl) (by kernel_rfl) (by kernel_rfl) (fun _ _ _ h => h) (by rfl) ?_ hSc ?_
          rotate_left
          · (intro W hSW; go_simp; try rfl)
          try simp only [Act.put, List.setIfInBounds_toArray, List.set_cons_zero, List.set_cons_succ]
          refine held_take 14 ?_ rfl (by kernel_rfl) (by kernel_rfl) (by kernel_rfl) (fun _ _ _ h => h) (by rfl) ?_ hSc ?_
          rotate_left
          · (intro W hSW; go_simp; try rfl)
          try simp only [Act.put, List.setIfInBounds_toArray, List.set_cons_zero, List.set_cons_succ]
          refine held_take 15 ?_ rfl (by kernel_rfl) (by kernel_rfl) (by kernel_rfl) (fun _ _ _ h => h) (by rfl) ?_ hSc ?_
          rotate_left
          · (intro W hSW; have k0 := hSW.2.2.cell 0; have k1 := hSW.2.2.cell 1; have k2 := hSW.2.2.cell 2; have k3 := hSW.2.2.cell 3; go_simp; try rfl)
          try simp only [Act.put, List.setIfInBounds_toArray, List.set_cons_zero, List.set_cons_succ]
          refine held_next 16 rfl (by kernel_rfl) (by rfl) ?_
          go_simp
          refine (len_c _ d.p d.k m _ HM.out HCNZ.out).mono ?_
          rintro e wq1 ⟨rfl, bq⟩
          have B3 := Lib.hid (below_both (Below.refl _ _).drew bq)
          have hSd : (fun W => W.cell? ⟨b3, off3 + k, none⟩ = some (.int .u16 Y) ∧ W.cell? ⟨b3, off3 + j, none⟩ = some (.int .u16 Z) ∧ Row W wr.heap.size 65 #[.int .u8 x.κ, .slice x.A x.n x.c, .slice x.A2 x.n2 x.c2, .slice x.A3 x.n3 x.c3]) wq1 := ⟨(bq.cell (World.block_lt_of_cell? _ _ hSc.1)).trans hSc.1, (bq.cell (World.block_lt_of_cell? _ _ hSc.2.1)).trans hSc.2.1, hSc.2.2.below bq hSc.2.2.lt⟩
          refine ⟨fun W => W.cell? ⟨b3, off3 + k, none⟩ = some (.int .u16 Y) ∧ W.cell? ⟨b3, off3 + j, none⟩ = some (.int .u16 Z) ∧ Row W wr.heap.size 65 #[.int .u8 x.κ, .slice x.A x.n x.c, .slice x.A2 x.n2 x.c2, .slice x.A3 x.n3 x.c3], fun W hW => hW, hSd, ?_⟩
          clear hSc bq
          have hSc := hSd
          clear hSd
          try simp only [Act.put, List.setIfInBounds_toArray, List.set_cons_zero, List.set_cons_succ]
          refine held_take 17 ?_ rfl (by kernel_rfl) (by kernel_rfl) (by kernel_rfl) (fun _ _ _ h => h) (by rfl) ?_ hSc ?_
          rotate_left
          · (intro W hSW; go_simp; try rfl)
          try simp only [Act.put, List.setIfInBounds_toArray, List.set_cons_zero, List.set_cons_succ]
          refine held_take 18 ?_ rfl (by kernel_rfl) (by kernel_rfl) (by kernel_rfl) (fun _ _ _ h => h) (by rfl) ?_ hSc ?_
          rotate_left
          · (intro W hSW; go_simp; try rfl)
          try simp only [Act.put, List.setIfInBounds_toArray, List.set_cons_zero, List.set_cons_succ]
          refine wpAnyH_done (by kernel_rfl) ?_ _
          clear hSc
          go_wp2_with fail
          go_meet
          exact ⟨rfl, B3⟩
      case rest =>
        obtain ⟨rfl, hB6⟩ := hcut
        obtain ⟨W6, e6⟩ := below_world hB6.out
        subst e6
        have HB6X := Lib.hid hB6.out
        have HB6 := Lib.hid (HJ.out.bl.trans ((below_both BZ.out hB6.out).mono HJ.out.bl.size))
        have cK6 : W6.cell? ⟨b3, off3 + k, none⟩ = some (.int .u16 Y) := (hB6.out.cell (Nat.lt_of_lt_of_le HL6.out BZ.out.size)).trans HCK.out
        have RX6 := RX.out.below hB6.out RX.out.lt
        have CN6 := Lib.hid (CN.out.step hB6.out)
        have HNW6 : Hid (∀ y, W6.heap.size ≤ y → N y) := Lib.hid fun y hy => HJ.out.nw y (Nat.le_trans BZ.out.size (Nat.le_trans hB6.out.size hy))
        clear hB6 cK c0 c1 c2 c3 hm0
        go_upto_region 9 with fail
        have hSc := (show (fun W => W.cell? ⟨b3, off3 + k, none⟩ = some (.int .u16 Y) ∧ Row W wr.heap.size 65 #[.int .u8 x.κ, .slice x.A x.n x.c, .slice x.A2 x.n2 x.c2, .slice x.A3 x.n3 x.c3]) W6.drew from ⟨cK6, RX6⟩)
        refine wp_region_held_drew (S := fun W => W.cell? ⟨b3, off3 + k, none⟩ = some (.int .u16 Y) ∧ Row W wr.heap.size 65 #[.int .u8 x.κ, .slice x.A x.n x.c, .slice x.A2 x.n2 x.c2, .slice x.A3 x.n3 x.c3]) (by kernel_rfl) hSc (fun _ => ?_)
        refine held_take 0 ?_ rfl (by kernel_rfl) (by kernel_rfl) (by kernel_rfl) (fun _ _ _ h => h) (by rfl) ?_ hSc ?_
        rotate_left
        · (intro W hSW; go_simp; try rfl)
        try simp only [Act.put, List.setIfInBounds_toArray, List.set_cons_zero, List.set_cons_succ]
        refine held_take 1 ?_ rfl (by kernel_rfl) (by kernel_rfl) (by kernel_rfl) (fun _ _ _ h => h) (by rfl) ?_ hSc ?_
        rotate_left
        · (intro W hSW; go_simp; try rfl)
        try simp only [Act.put, List.setIfInBounds_toArray, List.set_cons_zero, List.set_cons_succ]
        refine held_take 2 ?_ rfl (by kernel_rfl) (by kernel_rfl) (by kernel_rfl) (fun _ _ _ h => h) (by rfl) ?_ hSc ?_
        rotate_left
        · (intro W hSW; go_simp; try rfl)
        try simp only [Act.put, List.setIfInBounds_toArray, List.set_cons_zero, List.set_cons_succ]
        refine held_take 3 ?_ rfl (by kernel_rfl) (by kernel_rfl) (by kernel_rfl) (fun _ _ _ h => h) (by rfl) ?_ hSc ?_
        rotate_left
        · (intro W hSW; go_simp; try rfl)
        try simp only [Act.put, List.setIfInBounds_toArray, List.set_cons_zero, List.set_cons_succ]
        refine held_take 4 ?_ rfl (by kernel_rfl) (by kernel_rfl) (by kernel_rfl) (fun _ _ _ h => h) (by rfl) ?_ hSc ?_
        rotate_left
        · (intro W hSW; have kk := hSW.1; go_simp; try rfl)
        try simp only [Act.put, List.setIfInBounds_toArray, List.set_cons_zero, List.set_cons_succ]
        refine held_take 5 ?_ rfl (by kernel_rfl) (by kernel_rfl) (by kernel_rfl) (fun _ _ _ h => h) (by rfl) ?_ hSc ?_
        rotate_left
        · (intro W hSW; have k0 := hSW.2.cell 0; have k1 := hSW.2.cell 1; have k2 := hSW.2.cell 2; have k3 := hSW.2.cell 3; go_simp; try rfl)
        try simp only [Act.put, List.setIfInBounds_toArray, List.set_cons_zero, List.set_cons_succ]
        refine held_next 6 rfl (by kernel_rfl) (by rfl) ?_
        go_simp
        refine (canonical_c x.val d.p d.k W6.drew (TT.out.step (HB6.out.drew)) (fun y hy => HNW6.out y hy) (CN6.out.step (Below.refl _ _).drew)).mono ?_
        rintro e wq1 ⟨v7, rfl, cn7, bq⟩
        obtain ⟨κ, A5, n5, d5, A6, n6, d6, A7, n7, d7, rfl⟩ := cn7.form
        have B7 := Lib.hid (below_both (Below.refl W6.heap.size W6).drew bq)
        have SX7 := HJ.out.sx.step (below_both (below_both BZ.out HB6X.out) B7.out)
        have HSX7 := Lib.hid SX7
        have hpb := HO.out.bk d (List.mem_of_getElem? HD.out)
        have CN7 := Lib.hid (show Cn N wq1 (Bd.val ⟨κ, A5, n5, d5, A6, n6, d6, A7, n7, d7⟩) (blk P Y) (ck (blk P Y)) by
          rw [HY.out, ← ck_ext hpb]
          exact cn7.ext hpb)
        clear hpb SX7
        have hSd : (fun W => W.cell? ⟨b3, off3 + k, none⟩ = some (.int .u16 Y) ∧ Row W wr.heap.size 65 #[.int .u8 x.κ, .slice x.A x.n x.c, .slice x.A2 x.n2 x.c2, .slice x.A3 x.n3 x.c3]) wq1 := ⟨(bq.cell (World.block_lt_of_cell? _ _ hSc.1)).trans hSc.1, hSc.2.below bq hSc.2.lt⟩
        refine ⟨fun W => W.cell? ⟨b3, off3 + k, none⟩ = some (.int .u16 Y) ∧ Row W wr.heap.size 65 #[.int .u8 x.κ, .slice x.A x.n x.c, .slice x.A2 x.n2 x.c2, .slice x.A3 x.n3 x.c3], fun W hW => hW, hSd, ?_⟩
        clear hSc bq cn7
        have hSc := hSd
        clear hSd
        try simp only [Act.put, List.setIfInBounds_toArray, List.set_cons_zero, List.set_cons_succ]
        refine held_next 7 rfl (by kernel_rfl) (by rfl) ?_
        go_simp
        refine (put_c (.pointer (some ⟨b, 0, none⟩)) s P b (nxk cs k) Y es ⟨κ, A5, n5, d5, A6, n6, d6, A7, n7, d7⟩ wq1 HSX7.out (by rw [HY.out]; exact HO.out.nxk_le HD.out) (by rw [HY.out]; exact d.key.toNat_lt) (by rw [HY.out]; exact HO.out.gap HD.out) CN7.out).mono ?_
        rintro e w8 ⟨rfl, ⟨N', s', es', sx', nx', ow'⟩, off⟩
        have hM : ∀ y, y = b ∨ s.ownBlock = some y → w.heap.size ≤ y ∧ y < wr.heap.size := fun y hy => by
          rcases hy with rfl | hy
          · exact ⟨HJ.out.wb, HJ.out.sx.box.lt⟩
          · exact ⟨HJ.out.ow y hy, own_lt HJ.out.sx y hy⟩
        have hS8 : (fun W => W.cell? ⟨b3, off3 + k, none⟩ = some (.int .u16 Y) ∧ Row W wr.heap.size 65 #[.int .u8 x.κ, .slice x.A x.n x.c, .slice x.A2 x.n2 x.c2, .slice x.A3 x.n3 x.c3]) w8 := ⟨(World.cell?_of_block (off.block b3 (World.block_lt_of_cell? _ _ hSc.1) (fun hm => by have := (hM _ hm).1; have := HBW.out; omega))).trans hSc.1, hSc.2.keep (off.block _ hSc.2.lt (fun hm => by have := (hM _ hm).2; omega))⟩
        have BQ := below_both (below_both BZ.out HB6X.out) B7.out
        have HJ9 : Hid (Jn w w8 P cs bs b (k + 1) N' s' es') := Lib.hid ⟨by
            rw [nxk_succ HD.out, ← HY.out]; exact sx', fun i x c h1 h2 => (((HJ.out.cn i x c h1 h2).step BQ).mono (N' := N') nx'.old).keep off.size (fun q hq hlt => World.cell?_of_block (off.block _ hlt (fun hm => by
              have hq2 := nx'.sub _ hq
              rcases hm with e | e
              · exact HSX7.out.nb (e ▸ hq2)
              · exact HSX7.out.ns _ e hq2))), fun y hy => nx'.new y hy (HJ.out.nw y (Nat.le_trans BQ.size (Nat.le_trans off.size hy))), HJ.out.wb, fun y hy => by
              rcases ow' with e | ⟨z, e, hz⟩
              · rw [e] at hy; exact HJ.out.ow y hy
              · rw [hy] at e; injection e with e; have := HJ.out.bl.size; have := BQ.size; omega, (HJ.out.bl.trans (BQ.mono HJ.out.bl.size)).trans (off.below (fun y _ hm => (hM y hm).1) (Nat.le_trans HJ.out.bl.size BQ.size))⟩
        refine ⟨fun W => W.cell? ⟨b3, off3 + k, none⟩ = some (.int .u16 Y) ∧ Row W wr.heap.size 65 #[.int .u8 x.κ, .slice x.A x.n x.c, .slice x.A2 x.n2 x.c2, .slice x.A3 x.n3 x.c3], fun W hW => hW, hS8, ?_⟩
        refine wpAnyH_done (by kernel_rfl) ?_ _
        clear hSc hS8 sx' nx' ow' off hM BQ
        go_wp2
        exact ⟨⟨k + 1, N', s', es', by omega, by go_num, HJ9⟩, by simp [intOf]; omega⟩
    · obtain rfl : k = n := by omega
      have hK : nxk cs k ≤ 65536 := by
        cases k with
        | zero => exact Nat.zero_le _
        | succ k =>
          obtain ⟨f, hf⟩ : ∃ f, cs[k]? = some f := ⟨_, List.getElem?_eq_getElem (by rw [HN.out]; omega)⟩
          rw [nxk_succ hf]
          exact f.key.toNat_lt
      have HST := Lib.hid (((hj.out.sx.skip hK (by rw [← HN.out]; exact HO.out.rest)).st).mono (N' := fun _ => True) fun _ _ _ => trivial)
      have HB := Lib.hid hj.out.bl
      clear hj hK
      go_wp2
      go_ret2
      exact ⟨b, rfl, HST.out, HB.out⟩
end Go.Proofs.YtponcpneflhpfaaGreatDoor
namespace Go.Proofs.YtponcpneflhpfaaGreatDoor
open Go.RowKit
set_option linter.unusedVariables false

theorem ahed_eq (cs : List Ct) : ahed cs = cool cs + 4 * cs.length + ofsl cs := rfl
theorem Tb.grown {w w' : World} {g : Nat} (h : Tb w) (hg : w.grownBy w' (some g)) (hlt : 0 < g) : Tb w' := by
  have hne : (some 0 : Option Nat) ≠ some g := fun e => by injection e with e; omega
  exact ⟨Nat.lt_of_lt_of_le h.1 hg.size, fun j hj => (World.cell?_of_block (hg.block _ h.1 hne)).trans (h.2 j hj)⟩
def Stp (w wr : World) (g : Nat) (vb : Value) (L : List UInt8) (cs : List Ct) (k : Nat) : Prop := w.grownBy wr (some g) ∧ match k with
  | 0 => Row wr g 169 #[vb, .int .i64 0, .int .i64 0, .bool false, .slice none 0 0, .slice none 0 0, .slice none 0 0, .slice none 0 0]
  | 1 => cool cs ≤ L.length ∧ ∃ vf, Row wr g 169 #[vb, .int .i64 (cool cs), .int .i64 cs.length, .bool (anyr cs), vf, .slice none 0 0, .slice none 0 0, .slice none 0 0] ∧ Fl wr g (anyr cs) vf (flg (fbit cs) ((cs.length + 7) / 8))
  | 2 => cool cs + 4 * cs.length ≤ L.length ∧ ∃ vf vk vc, Row wr g 169 #[vb, .int .i64 (cool cs + 4 * cs.length : Nat), .int .i64 cs.length, .bool (anyr cs), vf, vk, vc, .slice none 0 0] ∧ Fl wr g (anyr cs) vf (flg (fbit cs) ((cs.length + 7) / 8)) ∧
      Gs e16 wr (g + 1) wr.heap.size vk (cs.map Ct.key) ∧ Gs eI wr (g + 1) wr.heap.size vc (cs.map Ct.n)
  | _ => ahed cs ≤ L.length ∧ ∃ vf vk vc vo, Ih wr g vb (ahed cs) cs vf vk vc vo
/-- What is had of an image that is read by 'set'. -/
def SetAns (w : World) (g : Nat) (L : List UInt8) (P : Nat → Bool) (cs : List Ct) (e : Ending) (w' : World) : Prop :=
  w.grownBy w' (some g) ∧ ((L.length < (img cs).length ∧ e = .returned (.tuple #[.pointer none, .int .i64 4])) ∨
    ((img cs).length ≤ L.length ∧ (∃ b, e = .returned (.tuple #[.pointer (some ⟨b, 0, none⟩), .int .i64 0]) ∧ St (fun _ => True) w' (.pointer (some ⟨b, 0, none⟩)) P) ∧ w'.cell? ⟨g, 1, none⟩ = some (.int .i64 (img cs).length)))
set_option maxRecDepth 100000 in
set_option maxHeartbeats 16000000 in
theorem set_c {g c : Nat} {A : Option Addr} {L rest : List UInt8} (P : Nat → Bool) (cs : List Ct) (w : World) (hT : Tb w) (htg : 0 < g) (h : Row w g 169 #[.slice A L.length c, .int .i64 0, .int .i64 0, .bool false, .slice none 0 0, .slice none 0 0, .slice none 0 0, .slice none 0 0]) (hb : Gs e8 w 0 g (.slice A L.length c) L) (hl : L.length ≤ 10000000) (hO : OfP P cs) (ha : Ag L (img cs ++ rest)) (hz : ahed cs + szs cs ≤ 40000000) :
    Calls Tryz.prog 125 #[.pointer (some ⟨g, 0, none⟩)] w (SetAns w g L P cs) := by
  have hg := h.lt
  have H := Lib.hid h
  have HB := Lib.hid hb
  have HGW := Lib.hid hg
  have HO := Lib.hid hO
  have TT := Lib.hid hT
  have HTG := Lib.hid htg
  have HZ := Lib.hid hz
  have hn := hO.len
  have ha1 : Ag L (coo cs ++ (hdr cs ++ (ofs cs ++ (bodies cs ++ rest)))) := by unfold img at ha; simpa [List.append_assoc] using ha
  have HA := Lib.hid ha1
  have HN := Lib.hid hn
  clear h hb ha ha1 hT htg hz hg hO hn
  go_enter Tryz.func125, Tryz.ntmps125
  go_wp2_with fail
  have IX : Hid (∀ W : World, (Instr.index 223 (.agg #[.func (.func 199) #[.pointer (some ⟨g, 0, none⟩)] #[], .func (.func 200) #[.pointer (some ⟨g, 0, none⟩)] #[], .func (.func 201) #[.pointer (some ⟨g, 0, none⟩)] #[]]) (.int .i64 0)).run Tryz.prog W = .ok (.func (.func 199) #[.pointer (some ⟨g, 0, none⟩)] #[]) W ∧
      (Instr.index 223 (.agg #[.func (.func 199) #[.pointer (some ⟨g, 0, none⟩)] #[], .func (.func 200) #[.pointer (some ⟨g, 0, none⟩)] #[], .func (.func 201) #[.pointer (some ⟨g, 0, none⟩)] #[]]) (.int .i64 1)).run Tryz.prog W = .ok (.func (.func 200) #[.pointer (some ⟨g, 0, none⟩)] #[]) W ∧
      (Instr.index 223 (.agg #[.func (.func 199) #[.pointer (some ⟨g, 0, none⟩)] #[], .func (.func 200) #[.pointer (some ⟨g, 0, none⟩)] #[], .func (.func 201) #[.pointer (some ⟨g, 0, none⟩)] #[]]) (.int .i64 2)).run Tryz.prog W = .ok (.func (.func 201) #[.pointer (some ⟨g, 0, none⟩)] #[]) W) := Lib.hid fun _ => ⟨by kernel_rfl, by kernel_rfl, by kernel_rfl⟩
  go_loopw [16] (fun s16 wr => ∃ (k : Nat), k ≤ 3 ∧ s16 = .int .i64 k ∧ Hid (Stp w wr g (.slice A L.length c) L cs k)) (fun s16 _ => 3 - (intOf s16).toNat)
  case atStart => exact ⟨0, by omega, rfl, Lib.hid ⟨World.grownBy.refl _ _, H.out⟩⟩
  case round =>
    obtain ⟨k, hk, rfl, hj⟩ := hrel
    have HBR := Lib.hid (HB.out.grown hj.out.1 (Nat.le_of_lt HGW.out) (fun j e => by injection e with e; exact .inr (Nat.le_of_eq e)))
    rcases (by omega : k = 0 ∨ k = 1 ∨ k = 2 ∨ k = 3) with rfl | rfl | rfl | rfl
    · have i0 := fun W => (IX.out W).1
      go_wp2_with fail
      refine (readCookie_c cs wr hj.out.2 HBR.out hl HA.out HN.out).mono ?_
      rintro e w2 ⟨vf, hP, hF⟩
      rcases hP with ⟨h1, rfl, hg⟩ | ⟨h1, rfl, hr2, hg⟩
      · have HS := Lib.hid (show L.length < (img cs).length by rw [img_len]; have := ahed_eq cs; omega)
        have HG := Lib.hid (hj.out.1.trans hg)
        clear hj h1 hg hF
        go_wp2
        go_ret2
        exact ⟨HG.out, .inl ⟨HS.out, rfl⟩⟩
      · rw [Nat.zero_add] at h1 hr2
        have HX : Hid (Stp w w2 g (.slice A L.length c) L cs 1) := Lib.hid ⟨hj.out.1.trans hg, h1, vf, hr2, hF h1⟩
        clear hj h1 hg hr2 hF
        go_wp2
        exact ⟨⟨1, by omega, by go_num, HX⟩, by simp [intOf]⟩
    · obtain ⟨hq, vf, hr, hF⟩ := hj.out.2
      have i0 := fun W => (IX.out W).2.1
      go_wp2_with fail
      refine (readHeader_c cs wr hr HBR.out hq hl rfl (HA.out.cut_at (coo_len cs) hq).2 HN.out HO.out.ok HO.out.rising).mono ?_
      intro e w2 hP
      rcases hP with ⟨h1, rfl, hg⟩ | ⟨h1, rfl, hg, vk, vc, hr2, hks, hns⟩
      · have HS := Lib.hid (show L.length < (img cs).length by rw [img_len]; have := ahed_eq cs; omega)
        have HG := Lib.hid (hj.out.1.trans hg)
        clear hj h1 hg hF hr hq
        go_wp2
        go_ret2
        exact ⟨HG.out, .inl ⟨HS.out, rfl⟩⟩
      · have HX : Hid (Stp w w2 g (.slice A L.length c) L cs 2) := Lib.hid ⟨hj.out.1.trans hg, h1, vf, vk, vc, hr2, fun e => (hF e).img hg, hks, hns⟩
        clear hj h1 hg hr2 hF hks hns hr hq
        go_wp2
        exact ⟨⟨2, by omega, by go_num, HX⟩, by simp [intOf]⟩
    · obtain ⟨hq, vf, vk, vc, hr, hF, hks, hns⟩ := hj.out.2
      have ha2 := ((HA.out.cut_at (coo_len cs) (by omega)).2.cut_at (hdr_len cs) (by rw [List.length_drop]; omega)).2
      rw [List.drop_drop] at ha2
      have HA2 := Lib.hid ha2
      clear ha2
      have i0 := fun W => (IX.out W).2.2
      go_wp2_with fail
      refine (readOffsets_c cs wr hr HBR.out hq hl rfl rfl HA2.out HN.out HZ.out).mono ?_
      intro e w2 hP
      rcases hP with ⟨h1, rfl, hg⟩ | ⟨h1, rfl, hg, vo, hr2, hos⟩
      · have HS := Lib.hid (show L.length < (img cs).length by rw [img_len]; have := ahed_eq cs; omega)
        have HG := Lib.hid (hj.out.1.trans hg)
        clear hj h1 hg hF hr hq hks hns
        go_wp2
        go_ret2
        exact ⟨HG.out, .inl ⟨HS.out, rfl⟩⟩
      · have HX : Hid (Stp w w2 g (.slice A L.length c) L cs 3) := Lib.hid ⟨hj.out.1.trans hg, h1, vf, vk, vc, vo, ⟨hr2, fun e => (hF e).img hg, hks.img hg, hns.img hg, hos⟩⟩
        clear hj h1 hg hr2 hF hks hns hos hr hq
        go_wp2
        exact ⟨⟨3, by omega, by go_num, HX⟩, by simp [intOf]⟩
    · obtain ⟨hq, vf, vk, vc, vo, hi⟩ := hj.out.2
      have ha2 := ((HA.out.cut_at (coo_len cs) (by have := ahed_eq cs; omega)).2.cut_at (hdr_len cs) (by rw [List.length_drop]; have := ahed_eq cs; omega)).2
      rw [List.drop_drop] at ha2
      have ha3 := (ha2.cut_at (ofs_len cs) (by rw [List.length_drop]; have := ahed_eq cs; omega)).2
      rw [List.drop_drop, ← ahed_eq] at ha3
      have HA3 := Lib.hid ha3
      clear ha2 ha3
      go_wp2_with fail
      refine (icontainers_c cs wr hi rfl HBR.out hq hl rfl HN.out HA3.out HZ.out).mono ?_
      intro e w2 hP
      rcases hP with ⟨h1, rfl, hg⟩ | ⟨h1, ⟨lv, bs, rfl, hcl⟩, hi2, hg⟩
      · have HS := Lib.hid (show L.length < (img cs).length by rw [img_len]; have := ahed_eq cs; omega)
        have HG := Lib.hid (hj.out.1.trans hg)
        clear hj h1 hg hi hq
        go_wp2
        go_ret2
        exact ⟨HG.out, .inl ⟨HS.out, rfl⟩⟩
      · have HI := Lib.hid hi2
        have HG := Lib.hid (hj.out.1.trans hg)
        have HL := Lib.hid (show (img cs).length ≤ L.length by rw [img_len]; omega)
        have HCL := Lib.hid hcl
        have c5 := hi2.row.cell 5
        clear hj h1 hg hi2 hcl hi hq
        go_wp2_with fail
        refine (join_c vk lv P bs cs w2 (TT.out.grown HG.out HTG.out) HO.out (HI.out.ks.more (Nat.zero_le _) (Nat.le_refl _)) HCL.out).mono ?_
        rintro e w3 ⟨b, rfl, hst, b3⟩
        have HST := Lib.hid hst
        have HG3 := Lib.hid (grown_below HG.out b3)
        have HC1 := Lib.hid ((b3.cell (p := ⟨g, 1, none⟩) HI.out.row.lt).trans (HI.out.row.cell 1))
        clear hst b3 c5
        go_wp2
        go_ret2
        exact ⟨HG3.out, .inr ⟨HL.out, ⟨b, rfl, HST.out⟩, by rw [img_len]; exact HC1.out⟩⟩
end Go.Proofs.YtponcpneflhpfaaGreatDoor
