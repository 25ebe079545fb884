/- Walks: the header of an image is read. -/
import Derived.Test.YtponcpneflhpfaaGreatDoorSd5
import Derived.Deep.DeepCutAuto
namespace Go.Proofs.YtponcpneflhpfaaGreatDoor
open Go.RowKit
set_option linter.unusedVariables false

theorem hdr_at (cs : List Ct) {k : Nat} {c : Ct} (h : cs[k]? = some c) : ((hdr cs).drop (4 * k)).take 2 = le 2 c.key.toNat ∧ ((hdr cs).drop (4 * k + 2)).take 2 = le 2 (c.n - 1) := by
  have h4 := flat_at 4 (fun c : Ct => le 2 c.key.toNat ++ le 2 (c.n - 1)) (fun x => by rw [List.length_append, le_length, le_length]) h
  constructor
  · have := congrArg (List.take 2) h4
    rw [List.take_take, show min 2 4 = 2 from rfl] at this
    unfold hdr
    rw [this, List.take_append_of_le_length (by rw [le_length]; exact Nat.le_refl _), List.take_of_length_le (by rw [le_length]; exact Nat.le_refl _)]
  · have := congrArg (List.drop 2) h4
    rw [List.drop_take, List.drop_drop, show (4 - 2 : Nat) = 2 from rfl] at this
    unfold hdr
    rw [this, List.drop_append, List.drop_of_length_le (by rw [le_length]; exact Nat.le_refl _), le_length, Nat.sub_self]
    rfl
theorem hdr16_key {base gr : Nat} {v : Value} (cs : List Ct) {k : Nat} {c : Ct} (hc : cs[k]? = some c) (w : World) (h : Rd w base gr v (hdr cs) (4 * k) false) :
    Calls Tryz.prog 254 #[.pointer (some ⟨gr, 0, none⟩)] w fun e w' => e = .returned (.int .u16 c.key.toNat) ∧ Rd w' base gr v (hdr cs) (4 * k + 2) false ∧ w.grownBy w' (some gr) := by
  have hk := (List.getElem?_eq_some_iff.1 hc).1
  have := U16_yes w h (by rw [hdr_len]; omega)
  rw [(hdr_at cs hc).1, leVal_le 2 _ (by have := c.key.toNat_lt; omega)] at this
  exact this
theorem hdr16_n {base gr : Nat} {v : Value} (cs : List Ct) {k : Nat} {c : Ct} (hc : cs[k]? = some c) (w : World) (h : Rd w base gr v (hdr cs) (4 * k + 2) false) :
    Calls Tryz.prog 254 #[.pointer (some ⟨gr, 0, none⟩)] w fun e w' => e = .returned (.int .u16 (c.n - 1 : Nat)) ∧ Rd w' base gr v (hdr cs) (4 * (k + 1)) false ∧ w.grownBy w' (some gr) := by
  have hk := (List.getElem?_eq_some_iff.1 hc).1
  have := U16_yes w h (by rw [hdr_len]; omega)
  rw [(hdr_at cs hc).2, leVal_le 2 _ (by have := c.n_le; omega), show 4 * k + 2 + 2 = 4 * (k + 1) by omega] at this
  exact this
theorem take_map {β : Type} {f : Ct → β} {cs : List Ct} {k : Nat} {d : Ct} (h : cs[k]? = some d) : (cs.take (k + 1)).map f = (cs.take k).map f ++ [f d] := by
  rw [List.take_add_one, h, List.map_append]; rfl
/-- Keys that rise. -/
def Rising (cs : List Ct) : Prop := ∀ (i : Nat) (c d : Ct), cs[i]? = some c → cs[i + 1]? = some d → c.key.toNat < d.key.toNat
def HdrAns (w : World) (g : Nat) (vb : Value) (L : List UInt8) (q : Nat) (cs : List Ct) (r : Bool) (vf vo : Value) (e : Ending) (w' : World) : Prop :=
  (L.length < q + 4 * cs.length ∧ e = .returned (.int .i64 4) ∧ w.grownBy w' (some g)) ∨
  (q + 4 * cs.length ≤ L.length ∧ e = .returned (.int .i64 0) ∧ w.grownBy w' (some g) ∧ ∃ vk vc, Row w' g 169 #[vb, .int .i64 (q + 4 * cs.length : Nat), .int .i64 cs.length, .bool r, vf, vk, vc, vo] ∧
    Gs e16 w' (g + 1) w'.heap.size vk (cs.map Ct.key) ∧ Gs eI w' (g + 1) w'.heap.size vc (cs.map Ct.n))
set_option maxHeartbeats 16000000 in
theorem readHeader_c {g q n : Nat} {r : Bool} {A : Option Addr} {c : Nat} {vf vo : Value} {L rest : List UInt8} (cs : List Ct) (w : World) (h : Row w g 169 #[.slice A L.length c, .int .i64 q, .int .i64 n, .bool r, vf, .slice none 0 0, .slice none 0 0, vo]) (hb : Gs e8 w 0 g (.slice A L.length c) L) (hq : q ≤ L.length) (hl : L.length ≤ 10000000) (hcn : cs.length = n) (ha : Ag (L.drop q) (hdr cs ++ rest)) (hn : n ≤ 65536) (hok : ∀ c ∈ cs, c.ok) (hri : Rising cs) :
    Calls Tryz.prog 200 #[.pointer (some ⟨g, 0, none⟩)] w (HdrAns w g (.slice A L.length c) L q cs r vf vo) := by
  have hg := h.lt
  have hsh := fun W => shheader_c n r W hn
  have k2 := h.cell 2
  have k3 := h.cell 3
  have HSH := Lib.hid hsh
  have hni : (n : Int) ≤ 65536 := by omega
  by_cases hs : L.length < q + 4 * n
  · have HC := Lib.hid (fun (W : World) (hR : Row W g 169 #[.slice A L.length c, .int .i64 q, .int .i64 n, .bool r, vf, .slice none 0 0, .slice none 0 0, vo]) => next_no (s := 4 * n) W hR hq hs hl)
    have H := Lib.hid h
    have HCN := Lib.hid hcn
    clear h hb ha hsh hok hri hcn
    go_enter Tryz.func200, Tryz.ntmps200
    go_wp2_with fail
    refine (HSH.out w).mono ?_
    rintro e w0 ⟨rfl, b0⟩
    have B0 := Lib.hid b0
    clear b0
    go_wp2_with fail
    refine (HC.out w0 (H.out.below B0.out H.out.lt)).mono ?_
    rintro e w1 ⟨rfl, b1⟩
    have b2 := below_both B0.out b1
    have HG : Hid (w.grownBy w1 (some g)) := Lib.hid ⟨b2.os, b2.tape, b2.output, b2.size, fun j hj _ => b2.block j hj⟩
    clear b1 b2
    go_wp2
    go_ret
    exact .inl ⟨by rw [HCN.out]; exact hs, rfl, HG.out⟩
  · have HC := Lib.hid (fun (W : World) (hR : Row W g 169 #[.slice A L.length c, .int .i64 q, .int .i64 n, .bool r, vf, .slice none 0 0, .slice none 0 0, vo]) (hD : Gs e8 W 0 g (.slice A L.length c) L) => next_yes (s := 4 * n) W hR hD (by omega) hl)
    have hp := (ha.cut_at (n := 4 * n) (by rw [hdr_len, hcn]) (by rw [List.length_drop]; omega)).1
    have HP := Lib.hid hp
    have H := Lib.hid h
    have HB := Lib.hid hb
    have HCN := Lib.hid hcn
    have HOK := Lib.hid hok
    have HRI := Lib.hid hri
    have HMS := Lib.hid hs
    obtain ⟨vb, hvb⟩ : ∃ vb, vb = Value.slice A L.length c := ⟨_, rfl⟩
    clear h hb ha hsh hok hri hcn hp hs
    go_enter Tryz.func200, Tryz.ntmps200
    go_wp2_with fail
    refine (HSH.out w).mono ?_
    rintro e w0 ⟨rfl, b0⟩
    have B0 := Lib.hid b0
    clear b0
    go_wp2_with fail
    refine (HC.out w0 (H.out.below B0.out H.out.lt) (HB.out.below (B0.out.mono (Nat.le_of_lt hg)))).mono ?_
    rintro e w1 ⟨gr, vr, rfl, r1, rd1, g1⟩
    rw [HP.out] at rd1
    have k2 := r1.cell 2
    rw [← hvb] at r1
    have HS0 : Hid (Hs w w1 g gr w0.heap.size w1.heap.size (q + 4 * n) n r vb vf (.slice none 0 0) (.slice none 0 0) vo vr (hdr cs) (0) [] []) := Lib.hid ⟨r1, Gw.nil_ _ _, Gw.nil_ _ _, rd1, grown_start B0.out g1, hg, Nat.le_trans B0.out.size rd1.ge, Nat.lt_of_lt_of_le hg B0.out.size, rd1.lt, fun x hx => (rd1.own.lt x hx).2, Nat.le_refl _⟩
    have HVB := Lib.hid hvb
    rw [← hvb]
    clear r1 rd1 g1 hvb
    go_wp2
    go_loopw [23] (fun s23 wr => ∃ (k : Nat) (vk vc : Value), k ≤ n ∧ s23 = .int .i64 k ∧ Hid (Hs w wr g gr w0.heap.size w1.heap.size (q + 4 * n) n r vb vf vk vc vo vr (hdr cs) (4 * k) ((cs.take k).map Ct.key) ((cs.take k).map Ct.n))) (fun s23 _ => n - (intOf s23).toNat)
    case atStart => exact ⟨0, _, _, Nat.zero_le _, rfl, Lib.hid (by simpa using HS0.out)⟩
    case round =>
      obtain ⟨k, vk, vc, hk, rfl, hj⟩ := hrel
      have HJ := Lib.hid hj.out
      by_cases hlt : k < n
      · obtain ⟨d, hd⟩ : ∃ d, cs[k]? = some d := ⟨_, List.getElem?_eq_getElem (by rw [HCN.out]; exact hlt)⟩
        have hkl : (k : Int) < n := by omega
        have HD := Lib.hid hd
        obtain ⟨A5, n5, d5, rfl⟩ := gw_slice HJ.out.ks
        obtain ⟨A6, n6, d6, rfl⟩ := gw_slice HJ.out.ns
        have c5 := HJ.out.row.cell 5
        have f5 := HJ.out.row.frozen 5
        clear hj hd
        go_upto_region 7 with fail
        go_cut [26] (fun s26 wx => s26 = .pointer (some ⟨g, 0, none⟩) ∧ Hid (∃ v', Hs w wx g gr w0.heap.size w1.heap.size (q + 4 * n) n r vb vf v' (.slice A6 n6 d6) vo vr (hdr cs) (4 * k + 2) ((cs.take (k + 1)).map Ct.key) ((cs.take k).map Ct.n)))
        case first =>
          have hSc := (show w1.heap.size ≤ wr.drew.heap.size from HJ.out.Bw)
          refine wp_region_held_drew (S := fun W => w1.heap.size ≤ W.heap.size) (by kernel_rfl) hSc (fun _ => ?_)
          refine held_take 0 ?_ rfl (by kernel_rfl) (by kernel_rfl) (by kernel_rfl) (fun _ _ _ h => h) (by rfl) ?_ hSc ?_
          rotate_left
          · (intro W hSW; go_simp; try rfl)
          try simp only [Act.put, List.setIfInBounds_toArray, List.set_cons_zero, List.set_cons_succ]
          refine held_take 1 ?_ rfl (by kernel_rfl) (by kernel_rfl) (by kernel_rfl) (fun _ _ _ h => h) (by rfl) ?_ hSc ?_
          rotate_left
          · (intro W hSW; go_simp; try rfl)
          try simp only [Act.put, List.setIfInBounds_toArray, List.set_cons_zero, List.set_cons_succ]
          refine held_take 2 ?_ rfl (by kernel_rfl) (by kernel_rfl) (by kernel_rfl) (fun _ _ _ h => h) (by rfl) ?_ hSc ?_
          rotate_left
          · (intro W hSW; go_simp; try rfl)
          try simp only [Act.put, List.setIfInBounds_toArray, List.set_cons_zero, List.set_cons_succ]
          refine held_take 3 ?_ rfl (by kernel_rfl) (by kernel_rfl) (by kernel_rfl) (fun _ _ _ h => h) (by rfl) ?_ hSc ?_
          rotate_left
          · (intro W hSW; go_simp; try rfl)
          try simp only [Act.put, List.setIfInBounds_toArray, List.set_cons_zero, List.set_cons_succ]
          refine held_take 5 ?_ rfl (by kernel_rfl) (by kernel_rfl) (by kernel_rfl) (fun _ _ _ h => h) (by rfl) ?_ hSc ?_
          rotate_left
          · (intro W hSW; go_simp; try rfl)
          try simp only [Act.put, List.setIfInBounds_toArray, List.set_cons_zero, List.set_cons_succ]
          refine held_two 4 6 rfl rfl (by kernel_rfl) (by rfl) (by rfl) ?_ ?_
          · go_simp
            refine ⟨fun W => w1.heap.size ≤ W.heap.size, fun W hW => hW, hSc, ?_⟩
            try simp only [Act.put, List.setIfInBounds_toArray, List.set_cons_zero, List.set_cons_succ]
            refine held_next 6 rfl (by kernel_rfl) (by rfl) ?_
            go_simp
            refine (hdr16_key cs HD.out wr.drew HJ.out.drew.rd).mono ?_
            rintro e wq ⟨rfl, rd, gq⟩
            have HQ := Lib.hid (HJ.out.drew.read rd gq)
            have c5 := HQ.out.row.cell 5
            have f5 := HQ.out.row.frozen 5
            clear rd gq
            have hSd := (show w1.heap.size ≤ wq.heap.size from HQ.out.Bw)
            refine ⟨fun W => w1.heap.size ≤ W.heap.size, fun W hW => hW, hSd, ?_⟩
            clear hSc 
            have hSc := hSd
            clear hSd
            try simp only [Act.put, List.setIfInBounds_toArray, List.set_cons_zero, List.set_cons_succ]
            refine held_next 7 rfl (by kernel_rfl) (by rfl) ?_
            go_simp
            refine ⟨fun W => w1.heap.size ≤ W.heap.size, fun W hW => hW, (by simp; omega), ?_⟩
            try simp only [Act.put, List.setIfInBounds_toArray, List.set_cons_zero, List.set_cons_succ]
            refine held_next 8 rfl (by kernel_rfl) (by rfl) ?_
            refine wp_gapp1o e16 _ _ _ _ rfl w1.heap.size sli16 inf16 _ _ rfl HQ.out.ks _ d.key rfl rfl ?_ HQ.out.Bw ?_
            · (rw [List.length_map, List.length_take]; omega)
            intro v3 w3 o3 g3 e3
            obtain ⟨A3, n3, d3, rfl⟩ := gw_slice o3
            have HK := Lib.hid (HQ.out.keys d.key o3 g3 (e3.imp id fun e => ⟨_, e, Nat.le_succ _⟩))
            have R3 := HQ.out.row.grown g3 HQ.out.kg
            have f5 := R3.frozen 5
            have c5 := R3.cell 5
            have hs3 := Nat.le_trans HQ.out.Bw g3.size
            clear o3 g3 e3 R3
            have hSd := hs3
            refine ⟨fun W => w1.heap.size ≤ W.heap.size, fun W hW => hW, hSd, ?_⟩
            clear hSc hs3
            have hSc := hSd
            clear hSd
            try simp only [Act.put, List.setIfInBounds_toArray, List.set_cons_zero, List.set_cons_succ]
            refine held_take 9 ?_ rfl (by kernel_rfl) (by kernel_rfl) (by kernel_rfl) (fun _ _ _ h => h) (by rfl) ?_ hSc ?_
            rotate_left
            · (intro W hSW; go_simp; try rfl)
            try simp only [Act.put, List.setIfInBounds_toArray, List.set_cons_zero, List.set_cons_succ]
            refine held_take 10 ?_ rfl (by kernel_rfl) (by kernel_rfl) (by kernel_rfl) (fun _ _ _ h => h) (by rfl) ?_ hSc ?_
            rotate_left
            · (intro W hSW; go_simp; try rfl)
            try simp only [Act.put, List.setIfInBounds_toArray, List.set_cons_zero, List.set_cons_succ]
            refine held_next 11 rfl (by kernel_rfl) (by rfl) ?_
            go_simp
            refine ⟨fun W => w1.heap.size ≤ W.heap.size, fun W hW => hW, (by simpa [World.setCell] using hSc), ?_⟩
            refine wpAnyH_done (by kernel_rfl) ?_ _
            go_wp2_with fail
            go_meet
            exact ⟨rfl, Lib.hid ⟨_, by rw [take_map HD.out]; exact HK.out⟩⟩
          · go_simp
            refine (hdr16_key cs HD.out wr.drew HJ.out.drew.rd).mono ?_
            rintro e wq ⟨rfl, rd, gq⟩
            have HQ := Lib.hid (HJ.out.drew.read rd gq)
            have c5 := HQ.out.row.cell 5
            have f5 := HQ.out.row.frozen 5
            clear rd gq
            have hSd := (show w1.heap.size ≤ wq.heap.size from HQ.out.Bw)
            refine ⟨fun W => w1.heap.size ≤ W.heap.size, fun W hW => hW, hSd, ?_⟩
            clear hSc 
            have hSc := hSd
            clear hSd
            try simp only [Act.put, List.setIfInBounds_toArray, List.set_cons_zero, List.set_cons_succ]
            refine held_two 4 7 rfl rfl (by kernel_rfl) (by rfl) (by rfl) ?_ ?_
            · go_simp
              refine ⟨fun W => w1.heap.size ≤ W.heap.size, fun W hW => hW, hSc, ?_⟩
              try simp only [Act.put, List.setIfInBounds_toArray, List.set_cons_zero, List.set_cons_succ]
              refine held_next 7 rfl (by kernel_rfl) (by rfl) ?_
              go_simp
              refine ⟨fun W => w1.heap.size ≤ W.heap.size, fun W hW => hW, (by simp; omega), ?_⟩
              try simp only [Act.put, List.setIfInBounds_toArray, List.set_cons_zero, List.set_cons_succ]
              refine held_next 8 rfl (by kernel_rfl) (by rfl) ?_
              refine wp_gapp1o e16 _ _ _ _ rfl w1.heap.size sli16 inf16 _ _ rfl HQ.out.ks _ d.key rfl rfl ?_ HQ.out.Bw ?_
              · (rw [List.length_map, List.length_take]; omega)
              intro v3 w3 o3 g3 e3
              obtain ⟨A3, n3, d3, rfl⟩ := gw_slice o3
              have HK := Lib.hid (HQ.out.keys d.key o3 g3 (e3.imp id fun e => ⟨_, e, Nat.le_succ _⟩))
              have R3 := HQ.out.row.grown g3 HQ.out.kg
              have f5 := R3.frozen 5
              have c5 := R3.cell 5
              have hs3 := Nat.le_trans HQ.out.Bw g3.size
              clear o3 g3 e3 R3
              have hSd := hs3
              refine ⟨fun W => w1.heap.size ≤ W.heap.size, fun W hW => hW, hSd, ?_⟩
              clear hSc hs3
              have hSc := hSd
              clear hSd
              try simp only [Act.put, List.setIfInBounds_toArray, List.set_cons_zero, List.set_cons_succ]
              refine held_take 9 ?_ rfl (by kernel_rfl) (by kernel_rfl) (by kernel_rfl) (fun _ _ _ h => h) (by rfl) ?_ hSc ?_
              rotate_left
              · (intro W hSW; go_simp; try rfl)
              try simp only [Act.put, List.setIfInBounds_toArray, List.set_cons_zero, List.set_cons_succ]
              refine held_take 10 ?_ rfl (by kernel_rfl) (by kernel_rfl) (by kernel_rfl) (fun _ _ _ h => h) (by rfl) ?_ hSc ?_
              rotate_left
              · (intro W hSW; go_simp; try rfl)
              try simp only [Act.put, List.setIfInBounds_toArray, List.set_cons_zero, List.set_cons_succ]
              refine held_next 11 rfl (by kernel_rfl) (by rfl) ?_
              go_simp
              refine ⟨fun W => w1.heap.size ≤ W.heap.size, fun W hW => hW, (by simpa [World.setCell] using hSc), ?_⟩
              refine wpAnyH_done (by kernel_rfl) ?_ _
              go_wp2_with fail
              go_meet
              exact ⟨rfl, Lib.hid ⟨_, by rw [take_map HD.out]; exact HK.out⟩⟩
            · go_simp
              refine ⟨fun W => w1.heap.size ≤ W.heap.size, fun W hW => hW, (by simp; omega), ?_⟩
              try simp only [Act.put, List.setIfInBounds_toArray, List.set_cons_zero, List.set_cons_succ]
              have c5 := (HQ.out.row.alloc (.cells #[.int .u16 d.key.toNat] 72)).cell 5
              refine held_next 4 rfl (by kernel_rfl) (by rfl) ?_
              go_simp
              refine ⟨fun W => w1.heap.size ≤ W.heap.size, fun W hW => hW, (by simp; omega), ?_⟩
              try simp only [Act.put, List.setIfInBounds_toArray, List.set_cons_zero, List.set_cons_succ]
              refine held_next 8 rfl (by kernel_rfl) (by rfl) ?_
              refine wp_gapp1o e16 _ _ _ _ rfl w1.heap.size sli16 inf16 _ _ rfl HQ.out.ks _ d.key rfl rfl ?_ HQ.out.Bw ?_
              · (rw [List.length_map, List.length_take]; omega)
              intro v3 w3 o3 g3 e3
              obtain ⟨A3, n3, d3, rfl⟩ := gw_slice o3
              have HK := Lib.hid (HQ.out.keys d.key o3 g3 (e3.imp id fun e => ⟨_, e, Nat.le_succ _⟩))
              have R3 := HQ.out.row.grown g3 HQ.out.kg
              have f5 := R3.frozen 5
              have c5 := R3.cell 5
              have hs3 := Nat.le_trans HQ.out.Bw g3.size
              clear o3 g3 e3 R3
              have hSd := hs3
              refine ⟨fun W => w1.heap.size ≤ W.heap.size, fun W hW => hW, hSd, ?_⟩
              clear hSc hs3
              have hSc := hSd
              clear hSd
              try simp only [Act.put, List.setIfInBounds_toArray, List.set_cons_zero, List.set_cons_succ]
              refine held_take 9 ?_ rfl (by kernel_rfl) (by kernel_rfl) (by kernel_rfl) (fun _ _ _ h => h) (by rfl) ?_ hSc ?_
              rotate_left
              · (intro W hSW; go_simp; try rfl)
              try simp only [Act.put, List.setIfInBounds_toArray, List.set_cons_zero, List.set_cons_succ]
              refine held_take 10 ?_ rfl (by kernel_rfl) (by kernel_rfl) (by kernel_rfl) (fun _ _ _ h => h) (by rfl) ?_ hSc ?_
              rotate_left
              · (intro W hSW; go_simp; try rfl)
              try simp only [Act.put, List.setIfInBounds_toArray, List.set_cons_zero, List.set_cons_succ]
              refine held_next 11 rfl (by kernel_rfl) (by rfl) ?_
              go_simp
              refine ⟨fun W => w1.heap.size ≤ W.heap.size, fun W hW => hW, (by simpa [World.setCell] using hSc), ?_⟩
              refine wpAnyH_done (by kernel_rfl) ?_ _
              go_wp2_with fail
              go_meet
              exact ⟨rfl, Lib.hid ⟨_, by rw [take_map HD.out]; exact HK.out⟩⟩
        case rest =>
          obtain ⟨rfl, hx⟩ := hcut
          obtain ⟨v7, hx⟩ := hx.out
          obtain ⟨W7, e7⟩ := hx.world
          subst e7
          have HJ7 := Lib.hid hx
          obtain ⟨A7, n7, d7, rfl⟩ := gw_slice hx.ks
          have c6 := hx.row.cell 6
          have f6 := hx.row.frozen 6
          obtain ⟨m, hm⟩ : ∃ m, m = d.n - 1 := ⟨_, rfl⟩
          have hm1 : d.n = m + 1 := by have := HOK.out d (List.mem_of_getElem? HD.out); unfold Ct.ok at this; omega
          have hmi : (m : Int) ≤ 65535 := by have := d.n_le; omega
          have HM1 := Lib.hid hm1
          have HC16 := Lib.hid (fun (W : World) (h : Rd W w0.heap.size gr vr (hdr cs) (4 * k + 2) false) => hdr16_n cs HD.out W h)
          rw [← hm] at HC16
          have mw1 : IntKind.i64.wrap (m : Int) = (m : Int) := by rw [IntKind.wrap_i64]; omega
          have mw2 : IntKind.i64.wrap ((m : Int) + 1) = (m : Int) + 1 := by rw [IntKind.wrap_i64]; omega
          clear hx hm hm1 c5 f5
          go_upto_region 8 with fail
          go_cut [37] (fun s37 wx => s37 = .pointer (some ⟨g, 0, none⟩) ∧ Hid (∃ v', Hs w wx g gr w0.heap.size w1.heap.size (q + 4 * n) n r vb vf (.slice A7 n7 d7) v' vo vr (hdr cs) (4 * (k + 1)) ((cs.take (k + 1)).map Ct.key) ((cs.take (k + 1)).map Ct.n)))
          case first =>
            have hSc := (show w1.heap.size ≤ W7.drew.heap.size from HJ7.out.Bw)
            refine wp_region_held_drew (S := fun W => w1.heap.size ≤ W.heap.size) (by kernel_rfl) hSc (fun _ => ?_)
            refine held_take 0 ?_ rfl (by kernel_rfl) (by kernel_rfl) (by kernel_rfl) (fun _ _ _ h => h) (by rfl) ?_ hSc ?_
            rotate_left
            · (intro W hSW; go_simp; try rfl)
            try simp only [Act.put, List.setIfInBounds_toArray, List.set_cons_zero, List.set_cons_succ]
            refine held_take 1 ?_ rfl (by kernel_rfl) (by kernel_rfl) (by kernel_rfl) (fun _ _ _ h => h) (by rfl) ?_ hSc ?_
            rotate_left
            · (intro W hSW; go_simp; try rfl)
            try simp only [Act.put, List.setIfInBounds_toArray, List.set_cons_zero, List.set_cons_succ]
            refine held_take 2 ?_ rfl (by kernel_rfl) (by kernel_rfl) (by kernel_rfl) (fun _ _ _ h => h) (by rfl) ?_ hSc ?_
            rotate_left
            · (intro W hSW; go_simp; try rfl)
            try simp only [Act.put, List.setIfInBounds_toArray, List.set_cons_zero, List.set_cons_succ]
            refine held_take 3 ?_ rfl (by kernel_rfl) (by kernel_rfl) (by kernel_rfl) (fun _ _ _ h => h) (by rfl) ?_ hSc ?_
            rotate_left
            · (intro W hSW; go_simp; try rfl)
            try simp only [Act.put, List.setIfInBounds_toArray, List.set_cons_zero, List.set_cons_succ]
            refine held_take 5 ?_ rfl (by kernel_rfl) (by kernel_rfl) (by kernel_rfl) (fun _ _ _ h => h) (by rfl) ?_ hSc ?_
            rotate_left
            · (intro W hSW; go_simp; try rfl)
            try simp only [Act.put, List.setIfInBounds_toArray, List.set_cons_zero, List.set_cons_succ]
            refine held_two 4 6 rfl rfl (by kernel_rfl) (by rfl) (by rfl) ?_ ?_
            · go_simp
              refine ⟨fun W => w1.heap.size ≤ W.heap.size, fun W hW => hW, hSc, ?_⟩
              try simp only [Act.put, List.setIfInBounds_toArray, List.set_cons_zero, List.set_cons_succ]
              refine held_next 6 rfl (by kernel_rfl) (by rfl) ?_
              go_simp
              refine (HC16.out W7.drew HJ7.out.drew.rd).mono ?_
              rintro e wq ⟨rfl, rd, gq⟩
              have HQ := Lib.hid (HJ7.out.drew.read rd gq)
              have c6 := HQ.out.row.cell 6
              have f6 := HQ.out.row.frozen 6
              clear rd gq
              have hSd := (show w1.heap.size ≤ wq.heap.size from HQ.out.Bw)
              refine ⟨fun W => w1.heap.size ≤ W.heap.size, fun W hW => hW, hSd, ?_⟩
              clear hSc 
              have hSc := hSd
              clear hSd
              try simp only [Act.put, List.setIfInBounds_toArray, List.set_cons_zero, List.set_cons_succ]
              refine held_take 7 ?_ rfl (by kernel_rfl) (by kernel_rfl) (by kernel_rfl) (fun _ _ _ h => h) (by rfl) ?_ hSc ?_
              rotate_left
              · (intro W hSW; go_simp; try rfl)
              try simp only [Act.put, List.setIfInBounds_toArray, List.set_cons_zero, List.set_cons_succ]
              refine held_take 8 ?_ rfl (by kernel_rfl) (by kernel_rfl) (by kernel_rfl) (fun _ _ _ h => h) (by rfl) ?_ hSc ?_
              rotate_left
              · (intro W hSW; go_simp; try rfl)
              try simp only [Act.put, List.setIfInBounds_toArray, List.set_cons_zero, List.set_cons_succ]
              refine held_next 9 rfl (by kernel_rfl) (by rfl) ?_
              go_simp
              refine ⟨fun W => w1.heap.size ≤ W.heap.size, fun W hW => hW, (by simp; omega), ?_⟩
              try simp only [Act.put, List.setIfInBounds_toArray, List.set_cons_zero, List.set_cons_succ]
              refine held_next 10 rfl (by kernel_rfl) (by rfl) ?_
              refine wp_gapp1o eI _ _ _ _ rfl w1.heap.size sliI infI _ _ rfl HQ.out.ns _ (m + 1) (by show Value.int .i64 _ = Value.int .i64 _; push_cast; rfl) rfl ?_ HQ.out.Bw ?_
              · (rw [List.length_map, List.length_take]; omega)
              intro v3 w3 o3 g3 e3
              obtain ⟨A3, n3, d3, rfl⟩ := gw_slice o3
              have HK := Lib.hid (HQ.out.cnts (m + 1) o3 g3 (e3.imp id fun e => ⟨_, e, Nat.le_succ _⟩))
              have R3 := HQ.out.row.grown g3 HQ.out.cg
              have f6 := R3.frozen 6
              have c6 := R3.cell 6
              have hs3 := Nat.le_trans HQ.out.Bw g3.size
              clear o3 g3 e3 R3
              have hSd := hs3
              refine ⟨fun W => w1.heap.size ≤ W.heap.size, fun W hW => hW, hSd, ?_⟩
              clear hSc hs3
              have hSc := hSd
              clear hSd
              try simp only [Act.put, List.setIfInBounds_toArray, List.set_cons_zero, List.set_cons_succ]
              refine held_take 11 ?_ rfl (by kernel_rfl) (by kernel_rfl) (by kernel_rfl) (fun _ _ _ h => h) (by rfl) ?_ hSc ?_
              rotate_left
              · (intro W hSW; go_simp; try rfl)
              try simp only [Act.put, List.setIfInBounds_toArray, List.set_cons_zero, List.set_cons_succ]
              refine held_take 12 ?_ rfl (by kernel_rfl) (by kernel_rfl) (by kernel_rfl) (fun _ _ _ h => h) (by rfl) ?_ hSc ?_
              rotate_left
              · (intro W hSW; go_simp; try rfl)
              try simp only [Act.put, List.setIfInBounds_toArray, List.set_cons_zero, List.set_cons_succ]
              refine held_next 13 rfl (by kernel_rfl) (by rfl) ?_
              go_simp
              refine ⟨fun W => w1.heap.size ≤ W.heap.size, fun W hW => hW, (by simpa [World.setCell] using hSc), ?_⟩
              refine wpAnyH_done (by kernel_rfl) ?_ _
              go_wp2_with fail
              go_meet
              exact ⟨rfl, Lib.hid ⟨_, by rw [take_map (f := Ct.n) HD.out, HM1.out]; exact HK.out⟩⟩
            · go_simp
              refine (HC16.out W7.drew HJ7.out.drew.rd).mono ?_
              rintro e wq ⟨rfl, rd, gq⟩
              have HQ := Lib.hid (HJ7.out.drew.read rd gq)
              have c6 := HQ.out.row.cell 6
              have f6 := HQ.out.row.frozen 6
              clear rd gq
              have hSd := (show w1.heap.size ≤ wq.heap.size from HQ.out.Bw)
              refine ⟨fun W => w1.heap.size ≤ W.heap.size, fun W hW => hW, hSd, ?_⟩
              clear hSc 
              have hSc := hSd
              clear hSd
              try simp only [Act.put, List.setIfInBounds_toArray, List.set_cons_zero, List.set_cons_succ]
              refine held_take 7 ?_ rfl (by kernel_rfl) (by kernel_rfl) (by kernel_rfl) (fun _ _ _ h => h) (by rfl) ?_ hSc ?_
              rotate_left
              · (intro W hSW; go_simp; try rfl)
              try simp only [Act.put, List.setIfInBounds_toArray, List.set_cons_zero, List.set_cons_succ]
              refine held_take 8 ?_ rfl (by kernel_rfl) (by kernel_rfl) (by kernel_rfl) (fun _ _ _ h => h) (by rfl) ?_ hSc ?_
              rotate_left
              · (intro W hSW; go_simp; try rfl)
              try simp only [Act.put, List.setIfInBounds_toArray, List.set_cons_zero, List.set_cons_succ]
              refine held_two 4 9 rfl rfl (by kernel_rfl) (by rfl) (by rfl) ?_ ?_
              · go_simp
                refine ⟨fun W => w1.heap.size ≤ W.heap.size, fun W hW => hW, hSc, ?_⟩
                try simp only [Act.put, List.setIfInBounds_toArray, List.set_cons_zero, List.set_cons_succ]
                refine held_next 9 rfl (by kernel_rfl) (by rfl) ?_
                go_simp
                refine ⟨fun W => w1.heap.size ≤ W.heap.size, fun W hW => hW, (by simp; omega), ?_⟩
                try simp only [Act.put, List.setIfInBounds_toArray, List.set_cons_zero, List.set_cons_succ]
                refine held_next 10 rfl (by kernel_rfl) (by rfl) ?_
                refine wp_gapp1o eI _ _ _ _ rfl w1.heap.size sliI infI _ _ rfl HQ.out.ns _ (m + 1) (by show Value.int .i64 _ = Value.int .i64 _; push_cast; rfl) rfl ?_ HQ.out.Bw ?_
                · (rw [List.length_map, List.length_take]; omega)
                intro v3 w3 o3 g3 e3
                obtain ⟨A3, n3, d3, rfl⟩ := gw_slice o3
                have HK := Lib.hid (HQ.out.cnts (m + 1) o3 g3 (e3.imp id fun e => ⟨_, e, Nat.le_succ _⟩))
                have R3 := HQ.out.row.grown g3 HQ.out.cg
                have f6 := R3.frozen 6
                have c6 := R3.cell 6
                have hs3 := Nat.le_trans HQ.out.Bw g3.size
                clear o3 g3 e3 R3
                have hSd := hs3
                refine ⟨fun W => w1.heap.size ≤ W.heap.size, fun W hW => hW, hSd, ?_⟩
                clear hSc hs3
                have hSc := hSd
                clear hSd
                try simp only [Act.put, List.setIfInBounds_toArray, List.set_cons_zero, List.set_cons_succ]
                refine held_take 11 ?_ rfl (by kernel_rfl) (by kernel_rfl) (by kernel_rfl) (fun _ _ _ h => h) (by rfl) ?_ hSc ?_
                rotate_left
                · (intro W hSW; go_simp; try rfl)
                try simp only [Act.put, List.setIfInBounds_toArray, List.set_cons_zero, List.set_cons_succ]
                refine held_take 12 ?_ rfl (by kernel_rfl) (by kernel_rfl) (by kernel_rfl) (fun _ _ _ h => h) (by rfl) ?_ hSc ?_
                rotate_left
                · (intro W hSW; go_simp; try rfl)
                try simp only [Act.put, List.setIfInBounds_toArray, List.set_cons_zero, List.set_cons_succ]
                refine held_next 13 rfl (by kernel_rfl) (by rfl) ?_
                go_simp
                refine ⟨fun W => w1.heap.size ≤ W.heap.size, fun W hW => hW, (by simpa [World.setCell] using hSc), ?_⟩
                refine wpAnyH_done (by kernel_rfl) ?_ _
                go_wp2_with fail
                go_meet
                exact ⟨rfl, Lib.hid ⟨_, by rw [take_map (f := Ct.n) HD.out, HM1.out]; exact HK.out⟩⟩
              · go_simp
                refine ⟨fun W => w1.heap.size ≤ W.heap.size, fun W hW => hW, (by simp; omega), ?_⟩
                try simp only [Act.put, List.setIfInBounds_toArray, List.set_cons_zero, List.set_cons_succ]
                have c6 := (HQ.out.row.alloc (.cells #[.int .i64 ((m : Int) + 1)] 3)).cell 6
                refine held_next 4 rfl (by kernel_rfl) (by rfl) ?_
                go_simp
                refine ⟨fun W => w1.heap.size ≤ W.heap.size, fun W hW => hW, (by simp; omega), ?_⟩
                try simp only [Act.put, List.setIfInBounds_toArray, List.set_cons_zero, List.set_cons_succ]
                refine held_next 10 rfl (by kernel_rfl) (by rfl) ?_
                refine wp_gapp1o eI _ _ _ _ rfl w1.heap.size sliI infI _ _ rfl HQ.out.ns _ (m + 1) (by show Value.int .i64 _ = Value.int .i64 _; push_cast; rfl) rfl ?_ HQ.out.Bw ?_
                · (rw [List.length_map, List.length_take]; omega)
                intro v3 w3 o3 g3 e3
                obtain ⟨A3, n3, d3, rfl⟩ := gw_slice o3
                have HK := Lib.hid (HQ.out.cnts (m + 1) o3 g3 (e3.imp id fun e => ⟨_, e, Nat.le_succ _⟩))
                have R3 := HQ.out.row.grown g3 HQ.out.cg
                have f6 := R3.frozen 6
                have c6 := R3.cell 6
                have hs3 := Nat.le_trans HQ.out.Bw g3.size
                clear o3 g3 e3 R3
                have hSd := hs3
                refine ⟨fun W => w1.heap.size ≤ W.heap.size, fun W hW => hW, hSd, ?_⟩
                clear hSc hs3
                have hSc := hSd
                clear hSd
                try simp only [Act.put, List.setIfInBounds_toArray, List.set_cons_zero, List.set_cons_succ]
                refine held_take 11 ?_ rfl (by kernel_rfl) (by kernel_rfl) (by kernel_rfl) (fun _ _ _ h => h) (by rfl) ?_ hSc ?_
                rotate_left
                · (intro W hSW; go_simp; try rfl)
                try simp only [Act.put, List.setIfInBounds_toArray, List.set_cons_zero, List.set_cons_succ]
                refine held_take 12 ?_ rfl (by kernel_rfl) (by kernel_rfl) (by kernel_rfl) (fun _ _ _ h => h) (by rfl) ?_ hSc ?_
                rotate_left
                · (intro W hSW; go_simp; try rfl)
                try simp only [Act.put, List.setIfInBounds_toArray, List.set_cons_zero, List.set_cons_succ]
                refine held_next 13 rfl (by kernel_rfl) (by rfl) ?_
                go_simp
                refine ⟨fun W => w1.heap.size ≤ W.heap.size, fun W hW => hW, (by simpa [World.setCell] using hSc), ?_⟩
                refine wpAnyH_done (by kernel_rfl) ?_ _
                go_wp2_with fail
                go_meet
                exact ⟨rfl, Lib.hid ⟨_, by rw [take_map (f := Ct.n) HD.out, HM1.out]; exact HK.out⟩⟩
          case rest =>
            obtain ⟨rfl, hx⟩ := hcut
            obtain ⟨v8, hx⟩ := hx.out
            obtain ⟨W8, e8⟩ := hx.world
            subst e8
            have HJ8 := Lib.hid hx
            have c5 := hx.row.cell 5
            have hgs := hx.ks.sl
            obtain ⟨hn7, -, -⟩ := gs_caps hgs
            have hn7' : (n7 : Int) = (k : Int) + 1 := by rw [hn7, List.length_map, List.length_take, HCN.out]; omega
            have HGS := Lib.hid hgs
            have HN7 := Lib.hid hn7
            have HX : Hid (∀ W, (∃ t, W = W8.drewN t) → ∃ v', Hs w W g gr w0.heap.size w1.heap.size (q + 4 * n) n r vb vf (.slice A7 n7 d7) v' vo vr (hdr cs) (4 * (k + 1)) ((cs.take (k + 1)).map Ct.key) ((cs.take (k + 1)).map Ct.n)) := Lib.hid (fun W hW => by obtain ⟨t, rfl⟩ := hW; exact ⟨v8, HJ8.out.step (below_drewN (Below.refl _ _) t)⟩)
            clear hx c6 f6 mw1 mw2 hgs hn7
            by_cases hk0 : k = 0
            · subst hk0
              have g0 : decide ((0 : Int) > 0) = false := by decide
              go_upto_region 9 with fail
              go_quiet (fail)
              go_wp2
              obtain ⟨v9, h9⟩ := HX.out _ ⟨_, rfl⟩
              exact ⟨⟨0 + 1, _, v9, by omega, by go_num, Lib.hid h9⟩, by simp [intOf]; omega⟩
            · obtain ⟨j, hj⟩ : ∃ j, k = j + 1 := ⟨k - 1, by omega⟩
              obtain ⟨b7, off7, y, e7, -, -, -, hy, cy⟩ := gse_at HGS.out (k := k) (by rw [List.length_map, List.length_take, HCN.out]; omega)
              obtain ⟨b8, off8, z, e8, -, -, -, hz, cz⟩ := gse_at HGS.out (k := j) (by rw [List.length_map, List.length_take, HCN.out]; omega)
              rw [e7] at e8
              injection e8 with e8
              injection e8 with e8 e9
              subst e7 e8 e9
              obtain ⟨f, hf⟩ : ∃ f, cs[j]? = some f := ⟨_, List.getElem?_eq_getElem (by rw [HCN.out]; omega)⟩
              have hlt2 := HRI.out j f d hf (by rw [← hj]; exact HD.out)
              rw [List.getElem?_map, List.getElem?_take, if_pos (by omega), HD.out] at hy
              rw [List.getElem?_map, List.getElem?_take, if_pos (by omega), hf] at hz
              injection hy with hy
              injection hz with hz
              obtain ⟨Y, hY⟩ : ∃ Y, Y = d.key.toNat := ⟨_, rfl⟩
              obtain ⟨Z, hZ⟩ : ∃ Z, Z = f.key.toNat := ⟨_, rfl⟩
              rw [← hY, ← hZ] at hlt2
              have cY : W8.cell? ⟨b7, off7 + k, none⟩ = some (.int .u16 Y) := by rw [hY, hy]; exact cy
              have cZ : W8.cell? ⟨b7, off7 + j, none⟩ = some (.int .u16 Z) := by rw [hZ, hz]; exact cz
              have hkj : (k : Int) - 1 = (j : Int) := by omega
              have g0 : decide ((k : Int) > 0) = true := decide_eq_true (by omega)
              have g0n : decide (k > 0) = true := decide_eq_true (by omega)
              have g1 : decide ((Y : Int) ≤ (Z : Int)) = false := decide_eq_false (by omega)
              have g1n : decide (Y ≤ Z) = false := decide_eq_false (by omega)
              have hjl : (j : Int) < n7 := by omega
              have hkl7 : (k : Int) < n7 := by omega
              clear hy hz cy cz hY hZ hf hlt2 hj
              go_upto_region 9 with fail
              go_quiet (fail)
              go_wp2
              obtain ⟨v9, h9⟩ := HX.out _ ⟨_, rfl⟩
              exact ⟨⟨k + 1, _, v9, by omega, by go_num, Lib.hid h9⟩, by simp [intOf]; omega⟩
      · obtain rfl : k = n := by omega
        have HX := HJ.out
        rw [← HCN.out, List.take_length, HCN.out] at HX
        have HGW := Lib.hid HX.gw
        have hsz : g + 1 ≤ w1.heap.size := by have := HX.gw; have := HX.wgr; have := HX.grB; omega
        have HXX := Lib.hid HX
        clear hj HX
        go_wp2
        go_ret
        exact .inr ⟨by rw [HCN.out]; have := HMS.out; omega, rfl, HXX.out.grw, vk, vc, by rw [HCN.out, ← HVB.out]; exact HXX.out.row, HXX.out.ks.sl.more hsz (Nat.le_refl _), HXX.out.ns.sl.more hsz (Nat.le_refl _)⟩
end Go.Proofs.YtponcpneflhpfaaGreatDoor
