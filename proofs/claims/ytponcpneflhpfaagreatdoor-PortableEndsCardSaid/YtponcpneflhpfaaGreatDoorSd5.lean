/- Words for memory: the header of an image while it is read. -/
import Derived.Test.YtponcpneflhpfaaGreatDoorSd4
import Derived.Test.YtponcpneflhpfaaGreatDoorSc9
import Derived.Test.YtponcpneflhpfaaGreatDoorSd3
import Derived.Test.YtponcpneflhpfaaGreatDoorSd0
namespace Go.Proofs.YtponcpneflhpfaaGreatDoor
open Go.RowKit
set_option linter.unusedVariables false

theorem flat_at {α : Type} (k : Nat) (f : α → List UInt8) (hk : ∀ x, (f x).length = k) {l : List α} {i : Nat} {y : α} (h : l[i]? = some y) : ((l.flatMap f).drop (k * i)).take k = f y := by
  induction l generalizing i with
  | nil => simp at h
  | cons a l ih =>
    rw [List.flatMap_cons]
    cases i with
    | zero =>
      simp at h; subst h
      rw [Nat.mul_zero, List.drop_zero, List.take_append_of_le_length (by rw [hk]; exact Nat.le_refl _), List.take_of_length_le (by rw [hk]; exact Nat.le_refl _)]
    | succ i =>
      rw [List.drop_append, List.drop_of_length_le (by rw [hk, Nat.mul_add]; omega), hk, List.nil_append, show k * (i + 1) - k = k * i by rw [Nat.mul_add]; omega]
      exact ih (by simpa using h)
theorem nmb_flat {α : Type} (k : Nat) (f : α → List UInt8) (g : Nat → α) (hk : ∀ x, (f x).length = k) (hg : ∀ x, g (leVal (f x)) = x) (l : List α) : nmb k g (l.flatMap f) 0 l.length = l := by
  refine List.ext_getElem? fun i => ?_
  rcases Nat.lt_or_ge i l.length with hi | hi
  · have h := List.getElem?_eq_getElem hi
    unfold nmb
    rw [List.getElem?_map, List.getElem?_range hi]
    simp only [Nat.zero_add, Option.map_some]
    rw [flat_at k f hk h, hg, h]
  · rw [List.getElem?_eq_none hi, List.getElem?_eq_none (by rw [nmb_len]; exact hi)]
theorem nmb_bdA (l : List UInt16) : nmb 2 UInt16.ofNat (bdA l) 0 l.length = l :=
  nmb_flat 2 _ _ (fun x => le_length _ _) (fun x => by rw [leVal_le 2 _ (by have := x.toNat_lt; omega)]; simp) l
theorem nmb_bdW (l : List UInt64) : nmb 8 UInt64.ofNat (bdW l) 0 l.length = l :=
  nmb_flat 8 _ _ (fun x => le_length _ _) (fun x => by rw [leVal_le 8 _ (by have := x.toNat_lt; omega)]; simp) l
theorem nmb_bd4 (l : List Nat) (h : ∀ x ∈ l, x < 4294967296) : nmb 4 UInt32.ofNat (bd4 l) 0 l.length = l.map UInt32.ofNat := by
  refine List.ext_getElem? fun i => ?_
  rcases Nat.lt_or_ge i l.length with hi | hi
  · have hg := List.getElem?_eq_getElem hi
    unfold nmb bd4
    rw [List.getElem?_map, List.getElem?_map, List.getElem?_range hi]
    simp only [Nat.zero_add, Option.map_some]
    rw [flat_at 4 _ (fun x => le_length _ _) hg, hg, leVal_le 4 _ (by have := h _ (List.getElem_mem hi); omega)]
    rfl
  · rw [List.getElem?_eq_none (by rw [nmb_len]; exact hi), List.getElem?_eq_none (by rw [List.length_map]; exact hi)]
theorem u16_of_le (x : UInt16) : UInt16.ofNat (leVal (le 2 x.toNat)) = x := by rw [leVal_le 2 _ (by have := x.toNat_lt; omega)]; simp
theorem nrn_bdP (l : List Rn) : nrn (bdP l) 0 l.length = l := by
  refine List.ext_getElem? fun i => ?_
  rcases Nat.lt_or_ge i l.length with hi | hi
  · have h := List.getElem?_eq_getElem hi
    have h4 := flat_at 4 (fun r : Rn => le 2 r.1.toNat ++ le 2 r.2.toNat) (fun x => by rw [List.length_append, le_length, le_length]) h
    have e1 : ((bdP l).drop (4 * i)).take 2 = le 2 (l[i]).1.toNat := by
      have := congrArg (List.take 2) h4
      rw [List.take_take] at this
      rw [show min 2 4 = 2 from rfl] at this
      unfold bdP
      rw [this, List.take_append_of_le_length (by rw [le_length]; exact Nat.le_refl _), List.take_of_length_le (by rw [le_length]; exact Nat.le_refl _)]
    have e2 : ((bdP l).drop (4 * i + 2)).take 2 = le 2 (l[i]).2.toNat := by
      have := congrArg (List.drop 2) h4
      rw [List.drop_take, List.drop_drop] at this
      unfold bdP
      rw [show (4 - 2 : Nat) = 2 from rfl] at this
      rw [this, List.drop_append, List.drop_of_length_le (by rw [le_length]; exact Nat.le_refl _), le_length, Nat.sub_self]
      rfl
    unfold nrn
    rw [List.getElem?_map, List.getElem?_range hi]
    simp only [Nat.zero_add, Option.map_some]
    unfold rnAt
    rw [e1, e2, u16_of_le, u16_of_le, h]
  · rw [List.getElem?_eq_none hi, List.getElem?_eq_none (by rw [nrn_len]; exact hi)]
theorem le_pair {n : Nat} (hn : n < 65536) : leVal (le 2 12347 ++ le 2 n) = 12347 + 65536 * n := by
  have e : le 2 12347 ++ le 2 n = le 4 (12347 + 65536 * n) := by
    rw [show (4 : Nat) = 2 + 2 from rfl, le_app 2 2]
    have h1 : (12347 + 65536 * n) / 256 ^ 2 = n := by omega
    have h2 : le 2 (12347 + 65536 * n) = le 2 12347 := by
      have c : ∀ m, le 2 m = [UInt8.ofNat m, UInt8.ofNat (m / 256)] := fun m => rfl
      rw [c, c]
      have d : ∀ x y : Nat, x % 256 = y % 256 → UInt8.ofNat x = UInt8.ofNat y := fun x y h => UInt8.toNat_inj.1 (by rw [UInt8.toNat_ofNat', UInt8.toNat_ofNat']; exact h)
      rw [d (12347 + 65536 * n) 12347 (by omega), d ((12347 + 65536 * n) / 256) (12347 / 256) (by omega)]
    rw [h1, h2]
  rw [e, leVal_le 4 _ (by omega)]
theorem run_max8 (w : World) (ts : Array TypeId) (t : TypeId) (x y n : Int) (h : n = max x y) : (Builtin.max_ ts t #[.int .u8 x, .int .u8 y]).run Tryz.prog w = .ok (.int .u8 n) w := by
  subst h
  have e : ∀ a b : Int, (if a < b then b else a) = max a b := fun a b => by split <;> omega
  simp [Builtin.max_, Builtin.max2, e]
set_option maxHeartbeats 4000000 in
theorem slmax_c (A : Option Addr) (n c lo hi : Nat) (l : List UInt8) (w : World) (hv : Gs e8 w lo hi (.slice A n c) l) (hn : 1 ≤ l.length) (hl : l.length ≤ 100000) :
    Calls Tryz.prog 302 #[.slice A n c] w fun e w' => ∃ M : Nat, e = .returned (.int .u8 M) ∧ (∀ y ∈ l, y.toNat ≤ M) ∧ Below w.heap.size w w' := by
  obtain ⟨rfl, -, -⟩ := gs_caps hv
  have hni : (1 : Int) ≤ l.length := by omega
  have hli : (l.length : Int) ≤ 100000 := by omega
  have HV := Lib.hid hv
  obtain ⟨b0, off0, y0, e1, -, -, -, hy0, c0⟩ := gse_at hv (k := 0) (by omega)
  subst e1
  obtain ⟨a, ha⟩ : ∃ a, a = y0.toNat := ⟨_, rfl⟩
  have c0 : w.cell? ⟨b0, off0, none⟩ = some (.int .u8 a) := by rw [ha]; exact c0
  have HY0 := Lib.hid hy0
  have HA := Lib.hid ha
  clear hv hy0 ha hn hl
  go_enter Tryz.func302, Tryz.ntmps302
  go_wp2
  go_loopw [3, 4] (fun s3 s4 wr => ∃ (k M : Nat), 1 ≤ k ∧ k ≤ l.length ∧ s4 = .int .i64 k ∧ s3 = .int .u8 M ∧ Hid (∀ j y, j < k → l[j]? = some y → y.toNat ≤ M) ∧ ∃ t, wr = w.drewN t) (fun _ s4 _ => l.length - (intOf s4).toNat)
  case atStart => exact ⟨1, a, Nat.le_refl _, by omega, rfl, rfl, Lib.hid (fun j y hj hy => by
    obtain rfl : j = 0 := by omega
    rw [HY0.out] at hy
    injection hy with hy
    subst hy
    rw [HA.out]; exact Nat.le_refl _), 0, rfl⟩
  case round =>
    obtain ⟨k, M, hk1, hk, rfl, rfl, hj, t, rfl⟩ := hrel
    by_cases hlt : k < l.length
    · obtain ⟨b, off, y, e1, -, -, -, hy, cy⟩ := gse_at HV.out hlt
      injection e1 with e1
      injection e1 with e1 e2
      subst e1 e2
      have hkl : (k : Int) < l.length := by omega
      obtain ⟨x, hx⟩ : ∃ x, x = y.toNat := ⟨_, rfl⟩
      have cx : w.cell? ⟨b0, off0 + k, none⟩ = some (.int .u8 x) := by rw [hx]; exact cy
      obtain ⟨m, hm⟩ : ∃ m, m = max M x := ⟨_, rfl⟩
      have hmax := fun W => run_max8 W #[5, 5] 5 (M : Int) (x : Int) (m : Int) (by omega)
      have HX : Hid (∀ j y, j < k + 1 → l[j]? = some y → y.toNat ≤ m) := Lib.hid (fun j z hjk hz => by
        by_cases h : j < k
        · have := hj.out j z h hz; omega
        · obtain rfl : j = k := by omega
          rw [hy] at hz
          injection hz with hz
          subst hz
          omega)
      clear hy cy hx hm hj
      go_wp2
      exact ⟨⟨k + 1, m, by omega, by omega, by go_num, rfl, HX, _, rfl⟩, by simp [intOf]; omega⟩
    · obtain rfl : k = l.length := by omega
      have HX : Hid (∀ y ∈ l, y.toNat ≤ M) := Lib.hid (fun y hy => by
        obtain ⟨j, hj2⟩ := List.mem_iff_getElem?.1 hy
        exact hj.out j y (List.getElem?_eq_some_iff.1 hj2).1 hj2)
      clear hj
      go_wp2
      go_ret
      exact ⟨M, rfl, HX.out, below_drewN (Below.refl _ _) _⟩
end Go.Proofs.YtponcpneflhpfaaGreatDoor
namespace Go.Proofs.YtponcpneflhpfaaGreatDoor
open Go.RowKit
set_option linter.unusedVariables false

/-- What reading a part of s bytes from q on has come to. -/
def Part (w : World) (g : Nat) (vb : Value) (L : List UInt8) (q s n : Nat) (r : Bool) (vf vk vc vo : Value) (e : Ending) (w' : World) : Prop :=
  (L.length < q + s ∧ e = .returned (.int .i64 4) ∧ w.grownBy w' (some g)) ∨
  (q + s ≤ L.length ∧ e = .returned (.int .i64 0) ∧ Row w' g 169 #[vb, .int .i64 (q + s : Nat), .int .i64 n, .bool r, vf, vk, vc, vo] ∧ w.grownBy w' (some g))
theorem rd32_c {base g n : Nat} {v : Value} (w : World) (h : Rd w base g v (le 4 n) 0 false) (hn : n < 4294967296) :
    Calls Tryz.prog 251 #[.pointer (some ⟨g, 0, none⟩)] w fun e w' => e = .returned (.int .u32 n) ∧ Rd w' base g v (le 4 n) 4 false ∧ w.grownBy w' (some g) := by
  have := U32_yes w h (by rw [le_length]; omega)
  rw [List.drop_zero, List.take_of_length_le (by rw [le_length]; omega), leVal_le 4 n (by omega)] at this
  exact this
theorem rd16_c {base g n : Nat} {v : Value} (w : World) (h : Rd w base g v (le 2 n) 0 false) (hn : n < 65536) :
    Calls Tryz.prog 254 #[.pointer (some ⟨g, 0, none⟩)] w fun e w' => e = .returned (.int .u16 n) ∧ Rd w' base g v (le 2 n) 2 false ∧ w.grownBy w' (some g) := by
  have := U16_yes w h (by rw [le_length]; omega)
  rw [List.drop_zero, List.take_of_length_le (by rw [le_length]; omega), leVal_le 2 n (by omega)] at this
  exact this
theorem rdck_c {base g n : Nat} {v : Value} (w : World) (h : Rd w base g v (le 2 12347 ++ le 2 n) 0 false) (hn : n < 65536) :
    Calls Tryz.prog 251 #[.pointer (some ⟨g, 0, none⟩)] w fun e w' => e = .returned (.int .u32 (12347 + 65536 * n : Nat)) ∧ w.grownBy w' (some g) := by
  have := U32_yes w h (by rw [List.length_append, le_length, le_length]; omega)
  rw [List.drop_zero, List.take_of_length_le (by rw [List.length_append, le_length, le_length]; omega), le_pair hn] at this
  exact this.mono fun e w' ⟨a, b, c⟩ => ⟨a, c⟩
theorem Row.far {w w' : World} {g gr : Nat} {t : TypeId} {cs : Array Value} (h : Row w g t cs) (hg : w.grownBy w' (some gr)) (hne : g < gr) : Row w' g t cs := h.grown hg (fun e => by injection e with e; omega)
theorem grown_two {a b c : World} {g gr : Nat} (h : a.grownBy b (some g)) (k : b.grownBy c (some gr)) (hq : a.heap.size ≤ gr) : a.grownBy c (some g) := grown_new h k hq
set_option maxHeartbeats 4000000 in
theorem readCount_c {g q n n0 : Nat} {r0 : Bool} {A : Option Addr} {c : Nat} {vf vk vc vo : Value} {L rest : List UInt8} (w : World) (h : Row w g 169 #[.slice A L.length c, .int .i64 q, .int .i64 n0, .bool r0, vf, vk, vc, vo]) (hb : Gs e8 w 0 g (.slice A L.length c) L) (hq : q ≤ L.length) (hl : L.length ≤ 10000000) (ha : Ag (L.drop q) (le 4 n ++ rest)) (hn : n ≤ 65536) :
    Calls Tryz.prog 252 #[.pointer (some ⟨g, 0, none⟩)] w (Part w g (.slice A L.length c) L q 4 n false vf vk vc vo) := by
  have hg := h.lt
  by_cases hs : L.length < q + 4
  · have hc := next_no (s := 4) w h hq hs hl
    have HC := Lib.hid hc
    clear h hb ha hc
    go_enter Tryz.func252, Tryz.ntmps252
    go_wp2_with fail
    refine HC.out.mono ?_
    rintro e w1 ⟨rfl, b1⟩
    have HG : Hid (w.grownBy w1 (some g)) := Lib.hid ⟨b1.os, b1.tape, b1.output, b1.size, fun j hj _ => b1.block j hj⟩
    clear b1
    go_wp2
    go_ret
    exact .inl ⟨hs, rfl, HG.out⟩
  · have hc := next_yes (s := 4) w h hb (by omega) hl
    have hp := (ha.cut_at (le_length 4 n) (by rw [List.length_drop]; omega)).1
    have HC := Lib.hid hc
    have HP := Lib.hid hp
    have hni : (n : Int) ≤ 65536 := by omega
    have hng : decide ((n : Int) > 65536) = false := decide_eq_false (by omega)
    have hngn : decide (n > 65536) = false := decide_eq_false (by omega)
    clear h hb ha hc hp
    go_enter Tryz.func252, Tryz.ntmps252
    go_wp2_with fail
    refine HC.out.mono ?_
    rintro e w1 ⟨gr, v1, rfl, r1, rd1, g1⟩
    rw [HP.out] at rd1
    have hgr := rd1.ge
    have HR1 := Lib.hid r1
    have RD1 := Lib.hid rd1
    have G1 := Lib.hid g1
    clear r1 rd1 g1
    go_wp2_with fail
    refine (rd32_c w1 RD1.out (by omega)).mono ?_
    rintro e w2 ⟨rfl, rd2, g2⟩
    have R2 := HR1.out.far g2 (by omega)
    have G2 := Lib.hid (grown_two G1.out g2 hgr)
    have c2 := R2.cell 2
    have c3 := R2.cell 3
    have f2 := R2.frozen 2
    have f3 := R2.frozen 3
    have S2 := (R2.set_ 2 (.int .i64 n)).set_ 3 (.bool false)
    have GS := Lib.hid ((G2.out.trans (grown_set w2 g 2 (.int .i64 n))).trans (grown_set _ g 3 (.bool false)))
    have HS := Lib.hid S2
    clear rd2 g2 R2 S2 hgr hng
    go_wp2
    go_ret
    exact .inr ⟨by omega, rfl, by simpa using HS.out, GS.out⟩
theorem last_flag (cs : List Ct) {n m : Nat} (hn : cs.length = n) (hm : m = (n + 7) / 8) (h1 : 1 ≤ n) : wn (fun i => fbit cs (8 * (m - 1) + i)) 8 / 2 ^ (n - 8 * (m - 1)) = 0 := by
  have hu : n - 8 * (m - 1) ≤ 8 := by omega
  generalize hU : n - 8 * (m - 1) = u at hu
  have hb : ∀ k, wn (fun i => fbit cs (8 * (m - 1) + i)) (u + k) = wn (fun i => fbit cs (8 * (m - 1) + i)) u := fun k => by
    induction k with
    | zero => rfl
    | succ k ih => rw [← Nat.add_assoc, wn, ih, fbit_off (by omega)]; simp
  have := hb (8 - u)
  rw [show u + (8 - u) = 8 by omega] at this
  rw [this]
  exact Nat.div_eq_of_lt (wn_lt _ u)
theorem some_flag {cs : List Ct} {m : Nat} (ha : anyr cs = true) (hm : m = (cs.length + 7) / 8) : ∃ y ∈ flg (fbit cs) m, y.toNat ≠ 0 := by
  obtain ⟨i, hi, hf⟩ := anyr_iff.1 ha
  have h1 := flg_at (fbit cs) (m := m) (j := i / 8) (by omega)
  refine ⟨_, List.mem_of_getElem? h1, fun h0 => ?_⟩
  have hlt := fbyte_lt (fbit cs) (i / 8)
  rw [UInt8.toNat_ofNat', Nat.mod_eq_of_lt hlt] at h0
  have hb := fbyte_bit (fbit cs) (i / 8) (i % 8) (by omega)
  rw [h0, show 8 * (i / 8) + i % 8 = i by omega, hf] at hb
  simp at hb
/-- The flags of an image that is read. -/
def Fl (w : World) (g : Nat) (r : Bool) (vf : Value) (l : List UInt8) : Prop := r = true → Gs e8 w (g + 1) w.heap.size vf l
set_option maxHeartbeats 8000000 in
theorem readFlags_c {g q n : Nat} {A : Option Addr} {c : Nat} {vf vk vc vo : Value} {L rest : List UInt8} (cs : List Ct) (w : World) (h : Row w g 169 #[.slice A L.length c, .int .i64 q, .int .i64 n, .bool true, vf, vk, vc, vo]) (hb : Gs e8 w 0 g (.slice A L.length c) L) (hq : q ≤ L.length) (hl : L.length ≤ 10000000) (hcn : cs.length = n) (hr : anyr cs = true) (ha : Ag (L.drop q) (flg (fbit cs) ((n + 7) / 8) ++ rest)) (hn : n ≤ 65536) :
    Calls Tryz.prog 253 #[.pointer (some ⟨g, 0, none⟩)] w fun e w' => ∃ vf', Part w g (.slice A L.length c) L q ((n + 7) / 8) n true vf' vk vc vo e w' ∧ (q + (n + 7) / 8 ≤ L.length → Fl w' g true vf' (flg (fbit cs) ((n + 7) / 8))) := by
  have hg := h.lt
  have hn1 : 1 ≤ n := by obtain ⟨i, hi, _⟩ := anyr_iff.1 hr; omega
  obtain ⟨m, hm⟩ : ∃ m, m = (n + 7) / 8 := ⟨_, rfl⟩
  have hsh := fun W => shflags_c n true W hn
  have hlast := last_flag cs hcn hm hn1
  have hsome := some_flag (m := m) hr (by rw [hcn]; exact hm)
  rw [← hm] at ha hsh ⊢
  have k2 := h.cell 2
  have k3 := h.cell 3
  have HSH := Lib.hid hsh
  have hmi : (m : Int) ≤ 8192 := by omega
  have hm1 : (1 : Int) ≤ m := by omega
  by_cases hs : L.length < q + m
  · have HC := Lib.hid (fun (W : World) (hR : Row W g 169 #[.slice A L.length c, .int .i64 q, .int .i64 n, .bool true, vf, vk, vc, vo]) => next_no (s := m) W hR hq hs hl)
    have H := Lib.hid h
    clear h hb ha hsh hlast hsome hm hr hcn
    go_enter Tryz.func253, Tryz.ntmps253
    go_wp2_with fail
    refine (HSH.out w).mono ?_
    rintro e w0 ⟨rfl, b0⟩
    have B0 := Lib.hid b0
    clear b0
    go_wp2_with fail
    refine (HC.out w0 (H.out.below B0.out H.out.lt)).mono ?_
    rintro e w1 ⟨rfl, b1⟩
    have b2 := below_both B0.out b1
    have HG : Hid (w.grownBy w1 (some g)) := Lib.hid ⟨b2.os, b2.tape, b2.output, b2.size, fun j hj _ => b2.block j hj⟩
    clear b1 b2
    go_wp2
    go_ret
    exact ⟨.pointer none, .inl ⟨hs, rfl, HG.out⟩, fun h => absurd h (by omega)⟩
  · have HC := Lib.hid (fun (W : World) (hR : Row W g 169 #[.slice A L.length c, .int .i64 q, .int .i64 n, .bool true, vf, vk, vc, vo]) (hD : Gs e8 W 0 g (.slice A L.length c) L) => next_yes (s := m) W hR hD (by omega) hl)
    have hp := (ha.cut_at (flg_len _ m) (by rw [List.length_drop]; omega)).1
    have HP := Lib.hid hp
    have H := Lib.hid h
    have HB := Lib.hid hb
    have HSOME := Lib.hid hsome
    obtain ⟨a, haa⟩ : ∃ a, a = wn (fun i => fbit cs (8 * (m - 1) + i)) 8 := ⟨_, rfl⟩
    obtain ⟨u, hu⟩ : ∃ u, u = n - 8 * (m - 1) := ⟨_, rfl⟩
    have hui : (n : Int) - 8 * ((m : Int) - 1) = (u : Int) := by omega
    have hu8 : (u : Int) ≤ 8 := by omega
    have hu1 : (1 : Int) ≤ u := by omega
    rw [← haa, ← hu] at hlast
    have HLAST := Lib.hid hlast
    have HAA := Lib.hid haa
    have ha6 : (a : Int) < 256 := by have := fbyte_lt (fbit cs) (m - 1); omega
    have hni : (n : Int) ≤ 65536 := by omega
    have HMS := Lib.hid hs
    clear h hb ha hsh hlast hsome hm hr hcn hp haa hu hs
    go_enter Tryz.func253, Tryz.ntmps253
    go_wp2_with fail
    refine (HSH.out w).mono ?_
    rintro e w0 ⟨rfl, b0⟩
    have B0 := Lib.hid b0
    clear b0
    go_wp2_with fail
    refine (HC.out w0 (H.out.below B0.out H.out.lt) (HB.out.below (B0.out.mono (Nat.le_of_lt hg)))).mono ?_
    rintro e w1 ⟨gr, v1, rfl, r1, rd1, g1⟩
    rw [HP.out] at rd1
    have hgr := rd1.ge
    have HR1 := Lib.hid r1
    have RD1 := Lib.hid rd1
    have G1 := Lib.hid g1
    clear r1 rd1 g1
    go_wp2_with fail
    refine (Bytes_yes m w1 RD1.out (by omega) (by rw [flg_len]; omega)).mono ?_
    rintro e w2 ⟨v2, rfl, o2, rd2, g2⟩
    rw [List.drop_zero, List.take_of_length_le (by rw [flg_len]; exact Nat.le_refl _)] at o2
    have R2 := HR1.out.far g2 (by have := B0.out.size; omega)
    have G2 := Lib.hid (grown_two (grown_start B0.out G1.out) g2 (Nat.le_trans B0.out.size hgr))
    have hgs := o2.sl
    obtain ⟨A2, n2, d2, rfl⟩ := gw_slice o2
    obtain ⟨hn2, -, -⟩ := gs_caps hgs
    rw [flg_len] at hn2
    subst hn2
    have c4 := R2.cell 4
    have f4 := R2.frozen 4
    have R3 := R2.set_ 4 (.slice A2 n2 d2)
    have G3 := Lib.hid (G2.out.trans (grown_set w2 g 4 (.slice A2 n2 d2)))
    have hg1 : g < w1.heap.size := HR1.out.lt
    have GS := Lib.hid ((hgs.keep (w' := w2.setCell ⟨g, 4, none⟩ (.slice A2 n2 d2)) fun p h1 h2 => World.cell?_of_block ((grown_set w2 g 4 (.slice A2 n2 d2)).block _ h2 (fun e => by injection e with e; omega))))
    have HR3 : Hid (Row (w2.setCell ⟨g, 4, none⟩ (.slice A2 n2 d2)) g 169 #[.slice A L.length c, .int .i64 (q + n2 : Nat), .int .i64 n, .bool true, .slice A2 n2 d2, vk, vc, vo]) := Lib.hid (by simpa using R3)
    clear rd2 g2 R2 o2 hgs hgr R3
    have HSZ : Hid (w2.heap.size ≤ (w2.setCell ⟨g, 4, none⟩ (.slice A2 n2 d2)).heap.size) := Lib.hid (by simp [World.setCell])
    go_upto_region 6 with fail
    generalize w2.setCell ⟨g, 4, none⟩ (.slice A2 n2 d2) = W3 at *
    obtain ⟨j, hj⟩ : ∃ j, j = n2 - 1 := ⟨_, rfl⟩
    have hj1 : (n2 : Int) - 1 = (j : Int) := by omega
    have hjn : (j : Int) < n2 := by omega
    have hui2 : (n : Int) - 8 * (j : Int) = (u : Int) := by omega
    obtain ⟨b, off, y, e1, -, -, -, hy, cy⟩ := gse_at GS.out (k := j) (by rw [flg_len]; omega)
    subst e1
    rw [flg_at _ (by omega)] at hy
    injection hy with hy
    have cj : W3.cell? ⟨b, off + j, none⟩ = some (.int .u8 a) := by
      rw [cy, ← hy, HAA.out, ← hj]
      show some (Value.int .u8 ((UInt8.ofNat _).toNat : Int)) = _
      rw [UInt8.toNat_ofNat', Nat.mod_eq_of_lt (fbyte_lt (fbit cs) j)]
    have k2 := HR3.out.cell 2
    have k4 := HR3.out.cell 4
    have hs0 : (a : Int) / 2 ^ u = 0 := by exact_mod_cast HLAST.out
    clear cy hy hj hui k3
    go_wp2_with fail
    refine (slmax_c _ _ _ _ _ (flg (fbit cs) n2) W3 GS.out (by rw [flg_len]; omega) (by rw [flg_len]; omega)).mono ?_
    rintro e w5 ⟨M, rfl, hM, b5⟩
    have hM0 : ((M : Int) == 0) = false := beq_false_of_ne (by
      obtain ⟨z, hz1, hz2⟩ := HSOME.out
      have := hM z hz1
      omega)
    have HR5 := Lib.hid (HR3.out.below b5 HR3.out.lt)
    have hsz : w2.heap.size ≤ W3.heap.size := HSZ.out
    have HF5 := Lib.hid ((GS.out.more (lo' := g + 1) (by omega) hsz).stp b5)
    have HG5 := Lib.hid (grown_below G3.out b5)
    clear hM b5 cj k2 k4 hs0 hui2 hj1 hjn
    go_wp2
    go_ret
    exact ⟨_, .inr ⟨by have := HMS.out; omega, rfl, HR5.out, HG5.out⟩, fun _ _ => HF5.out⟩
def CkPart (w : World) (g : Nat) (vb : Value) (L : List UInt8) (cs : List Ct) (vk vc vo : Value) (e : Ending) (w' : World) : Prop :=
  ∃ vf', Part w g vb L 0 (cool cs) cs.length (anyr cs) vf' vk vc vo e w' ∧ (cool cs ≤ L.length → Fl w' g (anyr cs) vf' (flg (fbit cs) ((cs.length + 7) / 8)))
end Go.Proofs.YtponcpneflhpfaaGreatDoor
namespace Go.Proofs.YtponcpneflhpfaaGreatDoor
open Go.RowKit
set_option linter.unusedVariables false

set_option maxHeartbeats 8000000 in
theorem readCookie_no {g n n0 : Nat} {r0 : Bool} {A : Option Addr} {c : Nat} {vf vk vc vo : Value} {L rest : List UInt8} (w : World) (h : Row w g 169 #[.slice A L.length c, .int .i64 0, .int .i64 n0, .bool r0, vf, vk, vc, vo]) (hb : Gs e8 w 0 g (.slice A L.length c) L) (hl : L.length ≤ 10000000) (ha : Ag L (le 4 12346 ++ (le 4 n ++ rest))) (hn : n ≤ 65536) :
    Calls Tryz.prog 199 #[.pointer (some ⟨g, 0, none⟩)] w (Part w g (.slice A L.length c) L 0 8 n false vf vk vc vo) := by
  have hg := h.lt
  by_cases hs : L.length < 0 + 4
  · have hc := next_no (q := 0) (s := 4) w h (Nat.zero_le _) hs hl
    have HC := Lib.hid hc
    clear h hb ha hc
    go_enter Tryz.func199, Tryz.ntmps199
    go_wp2_with fail
    refine HC.out.mono ?_
    rintro e w1 ⟨rfl, b1⟩
    have HG : Hid (w.grownBy w1 (some g)) := Lib.hid ⟨b1.os, b1.tape, b1.output, b1.size, fun j hj _ => b1.block j hj⟩
    clear b1
    go_wp2
    go_ret
    exact .inl ⟨by omega, rfl, HG.out⟩
  · have hc := next_yes (q := 0) (s := 4) w h hb (by omega) hl
    obtain ⟨hp, ha2⟩ := ha.cut_at (le_length 4 12346) (by omega)
    have HC := Lib.hid hc
    have HP := Lib.hid hp
    have HA2 := Lib.hid ha2
    have HB := Lib.hid hb
    have HS := Lib.hid hs
    clear h hb ha hc hp ha2 hs
    go_enter Tryz.func199, Tryz.ntmps199
    go_wp2_with fail
    refine HC.out.mono ?_
    rintro e w1 ⟨gr, v1, rfl, r1, rd1, g1⟩
    rw [List.drop_zero, HP.out] at rd1
    have hgr := rd1.ge
    have HR1 := Lib.hid r1
    have RD1 := Lib.hid rd1
    have G1 := Lib.hid g1
    clear r1 rd1 g1
    go_wp2_with fail
    refine (rd32_c w1 RD1.out (by omega)).mono ?_
    rintro e w2 ⟨rfl, rd2, g2⟩
    have R2 := Lib.hid (HR1.out.far g2 (by omega))
    have G2 := Lib.hid (grown_two G1.out g2 hgr)
    have hb2 := HB.out.grown G2.out (Nat.le_of_lt hg) (fun j e => by injection e with e; exact .inr (Nat.le_of_eq e))
    have HB2 := Lib.hid hb2
    clear rd2 g2 hgr hb2
    go_wp2_with fail
    refine (readCount_c (q := 4) (n := n) (rest := rest) w2 (by simpa using R2.out) HB2.out (by have := HS.out; omega) hl HA2.out hn).mono ?_
    intro e w3 hP
    have HX : Hid (Part w g (.slice A L.length c) L 0 8 n false vf vk vc vo e w3) := Lib.hid (by
      rcases hP with ⟨h1, h2, h3⟩ | ⟨h1, h2, h3, h4⟩
      · exact .inl ⟨by omega, h2, G2.out.trans h3⟩
      · exact .inr ⟨by omega, h2, h3, G2.out.trans h4⟩)
    have HE : ∃ z, e = .returned (.int .i64 z) := by
      rcases hP with ⟨_, h2, _⟩ | ⟨_, h2, _⟩
      · exact ⟨4, h2⟩
      · exact ⟨0, h2⟩
    obtain ⟨z, rfl⟩ := HE
    clear hP
    go_wp2
    go_ret
    exact HX.out
set_option maxHeartbeats 8000000 in
theorem readCookie_yes {g n n0 : Nat} {r0 : Bool} {A : Option Addr} {c : Nat} {vf vk vc vo : Value} {L rest : List UInt8} (cs : List Ct) (w : World) (h : Row w g 169 #[.slice A L.length c, .int .i64 0, .int .i64 n0, .bool r0, vf, vk, vc, vo]) (hb : Gs e8 w 0 g (.slice A L.length c) L) (hl : L.length ≤ 10000000) (hcn : cs.length = n) (hr : anyr cs = true) (ha : Ag L (le 2 12347 ++ (le 2 (n - 1) ++ (flg (fbit cs) ((n + 7) / 8) ++ rest)))) (hn : n ≤ 65536) :
    Calls Tryz.prog 199 #[.pointer (some ⟨g, 0, none⟩)] w fun e w' => ∃ vf', Part w g (.slice A L.length c) L 0 (4 + (n + 7) / 8) n true vf' vk vc vo e w' ∧ (4 + (n + 7) / 8 ≤ L.length → Fl w' g true vf' (flg (fbit cs) ((n + 7) / 8))) := by
  have hg := h.lt
  have hn1 : 1 ≤ n := by obtain ⟨i, hi, _⟩ := anyr_iff.1 hr; omega
  by_cases hs : L.length < 0 + 4
  · have hc := next_no (q := 0) (s := 4) w h (Nat.zero_le _) hs hl
    have HC := Lib.hid hc
    clear h hb ha hc hr hcn
    go_enter Tryz.func199, Tryz.ntmps199
    go_wp2_with fail
    refine HC.out.mono ?_
    rintro e w1 ⟨rfl, b1⟩
    have HG : Hid (w.grownBy w1 (some g)) := Lib.hid ⟨b1.os, b1.tape, b1.output, b1.size, fun j hj _ => b1.block j hj⟩
    clear b1
    go_wp2
    go_ret
    exact ⟨.pointer none, .inl ⟨by omega, rfl, HG.out⟩, fun h => absurd h (by omega)⟩
  · have hc := next_yes (q := 0) (s := 4) w h hb (by omega) hl
    rw [← List.append_assoc] at ha
    obtain ⟨hp, ha2⟩ := ha.cut_at (n := 4) (by rw [List.length_append, le_length, le_length]) (by omega)
    have HC := Lib.hid hc
    have HP := Lib.hid hp
    have HA2 := Lib.hid ha2
    have HB := Lib.hid hb
    have HS := Lib.hid hs
    have HRR := Lib.hid hr
    have HCN := Lib.hid hcn
    obtain ⟨K, hK⟩ : ∃ K, K = 12347 + 65536 * (n - 1) := ⟨_, rfl⟩
    have hck := fun (W : World) (base gr : Nat) (v : Value) (hR : Rd W base gr v (le 2 12347 ++ le 2 (n - 1)) 0 false) => rdck_c W hR (by omega)
    rw [← hK] at hck
    have HCK := Lib.hid hck
    have hni : (n : Int) ≤ 65536 := by omega
    have hni1 : (1 : Int) ≤ n := by omega
    have K1 : ((K : Int) == 12346) = false := beq_false_of_ne (by omega)
    have K2 : IntKind.u16.wrap (K : Int) = 12347 := by rw [IntKind.wrap_u16]; omega
    have K3 : (K : Int) / 65536 = (n : Int) - 1 := by omega
    have K4 : (K : Int) < 4294967296 := by omega
    clear h hb ha hc hp ha2 hs hr hcn hK hck hn1
    go_enter Tryz.func199, Tryz.ntmps199
    go_wp2_with fail
    refine HC.out.mono ?_
    rintro e w1 ⟨gr, v1, rfl, r1, rd1, g1⟩
    rw [List.drop_zero, HP.out] at rd1
    have hgr := rd1.ge
    have HR1 := Lib.hid r1
    have RD1 := Lib.hid rd1
    have G1 := Lib.hid g1
    clear r1 rd1 g1
    go_wp2_with fail
    refine (HCK.out w1 _ _ _ RD1.out).mono ?_
    rintro e w2 ⟨rfl, g2⟩
    have R2 := HR1.out.far g2 (by omega)
    have G2 := Lib.hid (grown_two G1.out g2 hgr)
    have hb2 := HB.out.grown G2.out (Nat.le_of_lt hg) (fun j e => by injection e with e; exact .inr (Nat.le_of_eq e))
    have c2 := R2.cell 2
    have c3 := R2.cell 3
    have f2 := R2.frozen 2
    have f3 := R2.frozen 3
    have S2 := (R2.set_ 2 (.int .i64 n)).set_ 3 (.bool true)
    have GS := Lib.hid ((G2.out.trans (grown_set w2 g 2 (.int .i64 n))).trans (grown_set _ g 3 (.bool true)))
    have HB2 := Lib.hid (HB.out.grown GS.out (Nat.le_of_lt hg) (fun j e => by injection e with e; exact .inr (Nat.le_of_eq e)))
    have HSS : Hid (Row ((w2.setCell ⟨g, 2, none⟩ (.int .i64 n)).setCell ⟨g, 3, none⟩ (.bool true)) g 169 #[.slice A L.length c, .int .i64 (4 : Nat), .int .i64 n, .bool true, vf, vk, vc, vo]) := Lib.hid (by simpa using S2)
    clear g2 hgr hb2 R2 S2
    go_wp2_with fail
    generalize (w2.setCell ⟨g, 2, none⟩ (.int .i64 n)).setCell ⟨g, 3, none⟩ (.bool true) = W3 at *
    refine (readFlags_c (q := 4) (rest := rest) cs W3 HSS.out HB2.out (by have := HS.out; omega) hl HCN.out HRR.out HA2.out hn).mono ?_
    intro e w3 hP
    have HX : Hid (∃ vf', Part w g (.slice A L.length c) L 0 (4 + (n + 7) / 8) n true vf' vk vc vo e w3 ∧ (4 + (n + 7) / 8 ≤ L.length → Fl w3 g true vf' (flg (fbit cs) ((n + 7) / 8)))) := Lib.hid (by
      obtain ⟨vf', hP, hF⟩ := hP
      refine ⟨vf', ?_, hF⟩
      rcases hP with ⟨h1, h2, h3⟩ | ⟨h1, h2, h3, h4⟩
      · exact .inl ⟨by omega, h2, GS.out.trans h3⟩
      · exact .inr ⟨by omega, h2, by rw [Nat.zero_add]; exact h3, GS.out.trans h4⟩)
    have HE : ∃ z, e = .returned (.int .i64 z) := by
      obtain ⟨vf', hP, -⟩ := hP
      rcases hP with ⟨_, h2, _⟩ | ⟨_, h2, _⟩
      · exact ⟨4, h2⟩
      · exact ⟨0, h2⟩
    obtain ⟨z, rfl⟩ := HE
    clear hP K1 K2 K3 c2 c3 f2 f3
    go_wp2
    go_ret
    exact HX.out
theorem readCookie_c {g n0 : Nat} {r0 : Bool} {A : Option Addr} {c : Nat} {vf vk vc vo : Value} {L rest : List UInt8} (cs : List Ct) (w : World) (h : Row w g 169 #[.slice A L.length c, .int .i64 0, .int .i64 n0, .bool r0, vf, vk, vc, vo]) (hb : Gs e8 w 0 g (.slice A L.length c) L) (hl : L.length ≤ 10000000) (ha : Ag L (coo cs ++ rest)) (hn : cs.length ≤ 65536) :
    Calls Tryz.prog 199 #[.pointer (some ⟨g, 0, none⟩)] w (CkPart w g (.slice A L.length c) L cs vk vc vo) := by
  unfold CkPart coo at *
  unfold cool
  cases hr : anyr cs with
  | false =>
    rw [hr, if_neg (by simp), List.append_assoc] at ha
    rw [if_neg (by simp)]
    exact (readCookie_no w h hb hl ha hn).mono fun e w' hP => ⟨vf, hP, fun _ h => by cases h⟩
  | true =>
    rw [hr, if_pos rfl, List.append_assoc, List.append_assoc] at ha
    rw [if_pos rfl]
    exact readCookie_yes cs w h hb hl rfl hr ha hn
end Go.Proofs.YtponcpneflhpfaaGreatDoor
namespace Go.Proofs.YtponcpneflhpfaaGreatDoor
open Go.RowKit
set_option linter.unusedVariables false

def eI : Elem Nat := ⟨3, fun n => .int .i64 (n : Int), 0, 8, fun _ => rfl, fun _ => rfl, by omega⟩
theorem infI : (Tryz.prog.info? eI.E).map (fun i => (i.zero, i.size, i.bytes)) = some (some (eI.val eI.zero), 1, eI.bytes) := by kernel_rfl
theorem sliI : Tryz.prog.underlying 165 = some (.slice eI.E) := Tryz.underlying165
theorem wp_gapp1o {α : Type} (k : Elem α) {P : Program} (w : World) {o : Oper} {a : Act} {K : Act → World → Prop} {Q : Exit → Act → World → Prop} (s x : Operand) (t : TypeId)
    (ho : o.op = .call { callee := .builtin .append, args := #[s, x], argTypes := #[t, t] }) (base : Nat) (ht : P.underlying t = some (.slice k.E))
    (hinf : (P.info? k.E).map (fun i => (i.zero, i.size, i.bytes)) = some (some (k.val k.zero), 1, k.bytes))
    (v : Value) (l : List α) (hs : a.eval s = v) (hown : Gw k w base v l)
    (X : Value) (b : α) (hX : X = k.val b) (hx : a.eval x = .slice (some ⟨w.heap.size, 0, none⟩) 1 1)
    (hb : l.length + 1 ≤ 1000000000) (hbase : base ≤ w.heap.size)
    (h : ∀ v' w', Gw k w' base v' (l ++ [b]) → w.grownBy w' v.ownBlock → (v'.ownBlock = v.ownBlock ∨ v'.ownBlock = some (w.heap.size + 1)) → K (a.put o.dst v') w') : o.wp P a (w.alloc (.cells #[X] k.E)) K Q := by
  subst hX
  refine wp_gapp3 k (w.alloc (.cells #[k.val b] k.E)) s x t ho base ht hinf v l hs (hown.alloc _) w.heap.size (w.heap.size + 1) _ [b] hx
    ⟨some ⟨w.heap.size, 0, none⟩, 1, rfl, fun e => (by cases e), by simp, by unfold maxLen; omega, fun _ => ⟨w.heap.size, 0, rfl, Nat.le_refl _, by omega, fun j y hj => ?_⟩⟩ (by simpa using hb) (by simp; omega) ?_
  · match j, hj with
    | 0, hj =>
      simp at hj
      subst hj
      simp
  · intro v' w' h1 h2 h3
    refine h v' w' h1 ⟨h2.os, h2.tape, h2.output, Nat.le_trans (by simp) h2.size, fun k hk hne => (h2.block k (by simp; omega) hne).trans (Below.heap_alloc w _ k hk)⟩ (by simpa using h3)
theorem Rd.kept {w w' : World} {base g : Nat} {v : Value} {l : List UInt8} {p : Nat} {x : Bool} {row : Option Nat} (h : Rd w base g v l p x) (hg : w.grownBy w' row) (h1 : row ≠ some g) (h2 : ∀ k, v.ownBlock = some k → row ≠ some k) : Rd w' base g v l p x :=
  ⟨h.row.grown hg h1, h.own.kept hg h2, h.ge, h.le, h.small⟩
theorem gw_types {α β : Type} {k : Elem α} {k' : Elem β} {w : World} {b b' : Nat} {v v' : Value} {l : List α} {l' : List β} (h : Gw k w b v l) (h' : Gw k' w b' v' l') (ht : k.E ≠ k'.E) : ∀ x, v.ownBlock = some x → v'.ownBlock ≠ some x := by
  intro x hx hx'
  rcases h.2 with ⟨rfl, _⟩ | ⟨g, cap, cur, rfl, _, hh, _⟩
  · simp [Value.ownBlock] at hx
  · rcases h'.2 with ⟨rfl, _⟩ | ⟨g', cap', cur', rfl, _, hh', _⟩
    · simp [Value.ownBlock] at hx'
    · simp only [Value.ownBlock, Option.some.injEq] at hx hx'
      subst hx hx'
      rw [hh] at hh'
      injection hh' with hh'
      injection hh' with _ h2
      exact ht h2
/-- The header while it is read. -/
structure Hs (w wr : World) (g gr base B q n : Nat) (r : Bool) (vb vf vk vc vo vr : Value) (part : List UInt8) (p : Nat) (ks : List UInt16) (ns : List Nat) : Prop where
  row : Row wr g 169 #[vb, .int .i64 q, .int .i64 n, .bool r, vf, vk, vc, vo]
  ks : Gw e16 wr B vk ks
  ns : Gw eI wr B vc ns
  rd : Rd wr base gr vr part p false
  grw : w.grownBy wr (some g)
  gw : g < w.heap.size
  wgr : w.heap.size ≤ gr
  bg : g < base
  grB : gr < B
  rB : ∀ x, vr.ownBlock = some x → x < B
  Bw : B ≤ wr.heap.size
section
variable {w wr w2 w3 : World} {g gr base B q n p : Nat} {r : Bool} {vb vf vk vc vo vr v' : Value} {part : List UInt8} {ks : List UInt16} {ns : List Nat}
theorem Hs.read (h : Hs w wr g gr base B q n r vb vf vk vc vo vr part p ks ns) {p' : Nat} (rd : Rd w2 base gr vr part p' false) (hg : wr.grownBy w2 (some gr)) : Hs w w2 g gr base B q n r vb vf vk vc vo vr part p' ks ns :=
  ⟨h.row.grown hg (fun e => by injection e with e; have := h.gw; have := h.wgr; omega), h.ks.kept hg (fun k hk e => by injection e with e; have := (h.ks.lt k hk).1; have := h.grB; omega),
   h.ns.kept hg (fun k hk e => by injection e with e; have := (h.ns.lt k hk).1; have := h.grB; omega), rd, grown_new h.grw hg h.wgr, h.gw, h.wgr, h.bg, h.grB, h.rB, Nat.le_trans h.Bw hg.size⟩
theorem Hs.step (h : Hs w wr g gr base B q n r vb vf vk vc vo vr part p ks ns) (b : Below wr.heap.size wr w2) : Hs w w2 g gr base B q n r vb vf vk vc vo vr part p ks ns :=
  ⟨h.row.below b h.row.lt, h.ks.below b (Nat.le_refl _), h.ns.below b (Nat.le_refl _), h.rd.below b (Nat.le_refl _), grown_below h.grw b, h.gw, h.wgr, h.bg, h.grB, h.rB, Nat.le_trans h.Bw b.size⟩
theorem Hs.world (h : Hs w wr g gr base B q n r vb vf vk vc vo vr part p ks ns) : ∃ W, W = wr := ⟨wr, rfl⟩
theorem Hs.kg (h : Hs w wr g gr base B q n r vb vf vk vc vo vr part p ks ns) : vk.ownBlock ≠ some g := fun e => by have := (h.ks.lt g e).1; have := h.gw; have := h.wgr; have := h.grB; omega
theorem Hs.cg (h : Hs w wr g gr base B q n r vb vf vk vc vo vr part p ks ns) : vc.ownBlock ≠ some g := fun e => by have := (h.ns.lt g e).1; have := h.gw; have := h.wgr; have := h.grB; omega
theorem Hs.drew (h : Hs w wr g gr base B q n r vb vf vk vc vo vr part p ks ns) : Hs w wr.drew g gr base B q n r vb vf vk vc vo vr part p ks ns := h.step (Below.refl _ _).drew
theorem grown_own {a b c : World} {g B : Nat} {row : Option Nat} (h : a.grownBy b (some g)) (k : b.grownBy c row) (hr : ∀ x, row = some x → B ≤ x) (hB : a.heap.size ≤ B) : a.grownBy c (some g) :=
  ⟨k.os.trans h.os, k.tape.trans h.tape, k.output.trans h.output, Nat.le_trans h.size k.size, fun j hj hne => (k.block j (Nat.lt_of_lt_of_le hj h.size) (fun e => by have := hr j e.symm; omega)).trans (h.block j hj hne)⟩
theorem Hs.keys (h : Hs w wr g gr base B q n r vb vf vk vc vo vr part p ks ns) (x : UInt16) (o : Gw e16 w3 B v' (ks ++ [x])) (g3 : wr.grownBy w3 vk.ownBlock) (e3 : v'.ownBlock = vk.ownBlock ∨ ∃ y, v'.ownBlock = some y ∧ wr.heap.size ≤ y) : Hs w (w3.setCell ⟨g, 5, none⟩ v') g gr base B q n r vb vf v' vc vo vr part p (ks ++ [x]) ns := by
  have hge : ∀ x, vk.ownBlock = some x → B ≤ x := fun x hx => (h.ks.lt x hx).1
  have hgB : g < B := by have := h.gw; have := h.wgr; have := h.grB; omega
  have n1 : vk.ownBlock ≠ some g := fun e => by have := hge g e; omega
  have n2 : ∀ x, v'.ownBlock = some x → x ≠ g := fun x hx e => by
    rcases e3 with e3 | ⟨y, e3, hy⟩
    · rw [e3] at hx; have := hge x hx; omega
    · rw [hx] at e3; injection e3 with e3; have := h.row.lt; omega
  have R := (h.row.grown g3 n1).set_ 5 v'
  have s := grown_set w3 g 5 v'
  have gro : vk.ownBlock ≠ some gr := fun e => by have := hge gr e; have := h.grB; omega
  refine ⟨by simpa using R, ?_, ?_, ?_, (grown_own h.grw g3 hge (by have := h.wgr; have := h.grB; omega)).trans s, h.gw, h.wgr, h.bg, h.grB, h.rB, Nat.le_trans h.Bw (Nat.le_trans g3.size s.size)⟩
  · exact o.kept s (fun k hk e => by injection e with e; exact n2 k hk e.symm)
  · exact (h.ns.kept g3 (fun k hk e => gw_types h.ks h.ns (by decide) k e hk)).kept s (fun k hk e => by injection e with e; have := (h.ns.lt k hk).1; omega)
  · exact (h.rd.kept g3 gro (fun k hk e => by have := hge k e; have := h.rB k hk; omega)).kept s (fun e => by injection e with e; have := h.gw; have := h.wgr; omega) (fun k hk e => by injection e with e; subst e; have := (h.rd.own.lt g hk).1; have := h.rd.ge; exact absurd hk (by have := h.bg; exact fun hk => by have := (h.rd.own.lt g hk).1; omega))
theorem Hs.cnts (h : Hs w wr g gr base B q n r vb vf vk vc vo vr part p ks ns) (x : Nat) (o : Gw eI w3 B v' (ns ++ [x])) (g3 : wr.grownBy w3 vc.ownBlock) (e3 : v'.ownBlock = vc.ownBlock ∨ ∃ y, v'.ownBlock = some y ∧ wr.heap.size ≤ y) : Hs w (w3.setCell ⟨g, 6, none⟩ v') g gr base B q n r vb vf vk v' vo vr part p ks (ns ++ [x]) := by
  have hge : ∀ x, vc.ownBlock = some x → B ≤ x := fun x hx => (h.ns.lt x hx).1
  have hgB : g < B := by have := h.gw; have := h.wgr; have := h.grB; omega
  have n1 : vc.ownBlock ≠ some g := fun e => by have := hge g e; omega
  have n2 : ∀ x, v'.ownBlock = some x → x ≠ g := fun x hx e => by
    rcases e3 with e3 | ⟨y, e3, hy⟩
    · rw [e3] at hx; have := hge x hx; omega
    · rw [hx] at e3; injection e3 with e3; have := h.row.lt; omega
  have R := (h.row.grown g3 n1).set_ 6 v'
  have s := grown_set w3 g 6 v'
  have gro : vc.ownBlock ≠ some gr := fun e => by have := hge gr e; have := h.grB; omega
  refine ⟨by simpa using R, ?_, ?_, ?_, (grown_own h.grw g3 hge (by have := h.wgr; have := h.grB; omega)).trans s, h.gw, h.wgr, h.bg, h.grB, h.rB, Nat.le_trans h.Bw (Nat.le_trans g3.size s.size)⟩
  · exact (h.ks.kept g3 (fun k hk e => gw_types h.ns h.ks (by decide) k e hk)).kept s (fun k hk e => by injection e with e; have := (h.ks.lt k hk).1; omega)
  · exact o.kept s (fun k hk e => by injection e with e; exact n2 k hk e.symm)
  · exact (h.rd.kept g3 gro (fun k hk e => by have := hge k e; have := h.rB k hk; omega)).kept s (fun e => by injection e with e; have := h.gw; have := h.wgr; omega) (fun k hk e => by injection e with e; subst e; have := (h.rd.own.lt g hk).1; have := h.rd.ge; exact absurd hk (by have := h.bg; exact fun hk => by have := (h.rd.own.lt g hk).1; omega))
end
end Go.Proofs.YtponcpneflhpfaaGreatDoor
