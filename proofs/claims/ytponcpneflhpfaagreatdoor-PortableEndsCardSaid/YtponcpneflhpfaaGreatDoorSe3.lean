/- The table of lowest bits, as the program's text lays it: what a row's condition gives. -/
import Derived.Test.YtponcpneflhpfaaGreatDoorSb6
import Derived.Test.YtponcpneflhpfaaGreatDoorSc1
import Derived.Test.YtponcpneflhpfaaGreatDoorSe2
import Derived.Deep.SlicePairs
import Derived.ProofKit
import Derived.OpenShut
import Derived.ShutString
import Derived.ChangeOld
import Derived.Below
import Derived.Test.YtponcpneflhpfaaGreatDoorSa6
import Derived.Test.YtponcpneflhpfaaGreatDoorSb0
import Derived.Test.YtponcpneflhpfaaGreatDoorTie
import Derived.Test.YtponcpneflhpfaaGreatDoorCards
import Derived.Lib.LaidTab
import Derived.LaidMore
import Derived.SevenTiedAt
namespace Go.Proofs.YtponcpneflhpfaaGreatDoor
open Go.RowKit
set_option linter.unusedVariables false

set_option maxHeartbeats 4000000 in
theorem esame_c {N : Nat → Prop} (y z : Nat) (e f : Bd) (p q : Nat → Bool) (kp kq : Nat) (w : World) (hT : Tb w) (hN : ∀ b, w.heap.size ≤ b → N b) (h1 : Cn N w e.val p kp) (h2 : Cn N w f.val q kq) :
    Calls Tryz.prog 87 #[.agg #[.int .u16 y, .int .u8 e.κ, .slice e.A e.n e.c, .slice e.A2 e.n2 e.c2, .slice e.A3 e.n3 e.c3], .agg #[.int .u16 z, .int .u8 f.κ, .slice f.A f.n f.c, .slice f.A2 f.n2 f.c2, .slice f.A3 f.n3 f.c3]] w fun r w' => ∃ B, r = .returned (.bool B) ∧ (B = true ↔ y = z ∧ ∀ x, x < 65536 → p x = q x) ∧ Below w.heap.size w w' := by
  have TT := Lib.hid hT
  have HN := Lib.hid hN
  have H1 := Lib.hid h1
  have H2 := Lib.hid h2
  obtain ⟨m, hm⟩ : ∃ m, ct (fun x => fXor (p x) (q x)) 65536 = m := ⟨_, rfl⟩
  have hB : m = 0 ↔ ∀ x, x < 65536 → p x = q x := by
    rw [← hm]
    constructor
    · intro h0 x hx
      cases hc : fXor (p x) (q x) with
      | true => have := (ct_pos (p := fun x => fXor (p x) (q x))).2 ⟨x, hx, hc⟩; omega
      | false => unfold fXor at hc; revert hc; cases p x <;> cases q x <;> simp
    · intro h
      exact ct_zero fun x hx => by unfold fXor; rw [h x hx]; simp
  have HM := Lib.hid hm
  have HBB := Lib.hid hB
  have T := two_blocks w #[.int .u16 y, .int .u8 e.κ, .slice e.A e.n e.c, .slice e.A2 e.n2 e.c2, .slice e.A3 e.n3 e.c3] #[.int .u16 z, .int .u8 f.κ, .slice f.A f.n f.c, .slice f.A2 f.n2 f.c2, .slice f.A3 f.n3 f.c3] 106 106
  clear hT h1 h2 hN hm hB
  by_cases hyz : y = z
  · subst hyz
    go_enter Tryz.func87, Tryz.ntmps87
    go_wp2_with fail
    generalize (w.alloc (.cells #[.int .u16 y, .int .u8 e.κ, .slice e.A e.n e.c, .slice e.A2 e.n2 e.c2, .slice e.A3 e.n3 e.c3] 106)).alloc (.cells #[.int .u16 y, .int .u8 f.κ, .slice f.A f.n f.c, .slice f.A2 f.n2 f.c2, .slice f.A3 f.n3 f.c3] 106) = W0 at *
    obtain ⟨b0, r0, r1⟩ := T
    have B0 := Lib.hid b0
    have TT := Lib.hid (TT.out.step b0)
    have HN0 := Lib.hid (show ∀ b, W0.heap.size ≤ b → N b from fun b hb => HN.out b (Nat.le_trans b0.size hb))
    have k0 : W0.cell? ⟨w.heap.size, 0, none⟩ = some (.int .u16 y) := r0.cell 0
    have k1 : W0.cell? ⟨w.heap.size, 1, none⟩ = some (.int .u8 e.κ) := r0.cell 1
    have k2 : W0.cell? ⟨w.heap.size, 2, none⟩ = some (.slice e.A e.n e.c) := r0.cell 2
    have k3 : W0.cell? ⟨w.heap.size, 3, none⟩ = some (.slice e.A2 e.n2 e.c2) := r0.cell 3
    have k4 : W0.cell? ⟨w.heap.size, 4, none⟩ = some (.slice e.A3 e.n3 e.c3) := r0.cell 4
    have l0 : W0.cell? ⟨w.heap.size + 1, 0, none⟩ = some (.int .u16 y) := r1.cell 0
    have l1 : W0.cell? ⟨w.heap.size + 1, 1, none⟩ = some (.int .u8 f.κ) := r1.cell 1
    have l2 : W0.cell? ⟨w.heap.size + 1, 2, none⟩ = some (.slice f.A f.n f.c) := r1.cell 2
    have l3 : W0.cell? ⟨w.heap.size + 1, 3, none⟩ = some (.slice f.A2 f.n2 f.c2) := r1.cell 3
    have l4 : W0.cell? ⟨w.heap.size + 1, 4, none⟩ = some (.slice f.A3 f.n3 f.c3) := r1.cell 4
    clear b0 r0 r1
    go_wp2_with fail
    refine (cxor e.val f.val p q kp kq _ TT.out HN0.out (H1.out.step B0.out) (H2.out.step B0.out)).mono ?_
    rintro r w1 ⟨v', rfl, g, b1⟩
    have B1 := Lib.hid (below_both B0.out b1)
    have G := Lib.hid g
    clear b1 g
    go_wp2_with fail
    refine (len_c v' _ _ m _ HM.out G.out).mono ?_
    rintro r w2 ⟨rfl, b2⟩
    have B2 := Lib.hid (below_both B1.out b2)
    clear b2
    by_cases h0 : m = 0
    · subst h0
      go_wp2
      go_ret
      exact ⟨true, rfl, by have := HBB.out; simp at this ⊢; exact this, B2.out⟩
    · have h1 : ((m : Int) == 0) = false := beq_false_of_ne (by omega)
      have h2 : decide ((m : Int) = 0) = false := decide_eq_false (by omega)
      go_wp2
      go_ret
      exact ⟨false, rfl, ⟨fun h => (by cases h), fun h => absurd (HBB.out.2 h.2) h0⟩, B2.out⟩
  · have h1 : ((y : Int) == z) = false := beq_false_of_ne (by omega)
    have h2 : decide ((y : Int) = z) = false := decide_eq_false (by omega)
    go_enter Tryz.func87, Tryz.ntmps87
    go_wp2_with fail
    generalize (w.alloc (.cells #[.int .u16 y, .int .u8 e.κ, .slice e.A e.n e.c, .slice e.A2 e.n2 e.c2, .slice e.A3 e.n3 e.c3] 106)).alloc (.cells #[.int .u16 z, .int .u8 f.κ, .slice f.A f.n f.c, .slice f.A2 f.n2 f.c2, .slice f.A3 f.n3 f.c3] 106) = W0 at *
    obtain ⟨b0, r0, r1⟩ := T
    have B0 := Lib.hid b0
    have k0 : W0.cell? ⟨w.heap.size, 0, none⟩ = some (.int .u16 y) := r0.cell 0
    have k1 : W0.cell? ⟨w.heap.size, 1, none⟩ = some (.int .u8 e.κ) := r0.cell 1
    have k2 : W0.cell? ⟨w.heap.size, 2, none⟩ = some (.slice e.A e.n e.c) := r0.cell 2
    have k3 : W0.cell? ⟨w.heap.size, 3, none⟩ = some (.slice e.A2 e.n2 e.c2) := r0.cell 3
    have k4 : W0.cell? ⟨w.heap.size, 4, none⟩ = some (.slice e.A3 e.n3 e.c3) := r0.cell 4
    have l0 : W0.cell? ⟨w.heap.size + 1, 0, none⟩ = some (.int .u16 z) := r1.cell 0
    have l1 : W0.cell? ⟨w.heap.size + 1, 1, none⟩ = some (.int .u8 f.κ) := r1.cell 1
    have l2 : W0.cell? ⟨w.heap.size + 1, 2, none⟩ = some (.slice f.A f.n f.c) := r1.cell 2
    have l3 : W0.cell? ⟨w.heap.size + 1, 3, none⟩ = some (.slice f.A2 f.n2 f.c2) := r1.cell 3
    have l4 : W0.cell? ⟨w.heap.size + 1, 4, none⟩ = some (.slice f.A3 f.n3 f.c3) := r1.cell 4
    clear b0 r0 r1
    go_wp2
    go_ret
    exact ⟨false, rfl, ⟨fun h => (by cases h), fun h => absurd h.1 hyz⟩, B0.out⟩

theorem Dir.first {N M : Nat → Prop} {w u : World} {P Q : Nat → Bool} {K : Nat} {e f : En} {es fs : List En} (h : Dir N w P K 65536 (e :: es)) (g : Dir M u Q K 65536 (f :: fs)) (hs : ∀ x, x < 4294967296 → P x = Q x) : e.key.toNat = f.key.toNat := by
  have hz : ∀ k, k < 65536 → nz P k = nz Q k := fun k hk => nz_ext fun x hx => hs x (by omega)
  obtain ⟨a1, a2, a3, _⟩ := h.head
  obtain ⟨b1, b2, b3, _⟩ := g.head
  rcases Nat.lt_trichotomy e.key.toNat f.key.toNat with hlt | he | hlt
  · have := g.gap _ a1 hlt
    rw [← hz _ a2, a3] at this; cases this
  · exact he
  · have := h.gap _ b1 hlt
    rw [hz _ b2, b3] at this; cases this
theorem same_gap {P Q : Nat → Bool} {a b : Nat} (h : ∀ x, x < 65536 * a → P x = Q x) (hp : ∀ k, a ≤ k → k < b → nz P k = false) (hq : ∀ k, a ≤ k → k < b → nz Q k = false) : ∀ x, x < 65536 * b → P x = Q x := fun x hx => by
  by_cases hxa : x < 65536 * a
  · exact h x hxa
  · rw [nz_none (hp (x / 65536) (by omega) (by omega)), nz_none (hq (x / 65536) (by omega) (by omega))]
theorem same_key {P Q : Nat → Bool} {y : Nat} (h : ∀ x, x < 65536 * y → P x = Q x) (hb : ∀ x, x < 65536 → blk P y x = blk Q y x) : ∀ x, x < 65536 * (y + 1) → P x = Q x := fun x hx => by
  by_cases hxy : x < 65536 * y
  · exact h x hxy
  · have e : x / 65536 = y := by omega
    rw [← blk_at P x, ← blk_at Q x, e]
    exact hb _ (Nat.mod_lt _ (by omega))
set_option maxHeartbeats 8000000 in
theorem eqfunc_c {N : Nat → Prop} (v u : Value) (P Q : Nat → Bool) (es fs : List En) (w : World) (hT : Tb w) (hN : ∀ b, w.heap.size ≤ b → N b) (hv : GsV eN w 0 w.heap.size v es) (hu : GsV eN w 0 w.heap.size u fs) (hp : Dir N w P 0 65536 es) (hq : Dir N w Q 0 65536 fs) :
    Calls Tryz.prog 86 #[v, u, .func (.func 87) #[] #[]] w fun r w' => ∃ B, r = .returned (.bool B) ∧ (B = true ↔ ∀ x, x < 4294967296 → P x = Q x) ∧ Below w.heap.size w w' := by
  have HE : Enters Tryz.prog 87 := enters_of Tryz.func87 (by kernel_rfl) rfl
  unfold Enters at HE
  have HV := Lib.hid hv
  have HU := Lib.hid hu
  have HP := Lib.hid hp
  have HQ := Lib.hid hq
  have TT := Lib.hid hT
  have HN := Lib.hid hN
  have hle := hp.len
  have hlf := hq.len
  obtain ⟨A1, d1, rfl, -⟩ := hv
  obtain ⟨A2, d2, rfl, -⟩ := hu
  clear hp hq hT hN
  by_cases hl : es.length = fs.length
  · have hl1 : ((es.length : Int) != fs.length) = false := by rw [hl]; simp
    have HL := Lib.hid hl
    clear hl
    go_enter Tryz.func86, Tryz.ntmps86
    go_wp2
    go_loopw [17] (fun s17 wr => ∃ k K : Nat, k ≤ es.length ∧ s17 = .int .i64 k ∧ K ≤ 65536 ∧ Hid (Dir N w P K 65536 (es.drop k) ∧ Dir N w Q K 65536 (fs.drop k) ∧ ∀ x, x < 65536 * K → P x = Q x) ∧ Below w.heap.size w wr) (fun s17 _ => es.length - (intOf s17).toNat)
    case atStart => exact ⟨0, 0, Nat.zero_le _, rfl, Nat.zero_le _, ⟨HP.out, HQ.out, fun x hx => absurd hx (by omega)⟩, Below.refl _ _⟩
    case round =>
      obtain ⟨k, K, hk, rfl, hK, hdk, hbl⟩ := hrel
      have HB := Lib.hid hbl
      by_cases hlt : k < es.length
      · obtain ⟨b, off, e, e1, -, hb, hdr, hg, c0, c1, c2, c3, c4⟩ := gsv_at HV.out hlt
        obtain ⟨b', off', f, e2, -, hb', hdr', hg', k0, k1, k2, k3, k4⟩ := gsv_at HU.out (show k < fs.length by have := HL.out; omega)
        subst e1 e2
        rw [← hbl.cell (p := ⟨b, off + k * 5, none⟩) hb] at c0
        rw [← hbl.cell (p := ⟨b, off + k * 5 + 1, none⟩) hb] at c1
        rw [← hbl.cell (p := ⟨b, off + k * 5 + 2, none⟩) hb] at c2
        rw [← hbl.cell (p := ⟨b, off + k * 5 + 3, none⟩) hb] at c3
        rw [← hbl.cell (p := ⟨b, off + k * 5 + 4, none⟩) hb] at c4
        rw [← hbl.cell (p := ⟨b', off' + k * 5, none⟩) hb'] at k0
        rw [← hbl.cell (p := ⟨b', off' + k * 5 + 1, none⟩) hb'] at k1
        rw [← hbl.cell (p := ⟨b', off' + k * 5 + 2, none⟩) hb'] at k2
        rw [← hbl.cell (p := ⟨b', off' + k * 5 + 3, none⟩) hb'] at k3
        rw [← hbl.cell (p := ⟨b', off' + k * 5 + 4, none⟩) hb'] at k4
        have hkl : (k : Int) < es.length := by omega
        have hkf : (k : Int) < fs.length := by have := HL.out; omega
        have hd := hdk.out
        rw [hdr, hdr'] at hd
        have HD := Lib.hid hd
        have j0 := (World.cell?_alloc_lt wr (.cells #[.int .u16 e.key.toNat, .int .u8 e.b.κ, .slice e.b.A e.b.n e.b.c, .slice e.b.A2 e.b.n2 e.b.c2, .slice e.b.A3 e.b.n3 e.b.c3] 106) ⟨b', off' + k * 5, none⟩ (by have := hbl.size; show b' < _; omega)).trans k0
        have j1 := (World.cell?_alloc_lt wr (.cells #[.int .u16 e.key.toNat, .int .u8 e.b.κ, .slice e.b.A e.b.n e.b.c, .slice e.b.A2 e.b.n2 e.b.c2, .slice e.b.A3 e.b.n3 e.b.c3] 106) ⟨b', off' + k * 5 + 1, none⟩ (by have := hbl.size; show b' < _; omega)).trans k1
        have j2 := (World.cell?_alloc_lt wr (.cells #[.int .u16 e.key.toNat, .int .u8 e.b.κ, .slice e.b.A e.b.n e.b.c, .slice e.b.A2 e.b.n2 e.b.c2, .slice e.b.A3 e.b.n3 e.b.c3] 106) ⟨b', off' + k * 5 + 2, none⟩ (by have := hbl.size; show b' < _; omega)).trans k2
        have j3 := (World.cell?_alloc_lt wr (.cells #[.int .u16 e.key.toNat, .int .u8 e.b.κ, .slice e.b.A e.b.n e.b.c, .slice e.b.A2 e.b.n2 e.b.c2, .slice e.b.A3 e.b.n3 e.b.c3] 106) ⟨b', off' + k * 5 + 3, none⟩ (by have := hbl.size; show b' < _; omega)).trans k3
        have j4 := (World.cell?_alloc_lt wr (.cells #[.int .u16 e.key.toNat, .int .u8 e.b.κ, .slice e.b.A e.b.n e.b.c, .slice e.b.A2 e.b.n2 e.b.c2, .slice e.b.A3 e.b.n3 e.b.c3] 106) ⟨b', off' + k * 5 + 4, none⟩ (by have := hbl.size; show b' < _; omega)).trans k4
        have T := two_blocks wr #[.int .u16 e.key.toNat, .int .u8 e.b.κ, .slice e.b.A e.b.n e.b.c, .slice e.b.A2 e.b.n2 e.b.c2, .slice e.b.A3 e.b.n3 e.b.c3] #[.int .u16 f.key.toNat, .int .u8 f.b.κ, .slice f.b.A f.b.n f.b.c, .slice f.b.A2 f.b.n2 f.b.c2, .slice f.b.A3 f.b.n3 f.b.c3] 106 106
        clear hdk hdr hdr' hg hg' hd hbl
        go_wp2_with fail
        generalize (wr.alloc (.cells #[.int .u16 e.key.toNat, .int .u8 e.b.κ, .slice e.b.A e.b.n e.b.c, .slice e.b.A2 e.b.n2 e.b.c2, .slice e.b.A3 e.b.n3 e.b.c3] 106)).alloc (.cells #[.int .u16 f.key.toNat, .int .u8 f.b.κ, .slice f.b.A f.b.n f.b.c, .slice f.b.A2 f.b.n2 f.b.c2, .slice f.b.A3 f.b.n3 f.b.c3] 106) = W0 at *
        obtain ⟨b0, r0, r1⟩ := T
        have B0 := Lib.hid (below_both HB.out b0)
        clear b0 r0 r1
        refine (esame_c (N := N) e.key.toNat f.key.toNat e.b f.b _ _ _ _ _ (TT.out.step B0.out) (fun x hx => HN.out x (Nat.le_trans B0.out.size hx)) (HD.out.1.head.2.2.2.step B0.out) (HD.out.2.1.head.2.2.2.step B0.out)).mono ?_
        rintro r w1 ⟨B, rfl, hB, b1⟩
        have B1 := Lib.hid (below_both B0.out b1)
        have HBI := Lib.hid hB
        clear b1 hB
        cases B with
        | true =>
          have HX : Hid (Dir N w P (e.key.toNat + 1) 65536 (es.drop (k + 1)) ∧ Dir N w Q (e.key.toNat + 1) 65536 (fs.drop (k + 1)) ∧ ∀ x, x < 65536 * (e.key.toNat + 1) → P x = Q x) := Lib.hid (by
            obtain ⟨h1, h2⟩ := HBI.out.1 rfl
            obtain ⟨d1, d2, d3⟩ := HD.out
            refine ⟨d1.tail, h1 ▸ d2.tail, same_key (same_gap d3 d1.gap (h1 ▸ d2.gap)) ?_⟩
            rw [← h1] at h2
            exact h2)
          have hkx : e.key.toNat + 1 ≤ 65536 := HD.out.1.head.2.1
          clear HD HBI
          go_wp2
          refine ⟨⟨k + 1, _, by omega, by go_num, hkx, HX.out, B1.out⟩, by simp [intOf]; omega⟩
        | false =>
          go_wp2
          go_ret
          refine ⟨_, rfl, ?_, B1.out⟩
          constructor
          · intro h; cases h
          · intro h
            exfalso
            have hk := HD.out.1.first HD.out.2.1 h
            have := HBI.out.2 ⟨hk, fun x hx => ?_⟩
            · cases this
            · rw [← hk]
              exact h _ (by have := HD.out.1.head.2.1; omega)
      · obtain rfl : k = es.length := by omega
        have HR : Hid (∀ x, x < 4294967296 → P x = Q x) := Lib.hid (by
          obtain ⟨d1, d2, d3⟩ := hdk.out
          rw [List.drop_length] at d1
          rw [HL.out, List.drop_length] at d2
          exact same_gap d3 d1.none d2.none)
        clear hdk hbl
        go_wp2
        go_ret
        exact ⟨_, rfl, ⟨fun _ => HR.out, fun _ => rfl⟩, HB.out⟩
  · have hl1 : ((es.length : Int) != fs.length) = true := by simp; omega
    go_enter Tryz.func86, Tryz.ntmps86
    go_wp2
    go_ret
    refine ⟨_, rfl, ⟨fun h => (by cases h), fun h => ?_⟩, Below.refl _ _⟩
    have k1 := HP.out.keys (Nat.le_refl _)
    have k2 := HQ.out.keys (Nat.le_refl _)
    rw [ls_ext (q := nz Q) fun k hk => nz_ext fun x hx => h x (by omega), ← k2] at k1
    have := congrArg List.length k1
    rw [List.length_map, List.length_map] at this
    exact absurd this hl
set_option maxHeartbeats 1000000 in
theorem setsame_c {N : Nat → Prop} (v u : Value) (P Q : Nat → Bool) (w : World) (hT : Tb w) (hN : ∀ b, w.heap.size ≤ b → N b) (hv : St N w v P) (hu : St N w u Q) :
    Calls Tryz.prog 28 #[v, u] w fun r w' => ∃ B, r = .returned (.bool B) ∧ (B = true ↔ ∀ x, x < 4294967296 → P x = Q x) ∧ Below w.heap.size w w' := by
  have HV := Lib.hid hv
  have HU := Lib.hid hu
  have TT := Lib.hid hT
  have HN := Lib.hid hN
  clear hv hu hT hN
  go_enter Tryz.func28, Tryz.ntmps28
  go_wp2_with fail
  refine (entries_c v P _ HV.out).mono ?_
  rintro e w0 ⟨A, n, c, es, rfl, hz, g, d⟩
  have hz := hz.symm
  subst hz
  have G1 := Lib.hid g
  have D1 := Lib.hid d
  clear g d
  go_wp2_with fail
  refine (entries_c u Q _ HU.out).mono ?_
  rintro e w0 ⟨A', n', c', fs, rfl, hz, g, d⟩
  have hz := hz.symm
  subst hz
  have G2 := Lib.hid g
  have D2 := Lib.hid d
  clear g d
  go_wp2_with fail
  refine (eqfunc_c _ _ P Q es fs _ TT.out HN.out G1.out G2.out D1.out D2.out).mono ?_
  rintro r w1 ⟨B, rfl, hB, b1⟩
  have HB := Lib.hid hB
  have B1 := Lib.hid b1
  clear hB b1
  go_wp2
  go_ret
  exact ⟨_, rfl, HB.out, B1.out⟩
end Go.Proofs.YtponcpneflhpfaaGreatDoor
namespace Go.Proofs.YtponcpneflhpfaaGreatDoor
open Go.RowKit
set_option linter.unusedVariables false

theorem keys_any (v : Value) (P : Nat → Bool) (k : Nat) (w : World) (hk : (ls (nz P) 65536).length = k) (h : St (fun _ => True) w v P) :
    Calls Tryz.prog 43 #[v] w fun e w' => ∃ A c, e = .returned (.slice A k c) ∧ Below w.heap.size w w' := by
  refine (setkeys_c v P w h).mono ?_
  rintro e w' ⟨v', rfl, g, b⟩
  obtain ⟨A, c, rfl, -⟩ := g
  rw [hk]
  exact ⟨A, c, rfl, b⟩
theorem size_nil (w : World) : Calls Tryz.prog 49 #[.pointer none] w fun e w' => e = .returned (.int .i64 8) ∧ Below w.heap.size w w' :=
  psize_c (N := fun _ => False) _ (fun _ => false) 8 w (fun _ h => h.elim) (.none fun _ _ => rfl) (by rw [cso_none]; rfl) (by omega)
theorem write_nil (w : World) (hT : Tb w) : Calls Tryz.prog 47 #[.pointer none] w (WrAns w 8 [58, 48, 0, 0, 0, 0, 0, 0]) :=
  write_any _ _ _ 8 w (by rw [cso_none]; exact img_none) rfl (by omega) hT (.none fun _ _ => rfl)
theorem write_nil2 (v : Value) (w : World) (hT : Tb w) (h : St (fun _ => True) w v fun _ => false) : Calls Tryz.prog 47 #[v] w (WrAns w 8 [58, 48, 0, 0, 0, 0, 0, 0]) :=
  write_any _ _ _ 8 w (by rw [cso_none]; exact img_none) rfl (by omega) hT h
theorem new_st9 (w : World) : Calls Tryz.prog 11 #[] w fun e w' => ∃ b, e = .returned (.pointer (some ⟨b, 0, none⟩)) ∧ St (fun _ => True) w' (.pointer (some ⟨b, 0, none⟩)) (fun _ => false) ∧ Below w.heap.size w w' :=
  (new_none w).mono fun e w' ⟨b, N', h1, _, h2, _, h3⟩ => ⟨b, h1, h2.st.mono fun _ _ _ => trivial, h3⟩
set_option maxHeartbeats 16000000 in
set_option maxRecDepth 100000 in
theorem small_any (A : Option Addr) (c : Nat) (a : List Sn) (A2 : Option Addr) (c2 : Nat) (b : List Sn) (w : World) (hT : Tb w) (hva : Gs2 eSp w 0 w.heap.size (.slice A a.length c) a) (hvb : Gs2 eSp w 0 w.heap.size (.slice A2 b.length c2) b) (hla : a.length ≤ 8796093022209) (hlb : b.length ≤ 8796093022209) :
    Calls Tryz.prog 7 #[.slice A a.length c, .slice A2 b.length c2] w fun e w' => e = .returned (.bool true) ∧ Below w.heap.size w w' := by
  have TT := Lib.hid hT
  have HA := Lib.hid hva
  have HB := Lib.hid hvb
  clear hT hva hvb
  go_enter Tryz.func7, Tryz.ntmps7
  go_wp2_with fail
  refine (great9_is _ a w hla HA.out).mono ?_
  rintro e u1 ⟨R1, rfl, hs1, bq1⟩
  have A_1 := Lib.hid (HA.out.step bq1)
  have B_1 := Lib.hid (HB.out.step bq1)
  have B1 := Lib.hid bq1
  clear bq1 HA HB
  cases R1 with
  | true =>
    go_wp2_with fail
    refine (known9 u1 (TT.out.step B1.out)).mono ?_
    rintro e u2 ⟨rfl, bq2⟩
    have B2 := Lib.hid (below_both B1.out bq2)
    clear bq2 A_1 B_1
    go_wp2
    go_ret
    exact ⟨rfl, B2.out⟩
  | false =>
    go_wp2_with fail
    refine (great9_is _ b u1 hlb B_1.out).mono ?_
    rintro e u2 ⟨R2, rfl, hs2, bq2⟩
    have A_2 := Lib.hid (A_1.out.step bq2)
    have B_2 := Lib.hid (B_1.out.step bq2)
    have B2 := Lib.hid (below_both B1.out bq2)
    clear bq2 A_1 B_1
    cases R2 with
    | true =>
      go_wp2_with fail
      refine (known9 u2 (TT.out.step B2.out)).mono ?_
      rintro e u3 ⟨rfl, bq3⟩
      have B3 := Lib.hid (below_both B2.out bq3)
      clear bq3 A_2 B_2
      go_wp2
      go_ret
      exact ⟨rfl, B3.out⟩
    | false =>
      obtain ⟨ga, la⟩ := hs1 (by simp)
      obtain ⟨gb, lb⟩ := hs2 (by simp)
      have ca := Nat.le_trans (ct_spans a) ga
      have cb := Nat.le_trans (ct_spans b) gb
      clear hs1 hs2 ga gb
      obtain ⟨P, hP⟩ : ∃ P, P = clp32 a := ⟨_, rfl⟩
      obtain ⟨Q, hQ⟩ : ∃ Q, Q = clp32 b := ⟨_, rfl⟩
      rw [← hP] at ca
      rw [← hQ] at cb
      obtain ⟨X, hX⟩ : ∃ X, img (cso P) = X := ⟨_, rfl⟩
      obtain ⟨Y, hY⟩ : ∃ Y, img (cso Q) = Y := ⟨_, rfl⟩
      obtain ⟨n1, hn1⟩ : ∃ n, X.length = n := ⟨_, rfl⟩
      obtain ⟨n2, hn2⟩ : ∃ n, Y.length = n := ⟨_, rfl⟩
      obtain ⟨k, hk⟩ : ∃ k, (ls (nz P) 65536).length = k := ⟨_, rfl⟩
      obtain ⟨z, hz⟩ : ∃ z, ct P 4294967296 = z := ⟨_, rfl⟩
      have hkc : (cso P).length = k := by rw [← hk]; unfold cso; rw [List.length_map]
      have hk6 : (k : Int) ≤ 65536 := by have := cso_len P; omega
      have hs1 : (n1 : Int) ≤ 8208 * k + 16 := by have := (img_small P).1; rw [hX, hn1, hkc] at this; omega
      have hs2 : (n1 : Int) ≤ 4 * z + 16 * k + 16 := by have := (img_small P).2; rw [hX, hn1, hkc, hz] at this; omega
      have hz3 : (z : Int) ≤ 300000 := by omega
      have hl1 : n1 ≤ 40000000 := by omega
      have hl2 : n2 ≤ 40000000 := by have := img_le Q cb; rw [hY, hn2] at this; omega
      have hXY : (∀ x, x < 4294967296 → P x = Q x) ↔ X = Y := by rw [← hX, ← hY]; exact ⟨cso_ext, cso_inj⟩
      have WX := Lib.hid (fun (v : Value) (W : World) (h1 : Tb W) (h2 : St (fun _ => True) W v P) => write_any v P X n1 W hX hn1 hl1 h1 h2)
      have WY := Lib.hid (fun (v : Value) (W : World) (h1 : Tb W) (h2 : St (fun _ => True) W v Q) => write_any v Q Y n2 W hY hn2 hl2 h1 h2)
      have SA := Lib.hid (fun (v : Value) (W : World) (h1 : Tb W) (h2 : Gs2 eSp W 0 W.heap.size v a) => spans_any v a P W hP h1 h2 (by omega))
      have SB := Lib.hid (fun (v : Value) (W : World) (h1 : Tb W) (h2 : Gs2 eSp W 0 W.heap.size v b) => spans_any v b Q W hQ h1 h2 (by omega))
      have KX := Lib.hid (fun (v : Value) (W : World) (h : St (fun _ => True) W v P) => keys_any v P k W hk h)
      have LX := Lib.hid (fun (v : Value) (W : World) (h : St (fun _ => True) W v P) => setlen_c v P z W h hz)
      have EX := Lib.hid hXY
      have g1 : decide ((n1 : Int) > 8208 * (k : Int) + 16) = false := decide_eq_false (by omega)
      have g2 : decide ((n1 : Int) > 4 * (z : Int) + 16 * (k : Int) + 16) = false := decide_eq_false (by omega)
      clear hX hY hn1 hn2 hk hz hkc hXY hP hQ ca cb la lb hla hlb
      go_wp2_with fail
      refine (SA.out _ u2 (TT.out.step B2.out) A_2.out).mono ?_
      rintro e u3 ⟨b3, rfl, t3, bq3⟩
      have S_3 := Lib.hid t3
      have B_3 := Lib.hid (B_2.out.step bq3)
      have B3 := Lib.hid (below_both B2.out bq3)
      clear bq3 A_2 B_2 t3
      go_wp2_with fail
      refine (SB.out _ u3 (TT.out.step B3.out) B_3.out).mono ?_
      rintro e u4 ⟨b4, rfl, t4, bq4⟩
      have T_4 := Lib.hid t4
      have S_4 := Lib.hid (S_3.out.step bq4)
      have B4 := Lib.hid (below_both B3.out bq4)
      clear bq4 B_3 S_3 t4
      go_wp2_with fail
      refine (WX.out _ u4 (TT.out.step B4.out) S_4.out).mono ?_
      rintro e u5 ⟨A5, c5, rfl, g5, bq5⟩
      have G_5 := Lib.hid g5
      have S_5 := Lib.hid (S_4.out.step bq5)
      have T_5 := Lib.hid (T_4.out.step bq5)
      have B5 := Lib.hid (below_both B4.out bq5)
      clear bq5 S_4 T_4 g5
      go_wp2_with fail
      refine (WY.out _ u5 (TT.out.step B5.out) T_5.out).mono ?_
      rintro e u6 ⟨A6, c6, rfl, g6, bq6⟩
      have H_6 := Lib.hid g6
      have S_6 := Lib.hid (S_5.out.step bq6)
      have T_6 := Lib.hid (T_5.out.step bq6)
      have G_6 := Lib.hid (G_5.out.step bq6)
      have B6 := Lib.hid (below_both B5.out bq6)
      clear bq6 S_5 T_5 G_5 g6
      go_wp2_with fail
      refine (KX.out _ u6 S_6.out).mono ?_
      rintro e u7 ⟨A7, c7, rfl, bq7⟩
      have S_7 := Lib.hid (S_6.out.step bq7)
      have T_7 := Lib.hid (T_6.out.step bq7)
      have G_7 := Lib.hid (G_6.out.step bq7)
      have H_7 := Lib.hid (H_6.out.step bq7)
      have B7 := Lib.hid (below_both B6.out bq7)
      clear bq7 S_6 T_6 G_6 H_6
      go_wp2_with fail
      refine (LX.out _ u7 S_7.out).mono ?_
      rintro e u8 ⟨rfl, bq8⟩
      have S_8 := Lib.hid (S_7.out.step bq8)
      have T_8 := Lib.hid (T_7.out.step bq8)
      have G_8 := Lib.hid (G_7.out.step bq8)
      have H_8 := Lib.hid (H_7.out.step bq8)
      have B8 := Lib.hid (below_both B7.out bq8)
      clear bq8 S_7 T_7 G_7 H_7
      go_wp2_with fail
      obtain ⟨E, hE⟩ : ∃ E, (X == Y) = E := ⟨_, rfl⟩
      have SE := Lib.hid (show ∀ B : Bool, (B = true ↔ ∀ x, x < 4294967296 → P x = Q x) → B = E from fun B hB => by
        rw [← hE, Bool.eq_iff_iff, hB, EX.out, beq_iff_eq])
      have e1 : ((E == E) : Bool) = true := by simp
      have hSc := (Below.refl u8.heap.size u8).drew
      refine wp_region_held_drew (S := fun W => Below u8.heap.size u8 W) (by kernel_rfl) hSc (fun _ => ?_)
      refine held_take 0 ?_ rfl (by kernel_rfl) (by kernel_rfl) (by kernel_rfl) (fun _ _ _ h => h) (by rfl) ?_ hSc ?_
      rotate_left
      · (intro W hSW; go_simp; try rfl)
      try simp only [Act.put, List.setIfInBounds_toArray, List.set_cons_zero, List.set_cons_succ]
      refine held_take 1 ?_ rfl (by kernel_rfl) (by kernel_rfl) (by kernel_rfl) (fun _ _ _ h => h) (by rfl) ?_ hSc ?_
      rotate_left
      · (intro W hSW; have s1 := str8 (G_8.out.step hSW); go_simp; try rfl)
      try simp only [Act.put, List.setIfInBounds_toArray, List.set_cons_zero, List.set_cons_succ]
      refine held_take 2 ?_ rfl (by kernel_rfl) (by kernel_rfl) (by kernel_rfl) (fun _ _ _ h => h) (by rfl) ?_ hSc ?_
      rotate_left
      · (intro W hSW; go_simp; try rfl)
      try simp only [Act.put, List.setIfInBounds_toArray, List.set_cons_zero, List.set_cons_succ]
      refine held_take 3 ?_ rfl (by kernel_rfl) (by kernel_rfl) (by kernel_rfl) (fun _ _ _ h => h) (by rfl) ?_ hSc ?_
      rotate_left
      · (intro W hSW; have s1 := str8 (H_8.out.step hSW); go_simp; try rfl)
      try simp only [Act.put, List.setIfInBounds_toArray, List.set_cons_zero, List.set_cons_succ]
      refine held_take 4 ?_ rfl (by kernel_rfl) (by kernel_rfl) (by kernel_rfl) (fun _ _ _ h => h) (by rfl) ?_ hSc ?_
      rotate_left
      · (intro W hSW; go_simp; try rfl)
      try simp only [Act.put, List.setIfInBounds_toArray, List.set_cons_zero, List.set_cons_succ]
      refine held_take 5 ?_ rfl (by kernel_rfl) (by kernel_rfl) (by kernel_rfl) (fun _ _ _ h => h) (by rfl) ?_ hSc ?_
      rotate_left
      · (intro W hSW; go_simp; try rfl)
      try simp only [Act.put, List.setIfInBounds_toArray, List.set_cons_zero, List.set_cons_succ]
      refine held_take 6 ?_ rfl (by kernel_rfl) (by kernel_rfl) (by kernel_rfl) (fun _ _ _ h => h) (by rfl) ?_ hSc ?_
      rotate_left
      · (intro W hSW; go_simp; try rfl)
      try simp only [Act.put, List.setIfInBounds_toArray, List.set_cons_zero, List.set_cons_succ]
      refine held_next 7 rfl (by kernel_rfl) (by rfl) ?_
      go_simp
      refine (setsame_c (N := fun _ => True) _ _ P Q _ (TT.out.step (below_both B8.out hSc)) (fun _ _ => trivial) (S_8.out.step hSc) (T_8.out.step hSc)).mono ?_
      rintro e wq1 ⟨B7, rfl, h7, bq⟩
      have hbq : Below u8.heap.size u8 wq1 := hSc.trans (bq.mono hSc.size)
      refine ⟨fun W => Below u8.heap.size u8 W, fun W hW => hW, hbq, ?_⟩
      obtain rfl := SE.out _ h7
      clear h7
      clear hSc bq
      have hSc : Below u8.heap.size u8 wq1 := hbq
      clear hbq
      try simp only [Act.put, List.setIfInBounds_toArray, List.set_cons_zero, List.set_cons_succ]
      refine held_take 8 ?_ rfl (by kernel_rfl) (by kernel_rfl) (by kernel_rfl) (fun _ _ _ h => h) (by rfl) ?_ hSc ?_
      rotate_left
      · (intro W hSW; go_simp; try rfl)
      try simp only [Act.put, List.setIfInBounds_toArray, List.set_cons_zero, List.set_cons_succ]
      refine held_take 9 ?_ rfl (by kernel_rfl) (by kernel_rfl) (by kernel_rfl) (fun _ _ _ h => h) (by rfl) ?_ hSc ?_
      rotate_left
      · (intro W hSW; go_simp; try rfl)
      try simp only [Act.put, List.setIfInBounds_toArray, List.set_cons_zero, List.set_cons_succ]
      refine held_next 10 rfl (by kernel_rfl) (by rfl) ?_
      go_simp
      refine (size_nil _).mono ?_
      rintro e wq2 ⟨rfl, bq⟩
      have hbq : Below u8.heap.size u8 wq2 := hSc.trans (bq.mono hSc.size)
      refine ⟨fun W => Below u8.heap.size u8 W, fun W hW => hW, hbq, ?_⟩
      clear hSc bq
      have hSc : Below u8.heap.size u8 wq2 := hbq
      clear hbq
      try simp only [Act.put, List.setIfInBounds_toArray, List.set_cons_zero, List.set_cons_succ]
      refine held_take 11 ?_ rfl (by kernel_rfl) (by kernel_rfl) (by kernel_rfl) (fun _ _ _ h => h) (by rfl) ?_ hSc ?_
      rotate_left
      · (intro W hSW; go_simp; try rfl)
      try simp only [Act.put, List.setIfInBounds_toArray, List.set_cons_zero, List.set_cons_succ]
      refine held_take 12 ?_ rfl (by kernel_rfl) (by kernel_rfl) (by kernel_rfl) (fun _ _ _ h => h) (by rfl) ?_ hSc ?_
      rotate_left
      · (intro W hSW; go_simp; try rfl)
      try simp only [Act.put, List.setIfInBounds_toArray, List.set_cons_zero, List.set_cons_succ]
      refine held_take 13 ?_ rfl (by kernel_rfl) (by kernel_rfl) (by kernel_rfl) (fun _ _ _ h => h) (by rfl) ?_ hSc ?_
      rotate_left
      · (intro W hSW; go_simp; try rfl)
      try simp only [Act.put, List.setIfInBounds_toArray, List.set_cons_zero, List.set_cons_succ]
      refine held_next 14 rfl (by kernel_rfl) (by rfl) ?_
      go_simp
      refine (write_nil _ (TT.out.step (below_both B8.out hSc))).mono ?_
      rintro e wq3 ⟨A14, c14, rfl, g14, bq⟩
      have hbq : Below u8.heap.size u8 wq3 := hSc.trans (bq.mono hSc.size)
      have Z3 := Lib.hid hbq
      refine ⟨fun W => Below wq3.heap.size wq3 W, fun W hW => below_both hbq hW, Below.refl _ _, ?_⟩
      have N14 := Lib.hid g14
      clear g14
      clear hSc bq hbq
      have hSc : Below wq3.heap.size wq3 wq3 := Below.refl _ _
      try simp only [Act.put, List.setIfInBounds_toArray, List.set_cons_zero, List.set_cons_succ]
      refine held_take 15 ?_ rfl (by kernel_rfl) (by kernel_rfl) (by kernel_rfl) (fun _ _ _ h => h) (by rfl) ?_ hSc ?_
      rotate_left
      · (intro W hSW; have s1 := str8 (N14.out.step hSW); go_simp; try rfl)
      try simp only [Act.put, List.setIfInBounds_toArray, List.set_cons_zero, List.set_cons_succ]
      refine held_next 16 rfl (by kernel_rfl) (by rfl) ?_
      go_simp
      refine (new_st9 _).mono ?_
      rintro e wq4 ⟨b16, rfl, t16, bq⟩
      have hbq : Below wq3.heap.size wq3 wq4 := hSc.trans (bq.mono hSc.size)
      have Z4 := Lib.hid hbq
      refine ⟨fun W => Below wq4.heap.size wq4 W, fun W hW => below_both hbq hW, Below.refl _ _, ?_⟩
      have N16 := Lib.hid t16
      clear t16
      clear hSc bq hbq
      have hSc : Below wq4.heap.size wq4 wq4 := Below.refl _ _
      try simp only [Act.put, List.setIfInBounds_toArray, List.set_cons_zero, List.set_cons_succ]
      refine held_next 17 rfl (by kernel_rfl) (by rfl) ?_
      go_simp
      refine (write_nil2 _ _ (TT.out.step (below_both (below_both (below_both B8.out Z3.out) Z4.out) hSc)) N16.out).mono ?_
      rintro e wq5 ⟨A17, c17, rfl, g17, bq⟩
      have hbq : Below wq4.heap.size wq4 wq5 := hSc.trans (bq.mono hSc.size)
      have Z5 := Lib.hid hbq
      refine ⟨fun W => Below wq5.heap.size wq5 W, fun W hW => below_both hbq hW, Below.refl _ _, ?_⟩
      have N17 := Lib.hid g17
      clear g17
      clear hSc bq hbq
      have hSc : Below wq5.heap.size wq5 wq5 := Below.refl _ _
      try simp only [Act.put, List.setIfInBounds_toArray, List.set_cons_zero, List.set_cons_succ]
      refine held_take 18 ?_ rfl (by kernel_rfl) (by kernel_rfl) (by kernel_rfl) (fun _ _ _ h => h) (by rfl) ?_ hSc ?_
      rotate_left
      · (intro W hSW; have s1 := str8 (N17.out.step hSW); go_simp; try rfl)
      try simp only [Act.put, List.setIfInBounds_toArray, List.set_cons_zero, List.set_cons_succ]
      refine held_take 19 ?_ rfl (by kernel_rfl) (by kernel_rfl) (by kernel_rfl) (fun _ _ _ h => h) (by rfl) ?_ hSc ?_
      rotate_left
      · (intro W hSW; go_simp; try rfl)
      try simp only [Act.put, List.setIfInBounds_toArray, List.set_cons_zero, List.set_cons_succ]
      refine held_take 20 ?_ rfl (by kernel_rfl) (by kernel_rfl) (by kernel_rfl) (fun _ _ _ h => h) (by rfl) ?_ hSc ?_
      rotate_left
      · (intro W hSW; go_simp; try rfl)
      try simp only [Act.put, List.setIfInBounds_toArray, List.set_cons_zero, List.set_cons_succ]
      refine held_take 21 ?_ rfl (by kernel_rfl) (by kernel_rfl) (by kernel_rfl) (fun _ _ _ h => h) (by rfl) ?_ hSc ?_
      rotate_left
      · (intro W hSW; go_simp; try rfl)
      try simp only [Act.put, List.setIfInBounds_toArray, List.set_cons_zero, List.set_cons_succ]
      refine held_next 22 rfl (by kernel_rfl) (by rfl) ?_
      go_simp
      refine (known9 _ (TT.out.step (below_both (below_both (below_both (below_both B8.out Z3.out) Z4.out) Z5.out) hSc))).mono ?_
      rintro e wq6 ⟨rfl, bq⟩
      have hbq : Below wq5.heap.size wq5 wq6 := hSc.trans (bq.mono hSc.size)
      refine ⟨fun W => Below wq5.heap.size wq5 W, fun W hW => hW, hbq, ?_⟩
      clear hSc bq
      have hSc : Below wq5.heap.size wq5 wq6 := hbq
      clear hbq
      try simp only [Act.put, List.setIfInBounds_toArray, List.set_cons_zero, List.set_cons_succ]
      refine held_take 23 ?_ rfl (by kernel_rfl) (by kernel_rfl) (by kernel_rfl) (fun _ _ _ h => h) (by rfl) ?_ hSc ?_
      rotate_left
      · (intro W hSW; go_simp; try rfl)
      try simp only [Act.put, List.setIfInBounds_toArray, List.set_cons_zero, List.set_cons_succ]
      refine held_next 24 rfl (by kernel_rfl) (by rfl) ?_
      go_simp
      refine ⟨fun W => Below wq5.heap.size wq5 W, fun W hW => hW, hSc, ?_⟩
      refine wpAnyH_done (by kernel_rfl) ?_ _
      have BB := Lib.hid (below_both (below_both (below_both (below_both B8.out Z3.out) Z4.out) Z5.out) hSc)
      go_wp2
      go_ret
      exact ⟨rfl, BB.out⟩
end Go.Proofs.YtponcpneflhpfaaGreatDoor
namespace Go.Proofs.YtponcpneflhpfaaGreatDoor
open Go.ChangeShapes Go.WideShapes Go.ChangeAt Go.RowKit Go.Deep
set_option linter.unusedVariables false

theorem u64_lit {V : Value} {n : Int} (h : V = .int .u64 n) (hw : (Lit.int .u64 n).wf = true) : ∃ u : UInt64, V = .int .u64 u.toNat := by
  simp [Lit.wf, IntKind.min, IntKind.max, IntKind.bits, IntKind.signed] at hw
  refine ⟨UInt64.ofNat n.toNat, ?_⟩
  rw [h, UInt64.toNat_ofNat']
  congr 1
  omega
theorem spans_row {H : Type} {enc : TypeId × Value → H} {w : World} {fuel : Nat} {a : Option Addr} {len cap : Nat} {x : DataW H × List MemPlace}
    (h : DataW.trod enc Tryz.prog w 0 (fun _ => true) true fuel 26 [.slice a len cap] = some x) : ∃ l : List Sn, l.length = len ∧ Gs2 eSp w 0 w.heap.size (.slice a len cap) l ∧ ((∀ n ∈ x.1.weights Tryz.prog 26, n ≤ reachBytes) → len * 16 ≤ 140737488355312) := by
  rcases open_slice_pairs Tryz.underlying26 Tryz.underlying34 (by kernel_rfl) rfl rfl (by kernel_rfl) (by kernel_rfl) h with ⟨hcs, hxe⟩ | ⟨ad, l, c, m, n, V0, V1, D0, D1, P0, P1, hcs, _, hl, hm, hmm, hxe, hx⟩
  · simp at hcs
    obtain ⟨rfl, rfl, rfl⟩ := hcs
    exact ⟨[], rfl, Gs2.nil_ _ _ _, fun _ => by omega⟩
  · simp at hcs
    obtain ⟨rfl, rfl, rfl⟩ := hcs
    simp only [if_true] at hmm
    subst hmm
    have hsz : (∀ n ∈ x.1.weights Tryz.prog 26, n ≤ reachBytes) → len * 16 ≤ 140737488355312 := fun hw => by
      have h16 : Tryz.prog.bytesOf 34 = 16 := by kernel_rfl
      have h3 := hw ((len + (m - len)) * 16) (by rw [hxe]; simp [DataW.weights, Tryz.underlying26, h16])
      unfold reachBytes at h3
      omega
    have each : ∀ i, i < len → ∃ r : Sn, w.cell? (ad.add (i * 2)) = some (.int .u64 r.1.toNat) ∧ w.cell? (ad.add (i * 2 + 1)) = some (.int .u64 r.2.toNat) := by
      intro i hi
      obtain ⟨h1, h2, h3, h4⟩ := hx i (by omega)
      obtain ⟨n0, e0, -, w0⟩ := DataW.trod_int Tryz.underlying29 h3
      obtain ⟨n1, e1, -, w1⟩ := DataW.trod_int Tryz.underlying29 h4
      obtain ⟨u0, hu0⟩ := u64_lit (by simpa using e0) w0
      obtain ⟨u1, hu1⟩ := u64_lit (by simpa using e1) w1
      exact ⟨(u0, u1), by rw [h1, hu0], by rw [h2, hu1]⟩
    obtain ⟨g, hg⟩ : ∃ g : Nat → Sn, ∀ i, i < len → w.cell? (ad.add (i * 2)) = some (.int .u64 (g i).1.toNat) ∧ w.cell? (ad.add (i * 2 + 1)) = some (.int .u64 (g i).2.toNat) :=
      ⟨fun i => if h : i < len then Classical.choose (each i h) else (0, 0), fun i h => by simp only [dif_pos h]; exact Classical.choose_spec (each i h)⟩
    have hlen : ((List.range len).map g).length = len := by simp
    refine ⟨(List.range len).map g, hlen, ⟨some ad, _, by rw [hlen], fun e => (by cases e), by rw [hlen]; exact hl, hm, fun hne => ?_⟩, hsz⟩
    have h0 : 0 < len := by
      rcases Nat.eq_zero_or_pos len with h | h
      · subst h; simp at hne
      · exact h
    obtain ⟨b, off, spot⟩ := ad
    have hc0 := (hg 0 h0).1
    have hspot : spot = none := by simpa [Addr.add] using World.cell?_spot hc0
    subst hspot
    have hb : b < w.heap.size := by
      have := World.block_lt_of_cell? w _ hc0
      simpa [Addr.add] using this
    refine ⟨b, off, rfl, Nat.zero_le _, hb, fun j y hy => ?_⟩
    have hj : j < len := by
      have := (List.getElem?_eq_some_iff.1 hy).1
      simpa using this
    obtain ⟨c0, c1⟩ := hg j hj
    rw [addr_add] at c0 c1
    rw [List.getElem?_map, List.getElem?_range hj] at hy
    simp at hy
    subst hy
    rw [Nat.mul_comm 2 j]
    exact ⟨c0, by rw [Nat.add_assoc]; exact c1⟩
end Go.Proofs.YtponcpneflhpfaaGreatDoor
namespace Go.Proofs.YtponcpneflhpfaaGreatDoor
theorem own_knob : ownKnob Tryz.prog.godebug = none := by kernel_rfl
theorem laid_out : laidOutB Tryz.prog = true := by kernel_rfl
end Go.Proofs.YtponcpneflhpfaaGreatDoor
namespace Go.Proofs.YtponcpneflhpfaaGreatDoor
open Go.ChangeShapes Go.WideShapes Go.ChangeAt Go.RowKit
set_option linter.unusedVariables false

theorem g_tab : Tryz.prog.globalNamed "math/bits.deBruijn64tab" = some 0 := by kernel_rfl
theorem t_tab : (Tryz.prog.globals[0]?).map (·.type) = some 313 := by kernel_rfl
theorem c_tab : Tryz.prog.cellsOf 313 = 64 := by kernel_rfl
theorem c_tab8 : Tryz.prog.cellsOf 5 = 1 := by kernel_rfl
def tabZ : List Int := Lib.deBruijn64tab.map Int.ofNat
theorem tab_data : (Rows.laid_math_bits_deBruijn64tab : DataW Unit) = Lib.tabData .u8 tabZ := rfl
theorem tabZ_len : tabZ.length = 64 := by decide +kernel
theorem tabZ_at : ∀ i : Fin 64, tabZ.getD i.val 0 = ((Lib.deBruijn64tab.getD i.val 0 : Nat) : Int) := by decide +kernel
def laidAll : List (String × DataW Unit) := [("math/bits.deBruijn64tab", Rows.laid_math_bits_deBruijn64tab)]
theorem tb_of_laid {W : World} (h : laidMetH Tryz.prog laidAll W) : Tb W := by
  rw [MakeChecks.laidMetH_plain _ _ _ (by kernel_rfl)] at h
  unfold laidAll at h
  rw [tab_data] at h
  have hT := Lib.tabIs_of_head g_tab t_tab Tryz.underlying313 Tryz.underlying5 c_tab8 c_tab h
  have hc : ∀ j, j < 64 → W.cell? ⟨0, j, none⟩ = some (.int .u8 ((Lib.deBruijn64tab.getD j 0 : Nat) : Int)) := fun j hj => by
    rw [← tabZ_at ⟨j, hj⟩]
    exact hT.cell g_tab j (by rw [tabZ_len]; exact hj)
  exact ⟨World.block_lt_of_cell? W _ (hc 0 (by omega)), hc⟩
theorem door_met (os : Os) (args : Array Value) : laidMetH Tryz.prog laidAll ((World.doorLaid Tryz.prog 14 os).forCall (fun _ _ => 0) ⟨#[], args, []⟩).memory :=
  laidMetH_of_parts3 (fuel := 8) (laidMet_of_run' 8 (by kernel_rfl) (by kernel_rfl)) (by kernel_rfl) (by kernel_rfl)
end Go.Proofs.YtponcpneflhpfaaGreatDoor
