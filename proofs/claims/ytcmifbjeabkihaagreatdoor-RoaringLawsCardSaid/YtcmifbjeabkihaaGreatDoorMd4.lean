/- The table of lowest bits, as the program's text lays it: what a row's condition gives. -/
import Derived.Test.YtcmifbjeabkihaaGreatDoorMb7
import Derived.Test.YtcmifbjeabkihaaGreatDoorMc4
import Derived.Test.YtcmifbjeabkihaaGreatDoorMd3
import Derived.Test.YtcmifbjeabkihaaGreatDoorMa3
import Derived.ProofKit
import Derived.OpenShut
import Derived.ShutString
import Derived.ChangeOld
import Derived.Below
import Derived.Test.YtcmifbjeabkihaaGreatDoorMa9
import Derived.Test.YtcmifbjeabkihaaGreatDoorTie
import Derived.Test.YtcmifbjeabkihaaGreatDoorCards
import Derived.Lib.LaidTab
import Derived.LaidMore
import Derived.SevenTiedAt
/- Walks: whether two sets are the same. -/
namespace Go.Proofs.YtcmifbjeabkihaaGreatDoor
open Go.RowKit
set_option linter.unusedVariables false

set_option maxHeartbeats 4000000 in
theorem esame_c {N : Nat → Prop} (y z : Nat) (e f : Bd) (p q : Nat → Bool) (kp kq : Nat) (w : World) (hT : Tb w) (hN : ∀ b, w.heap.size ≤ b → N b) (h1 : Cn N w e.val p kp) (h2 : Cn N w f.val q kq) :
    Calls Tryz.prog 77 #[.agg #[.int .u16 y, .int .u8 e.κ, .slice e.A e.n e.c, .slice e.A2 e.n2 e.c2, .slice e.A3 e.n3 e.c3], .agg #[.int .u16 z, .int .u8 f.κ, .slice f.A f.n f.c, .slice f.A2 f.n2 f.c2, .slice f.A3 f.n3 f.c3]] w fun r w' => ∃ B, r = .returned (.bool B) ∧ (B = true ↔ y = z ∧ ∀ x, x < 65536 → p x = q x) ∧ Below w.heap.size w w' := by
  have TT := Lib.hid hT
  have HN := Lib.hid hN
  have H1 := Lib.hid h1
  have H2 := Lib.hid h2
  obtain ⟨m, hm⟩ : ∃ m, ct (fun x => fXor (p x) (q x)) 65536 = m := ⟨_, rfl⟩
  have hB : m = 0 ↔ ∀ x, x < 65536 → p x = q x := by
    rw [← hm]
    constructor
    · intro h0 x hx
      cases hc : fXor (p x) (q x) with
      | true => have := (ct_pos (p := fun x => fXor (p x) (q x))).2 ⟨x, hx, hc⟩; omega
      | false => unfold fXor at hc; revert hc; cases p x <;> cases q x <;> simp
    · intro h
      exact ct_zero fun x hx => by unfold fXor; rw [h x hx]; simp
  have HM := Lib.hid hm
  have HBB := Lib.hid hB
  have T := two_blocks w #[.int .u16 y, .int .u8 e.κ, .slice e.A e.n e.c, .slice e.A2 e.n2 e.c2, .slice e.A3 e.n3 e.c3] #[.int .u16 z, .int .u8 f.κ, .slice f.A f.n f.c, .slice f.A2 f.n2 f.c2, .slice f.A3 f.n3 f.c3] 96 96
  clear hT h1 h2 hN hm hB
  by_cases hyz : y = z
  · subst hyz
    go_enter Tryz.func77, Tryz.ntmps77
    go_wp2_with fail
    generalize (w.alloc (.cells #[.int .u16 y, .int .u8 e.κ, .slice e.A e.n e.c, .slice e.A2 e.n2 e.c2, .slice e.A3 e.n3 e.c3] 96)).alloc (.cells #[.int .u16 y, .int .u8 f.κ, .slice f.A f.n f.c, .slice f.A2 f.n2 f.c2, .slice f.A3 f.n3 f.c3] 96) = W0 at *
    obtain ⟨b0, r0, r1⟩ := T
    have B0 := Lib.hid b0
    have TT := Lib.hid (TT.out.step b0)
    have HN0 := Lib.hid (show ∀ b, W0.heap.size ≤ b → N b from fun b hb => HN.out b (Nat.le_trans b0.size hb))
    have k0 : W0.cell? ⟨w.heap.size, 0, none⟩ = some (.int .u16 y) := r0.cell 0
    have k1 : W0.cell? ⟨w.heap.size, 1, none⟩ = some (.int .u8 e.κ) := r0.cell 1
    have k2 : W0.cell? ⟨w.heap.size, 2, none⟩ = some (.slice e.A e.n e.c) := r0.cell 2
    have k3 : W0.cell? ⟨w.heap.size, 3, none⟩ = some (.slice e.A2 e.n2 e.c2) := r0.cell 3
    have k4 : W0.cell? ⟨w.heap.size, 4, none⟩ = some (.slice e.A3 e.n3 e.c3) := r0.cell 4
    have l0 : W0.cell? ⟨w.heap.size + 1, 0, none⟩ = some (.int .u16 y) := r1.cell 0
    have l1 : W0.cell? ⟨w.heap.size + 1, 1, none⟩ = some (.int .u8 f.κ) := r1.cell 1
    have l2 : W0.cell? ⟨w.heap.size + 1, 2, none⟩ = some (.slice f.A f.n f.c) := r1.cell 2
    have l3 : W0.cell? ⟨w.heap.size + 1, 3, none⟩ = some (.slice f.A2 f.n2 f.c2) := r1.cell 3
    have l4 : W0.cell? ⟨w.heap.size + 1, 4, none⟩ = some (.slice f.A3 f.n3 f.c3) := r1.cell 4
    clear b0 r0 r1
    go_wp2_with fail
    refine (cxor e.val f.val p q kp kq _ TT.out HN0.out (H1.out.step B0.out) (H2.out.step B0.out)).mono ?_
    rintro r w1 ⟨v', rfl, g, b1⟩
    have B1 := Lib.hid (below_both B0.out b1)
    have G := Lib.hid g
    clear b1 g
    go_wp2_with fail
    refine (len_c v' _ _ m _ HM.out G.out).mono ?_
    rintro r w2 ⟨rfl, b2⟩
    have B2 := Lib.hid (below_both B1.out b2)
    clear b2
    by_cases h0 : m = 0
    · subst h0
      go_wp2
      go_ret
      exact ⟨true, rfl, by have := HBB.out; simp at this ⊢; exact this, B2.out⟩
    · have h1 : ((m : Int) == 0) = false := beq_false_of_ne (by omega)
      have h2 : decide ((m : Int) = 0) = false := decide_eq_false (by omega)
      go_wp2
      go_ret
      exact ⟨false, rfl, ⟨fun h => (by cases h), fun h => absurd (HBB.out.2 h.2) h0⟩, B2.out⟩
  · have h1 : ((y : Int) == z) = false := beq_false_of_ne (by omega)
    have h2 : decide ((y : Int) = z) = false := decide_eq_false (by omega)
    go_enter Tryz.func77, Tryz.ntmps77
    go_wp2_with fail
    generalize (w.alloc (.cells #[.int .u16 y, .int .u8 e.κ, .slice e.A e.n e.c, .slice e.A2 e.n2 e.c2, .slice e.A3 e.n3 e.c3] 96)).alloc (.cells #[.int .u16 z, .int .u8 f.κ, .slice f.A f.n f.c, .slice f.A2 f.n2 f.c2, .slice f.A3 f.n3 f.c3] 96) = W0 at *
    obtain ⟨b0, r0, r1⟩ := T
    have B0 := Lib.hid b0
    have k0 : W0.cell? ⟨w.heap.size, 0, none⟩ = some (.int .u16 y) := r0.cell 0
    have k1 : W0.cell? ⟨w.heap.size, 1, none⟩ = some (.int .u8 e.κ) := r0.cell 1
    have k2 : W0.cell? ⟨w.heap.size, 2, none⟩ = some (.slice e.A e.n e.c) := r0.cell 2
    have k3 : W0.cell? ⟨w.heap.size, 3, none⟩ = some (.slice e.A2 e.n2 e.c2) := r0.cell 3
    have k4 : W0.cell? ⟨w.heap.size, 4, none⟩ = some (.slice e.A3 e.n3 e.c3) := r0.cell 4
    have l0 : W0.cell? ⟨w.heap.size + 1, 0, none⟩ = some (.int .u16 z) := r1.cell 0
    have l1 : W0.cell? ⟨w.heap.size + 1, 1, none⟩ = some (.int .u8 f.κ) := r1.cell 1
    have l2 : W0.cell? ⟨w.heap.size + 1, 2, none⟩ = some (.slice f.A f.n f.c) := r1.cell 2
    have l3 : W0.cell? ⟨w.heap.size + 1, 3, none⟩ = some (.slice f.A2 f.n2 f.c2) := r1.cell 3
    have l4 : W0.cell? ⟨w.heap.size + 1, 4, none⟩ = some (.slice f.A3 f.n3 f.c3) := r1.cell 4
    clear b0 r0 r1
    go_wp2
    go_ret
    exact ⟨false, rfl, ⟨fun h => (by cases h), fun h => absurd h.1 hyz⟩, B0.out⟩

theorem Dir.first {N M : Nat → Prop} {w u : World} {P Q : Nat → Bool} {K : Nat} {e f : En} {es fs : List En} (h : Dir N w P K 65536 (e :: es)) (g : Dir M u Q K 65536 (f :: fs)) (hs : ∀ x, x < 4294967296 → P x = Q x) : e.key.toNat = f.key.toNat := by
  have hz : ∀ k, k < 65536 → nz P k = nz Q k := fun k hk => nz_ext fun x hx => hs x (by omega)
  obtain ⟨a1, a2, a3, _⟩ := h.head
  obtain ⟨b1, b2, b3, _⟩ := g.head
  rcases Nat.lt_trichotomy e.key.toNat f.key.toNat with hlt | he | hlt
  · have := g.gap _ a1 hlt
    rw [← hz _ a2, a3] at this; cases this
  · exact he
  · have := h.gap _ b1 hlt
    rw [hz _ b2, b3] at this; cases this
theorem same_gap {P Q : Nat → Bool} {a b : Nat} (h : ∀ x, x < 65536 * a → P x = Q x) (hp : ∀ k, a ≤ k → k < b → nz P k = false) (hq : ∀ k, a ≤ k → k < b → nz Q k = false) : ∀ x, x < 65536 * b → P x = Q x := fun x hx => by
  by_cases hxa : x < 65536 * a
  · exact h x hxa
  · rw [nz_none (hp (x / 65536) (by omega) (by omega)), nz_none (hq (x / 65536) (by omega) (by omega))]
theorem same_key {P Q : Nat → Bool} {y : Nat} (h : ∀ x, x < 65536 * y → P x = Q x) (hb : ∀ x, x < 65536 → blk P y x = blk Q y x) : ∀ x, x < 65536 * (y + 1) → P x = Q x := fun x hx => by
  by_cases hxy : x < 65536 * y
  · exact h x hxy
  · have e : x / 65536 = y := by omega
    rw [← blk_at P x, ← blk_at Q x, e]
    exact hb _ (Nat.mod_lt _ (by omega))
set_option maxHeartbeats 8000000 in
theorem eqfunc_c {N : Nat → Prop} (v u : Value) (P Q : Nat → Bool) (es fs : List En) (w : World) (hT : Tb w) (hN : ∀ b, w.heap.size ≤ b → N b) (hv : GsV eN w 0 w.heap.size v es) (hu : GsV eN w 0 w.heap.size u fs) (hp : Dir N w P 0 65536 es) (hq : Dir N w Q 0 65536 fs) :
    Calls Tryz.prog 76 #[v, u, .func (.func 77) #[] #[]] w fun r w' => ∃ B, r = .returned (.bool B) ∧ (B = true ↔ ∀ x, x < 4294967296 → P x = Q x) ∧ Below w.heap.size w w' := by
  have HE : Enters Tryz.prog 77 := enters_of Tryz.func77 (by kernel_rfl) rfl
  unfold Enters at HE
  have HV := Lib.hid hv
  have HU := Lib.hid hu
  have HP := Lib.hid hp
  have HQ := Lib.hid hq
  have TT := Lib.hid hT
  have HN := Lib.hid hN
  have hle := hp.len
  have hlf := hq.len
  obtain ⟨A1, d1, rfl, -⟩ := hv
  obtain ⟨A2, d2, rfl, -⟩ := hu
  clear hp hq hT hN
  by_cases hl : es.length = fs.length
  · have hl1 : ((es.length : Int) != fs.length) = false := by rw [hl]; simp
    have HL := Lib.hid hl
    clear hl
    go_enter Tryz.func76, Tryz.ntmps76
    go_wp2
    go_loopw [17] (fun s17 wr => ∃ k K : Nat, k ≤ es.length ∧ s17 = .int .i64 k ∧ K ≤ 65536 ∧ Hid (Dir N w P K 65536 (es.drop k) ∧ Dir N w Q K 65536 (fs.drop k) ∧ ∀ x, x < 65536 * K → P x = Q x) ∧ Below w.heap.size w wr) (fun s17 _ => es.length - (intOf s17).toNat)
    case atStart => exact ⟨0, 0, Nat.zero_le _, rfl, Nat.zero_le _, ⟨HP.out, HQ.out, fun x hx => absurd hx (by omega)⟩, Below.refl _ _⟩
    case round =>
      obtain ⟨k, K, hk, rfl, hK, hdk, hbl⟩ := hrel
      have HB := Lib.hid hbl
      by_cases hlt : k < es.length
      · obtain ⟨b, off, e, e1, -, hb, hdr, hg, c0, c1, c2, c3, c4⟩ := gsv_at HV.out hlt
        obtain ⟨b', off', f, e2, -, hb', hdr', hg', k0, k1, k2, k3, k4⟩ := gsv_at HU.out (show k < fs.length by have := HL.out; omega)
        subst e1 e2
        rw [← hbl.cell (p := ⟨b, off + k * 5, none⟩) hb] at c0
        rw [← hbl.cell (p := ⟨b, off + k * 5 + 1, none⟩) hb] at c1
        rw [← hbl.cell (p := ⟨b, off + k * 5 + 2, none⟩) hb] at c2
        rw [← hbl.cell (p := ⟨b, off + k * 5 + 3, none⟩) hb] at c3
        rw [← hbl.cell (p := ⟨b, off + k * 5 + 4, none⟩) hb] at c4
        rw [← hbl.cell (p := ⟨b', off' + k * 5, none⟩) hb'] at k0
        rw [← hbl.cell (p := ⟨b', off' + k * 5 + 1, none⟩) hb'] at k1
        rw [← hbl.cell (p := ⟨b', off' + k * 5 + 2, none⟩) hb'] at k2
        rw [← hbl.cell (p := ⟨b', off' + k * 5 + 3, none⟩) hb'] at k3
        rw [← hbl.cell (p := ⟨b', off' + k * 5 + 4, none⟩) hb'] at k4
        have hkl : (k : Int) < es.length := by omega
        have hkf : (k : Int) < fs.length := by have := HL.out; omega
        have hd := hdk.out
        rw [hdr, hdr'] at hd
        have HD := Lib.hid hd
        have j0 := (World.cell?_alloc_lt wr (.cells #[.int .u16 e.key.toNat, .int .u8 e.b.κ, .slice e.b.A e.b.n e.b.c, .slice e.b.A2 e.b.n2 e.b.c2, .slice e.b.A3 e.b.n3 e.b.c3] 96) ⟨b', off' + k * 5, none⟩ (by have := hbl.size; show b' < _; omega)).trans k0
        have j1 := (World.cell?_alloc_lt wr (.cells #[.int .u16 e.key.toNat, .int .u8 e.b.κ, .slice e.b.A e.b.n e.b.c, .slice e.b.A2 e.b.n2 e.b.c2, .slice e.b.A3 e.b.n3 e.b.c3] 96) ⟨b', off' + k * 5 + 1, none⟩ (by have := hbl.size; show b' < _; omega)).trans k1
        have j2 := (World.cell?_alloc_lt wr (.cells #[.int .u16 e.key.toNat, .int .u8 e.b.κ, .slice e.b.A e.b.n e.b.c, .slice e.b.A2 e.b.n2 e.b.c2, .slice e.b.A3 e.b.n3 e.b.c3] 96) ⟨b', off' + k * 5 + 2, none⟩ (by have := hbl.size; show b' < _; omega)).trans k2
        have j3 := (World.cell?_alloc_lt wr (.cells #[.int .u16 e.key.toNat, .int .u8 e.b.κ, .slice e.b.A e.b.n e.b.c, .slice e.b.A2 e.b.n2 e.b.c2, .slice e.b.A3 e.b.n3 e.b.c3] 96) ⟨b', off' + k * 5 + 3, none⟩ (by have := hbl.size; show b' < _; omega)).trans k3
        have j4 := (World.cell?_alloc_lt wr (.cells #[.int .u16 e.key.toNat, .int .u8 e.b.κ, .slice e.b.A e.b.n e.b.c, .slice e.b.A2 e.b.n2 e.b.c2, .slice e.b.A3 e.b.n3 e.b.c3] 96) ⟨b', off' + k * 5 + 4, none⟩ (by have := hbl.size; show b' < _; omega)).trans k4
        have T := two_blocks wr #[.int .u16 e.key.toNat, .int .u8 e.b.κ, .slice e.b.A e.b.n e.b.c, .slice e.b.A2 e.b.n2 e.b.c2, .slice e.b.A3 e.b.n3 e.b.c3] #[.int .u16 f.key.toNat, .int .u8 f.b.κ, .slice f.b.A f.b.n f.b.c, .slice f.b.A2 f.b.n2 f.b.c2, .slice f.b.A3 f.b.n3 f.b.c3] 96 96
        clear hdk hdr hdr' hg hg' hd hbl
        go_wp2_with fail
        generalize (wr.alloc (.cells #[.int .u16 e.key.toNat, .int .u8 e.b.κ, .slice e.b.A e.b.n e.b.c, .slice e.b.A2 e.b.n2 e.b.c2, .slice e.b.A3 e.b.n3 e.b.c3] 96)).alloc (.cells #[.int .u16 f.key.toNat, .int .u8 f.b.κ, .slice f.b.A f.b.n f.b.c, .slice f.b.A2 f.b.n2 f.b.c2, .slice f.b.A3 f.b.n3 f.b.c3] 96) = W0 at *
        obtain ⟨b0, r0, r1⟩ := T
        have B0 := Lib.hid (below_both HB.out b0)
        clear b0 r0 r1
        refine (esame_c (N := N) e.key.toNat f.key.toNat e.b f.b _ _ _ _ _ (TT.out.step B0.out) (fun x hx => HN.out x (Nat.le_trans B0.out.size hx)) (HD.out.1.head.2.2.2.step B0.out) (HD.out.2.1.head.2.2.2.step B0.out)).mono ?_
        rintro r w1 ⟨B, rfl, hB, b1⟩
        have B1 := Lib.hid (below_both B0.out b1)
        have HBI := Lib.hid hB
        clear b1 hB
        cases B with
        | true =>
          have HX : Hid (Dir N w P (e.key.toNat + 1) 65536 (es.drop (k + 1)) ∧ Dir N w Q (e.key.toNat + 1) 65536 (fs.drop (k + 1)) ∧ ∀ x, x < 65536 * (e.key.toNat + 1) → P x = Q x) := Lib.hid (by
            obtain ⟨h1, h2⟩ := HBI.out.1 rfl
            obtain ⟨d1, d2, d3⟩ := HD.out
            refine ⟨d1.tail, h1 ▸ d2.tail, same_key (same_gap d3 d1.gap (h1 ▸ d2.gap)) ?_⟩
            rw [← h1] at h2
            exact h2)
          have hkx : e.key.toNat + 1 ≤ 65536 := HD.out.1.head.2.1
          clear HD HBI
          go_wp2
          refine ⟨⟨k + 1, _, by omega, by go_num, hkx, HX.out, B1.out⟩, by simp [intOf]; omega⟩
        | false =>
          go_wp2
          go_ret
          refine ⟨_, rfl, ?_, B1.out⟩
          constructor
          · intro h; cases h
          · intro h
            exfalso
            have hk := HD.out.1.first HD.out.2.1 h
            have := HBI.out.2 ⟨hk, fun x hx => ?_⟩
            · cases this
            · rw [← hk]
              exact h _ (by have := HD.out.1.head.2.1; omega)
      · obtain rfl : k = es.length := by omega
        have HR : Hid (∀ x, x < 4294967296 → P x = Q x) := Lib.hid (by
          obtain ⟨d1, d2, d3⟩ := hdk.out
          rw [List.drop_length] at d1
          rw [HL.out, List.drop_length] at d2
          exact same_gap d3 d1.none d2.none)
        clear hdk hbl
        go_wp2
        go_ret
        exact ⟨_, rfl, ⟨fun _ => HR.out, fun _ => rfl⟩, HB.out⟩
  · have hl1 : ((es.length : Int) != fs.length) = true := by simp; omega
    go_enter Tryz.func76, Tryz.ntmps76
    go_wp2
    go_ret
    refine ⟨_, rfl, ⟨fun h => (by cases h), fun h => ?_⟩, Below.refl _ _⟩
    have k1 := HP.out.keys (Nat.le_refl _)
    have k2 := HQ.out.keys (Nat.le_refl _)
    rw [ls_ext (q := nz Q) fun k hk => nz_ext fun x hx => h x (by omega), ← k2] at k1
    have := congrArg List.length k1
    rw [List.length_map, List.length_map] at this
    exact absurd this hl
set_option maxHeartbeats 1000000 in
theorem setsame_c {N : Nat → Prop} (v u : Value) (P Q : Nat → Bool) (w : World) (hT : Tb w) (hN : ∀ b, w.heap.size ≤ b → N b) (hv : St N w v P) (hu : St N w u Q) :
    Calls Tryz.prog 27 #[v, u] w fun r w' => ∃ B, r = .returned (.bool B) ∧ (B = true ↔ ∀ x, x < 4294967296 → P x = Q x) ∧ Below w.heap.size w w' := by
  have HV := Lib.hid hv
  have HU := Lib.hid hu
  have TT := Lib.hid hT
  have HN := Lib.hid hN
  clear hv hu hT hN
  go_enter Tryz.func27, Tryz.ntmps27
  go_wp2_with fail
  refine (entries_c v P _ HV.out).mono ?_
  rintro e w0 ⟨A, n, c, es, rfl, hz, g, d⟩
  have hz := hz.symm
  subst hz
  have G1 := Lib.hid g
  have D1 := Lib.hid d
  clear g d
  go_wp2_with fail
  refine (entries_c u Q _ HU.out).mono ?_
  rintro e w0 ⟨A', n', c', fs, rfl, hz, g, d⟩
  have hz := hz.symm
  subst hz
  have G2 := Lib.hid g
  have D2 := Lib.hid d
  clear g d
  go_wp2_with fail
  refine (eqfunc_c _ _ P Q es fs _ TT.out HN.out G1.out G2.out D1.out D2.out).mono ?_
  rintro r w1 ⟨B, rfl, hB, b1⟩
  have HB := Lib.hid hB
  have B1 := Lib.hid b1
  clear hB b1
  go_wp2
  go_ret
  exact ⟨_, rfl, HB.out, B1.out⟩
end Go.Proofs.YtcmifbjeabkihaaGreatDoor
/- Walks: RoaringTop. -/
namespace Go.Proofs.YtcmifbjeabkihaaGreatDoor
open Go.RowKit
set_option linter.unusedVariables false

def SpansAns (w : World) (P : Nat → Bool) (e : Ending) (w' : World) : Prop := OfAns w P e w'
theorem spans_top (v : Value) (lo hi : UInt64) (w : World) (hT : Tb w) (hv : Gs2 eSp w 0 w.heap.size v [(lo, hi)]) : Calls Tryz.prog 12 #[v] w (OfAns w (clp32 [(lo, hi)])) :=
  (spans_c (N := fun _ => True) v [(lo, hi)] w hT (fun _ _ => trivial) hv (by simp)).mono fun e w' h => Made.ans h
theorem same_top (v u : Value) (P : Nat → Bool) (w : World) (hT : Tb w) (hv : St (fun _ => True) w v P) (hu : St (fun _ => True) w u P) :
    Calls Tryz.prog 27 #[v, u] w fun e w' => e = .returned (.bool true) ∧ Below w.heap.size w w' :=
  (setsame_c (N := fun _ => True) v u P P w hT (fun _ _ => trivial) hv hu).mono fun e w' ⟨B, h1, h2, h3⟩ => ⟨by rw [h1, h2.2 fun _ _ => rfl], h3⟩
def RunAns (w : World) (P : Nat → Bool) (e : Ending) (w' : World) : Prop :=
  ∃ v' l, e = .returned v' ∧ Gs2 eSp w' 0 w'.heap.size v' l ∧ mys 0 l ∧ (∀ x, x < 4294967296 → sp l x = P x) ∧ Below w.heap.size w w'
theorem runs_top (v : Value) (P : Nat → Bool) (w : World) (hT : Tb w) (h : St (fun _ => True) w v P) (hct : ct P 4294967296 ≤ 50000000) :
    Calls Tryz.prog 29 #[v] w (RunAns w P) :=
  (setruns_c v P w hT h hct).mono fun e w' ⟨v', l, h0, h1, h2, h3, _, h5⟩ => ⟨v', l, h0, h1.sl.more (Nat.zero_le _) (Nat.le_refl _), h2, h3, h5⟩
theorem same_runs (v u : Value) (l m : List Sn) (w : World) (P : Nat → Bool) (hv : Gs2 eSp w 0 w.heap.size v l) (hu : Gs2 eSp w 0 w.heap.size u m) (h1 : mys 0 l) (h2 : mys 0 m) (h3 : ∀ x, x < 4294967296 → sp l x = P x) (h4 : ∀ x, x < 4294967296 → sp m x = P x) :
    Calls Tryz.prog 28 #[v, u] w fun e w' => e = .returned (.bool true) ∧ Below w.heap.size w w' := by
  obtain rfl := mys_inj h1 h2 fun x hx => (h3 x hx).trans (h4 x hx).symm
  exact (refsame8 v u _ _ _ _ _ _ w hv hu).mono fun e w' ⟨h1, k, h2⟩ => ⟨by rw [h1]; simp, h2 ▸ below_drewN (Below.refl _ _) k⟩
set_option maxHeartbeats 8000000 in
set_option maxRecDepth 100000 in
theorem top_a (p q : Nat) (w : World) (hT : Tb w) (hp : p ≤ 100000) (hq : (q : Int) ≤ 4611686018427387904) (h1 : 0 < p) (h2 : p ≤ q) :
    Calls Tryz.prog 8 #[.int .u64 (p : Int), .int .u64 (q : Int)] w fun e w' => e = .returned (.bool true) ∧ Below w.heap.size w w' := by
  obtain ⟨a, ha⟩ : ∃ a : Nat, a = 4294967296 - p := ⟨_, rfl⟩
  obtain ⟨c, hc⟩ : ∃ c : Nat, c = a + q := ⟨_, rfl⟩
  obtain ⟨lo, hlo⟩ : ∃ lo : UInt64, a = lo.toNat := ⟨UInt64.ofNat a, by rw [UInt64.toNat_ofNat']; omega⟩
  obtain ⟨hi, hhi⟩ : ∃ hi : UInt64, c = hi.toNat := ⟨UInt64.ofNat c, by rw [UInt64.toNat_ofNat']; omega⟩
  obtain ⟨P, hP⟩ : ∃ P, P = clp32 [(lo, hi)] := ⟨_, rfl⟩
  have hct : ct P 4294967296 = p := by rw [hP, ct_clp32 _ _ _ (Nat.le_refl _), ← hlo, ← hhi]; omega
  have CLEN := Lib.hid (fun (v : Value) (W : World) (h : St (fun _ => True) W v P) => setlen_c v P p W h hct)
  have CRANK := Lib.hid (fun (v : Value) (W : World) (h : St (fun _ => True) W v P) => setrank_c v P 4294967296 p W h (by rw [Nat.min_self]; exact hct))
  have CRUNS := Lib.hid (fun (v : Value) (W : World) (hT : Tb W) (h : St (fun _ => True) W v P) => runs_top v P W hT h (by rw [hct]; omega))
  clear hct
  have HP := Lib.hid hP
  have HLO := Lib.hid hlo
  have HHI := Lib.hid hhi
  have HAS : Hid (P 4294967295 = true) := Lib.hid (by rw [hP, clp_one _ _ _ (by omega), ← hlo, ← hhi]; simp; omega)
  have g1 : decide ((p : Int) > 100000) = false := decide_eq_false (by omega)
  have g2 : decide ((q : Int) > 4611686018427387904) = false := decide_eq_false (by omega)
  have w1 : IntKind.u64.wrap (4294967296 - (p : Int)) = (a : Int) := by rw [IntKind.wrap_u64]; omega
  have w2 : IntKind.u64.wrap ((a : Int) + (q : Int)) = (c : Int) := by rw [IntKind.wrap_u64]; omega
  have w3 : IntKind.i64.wrap (p : Int) = (p : Int) := by rw [IntKind.wrap_i64]; omega
  have k1 : (p : Int) > 0 := by omega
  have k2 : (q : Int) ≥ p := by omega
  have k3 : (p : Int) ≤ q := by omega
  have k4 : ¬ (q : Int) < p := by omega
  have hmn : min (p : Int) (q : Int) = (p : Int) := by omega
  have w4 : wrap64 (p : Int) = (p : Int) := by unfold wrap64; omega
  have TT := Lib.hid hT
  clear hP hlo hhi ha hc hp hq hT h1 h2
  go_enter Tryz.func8, Tryz.ntmps8
  go_wp2_with fail
  refine (new_none w).mono ?_
  rintro e u1 ⟨b, N1, rfl, hb, S, hn, b1⟩
  have S1 := Lib.hid S
  have HN1 := Lib.hid hn
  have B1 := Lib.hid b1
  have HB := Lib.hid hb
  clear S hn b1 hb
  go_wp2_with fail
  refine (range_new b _ _ lo hi (a : Int) (c : Int) u1 (by rw [HLO.out]) (by rw [HHI.out]) (TT.out.step B1.out) HN1.out S1.out).mono ?_
  rintro e u2 ⟨rfl, T, o⟩
  have ST2 : Hid (St (fun _ => True) u2 (.pointer (some ⟨b, 0, none⟩)) P) := Lib.hid (by rw [HP.out]; exact T)
  have B2 : Hid (Below w.heap.size w u2) := Lib.hid (B1.out.trans (o.below (fun k _ hk => by have := HB.out; omega) B1.out.size))
  clear T o S1 HN1
  go_wp2_with fail
  refine (refspan8 lo hi a c u2 HLO.out HHI.out).mono ?_
  rintro e u3 ⟨v3, l3, rfl, g3, m3, s3, b3⟩
  obtain ⟨A3, c3, rfl, -⟩ := id g3
  have G3 := Lib.hid g3
  have M3 := Lib.hid m3
  have S3 : Hid (∀ x, x < 4294967296 → sp l3 x = P x) := Lib.hid (fun x _ => by rw [HP.out]; exact s3 x)
  have ST3 := Lib.hid (ST2.out.step b3)
  have B3 := Lib.hid (below_both B2.out b3)
  obtain ⟨n3, hn3⟩ : ∃ n3, l3.length = n3 := ⟨_, rfl⟩
  rw [hn3] at G3 ⊢
  clear g3 m3 s3 b3 hn3 ST2
  go_wp2_with fail
  have b4 := bx u3 (.cells #[.int .u64 (a : Int), .int .u64 (c : Int)] 34)
  have g4 := lit_span u3 (lo, hi) a c HLO.out HHI.out
  generalize u3.alloc (.cells #[.int .u64 (a : Int), .int .u64 (c : Int)] 34) = u4 at *
  have L4 := Lib.hid g4
  have G4 := Lib.hid (G3.out.step b4)
  have ST4 := Lib.hid (ST3.out.step b4)
  have B4 := Lib.hid (below_both B3.out b4)
  clear b4 g4 G3 ST3
  refine (spans_top _ lo hi u4 (TT.out.step B4.out) L4.out).mono ?_
  rintro e u5 ⟨b5, rfl, t5, b5'⟩
  have T5 : Hid (St (fun _ => True) u5 (.pointer (some ⟨b5, 0, none⟩)) P) := Lib.hid (by rw [HP.out]; exact t5)
  have G5 := Lib.hid (G4.out.step b5')
  have ST5 := Lib.hid (ST4.out.step b5')
  have B5 := Lib.hid (below_both B4.out b5')
  clear b5' t5 G4 ST4 L4
  go_wp2_with fail
  refine (CLEN.out _ u5 ST5.out).mono ?_
  rintro e u6 ⟨rfl, b6⟩
  have T6 := Lib.hid (T5.out.step b6)
  have G6 := Lib.hid (G5.out.step b6)
  have ST6 := Lib.hid (ST5.out.step b6)
  have B6 := Lib.hid (below_both B5.out b6)
  clear b6 G5 ST5 T5
  go_wp2_with fail
  refine (CRANK.out _ u6 ST6.out).mono ?_
  rintro e u7 ⟨rfl, b7⟩
  have T7 := Lib.hid (T6.out.step b7)
  have G7 := Lib.hid (G6.out.step b7)
  have ST7 := Lib.hid (ST6.out.step b7)
  have B7 := Lib.hid (below_both B6.out b7)
  clear b7 G6 ST6 T6
  go_wp2_with fail
  refine (same_top _ _ P u7 (TT.out.step B7.out) ST7.out T7.out).mono ?_
  rintro e u8 ⟨rfl, b8⟩
  have G8 := Lib.hid (G7.out.step b8)
  have ST8 := Lib.hid (ST7.out.step b8)
  have B8 := Lib.hid (below_both B7.out b8)
  clear b8 G7 ST7 T7
  go_wp2_with fail
  refine (CRUNS.out _ u8 (TT.out.step B8.out) ST8.out).mono ?_
  rintro e u9 ⟨v9, l9, rfl, g9, m9, s9, b9⟩
  obtain ⟨A9, c9, rfl, -⟩ := id g9
  have R9 := Lib.hid g9
  have M9 := Lib.hid m9
  have S9 := Lib.hid s9
  have G9 := Lib.hid (G8.out.step b9)
  have ST9 := Lib.hid (ST8.out.step b9)
  have B9 := Lib.hid (below_both B8.out b9)
  obtain ⟨n9, hn9⟩ : ∃ n9, l9.length = n9 := ⟨_, rfl⟩
  rw [hn9] at R9 ⊢
  clear g9 m9 s9 b9 hn9 G8 ST8
  go_wp2_with fail
  refine (same_runs _ _ l9 l3 u9 P R9.out G9.out M9.out M3.out S9.out S3.out).mono ?_
  rintro e u10 ⟨rfl, b10⟩
  have ST10 := Lib.hid (ST9.out.step b10)
  have B10 := Lib.hid (below_both B9.out b10)
  clear b10 R9 G9 ST9
  go_wp2_with fail
  refine (sethas_c _ P 4294967295 u10 ST10.out (by omega)).mono ?_
  rintro e u11 ⟨rfl, b11⟩
  have B11 := Lib.hid (below_both B10.out b11)
  clear b11 ST10
  rw [HAS.out]
  go_wp2_with fail
  refine (known8 u11 (TT.out.step B11.out)).mono ?_
  rintro e u12 ⟨rfl, b12⟩
  have B12 := Lib.hid (below_both B11.out b12)
  clear b12
  go_wp2
  go_ret
  exact ⟨rfl, B12.out⟩
set_option maxHeartbeats 8000000 in
set_option maxRecDepth 100000 in
theorem top_b (p q : Nat) (w : World) (hT : Tb w) (hp : p ≤ 100000) (hq : (q : Int) ≤ 4611686018427387904) (h1 : 0 < p) (h2 : q < p) :
    Calls Tryz.prog 8 #[.int .u64 (p : Int), .int .u64 (q : Int)] w fun e w' => e = .returned (.bool true) ∧ Below w.heap.size w w' := by
  obtain ⟨a, ha⟩ : ∃ a : Nat, a = 4294967296 - p := ⟨_, rfl⟩
  obtain ⟨c, hc⟩ : ∃ c : Nat, c = a + q := ⟨_, rfl⟩
  obtain ⟨lo, hlo⟩ : ∃ lo : UInt64, a = lo.toNat := ⟨UInt64.ofNat a, by rw [UInt64.toNat_ofNat']; omega⟩
  obtain ⟨hi, hhi⟩ : ∃ hi : UInt64, c = hi.toNat := ⟨UInt64.ofNat c, by rw [UInt64.toNat_ofNat']; omega⟩
  obtain ⟨P, hP⟩ : ∃ P, P = clp32 [(lo, hi)] := ⟨_, rfl⟩
  have hct : ct P 4294967296 = q := by rw [hP, ct_clp32 _ _ _ (Nat.le_refl _), ← hlo, ← hhi]; omega
  have CLEN := Lib.hid (fun (v : Value) (W : World) (h : St (fun _ => True) W v P) => setlen_c v P q W h hct)
  have CRANK := Lib.hid (fun (v : Value) (W : World) (h : St (fun _ => True) W v P) => setrank_c v P 4294967296 q W h (by rw [Nat.min_self]; exact hct))
  have CRUNS := Lib.hid (fun (v : Value) (W : World) (hT : Tb W) (h : St (fun _ => True) W v P) => runs_top v P W hT h (by rw [hct]; omega))
  clear hct
  have HP := Lib.hid hP
  have HLO := Lib.hid hlo
  have HHI := Lib.hid hhi
  have HAS : Hid (P 4294967295 = false) := Lib.hid (by rw [hP, clp_one _ _ _ (by omega), ← hlo, ← hhi]; simp; omega)
  have g1 : decide ((p : Int) > 100000) = false := decide_eq_false (by omega)
  have g2 : decide ((q : Int) > 4611686018427387904) = false := decide_eq_false (by omega)
  have w1 : IntKind.u64.wrap (4294967296 - (p : Int)) = (a : Int) := by rw [IntKind.wrap_u64]; omega
  have w2 : IntKind.u64.wrap ((a : Int) + (q : Int)) = (c : Int) := by rw [IntKind.wrap_u64]; omega
  have w3 : IntKind.i64.wrap (q : Int) = (q : Int) := by rw [IntKind.wrap_i64]; omega
  have k1 : (p : Int) > 0 := by omega
  have k2 : decide ((q : Int) ≥ p) = false := decide_eq_false (by omega)
  have k3 : ¬ (p : Int) ≤ q := by omega
  have k5 : decide (p ≤ q) = false := decide_eq_false (by omega)
  have k4 : (q : Int) < p := by omega
  have hmn : min (p : Int) (q : Int) = (q : Int) := by omega
  have w4 : wrap64 (q : Int) = (q : Int) := by unfold wrap64; omega
  have TT := Lib.hid hT
  clear hP hlo hhi ha hc hp hq hT h1 h2
  go_enter Tryz.func8, Tryz.ntmps8
  go_wp2_with fail
  refine (new_none w).mono ?_
  rintro e u1 ⟨b, N1, rfl, hb, S, hn, b1⟩
  have S1 := Lib.hid S
  have HN1 := Lib.hid hn
  have B1 := Lib.hid b1
  have HB := Lib.hid hb
  clear S hn b1 hb
  go_wp2_with fail
  refine (range_new b _ _ lo hi (a : Int) (c : Int) u1 (by rw [HLO.out]) (by rw [HHI.out]) (TT.out.step B1.out) HN1.out S1.out).mono ?_
  rintro e u2 ⟨rfl, T, o⟩
  have ST2 : Hid (St (fun _ => True) u2 (.pointer (some ⟨b, 0, none⟩)) P) := Lib.hid (by rw [HP.out]; exact T)
  have B2 : Hid (Below w.heap.size w u2) := Lib.hid (B1.out.trans (o.below (fun k _ hk => by have := HB.out; omega) B1.out.size))
  clear T o S1 HN1
  go_wp2_with fail
  refine (refspan8 lo hi a c u2 HLO.out HHI.out).mono ?_
  rintro e u3 ⟨v3, l3, rfl, g3, m3, s3, b3⟩
  obtain ⟨A3, c3, rfl, -⟩ := id g3
  have G3 := Lib.hid g3
  have M3 := Lib.hid m3
  have S3 : Hid (∀ x, x < 4294967296 → sp l3 x = P x) := Lib.hid (fun x _ => by rw [HP.out]; exact s3 x)
  have ST3 := Lib.hid (ST2.out.step b3)
  have B3 := Lib.hid (below_both B2.out b3)
  obtain ⟨n3, hn3⟩ : ∃ n3, l3.length = n3 := ⟨_, rfl⟩
  rw [hn3] at G3 ⊢
  clear g3 m3 s3 b3 hn3 ST2
  go_wp2_with fail
  have b4 := bx u3 (.cells #[.int .u64 (a : Int), .int .u64 (c : Int)] 34)
  have g4 := lit_span u3 (lo, hi) a c HLO.out HHI.out
  generalize u3.alloc (.cells #[.int .u64 (a : Int), .int .u64 (c : Int)] 34) = u4 at *
  have L4 := Lib.hid g4
  have G4 := Lib.hid (G3.out.step b4)
  have ST4 := Lib.hid (ST3.out.step b4)
  have B4 := Lib.hid (below_both B3.out b4)
  clear b4 g4 G3 ST3
  refine (spans_top _ lo hi u4 (TT.out.step B4.out) L4.out).mono ?_
  rintro e u5 ⟨b5, rfl, t5, b5'⟩
  have T5 : Hid (St (fun _ => True) u5 (.pointer (some ⟨b5, 0, none⟩)) P) := Lib.hid (by rw [HP.out]; exact t5)
  have G5 := Lib.hid (G4.out.step b5')
  have ST5 := Lib.hid (ST4.out.step b5')
  have B5 := Lib.hid (below_both B4.out b5')
  clear b5' t5 G4 ST4 L4
  go_wp2_with fail
  refine (CLEN.out _ u5 ST5.out).mono ?_
  rintro e u6 ⟨rfl, b6⟩
  have T6 := Lib.hid (T5.out.step b6)
  have G6 := Lib.hid (G5.out.step b6)
  have ST6 := Lib.hid (ST5.out.step b6)
  have B6 := Lib.hid (below_both B5.out b6)
  clear b6 G5 ST5 T5
  go_wp2_with fail
  refine (CRANK.out _ u6 ST6.out).mono ?_
  rintro e u7 ⟨rfl, b7⟩
  have T7 := Lib.hid (T6.out.step b7)
  have G7 := Lib.hid (G6.out.step b7)
  have ST7 := Lib.hid (ST6.out.step b7)
  have B7 := Lib.hid (below_both B6.out b7)
  clear b7 G6 ST6 T6
  go_wp2_with fail
  refine (same_top _ _ P u7 (TT.out.step B7.out) ST7.out T7.out).mono ?_
  rintro e u8 ⟨rfl, b8⟩
  have G8 := Lib.hid (G7.out.step b8)
  have ST8 := Lib.hid (ST7.out.step b8)
  have B8 := Lib.hid (below_both B7.out b8)
  clear b8 G7 ST7 T7
  go_wp2_with fail
  refine (CRUNS.out _ u8 (TT.out.step B8.out) ST8.out).mono ?_
  rintro e u9 ⟨v9, l9, rfl, g9, m9, s9, b9⟩
  obtain ⟨A9, c9, rfl, -⟩ := id g9
  have R9 := Lib.hid g9
  have M9 := Lib.hid m9
  have S9 := Lib.hid s9
  have G9 := Lib.hid (G8.out.step b9)
  have ST9 := Lib.hid (ST8.out.step b9)
  have B9 := Lib.hid (below_both B8.out b9)
  obtain ⟨n9, hn9⟩ : ∃ n9, l9.length = n9 := ⟨_, rfl⟩
  rw [hn9] at R9 ⊢
  clear g9 m9 s9 b9 hn9 G8 ST8
  go_wp2_with fail
  refine (same_runs _ _ l9 l3 u9 P R9.out G9.out M9.out M3.out S9.out S3.out).mono ?_
  rintro e u10 ⟨rfl, b10⟩
  have ST10 := Lib.hid (ST9.out.step b10)
  have B10 := Lib.hid (below_both B9.out b10)
  clear b10 R9 G9 ST9
  go_wp2_with fail
  refine (sethas_c _ P 4294967295 u10 ST10.out (by omega)).mono ?_
  rintro e u11 ⟨rfl, b11⟩
  have B11 := Lib.hid (below_both B10.out b11)
  clear b11 ST10
  rw [HAS.out]
  go_wp2_with fail
  refine (known8 u11 (TT.out.step B11.out)).mono ?_
  rintro e u12 ⟨rfl, b12⟩
  have B12 := Lib.hid (below_both B11.out b12)
  clear b12
  go_wp2
  go_ret
  exact ⟨rfl, B12.out⟩
set_option maxHeartbeats 8000000 in
set_option maxRecDepth 100000 in
theorem top_c (p q : Nat) (w : World) (hT : Tb w) (hp : p ≤ 100000) (hq : (q : Int) ≤ 4611686018427387904) (h1 : p = 0) :
    Calls Tryz.prog 8 #[.int .u64 (p : Int), .int .u64 (q : Int)] w fun e w' => e = .returned (.bool true) ∧ Below w.heap.size w w' := by
  obtain ⟨a, ha⟩ : ∃ a : Nat, a = 4294967296 - p := ⟨_, rfl⟩
  obtain ⟨c, hc⟩ : ∃ c : Nat, c = a + q := ⟨_, rfl⟩
  obtain ⟨lo, hlo⟩ : ∃ lo : UInt64, a = lo.toNat := ⟨UInt64.ofNat a, by rw [UInt64.toNat_ofNat']; omega⟩
  obtain ⟨hi, hhi⟩ : ∃ hi : UInt64, c = hi.toNat := ⟨UInt64.ofNat c, by rw [UInt64.toNat_ofNat']; omega⟩
  obtain ⟨P, hP⟩ : ∃ P, P = clp32 [(lo, hi)] := ⟨_, rfl⟩
  have hct : ct P 4294967296 = p := by rw [hP, ct_clp32 _ _ _ (Nat.le_refl _), ← hlo, ← hhi]; omega
  have CLEN := Lib.hid (fun (v : Value) (W : World) (h : St (fun _ => True) W v P) => setlen_c v P p W h hct)
  have CRANK := Lib.hid (fun (v : Value) (W : World) (h : St (fun _ => True) W v P) => setrank_c v P 4294967296 p W h (by rw [Nat.min_self]; exact hct))
  have CRUNS := Lib.hid (fun (v : Value) (W : World) (hT : Tb W) (h : St (fun _ => True) W v P) => runs_top v P W hT h (by rw [hct]; omega))
  clear hct
  have HP := Lib.hid hP
  have HLO := Lib.hid hlo
  have HHI := Lib.hid hhi
  have HAS : Hid (P 4294967295 = false) := Lib.hid (by rw [hP, clp_one _ _ _ (by omega), ← hlo, ← hhi]; simp; omega)
  have g1 : decide ((p : Int) > 100000) = false := decide_eq_false (by omega)
  have g2 : decide ((q : Int) > 4611686018427387904) = false := decide_eq_false (by omega)
  have w1 : IntKind.u64.wrap (4294967296 - (p : Int)) = (a : Int) := by rw [IntKind.wrap_u64]; omega
  have w2 : IntKind.u64.wrap ((a : Int) + (q : Int)) = (c : Int) := by rw [IntKind.wrap_u64]; omega
  have w3 : IntKind.i64.wrap (p : Int) = (p : Int) := by rw [IntKind.wrap_i64]; omega
  have k1 : decide ((p : Int) > 0) = false := decide_eq_false (by omega)
  have k2 : (q : Int) ≥ p := by omega
  have k3 : (p : Int) ≤ q := by omega
  have k5 : decide (0 < p) = false := decide_eq_false (by omega)
  have k6 : decide (p > 0) = false := decide_eq_false (by omega)
  have k4 : ¬ (q : Int) < p := by omega
  have hmn : min (p : Int) (q : Int) = (p : Int) := by omega
  have w4 : wrap64 (p : Int) = (p : Int) := by unfold wrap64; omega
  have TT := Lib.hid hT
  clear hP hlo hhi ha hc hp hq hT h1
  go_enter Tryz.func8, Tryz.ntmps8
  go_wp2_with fail
  refine (new_none w).mono ?_
  rintro e u1 ⟨b, N1, rfl, hb, S, hn, b1⟩
  have S1 := Lib.hid S
  have HN1 := Lib.hid hn
  have B1 := Lib.hid b1
  have HB := Lib.hid hb
  clear S hn b1 hb
  go_wp2_with fail
  refine (range_new b _ _ lo hi (a : Int) (c : Int) u1 (by rw [HLO.out]) (by rw [HHI.out]) (TT.out.step B1.out) HN1.out S1.out).mono ?_
  rintro e u2 ⟨rfl, T, o⟩
  have ST2 : Hid (St (fun _ => True) u2 (.pointer (some ⟨b, 0, none⟩)) P) := Lib.hid (by rw [HP.out]; exact T)
  have B2 : Hid (Below w.heap.size w u2) := Lib.hid (B1.out.trans (o.below (fun k _ hk => by have := HB.out; omega) B1.out.size))
  clear T o S1 HN1
  go_wp2_with fail
  refine (refspan8 lo hi a c u2 HLO.out HHI.out).mono ?_
  rintro e u3 ⟨v3, l3, rfl, g3, m3, s3, b3⟩
  obtain ⟨A3, c3, rfl, -⟩ := id g3
  have G3 := Lib.hid g3
  have M3 := Lib.hid m3
  have S3 : Hid (∀ x, x < 4294967296 → sp l3 x = P x) := Lib.hid (fun x _ => by rw [HP.out]; exact s3 x)
  have ST3 := Lib.hid (ST2.out.step b3)
  have B3 := Lib.hid (below_both B2.out b3)
  obtain ⟨n3, hn3⟩ : ∃ n3, l3.length = n3 := ⟨_, rfl⟩
  rw [hn3] at G3 ⊢
  clear g3 m3 s3 b3 hn3 ST2
  go_wp2_with fail
  have b4 := bx u3 (.cells #[.int .u64 (a : Int), .int .u64 (c : Int)] 34)
  have g4 := lit_span u3 (lo, hi) a c HLO.out HHI.out
  generalize u3.alloc (.cells #[.int .u64 (a : Int), .int .u64 (c : Int)] 34) = u4 at *
  have L4 := Lib.hid g4
  have G4 := Lib.hid (G3.out.step b4)
  have ST4 := Lib.hid (ST3.out.step b4)
  have B4 := Lib.hid (below_both B3.out b4)
  clear b4 g4 G3 ST3
  refine (spans_top _ lo hi u4 (TT.out.step B4.out) L4.out).mono ?_
  rintro e u5 ⟨b5, rfl, t5, b5'⟩
  have T5 : Hid (St (fun _ => True) u5 (.pointer (some ⟨b5, 0, none⟩)) P) := Lib.hid (by rw [HP.out]; exact t5)
  have G5 := Lib.hid (G4.out.step b5')
  have ST5 := Lib.hid (ST4.out.step b5')
  have B5 := Lib.hid (below_both B4.out b5')
  clear b5' t5 G4 ST4 L4
  go_wp2_with fail
  refine (CLEN.out _ u5 ST5.out).mono ?_
  rintro e u6 ⟨rfl, b6⟩
  have T6 := Lib.hid (T5.out.step b6)
  have G6 := Lib.hid (G5.out.step b6)
  have ST6 := Lib.hid (ST5.out.step b6)
  have B6 := Lib.hid (below_both B5.out b6)
  clear b6 G5 ST5 T5
  go_wp2_with fail
  refine (CRANK.out _ u6 ST6.out).mono ?_
  rintro e u7 ⟨rfl, b7⟩
  have T7 := Lib.hid (T6.out.step b7)
  have G7 := Lib.hid (G6.out.step b7)
  have ST7 := Lib.hid (ST6.out.step b7)
  have B7 := Lib.hid (below_both B6.out b7)
  clear b7 G6 ST6 T6
  go_wp2_with fail
  refine (same_top _ _ P u7 (TT.out.step B7.out) ST7.out T7.out).mono ?_
  rintro e u8 ⟨rfl, b8⟩
  have G8 := Lib.hid (G7.out.step b8)
  have ST8 := Lib.hid (ST7.out.step b8)
  have B8 := Lib.hid (below_both B7.out b8)
  clear b8 G7 ST7 T7
  go_wp2_with fail
  refine (CRUNS.out _ u8 (TT.out.step B8.out) ST8.out).mono ?_
  rintro e u9 ⟨v9, l9, rfl, g9, m9, s9, b9⟩
  obtain ⟨A9, c9, rfl, -⟩ := id g9
  have R9 := Lib.hid g9
  have M9 := Lib.hid m9
  have S9 := Lib.hid s9
  have G9 := Lib.hid (G8.out.step b9)
  have ST9 := Lib.hid (ST8.out.step b9)
  have B9 := Lib.hid (below_both B8.out b9)
  obtain ⟨n9, hn9⟩ : ∃ n9, l9.length = n9 := ⟨_, rfl⟩
  rw [hn9] at R9 ⊢
  clear g9 m9 s9 b9 hn9 G8 ST8
  go_wp2_with fail
  refine (same_runs _ _ l9 l3 u9 P R9.out G9.out M9.out M3.out S9.out S3.out).mono ?_
  rintro e u10 ⟨rfl, b10⟩
  have ST10 := Lib.hid (ST9.out.step b10)
  have B10 := Lib.hid (below_both B9.out b10)
  clear b10 R9 G9 ST9
  go_wp2_with fail
  refine (sethas_c _ P 4294967295 u10 ST10.out (by omega)).mono ?_
  rintro e u11 ⟨rfl, b11⟩
  have B11 := Lib.hid (below_both B10.out b11)
  clear b11 ST10
  rw [HAS.out]
  go_wp2_with fail
  refine (known8 u11 (TT.out.step B11.out)).mono ?_
  rintro e u12 ⟨rfl, b12⟩
  have B12 := Lib.hid (below_both B11.out b12)
  clear b12
  go_wp2
  go_ret
  exact ⟨rfl, B12.out⟩
end Go.Proofs.YtcmifbjeabkihaaGreatDoor
/- Walks: RoaringTop for all numbers. -/
namespace Go.Proofs.YtcmifbjeabkihaaGreatDoor
open Go.RowKit
set_option linter.unusedVariables false

set_option maxHeartbeats 4000000 in
set_option maxRecDepth 100000 in
theorem top_d (p q : Nat) (w : World) (hT : Tb w) (h1 : 100000 < p) :
    Calls Tryz.prog 8 #[.int .u64 (p : Int), .int .u64 (q : Int)] w fun e w' => e = .returned (.bool true) ∧ Below w.heap.size w w' := by
  have g1 : (p : Int) > 100000 := by omega
  have g1b : decide ((p : Int) > 100000) = true := decide_eq_true g1
  have g1c : decide (p > 100000) = true := decide_eq_true (by omega)
  clear h1
  have TT := Lib.hid hT
  clear hT
  go_enter Tryz.func8, Tryz.ntmps8
  go_wp2_with fail
  refine (known8 w TT.out).mono ?_
  rintro e w1 ⟨rfl, b1⟩
  have B1 := Lib.hid b1
  clear b1
  go_wp2
  go_ret
  exact ⟨rfl, B1.out⟩
set_option maxHeartbeats 4000000 in
set_option maxRecDepth 100000 in
theorem top_e (p q : Nat) (w : World) (hT : Tb w) (h1 : p ≤ 100000) (h2 : 4611686018427387904 < (q : Int)) :
    Calls Tryz.prog 8 #[.int .u64 (p : Int), .int .u64 (q : Int)] w fun e w' => e = .returned (.bool true) ∧ Below w.heap.size w w' := by
  have g1b : decide ((p : Int) > 100000) = false := decide_eq_false (by omega)
  have g2b : decide ((q : Int) > 4611686018427387904) = true := decide_eq_true (by omega)
  clear h1 h2
  have TT := Lib.hid hT
  clear hT
  go_enter Tryz.func8, Tryz.ntmps8
  go_wp2_with fail
  refine (known8 w TT.out).mono ?_
  rintro e w1 ⟨rfl, b1⟩
  have B1 := Lib.hid b1
  clear b1
  go_wp2
  go_ret
  exact ⟨rfl, B1.out⟩
theorem top_any (p q : Nat) (w : World) (hT : Tb w) :
    Calls Tryz.prog 8 #[.int .u64 (p : Int), .int .u64 (q : Int)] w fun e w' => e = .returned (.bool true) ∧ Below w.heap.size w w' := by
  by_cases h1 : p ≤ 100000
  · by_cases h2 : (q : Int) ≤ 4611686018427387904
    · by_cases h3 : p = 0
      · exact top_c p q w hT h1 h2 h3
      · by_cases h4 : p ≤ q
        · exact top_a p q w hT h1 h2 (by omega) h4
        · exact top_b p q w hT h1 h2 (by omega) (by omega)
    · exact top_e p q w hT h1 (by omega)
  · exact top_d p q w hT (by omega)
end Go.Proofs.YtcmifbjeabkihaaGreatDoor
/- What each row's proof asks of the program. -/
namespace Go.Proofs.YtcmifbjeabkihaaGreatDoor
theorem own_knob : ownKnob Tryz.prog.godebug = none := by kernel_rfl
theorem laid_out : laidOutB Tryz.prog = true := by kernel_rfl
end Go.Proofs.YtcmifbjeabkihaaGreatDoor
namespace Go.Proofs.YtcmifbjeabkihaaGreatDoor
open Go.ChangeShapes Go.WideShapes Go.ChangeAt Go.RowKit
set_option linter.unusedVariables false

theorem g_tab : Tryz.prog.globalNamed "math/bits.deBruijn64tab" = some 0 := by kernel_rfl
theorem t_tab : (Tryz.prog.globals[0]?).map (·.type) = some 248 := by kernel_rfl
theorem c_tab : Tryz.prog.cellsOf 248 = 64 := by kernel_rfl
theorem c_tab8 : Tryz.prog.cellsOf 5 = 1 := by kernel_rfl
def tabZ : List Int := Lib.deBruijn64tab.map Int.ofNat
theorem tab_data : (Rows.laid_math_bits_deBruijn64tab : DataW Unit) = Lib.tabData .u8 tabZ := rfl
theorem tabZ_len : tabZ.length = 64 := by decide +kernel
theorem tabZ_at : ∀ i : Fin 64, tabZ.getD i.val 0 = ((Lib.deBruijn64tab.getD i.val 0 : Nat) : Int) := by decide +kernel
def laidAll : List (String × DataW Unit) := [("math/bits.deBruijn64tab", Rows.laid_math_bits_deBruijn64tab)]
theorem tb_of_laid {W : World} (h : laidMetH Tryz.prog laidAll W) : Tb W := by
  rw [MakeChecks.laidMetH_plain _ _ _ (by kernel_rfl)] at h
  unfold laidAll at h
  rw [tab_data] at h
  have hT := Lib.tabIs_of_head g_tab t_tab Tryz.underlying248 Tryz.underlying5 c_tab8 c_tab h
  have hc : ∀ j, j < 64 → W.cell? ⟨0, j, none⟩ = some (.int .u8 ((Lib.deBruijn64tab.getD j 0 : Nat) : Int)) := fun j hj => by
    rw [← tabZ_at ⟨j, hj⟩]
    exact hT.cell g_tab j (by rw [tabZ_len]; exact hj)
  exact ⟨World.block_lt_of_cell? W _ (hc 0 (by omega)), hc⟩
theorem door_met (os : Os) (args : Array Value) : laidMetH Tryz.prog laidAll ((World.doorLaid Tryz.prog 14 os).forCall (fun _ _ => 0) ⟨#[], args, []⟩).memory :=
  laidMetH_of_parts3 (fuel := 8) (laidMet_of_run' 8 (by kernel_rfl) (by kernel_rfl)) (by kernel_rfl) (by kernel_rfl)
end Go.Proofs.YtcmifbjeabkihaaGreatDoor
