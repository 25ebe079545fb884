/- Walks: the document's Unframe. -/
import Derived.Test.YtdeiphimfpckaaaCm
import Derived.Test.YtdeiphimfpckaaaC8
import Derived.Deep.RegionWith
import Derived.BigRegion
import Derived.BigQuiet
import Derived.Deep.QuietTactic
namespace Go.Proofs.Ytdeiphimfpckaaa
open Go.RowKit
set_option linter.unusedVariables false

set_option maxHeartbeats 1000000 in
theorem rUnframe_arg (v : Value) (l : List UInt8) (lo : Nat) (a : Int) (w : World) (hv : Gs e8 w lo w.heap.size v l) (ha : a < 0 ∨ (l.length : Int) < a) :
    Calls Try.prog 14 #[v, .int .i64 a] w fun e w' => e = .returned (.tuple #[.slice none 0 0, .int .i64 0, .int .i64 2]) ∧ Below w.heap.size w w' := by
  have hlen := hv.len
  have HV := Lib.hid hv
  obtain ⟨A, c, rfl, -, -, -, -⟩ := hv
  by_cases h : a < 0
  · go_enter Try.func14, Try.ntmps14
    go_wp2
    go_ret3
    exact ⟨rfl, Below.refl _ _⟩
  · have h2 : (l.length : Int) < a := by omega
    go_enter Try.func14, Try.ntmps14
    go_wp2
    go_ret3
    exact ⟨rfl, Below.refl _ _⟩

set_option maxHeartbeats 1000000 in
theorem rUnframe_few (v : Value) (l : List UInt8) (lo : Nat) (p : Nat) (w : World) (hv : Gs e8 w lo w.heap.size v l) (hp : p ≤ l.length) (h4 : (l.length : Int) - p < 4) :
    Calls Try.prog 14 #[v, .int .i64 p] w fun e w' => e = .returned (.tuple #[.slice none 0 0, .int .i64 0, .int .i64 4]) ∧ Below w.heap.size w w' := by
  have hlen := hv.len
  have HV := Lib.hid hv
  obtain ⟨A, c, rfl, -, -, -, -⟩ := hv
  have h4' : ((l.length - p : Nat) : Int) < 4 := by omega
  go_enter Try.func14, Try.ntmps14
  go_wp2
  all_goals
    go_ret3
    exact ⟨rfl, Below.refl _ _⟩

theorem four (s : List UInt8) (h : 4 ≤ s.length) : ∃ y0 y1 y2 y3 : UInt8, s[0]? = some y0 ∧ s[1]? = some y1 ∧ s[2]? = some y2 ∧ s[3]? = some y3 ∧ leVal (s.take 4) = y0.toNat + 256 * y1.toNat + 65536 * y2.toNat + 16777216 * y3.toNat := by
  match s with
  | y0 :: y1 :: y2 :: y3 :: t => exact ⟨y0, y1, y2, y3, rfl, rfl, rfl, rfl, by simp [leVal]; omega⟩
  | [] => simp at h
  | [_] => simp at h
  | [_, _] => simp at h
  | [_, _, _] => simp at h

/-- The frame of x is what stands there iff the sum is. -/
theorem fr_stands (s : List UInt8) (n : Nat) (h4 : 4 ≤ s.length) (hn : leVal (s.take 4) = n) (hl : n + 8 ≤ s.length) :
    (fn (s.drop (4 + n)) = crc ((s.drop 4).take n) → fr ((s.drop 4).take n) = s.take (n + 8)) ∧ (fn (s.drop (4 + n)) ≠ crc ((s.drop 4).take n) → fr ((s.drop 4).take n) ≠ s.take (n + 8)) := by
  have hx : ((s.drop 4).take n).length = n := by simp; omega
  have ht : (s.take 4).length = 4 := by simp; omega
  have hn32 : n < 4294967296 := by have := leVal4 s; omega
  have e1 : s.take 4 = le 4 n := leVal_inj _ _ (by rw [ht, le_length]) (by rw [hn, le4_leVal n hn32])
  have hd : ((s.drop (4 + n)).take 4).length = 4 := by simp; omega
  have e2 : s.take (n + 8) = s.take 4 ++ (s.drop 4).take n ++ (s.drop (4 + n)).take 4 := by
    rw [show n + 8 = 4 + (n + 4) by omega, List.take_add, List.take_add, ← List.append_assoc, List.drop_drop]
  have e3 : fn (s.drop (4 + n)) = leVal ((s.drop (4 + n)).take 4) := by unfold fn; rw [if_neg (by simp; omega)]
  generalize (s.drop 4).take n = x at *
  generalize (s.drop (4 + n)).take 4 = t at *
  have hc := crc_lt x
  rw [e2, e1, e3]
  unfold fr
  rw [hx]
  constructor
  · intro h
    have : t = le 4 (crc x) := leVal_inj _ _ (by rw [hd, le_length]) (by rw [h, le4_leVal _ hc])
    rw [this]
  · intro h e
    have h5 := List.append_cancel_left e
    exact h (by rw [← h5, le4_leVal _ hc])

set_option maxHeartbeats 4000000 in
set_option maxRecDepth 100000 in
theorem rUnframe_four (v : Value) (l : List UInt8) (lo : Nat) (p : Nat) (w : World) (hv : Gs e8 w lo w.heap.size v l) (hp : p + 4 ≤ l.length) (hl : l.length ≤ 100000) (N : Nat) (hN : N = leVal ((l.drop p).take 4)) :
    Calls Try.prog 14 #[v, .int .i64 p] w fun e w' => ∃ A n c M E, e = .returned (.tuple #[.slice A n c, .int .i64 M, .int .i64 E]) ∧ Below w.heap.size w w' ∧
      ((1073741824 < N ∧ E = 3 ∧ M = 0 ∧ A = none ∧ n = 0 ∧ c = 0) ∨ (N ≤ 1073741824 ∧ l.length < p + N + 8 ∧ E = 4 ∧ M = 0 ∧ A = none ∧ n = 0 ∧ c = 0) ∨
        (N ≤ 1073741824 ∧ p + N + 8 ≤ l.length ∧ fn (l.drop (p + 4 + N)) ≠ crc ((l.drop (p + 4)).take N) ∧ E = 6 ∧ M = 0 ∧ A = none ∧ n = 0 ∧ c = 0) ∨
        (N ≤ 1073741824 ∧ p + N + 8 ≤ l.length ∧ fn (l.drop (p + 4 + N)) = crc ((l.drop (p + 4)).take N) ∧ E = 0 ∧ M = (p : Int) + N + 8 ∧ Gw e8 w' w.heap.size (.slice A n c) ((l.drop (p + 4)).take N))) := by
  have HV := Lib.hid hv
  obtain ⟨bk, off, c, rfl, hlc, hcm, -, -, hcl⟩ := hv.form (by rintro rfl; simp at hp)
  obtain ⟨y0, y1, y2, y3, h0_, h1_, h2_, h3_, hval⟩ := four (l.drop p) (by simp; omega)
  rw [List.getElem?_drop] at h0_ h1_ h2_ h3_
  have k0 := hcl _ _ h0_
  have k1 := hcl _ _ h1_
  have k2 := hcl _ _ h2_
  have k3 := hcl _ _ h3_
  simp only [e8, b8, Nat.add_zero, ← Nat.add_assoc] at k0 k1 k2 k3
  obtain ⟨z0, g0⟩ : ∃ z : Int, z = y0.toNat := ⟨_, rfl⟩
  obtain ⟨z1, g1⟩ : ∃ z : Int, z = y1.toNat := ⟨_, rfl⟩
  obtain ⟨z2, g2⟩ : ∃ z : Int, z = y2.toNat := ⟨_, rfl⟩
  obtain ⟨z3, g3⟩ : ∃ z : Int, z = y3.toNat := ⟨_, rfl⟩
  rw [← g0] at k0
  rw [← g1] at k1
  rw [← g2] at k2
  rw [← g3] at k3
  have b0 : 0 ≤ z0 ∧ z0 ≤ 255 := by have := y0.toNat_lt; omega
  have b1 : 0 ≤ z1 ∧ z1 ≤ 255 := by have := y1.toNat_lt; omega
  have b2 : 0 ≤ z2 ∧ z2 ≤ 255 := by have := y2.toNat_lt; omega
  have b3 : 0 ≤ z3 ∧ z3 ≤ 255 := by have := y3.toNat_lt; omega
  have hNz : z0 + 256 * z1 + 65536 * z2 + 16777216 * z3 = N := by omega
  have HN := Lib.hid hN
  have HP := Lib.hid hp
  have hpl : p ≤ l.length := by omega
  have hc0 : c ≠ p := by omega
  have hp4 : (4 : Int) ≤ l.length - p := by omega
  have hli : (l.length : Int) ≤ 100000 := by omega
  have HLC := Lib.hid hlc
  obtain ⟨b00, b01⟩ := b0
  obtain ⟨b10, b11⟩ := b1
  obtain ⟨b20, b21⟩ := b2
  obtain ⟨b30, b31⟩ := b3
  clear hcl hcm hlc hN hval g0 g1 g2 g3 h0_ h1_ h2_ h3_ hp hl hv
  go_enter Try.func14, Try.ntmps14
  go_wp2
  go_quiet (fail)
  have B0 := Lib.hid (below_drewN (Below.refl w.heap.size w) nq)
  have HW := Lib.hid (HV.out.drewN nq)
  generalize w.drewN nq = W at *
  clear k0 k1 k2 k3 b00 b01 b10 b11 b20 b21 b30 b31 hNz
  by_cases q1 : 1073741824 < N
  · have q1' : (N : Int) > 1073741824 := by omega
    have Q1 := Lib.hid q1
    clear q1
    go_wp2
    go_ret3
    exact ⟨none, 0, 0, 0, 3, rfl, B0.out, .inl ⟨Q1.out, rfl, rfl, rfl, rfl, rfl⟩⟩
  · have q1' : (N : Int) ≤ 1073741824 := by omega
    have Q1 := Lib.hid (show N ≤ 1073741824 by omega)
    clear q1
    by_cases q2 : l.length < p + N + 8
    · have q2' : ((l.length - p : Nat) : Int) < N + 8 := by omega
      have Q2 := Lib.hid q2
      clear q2
      go_wp2
      go_ret3
      exact ⟨none, 0, 0, 0, 4, rfl, B0.out, .inr (.inl ⟨Q1.out, Q2.out, rfl, rfl, rfl, rfl, rfl⟩)⟩
    · have q2' : (p : Int) + N + 8 ≤ l.length := by omega
      have q3' : ¬ (((l.length - p : Nat) : Int) < N + 8) := by omega
      have Q2 := Lib.hid (show p + N + 8 ≤ l.length by omega)
      have q4 : (4 : Int) + N ≤ (c - p : Nat) := by have := HLC.out; omega
      have q5 : c - p ≠ 4 := by have := HLC.out; omega
      clear q2
      have m1 : Gs e8 W lo w.heap.size (.slice (some ⟨bk, off + p + 4, none⟩) (4 + N - 4) (c - p - 4)) ((l.drop (p + 4)).take N) := by
        have := HW.out.mid (p := p + 4) (m := N) (by have := Q2.out; omega) (by have := Q2.out; have := HLC.out; omega)
        rw [Nat.sub_sub, Nat.add_assoc, Nat.add_sub_cancel_left]
        exact this
      have m2 : Gs e8 W lo w.heap.size (.slice (some ⟨bk, off + p, none⟩) (N + 8) (c - p)) ((l.drop p).take (N + 8)) := by
        have := HW.out.mid (p := p) (m := N + 8) (by have := Q2.out; omega) hc0
        simpa [Addr.add_lit] using this
      have hxl : ((l.drop (p + 4)).take N).length = N := by have := Q2.out; simp; omega
      have hst := fr_stands (l.drop p) N (by have := HP.out; simp; omega) HN.out.symm (by have := Q2.out; simp; omega)
      rw [List.drop_drop, List.drop_drop, ← Nat.add_assoc] at hst
      obtain ⟨X, hX⟩ : ∃ X, X = (l.drop (p + 4)).take N := ⟨_, rfl⟩
      obtain ⟨Y, hY⟩ : ∃ Y, Y = (l.drop p).take (N + 8) := ⟨_, rfl⟩
      rw [← hX] at m1 hxl hst
      rw [← hY] at m2 hst
      have M1 := Lib.hid m1
      have M2 := Lib.hid m2
      have HXL := Lib.hid hxl
      have HST := Lib.hid hst
      have HX := Lib.hid hX
      have HY := Lib.hid hY
      have hNl : (N : Int) ≤ 100000 := by omega
      clear m1 m2 hxl hst hX hY HW
      obtain ⟨F, hF⟩ : ∃ F : ByteArray, F = ⟨(fr X).toArray⟩ := ⟨_, rfl⟩
      obtain ⟨G, hG⟩ : ∃ G : ByteArray, G = ⟨Y.toArray⟩ := ⟨_, rfl⟩
      have HF := Lib.hid hF
      have HG := Lib.hid hG
      clear hF hG
      go_wp2_with (at_builtin; (refine wpList_gapp e8 _ rfl _ _ _ rfl W.heap.size sli8 inf8 _ [] rfl (Gw.empty_ _ _ (Nat.le_refl _)) lo w.heap.size _ X rfl (M1.out.alloc B0.out.size _) (by rw [HXL.out]; simp; omega) (by simp) ?_; intro v1 w1 o1 g1 hh; clear hh; rw [List.nil_append] at o1; have O1 := Lib.hid o1; have B1 := Lib.hid (((Below.refl W.heap.size W).alloc (Nat.le_refl _) _).grown g1 (by simp) (fun i hi => by injection hi with hi; subst hi; exact Nat.le_refl _)); clear o1 g1))
      obtain ⟨A1, c1, rfl, -⟩ := O1.out.sl
      rw [HXL.out] at O1 ⊢
      have BB := Lib.hid (B0.out.trans (B1.out.mono B0.out.size) : Below w.heap.size w w1)
      have kl : ∀ W', Below w1.heap.size w1 W' → (convert 22 9 (.slice (some ⟨bk, off + p, none⟩) (N + 8) (c - p))).run Try.prog W' = .ok (.string G) W' := fun W' hW' => by
        rw [HG.out]
        exact str8 ((M2.out.below (B1.out.mono B0.out.size)).below (hW'.mono BB.out.size))
      have cf : ∀ W', Below w1.heap.size w1 W' → Calls Try.prog 12 #[.slice A1 N c1] W' fun e w' => ∃ A3 n3 c3, e = .returned (.slice A3 n3 c3) ∧ (convert 22 9 (.slice A3 n3 c3)).run Try.prog w' = .ok (.string F) w' ∧ Below w1.heap.size w1 w' := fun W' hW' => by
        refine (refFrame_any _ X _ W' ((O1.out.sl.below hW').more (Nat.le_refl _) hW'.size) (by rw [HXL.out]; omega)).mono ?_
        rintro e w' ⟨v3, rfl, o3, b3⟩
        obtain ⟨A3, c3, rfl, -⟩ := o3.sl
        exact ⟨A3, _, c3, rfl, by rw [HF.out]; exact str8 o3.sl, hW'.trans (b3.mono hW'.size)⟩
      have q0 := kl w1.drew (Below.refl w1.heap.size w1).drew
      have KL := Lib.hid kl
      have CF := Lib.hid cf
      clear kl cf
      have q6 : (N : Int) + 8 ≤ (c - p : Nat) := by have := HLC.out; have := Q2.out; omega
      have q7 : ¬ c ≤ p := by have := HLC.out; have := Q2.out; omega
      have q8 : IntKind.i64.wrap ((N : Int) + 8) = (N : Int) + 8 := by rw [IntKind.wrap_i64]; omega
      have q9 : ((N : Int) + 8).toNat = N + 8 := by omega
      have BW := Lib.hid (Below.refl w1.heap.size w1).drew
      by_cases hs : fn (l.drop (p + 4 + N)) = crc X
      · obtain rfl : G = F := by rw [HF.out, HG.out, HST.out.1 hs]
        have HS := Lib.hid hs
        clear hs
        go_region_with (first
          | (go_at_call 12; clear q0; refine (CF.out _ BW.out).mono ?_; rintro e w5 ⟨A3, n3, c3, rfl, q4, b5⟩; have q1 := KL.out _ b5; clear BW CF; have BW := Lib.hid b5; clear b5))
        all_goals
          go_wp2
          go_ret3
          exact ⟨A1, N, c1, _, 0, rfl, BB.out.trans (BW.out.mono BB.out.size), .inr (.inr (.inr ⟨Q1.out, Q2.out, by rw [← HX.out]; exact HS.out, rfl, rfl, by rw [← HX.out]; exact (O1.out.more B0.out.size).below BW.out (Nat.le_refl _)⟩))⟩
      · have HS := Lib.hid hs
        have hbq : (F.toList == G.toList) = false := by
          rw [beq_eq_false_iff_ne, HF.out, HG.out, ByteArray.toList_mk, ByteArray.toList_mk]
          exact HST.out.2 hs
        clear hs
        go_region_with (first
          | (go_at_call 12; clear q0; refine (CF.out _ BW.out).mono ?_; rintro e w5 ⟨A3, n3, c3, rfl, q4, b5⟩; have q1 := KL.out _ b5; clear BW CF; have BW := Lib.hid b5; clear b5))
        all_goals
          go_wp2
          go_ret3
          exact ⟨none, 0, 0, 0, 6, rfl, BB.out.trans (BW.out.mono BB.out.size), .inr (.inr (.inl ⟨Q1.out, Q2.out, by rw [← HX.out]; exact HS.out, rfl, rfl, rfl, rfl, rfl⟩))⟩
end Go.Proofs.Ytdeiphimfpckaaa
