/- Walks: the law CrcReads. -/
import Derived.Test.YtdeiphimfpckaaaCw
namespace Go.Proofs.Ytdeiphimfpckaaa
open Go.RowKit
set_option linter.unusedVariables false

theorem reads_long (A : Option Addr) (n c : Nat) (a : Int) (w : World) (h : 3000 < n) (hn : n ≤ 9223372036854775807) :
    Calls Try.prog 4 #[.slice A n c, .int .i64 a] w fun e w' => e = .returned (.bool true) ∧ Below w.heap.size w w' := by
  go_enter Try.func4, Try.ntmps4
  go_wp2_with (go_at_call 8; refine (known_any _).mono ?_; rintro e w1 ⟨rfl, hb⟩)
  go_ret
  exact ⟨rfl, hb⟩

theorem u8_inc (z : UInt8) : ((z.toNat : Int) + 1) % 256 = ((z + 1).toNat : Int) := by
  rw [UInt8.toNat_add]
  simp

set_option maxHeartbeats 4000000 in
set_option maxRecDepth 100000 in
theorem reads_good (A : Option Addr) (c : Nat) (b : List UInt8) (a : Int) (w : World) (hb : Gs e8 w 0 w.heap.size (.slice A b.length c) b) (hn : b.length ≤ 3000) :
    Calls Try.prog 4 #[.slice A b.length c, .int .i64 a] w fun e w' => e = .returned (.bool true) ∧ Below w.heap.size w w' := by
  have HB := Lib.hid hb
  obtain ⟨X, hX⟩ : ∃ X, unX b a = X := ⟨_, rfl⟩
  obtain ⟨M, hM⟩ : ∃ M, unN b a = M := ⟨_, rfl⟩
  obtain ⟨E, hE⟩ : ∃ E : Int, (unE b a : Int) = E := ⟨_, rfl⟩
  have c1 := fun v lo W hv => unframe_any v b lo a W hv (by omega)
  have c2 := fun v lo W hv => rUnframe_any v b lo a W hv (by omega)
  simp only [hX, hM, hE] at c1 c2
  obtain ⟨S, hS⟩ : ∃ S : ByteArray, S = ⟨b.toArray⟩ := ⟨_, rfl⟩
  obtain ⟨F, hF⟩ : ∃ F : ByteArray, F = ⟨X.toArray⟩ := ⟨_, rfl⟩
  have HS := Lib.hid hS
  have HF := Lib.hid hF
  have C1 := Lib.hid c1
  have C2 := Lib.hid c2
  clear hb hS hF hX hM hE c1 c2
  go_enter Try.func4, Try.ntmps4
  go_wp2_with (at_builtin; refine wpList_gapp e8 _ rfl _ _ _ rfl w.heap.size sli8 inf8 _ [] rfl (Gw.empty_ _ _ (Nat.le_refl _)) 0 w.heap.size _ b rfl (HB.out.alloc (Nat.le_refl _) _) (by simp; omega) (by simp) ?_; intro v1 w1 o1 g1 hh; clear hh; rw [List.nil_append] at o1; have O1 := Lib.hid o1; have B1 := Lib.hid (((Below.refl w.heap.size w).alloc (Nat.le_refl _) _).grown g1 (by simp) (fun i hi => by injection hi with hi; subst hi; exact Nat.le_refl _)); clear o1 g1)
  obtain ⟨A1, c1, rfl, -⟩ := O1.out.sl
  refine (C1.out _ _ _ O1.out.sl).mono ?_
  rintro e w2 ⟨A2, c2, rfl, o2, b2⟩
  have O2 := Lib.hid o2
  have B2 := Lib.hid b2
  clear o2 b2
  go_wp2_with fail
  refine (C2.out _ _ _ ((HB.out.below (B1.out.trans (B2.out.mono B1.out.size))).more (Nat.le_refl _) (Nat.le_trans B1.out.size B2.out.size))).mono ?_
  rintro e w3 ⟨A3, c3, rfl, o3, b3⟩
  have O3 := Lib.hid (O2.out.below b3 (Nat.le_refl _))
  have B3 := Lib.hid (B2.out.trans (b3.mono B2.out.size))
  have k1 : (convert 22 9 (.slice A2 X.length c2)).run Try.prog w3 = .ok (.string F) w3 := by rw [HF.out]; exact str8 O3.out.sl
  have k2 : (convert 22 9 (.slice A3 X.length c3)).run Try.prog w3 = .ok (.string F) w3 := by rw [HF.out]; exact str8 o3.sl
  clear o3 b3 O2 B2
  have hXl : X.length ≤ 9223372036854775807 := O3.out.sl.len
  go_wp2_with fail
  clear k1 k2
  go_loopw [51] (fun i wr => ∃ (k : Nat) (L : List UInt8), k ≤ X.length ∧ i = .int .i64 k ∧ L.length = X.length ∧ Gw e8 wr w1.heap.size (.slice A2 X.length c2) L ∧ Below w1.heap.size w1 wr) (fun i _ => X.length - (intOf i).toNat)
  case atStart => exact ⟨0, X, by omega, rfl, rfl, O3.out, B3.out⟩
  case round =>
    obtain ⟨k, L, hk, rfl, hL, ok, bk⟩ := hrel
    have OK := Lib.hid ok
    have BK := Lib.hid bk
    have HL := Lib.hid hL
    clear ok bk
    by_cases hlt : k < X.length
    · obtain ⟨bO, cO, eO, -, -, -, -, hO, hfz⟩ := OK.out.form (by rintro rfl; simp at hL; omega)
      rw [hL] at eO
      injection eO with eO1 _ eO2
      subst eO1 eO2
      obtain ⟨z, hz⟩ : ∃ z : UInt8, L[k]? = some z := ⟨_, List.getElem?_eq_getElem (by omega)⟩
      have h4 := hO k z hz
      simp only [e8, b8] at h4
      have h5 := hfz k
      clear hO hfz hz hL
      go_wp2
      have hst := OK.out.stored k (z + 1)
      simp only [e8, b8] at hst
      rw [u8_inc]
      go_roundw
      case rel => exact ⟨k + 1, L.set k (z + 1), by omega, by go_num, by rw [List.length_set]; exact HL.out, hst, BK.out.grown (grown_set _ _ _ _) BK.out.size (fun j hj => by injection hj with hj; subst hj; exact (OK.out.lt _ rfl).1)⟩
      case measure => simp [intOf]; omega
    · obtain rfl : k = X.length := by omega
      have kA : (convert 22 9 (.slice A1 b.length c1)).run Try.prog wr = .ok (.string S) wr := by rw [HS.out]; exact str8 (O1.out.sl.below BK.out)
      have kB : (convert 22 9 (.slice A b.length c)).run Try.prog wr = .ok (.string S) wr := by rw [HS.out]; exact str8 (HB.out.below (B1.out.trans (BK.out.mono B1.out.size)))
      go_wp2_with fail
      clear kA kB
      refine (known_any _).mono ?_
      rintro e w6 ⟨rfl, b6⟩
      go_wp2
      go_ret
      have BB : Below w.heap.size w wr := B1.out.trans (BK.out.mono B1.out.size)
      exact ⟨rfl, BB.trans (b6.mono BB.size)⟩
end Go.Proofs.Ytdeiphimfpckaaa
