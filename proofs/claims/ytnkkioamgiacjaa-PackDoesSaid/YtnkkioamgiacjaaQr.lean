/- Walks: the law PackReads. -/
import Derived.Test.YtnkkioamgiacjaaQ9
namespace Go.Proofs.Ytnkkioamgiacjaa
open Go.RowKit
set_option linter.unusedVariables false

theorem unpack_spec (v : Value) (b : List UInt8) (lo : Nat) (n wI E : Int) (R : List UInt64) (hE : upE b n wI = E) (hR : upR b n wI = R) (W : World) (hv : Gs e8 W lo W.heap.size v b) (hb : b.length ≤ 100000) :
    Calls Try.prog 15 #[v, .int .i64 n, .int .i64 wI] W fun e w' => ∃ A m c, e = .returned (.tuple #[.slice A m c, .int .i64 E]) ∧ Gw e64 w' W.heap.size (.slice A m c) R ∧ Below W.heap.size W w' := by
  subst hE hR
  refine (unpack_any v b lo n wI W hv hb).mono ?_
  rintro e w' ⟨v', rfl, o, b⟩
  have ho := o
  obtain ⟨A, c, rfl, -⟩ := ho.sl
  exact ⟨A, _, c, rfl, o, b⟩
theorem refUnpack_spec (v : Value) (b : List UInt8) (lo : Nat) (n wI E : Int) (R : List UInt64) (hE : upE b n wI = E) (hR : upR b n wI = R) (W : World) (hv : Gs e8 W lo W.heap.size v b) (hb : b.length ≤ 100000) :
    Calls Try.prog 16 #[v, .int .i64 n, .int .i64 wI] W fun e w' => ∃ A m c, e = .returned (.tuple #[.slice A m c, .int .i64 E]) ∧ Gw e64 w' W.heap.size (.slice A m c) R ∧ Below W.heap.size W w' := by
  subst hE hR
  refine (refUnpack_any v b lo n wI W hv hb).mono ?_
  rintro e w' ⟨v', rfl, o, b⟩
  have ho := o
  obtain ⟨A, c, rfl, -⟩ := ho.sl
  exact ⟨A, _, c, rfl, o, b⟩

/-- Too many bytes: 'known' alone is asked. -/
theorem reads_long (A : Option Addr) (n c : Nat) (a1 a2 a3 : Int) (w : World) (h : 1000 < n) (hn : n ≤ 9223372036854775807) :
    Calls Try.prog 4 #[.slice A n c, .int .i64 a1, .int .i64 a2, .int .i64 a3] w fun e w' => e = .returned (.bool true) ∧ Below w.heap.size w w' := by
  go_enter Try.func4, Try.ntmps4
  go_wp2_with (go_at_call 7; refine (known_any _).mono ?_; rintro e w1 ⟨rfl, hb⟩)
  go_ret
  exact ⟨rfl, hb⟩

set_option maxHeartbeats 4000000 in
theorem reads_good (A : Option Addr) (c : Nat) (b : List UInt8) (a1 a2 a3 : Int) (w : World) (hv : Gs e8 w 0 w.heap.size (.slice A b.length c) b) (hl : b.length ≤ 1000) :
    Calls Try.prog 4 #[.slice A b.length c, .int .i64 a1, .int .i64 a2, .int .i64 a3] w fun e w' => e = .returned (.bool true) ∧ Below w.heap.size w w' := by
  obtain ⟨E, hE⟩ : ∃ E, upE b a1 a3 = E := ⟨_, rfl⟩
  obtain ⟨R, hR⟩ : ∃ R, upR b a1 a3 = R := ⟨_, rfl⟩
  obtain ⟨G, hG⟩ : ∃ G, gtR b a2 a3 = G := ⟨_, rfl⟩
  obtain ⟨S, hS⟩ : ∃ S : ByteArray, S = ⟨b.toArray⟩ := ⟨_, rfl⟩
  have HE := Lib.hid hE
  have HR := Lib.hid hR
  have HG := Lib.hid hG
  have HS := Lib.hid hS
  have HV := Lib.hid hv
  clear hv hE hR hG hS
  go_enter Try.func4, Try.ntmps4
  go_wp2_with (at_builtin; refine wpList_gapp e8 _ rfl _ _ _ rfl w.heap.size sli8 inf8 _ [] rfl (Gw.empty_ _ _ (Nat.le_refl _)) 0 w.heap.size _ b rfl (HV.out.alloc (Nat.le_refl _) _) (by simp; omega) (by simp) ?_; intro v1 w1 o1 g1 hh; clear hh; rw [List.nil_append] at o1; have b1 : Below w.heap.size w w1 := ((Below.refl _ _).alloc (Nat.le_refl _) _).grown g1 (by simp) (fun i hi => by injection hi with hi; subst hi; exact Nat.le_refl _); clear g1; have ho := o1; obtain ⟨A1, c1, rfl, -⟩ := ho.sl; clear ho; have O1 := Lib.hid o1; have B1 := Lib.hid b1; clear o1 b1)
  refine (unpack_spec _ b _ _ _ _ _ HE.out HR.out _ O1.out.sl (by omega)).mono ?_
  rintro e w2 ⟨A2, n2, c2, rfl, o2, b2⟩
  have O2 := Lib.hid o2
  have B2 := Lib.hid (B1.out.trans (b2.mono B1.out.size))
  have O12 := Lib.hid (O1.out.below b2 (Nat.le_refl _))
  clear o2 b2
  go_wp2_with fail
  refine (refUnpack_spec _ b 0 _ _ _ _ HE.out HR.out _ ((HV.out.below B2.out).more (Nat.le_refl _) B2.out.size) (by omega)).mono ?_
  rintro e w3 ⟨A3, n3, c3, rfl, o3, b3⟩
  have O3 := Lib.hid o3
  have B3 := Lib.hid (B2.out.trans (b3.mono B2.out.size))
  have O13 := Lib.hid (O12.out.below b3 (Nat.le_refl _))
  have O23 := Lib.hid (O2.out.below b3 (Nat.le_refl _))
  clear o3 b3
  go_wp2_with fail
  refine (same_yes _ _ R _ _ _ _ _ O23.out.sl O3.out.sl).mono ?_
  rintro e w4 ⟨rfl, k4, rfl⟩
  have B4 := Lib.hid (below_drewN B3.out k4)
  have O14 := Lib.hid (O13.out.drewN k4)
  have HV4 := Lib.hid ((HV.out.below B3.out).drewN k4)
  have cv1 := str8 O14.out.sl
  have cv2 := str8 HV4.out
  rw [← HS.out] at cv1 cv2
  go_wp2_with (first
    | (go_at_call 17; refine (get_any _ b _ _ _ _ _ O14.out.sl (by omega)).mono ?_; rintro e w5 ⟨rfl, rfl⟩; rw [HG.out])
    | (go_at_call 18; refine (refGet_any _ b _ _ _ _ _ HV4.out (by omega)).mono ?_; rintro e w5 ⟨rfl, rfl⟩; rw [HG.out])
    | (go_at_call 7; refine (known_any _).mono ?_; rintro e w6 ⟨rfl, b6⟩))
  go_ret
  exact ⟨rfl, B4.out.trans (b6.mono B4.out.size)⟩
end Go.Proofs.Ytnkkioamgiacjaa
