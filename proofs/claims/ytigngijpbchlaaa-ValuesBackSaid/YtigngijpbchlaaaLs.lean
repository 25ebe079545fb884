/- Walks: the law ValuesBack. -/
import Derived.Test.YtigngijpbchlaaaLr
import Derived.Test.YtigngijpbchlaaaLn
import Derived.Test.YtigngijpbchlaaaLg
namespace Go.Proofs.Ytigngijpbchlaaa
open Go.RowKit
set_option linter.unusedVariables false

theorem vcell0 {W : World} {b off j : Nat} {X : VV} (hc : ∀ i u, (eV.cs X)[i]? = some u → W.cell? ⟨b, off + (eV.n * j + i), none⟩ = some u) : W.cell? ⟨b, off + j * 3, none⟩ = some (.int .u8 X.k) := by
  have h := hc 0 _ rfl
  rw [show off + j * 3 = off + (eV.n * j + 0) from by simp [eV]; omega]
  exact h
theorem vcell1 {W : World} {b off j : Nat} {X : VV} (hc : ∀ i u, (eV.cs X)[i]? = some u → W.cell? ⟨b, off + (eV.n * j + i), none⟩ = some u) : W.cell? ⟨b, off + j * 3 + 1, none⟩ = some (.int .i64 X.n) := by
  have h := hc 1 _ rfl
  rw [show off + j * 3 + 1 = off + (eV.n * j + 1) from by simp [eV]; omega]
  exact h
theorem vcell2 {W : World} {b off j : Nat} {X : VV} (hc : ∀ i u, (eV.cs X)[i]? = some u → W.cell? ⟨b, off + (eV.n * j + i), none⟩ = some u) : W.cell? ⟨b, off + j * 3 + 2, none⟩ = some (.string X.s) := by
  have h := hc 2 _ rfl
  rw [show off + j * 3 + 2 = off + (eV.n * j + 2) from by simp [eV]; omega]
  exact h
theorem may_size {X : VV} (h : X.may = true) : X.s.size ≤ 1000000 := by
  unfold VV.may mayV at h
  split at h
  · have : bls X.s = [] := by simpa using h
    rw [← bls_len, this]; simp
  · split at h
    · simp only [Bool.and_eq_true, decide_eq_true_eq] at h
      have := h.2
      rw [bls_len] at this
      omega
    · cases h
/-- While values are read again: the reader, the block of what was read, the value that was handed in. -/
structure Wv (w W : World) (base g ga : Nat) (vr : Value) (bs : List UInt8) (p : Nat) (b off j : Nat) (X : VV) : Prop where
  rd : Rd W base g vr bs p false
  below : Below w.heap.size w W
  ra : Row W ga 23 #[.int .u8 X.k, .int .i64 X.n, .string X.s]
  q0 : W.cell? ⟨b, off + j * 3, none⟩ = some (.int .u8 X.k)
  q1 : W.cell? ⟨b, off + j * 3 + 1, none⟩ = some (.int .i64 X.n)
  q2 : W.cell? ⟨b, off + j * 3 + 2, none⟩ = some (.string X.s)
section
variable {w W : World} {base g ga : Nat} {vr : Value} {bs : List UInt8} {p b off j : Nat} {X : VV}
theorem Wv.drew (h : Wv w W base g ga vr bs p b off j X) : Wv w W.drew base g ga vr bs p b off j X := ⟨h.rd.drewN 1, h.below.drew, h.ra, h.q0, h.q1, h.q2⟩
theorem Wv.a0 (h : Wv w W base g ga vr bs p b off j X) : W.cell? ⟨ga, 0, none⟩ = some (.int .u8 X.k) := by rw [h.ra.cell]; rfl
theorem Wv.a1 (h : Wv w W base g ga vr bs p b off j X) : W.cell? ⟨ga, 1, none⟩ = some (.int .i64 X.n) := by rw [h.ra.cell]; rfl
theorem Wv.a2 (h : Wv w W base g ga vr bs p b off j X) : W.cell? ⟨ga, 2, none⟩ = some (.string X.s) := by rw [h.ra.cell]; rfl
end

set_option maxHeartbeats 2000000 in
theorem back_go (A : Option Addr) (d : Nat) (l : List VV) (A2 : Option Addr) (d2 : Nat) (z : List UInt8) (w : World) (hG : GsV eV w 0 w.heap.size (.slice A l.length d) l) (hZ : Gs e8 w 0 w.heap.size (.slice A2 z.length d2) z) (hok : ∀ x ∈ l, x.ok)
    (hd0 : decide ((100 : Int) < l.length) = false) (hd1 : decide ((1000 : Int) < z.length) = false) (hl : l.length ≤ 100) (hz : z.length ≤ 1000) :
    Calls Try.prog 6 #[.slice A l.length d, .slice A2 z.length d2] w fun e w' => e = .returned (.bool true) ∧ Below w.heap.size w w' := by
  have HG := Lib.hid hG
  have HZ := Lib.hid hZ
  have HOK := Lib.hid hok
  clear hG hZ hok
  go_enter Try.func6, Try.ntmps6
  go_wp2_with fail
  go_loopw [5, 15] (fun s i wr => ∃ (j : Nat) (N : Int), s = .int .i64 N ∧ i = .int .i64 j ∧ j ≤ l.length ∧ wr = w) (fun _ i _ => l.length - (intOf i).toNat)
  case atStart => exact ⟨0, 0, rfl, rfl, Nat.zero_le _, by trivial⟩
  case round =>
    obtain ⟨j, N, rfl, rfl, hj, hw⟩ := hrel
    have hw := hw.symm
    subst hw
    by_cases hlt : j < l.length
    · skip
      have hG := HG.out
      obtain ⟨b, off, c', e, -, -, -, hbw, hc⟩ := hG.form (by rintro rfl; simp at hlt)
      injection e with e1 e2 e3
      clear e2
      subst e1 e3
      obtain ⟨X, hX⟩ : ∃ X, l[j]? = some X := ⟨_, List.getElem?_eq_getElem hlt⟩
      have q0 := vcell0 (hc j X hX)
      have q1 := vcell1 (hc j X hX)
      have q2 := vcell2 (hc j X hX)
      clear hc hG
      go_wp2
      go_roundw
      case rel => exact ⟨j + 1, _, by go_num, rfl, by omega, by trivial⟩
      case measure => simp [intOf]; omega
    · clear hj
      cases hN : decide ((100000 : Int) < N) with
      | true =>
        go_wp2_with (go_at_call 7; refine (known_any _).mono ?_; rintro e w9 ⟨rfl, b9⟩)
        go_ret
        exact ⟨rfl, b9⟩
      | false =>
        go_wp2_with fail
        go_loopw [6, 42] (fun v i wr => ∃ (j : Nat), i = .int .i64 j ∧ j ≤ l.length ∧ Gw e8 wr w.heap.size v (catV (l.take j)) ∧ (∀ x ∈ l.take j, x.may = true) ∧ Below w.heap.size w wr) (fun _ i _ => l.length - (intOf i).toNat)
        case atStart => exact ⟨0, rfl, Nat.zero_le _, Gw.nil_ _ _, by simp, Below.refl _ _⟩
        case round =>
          obtain ⟨j, rfl, hj, ho, hm, hB⟩ := hrel
          by_cases hlt : j < l.length
          · skip
            have hG := HG.out.below hB
            obtain ⟨b, off, c', e, -, -, -, hbw, hc⟩ := hG.form (by rintro rfl; simp at hlt)
            injection e with e1 e2 e3
            clear e2
            subst e1 e3
            obtain ⟨X, hX⟩ : ∃ X, l[j]? = some X := ⟨_, List.getElem?_eq_getElem hlt⟩
            have q0 := vcell0 (hc j X hX)
            have q1 := vcell1 (hc j X hX)
            have q2 := vcell2 (hc j X hX)
            clear hc hG
            have HX := Lib.hid hX
            have HO := Lib.hid ho
            have HM := Lib.hid hm
            have HBw := Lib.hid hB
            clear hX ho hm hB
            have hcat : (catV (l.take j)).length ≤ 10000000 := by
              have h1 := cat_small (l.take j) HM.out
              have h2 : (l.take j).length ≤ 100 := by rw [List.length_take]; omega
              have := Nat.mul_le_mul_right 65545 h2
              omega
            have HCAT := Lib.hid hcat
            clear hcat
            have hmc := fun W => may_any X.k X.n X.s W
            rw [show mayV X.k X.n (bls X.s) = X.may from rfl] at hmc
            cases hmay : X.may with
            | false =>
              rw [hmay] at hmc
              go_wp2_with (first | (go_at_call 10; refine (hmc _).mono ?_; rintro e w3 ⟨rfl, b3⟩; have B3 := Lib.hid (HBw.out.trans (b3.mono HBw.out.size)); clear b3) | (go_at_call 7; refine (known_any _).mono ?_; rintro e w9 ⟨rfl, b9⟩))
              go_ret
              exact ⟨rfl, B3.out.trans (b9.mono B3.out.size)⟩
            | true =>
              rw [hmay] at hmc
              have HMAY := Lib.hid hmay
              clear hmay
              go_wp2_with (first
                | (go_at_call 10; refine (hmc _).mono ?_; rintro e w3 ⟨rfl, b3⟩; have r0 := (b3.cell (p := ⟨b, off + j * 3, none⟩) (by have := HBw.out.size; show b < _; omega)).trans q0; have r1 := (b3.cell (p := ⟨b, off + j * 3 + 1, none⟩) (by have := HBw.out.size; show b < _; omega)).trans q1; have r2 := (b3.cell (p := ⟨b, off + j * 3 + 2, none⟩) (by have := HBw.out.size; show b < _; omega)).trans q2; have O3 := Lib.hid (HO.out.below b3 (Nat.le_refl _)); have B3 := Lib.hid (HBw.out.trans (b3.mono HBw.out.size)); clear b3 q0 q1 q2)
                | (go_at_call 14; refine (append_big _ _ _ X.k X.n X.s _ O3.out.sl HCAT.out (may_size HMAY.out)).mono ?_; rintro e w4 ⟨v4, rfl, o4, b4⟩; have O4 := Lib.hid o4; have B4 := Lib.hid (B3.out.trans (b4.mono B3.out.size)); clear o4 b4))
              go_roundw
              case rel => exact ⟨j + 1, by go_num, by omega, by rw [catV_take HX.out]; exact O4.out.more B3.out.size, fun x hx => by
                rw [List.take_add_one, HX.out] at hx
                rcases List.mem_append.1 hx with h | h
                · exact HM.out x h
                · simp at h; rw [h]; exact HMAY.out, B4.out⟩
              case measure => simp [intOf]; omega
          · have ej : j = l.length := by omega
            rw [ej, List.take_length] at ho hm
            clear hj ej
            have hcl : (catV l).length ≤ 6554500 := by
              have h1 := cat_small l hm
              have := Nat.mul_le_mul_right 65545 hl
              omega
            obtain ⟨Ab, db, rfl, -⟩ := ho.sl
            have HO := Lib.hid ho
            have HM := Lib.hid hm
            have HBw := Lib.hid hB
            have E0 : Gw e8 (wr.alloc (.cells #[] e8.E)) w.heap.size (.slice (some ⟨wr.heap.size, 0, none⟩) 0 0) [] := Gw.empty_ wr w.heap.size hB.size
            have HE := Lib.hid E0
            have hcl2 : (catV l).length + z.length ≤ 10000000 := by omega
            have HCL := Lib.hid hcl
            have HCL2 := Lib.hid hcl2
            clear ho hm hB E0 hcl hcl2
            go_wp2_with (first
              | (at_builtin; refine wpList_app _ rfl _ _ _ rfl w.heap.size sli8 inf8 _ [] rfl HE.out w.heap.size wr.heap.size _ (catV l) rfl (HO.out.sl.alloc (Nat.le_refl _) _) (by have := HCL.out; simp; omega) (by have := HBw.out.size; simp; omega) ?_; intro v5 w5 o5 g5 _; rw [List.nil_append] at o5; have hB5 : Below w.heap.size w w5 := (HBw.out.alloc HBw.out.size _).grown g5 (by have := HBw.out.size; simp; omega) (fun k h => by have h2 : wr.heap.size = k := Option.some.inj h; have := HBw.out.size; omega); have O5 := Lib.hid o5; have B5 := Lib.hid hB5; obtain ⟨A5, d5, rfl, -⟩ := o5.sl; clear o5 g5 hB5 HE)
              | (at_builtin; refine wpList_app _ rfl _ _ _ rfl w.heap.size sli8 inf8 _ (catV l) rfl O5.out 0 w.heap.size _ z rfl (HZ.out.below B5.out) (by have := HCL2.out; omega) B5.out.size ?_; intro v6 w6 o6 g6 _; have hB6 : Below w.heap.size w w6 := B5.out.grown g6 B5.out.size (fun k h => (O5.out.lt k h).1); have O6 := Lib.hid o6; have B6 := Lib.hid hB6; clear o6 g6 hB6)
              | (go_at_call 16; refine (new_any _ (catV l ++ z) _ _ O6.out.sl (by have := HCL2.out; rw [List.length_append]; omega)).mono ?_; rintro e w7 ⟨g, vr, rfl, rd7, b7⟩; have hg7 : w.heap.size ≤ g := Nat.le_trans B6.out.size rd7.ge; have RD7 := Lib.hid rd7; have HG7 := Lib.hid hg7; have B7 := Lib.hid (B6.out.trans (b7.mono B6.out.size)); clear rd7 b7 hg7))
            go_loopw [67] (fun i wx => ∃ (j : Nat), i = .int .i64 j ∧ j ≤ l.length ∧ Rd wx w6.heap.size g vr (catV l ++ z) (catV (l.take j)).length false ∧ Below w.heap.size w wx) (fun i _ => l.length - (intOf i).toNat)
            case atStart => exact ⟨0, rfl, Nat.zero_le _, RD7.out, B7.out⟩
            case round =>
              obtain ⟨j, rfl, hj, hrd, hB⟩ := hrel
              by_cases hlt : j < l.length
              · skip
                have hG := HG.out.below hB
                obtain ⟨b, off, c', e, -, -, -, hbw, hc⟩ := hG.form (by rintro rfl; simp at hlt)
                injection e with e1 e2 e3
                clear e2
                subst e1 e3
                obtain ⟨X, hX⟩ : ∃ X, l[j]? = some X := ⟨_, List.getElem?_eq_getElem hlt⟩
                have q0 := vcell0 (hc j X hX)
                have q1 := vcell1 (hc j X hX)
                have q2 := vcell2 (hc j X hX)
                clear hc hG
                have hxl : X ∈ l := List.mem_of_getElem? hX
                have hrb := read_back X (HM.out X hxl) (HOK.out X hxl) (catV l ++ z) (catV (l.take j)) (catV (l.drop (j + 1)) ++ z) (by rw [catV_cut hX]; simp)
                rw [show (catV (l.take j)).length + X.by.length = (catV (l.take (j + 1))).length from by rw [catV_take hX, List.length_append]] at hrb
                have HRB := Lib.hid hrb
                have HRD := Lib.hid hrd
                have HBx := Lib.hid hB
                clear hX hxl hrb hrd hB
                obtain ⟨p, hp⟩ : ∃ p, (catV (l.take (j + 1))).length = p := ⟨_, rfl⟩
                have HP := Lib.hid hp
                clear hp
                go_wp2_with (go_at_call 17; refine (Read_c HRB.out _ HRD.out).mono ?_; rw [string_of]; rintro e w8 ⟨rfl, r8, g8⟩; have hgw := HG7.out; have hB8 : Below w.heap.size w w8 := HBx.out.grown g8 HBx.out.size (fun k h => by injection h with h; omega); have hl8 := g8.cell_far; have r0 := (hl8 ⟨b, off + j * 3, none⟩ (by have := HBx.out.size; show b < _; omega) (by intro e; injection e with e; have h3 : b = g := e; omega)).trans q0; have r1 := (hl8 ⟨b, off + j * 3 + 1, none⟩ (by have := HBx.out.size; show b < _; omega) (by intro e; injection e with e; have h3 : b = g := e; omega)).trans q1; have r2 := (hl8 ⟨b, off + j * 3 + 2, none⟩ (by have := HBx.out.size; show b < _; omega) (by intro e; injection e with e; have h3 : b = g := e; omega)).trans q2; rw [HP.out] at r8; have HR8 := Lib.hid r8; have HB8 := Lib.hid hB8; have hbw8 : b < w8.heap.size := (by have := hB8.size; omega); clear r8 g8 hB8 hl8 q0 q1 q2 hgw)
                have hWv : Wv w (w8.alloc (.cells #[.int .u8 X.k, .int .i64 X.n, .string X.s] 23)) w6.heap.size g w8.heap.size vr (catV l ++ z) p b off j X := ⟨HR8.out.alloc _, HB8.out.alloc HB8.out.size _, Row.new _ _ _, (World.cell?_alloc_lt w8 _ _ hbw8).trans r0, (World.cell?_alloc_lt w8 _ _ hbw8).trans r1, (World.cell?_alloc_lt w8 _ _ hbw8).trans r2⟩
                have HWV := Lib.hid hWv
                clear r0 r1 r2 hWv
                have hSc := HWV.out.drew
                refine wp_region_all (S := fun W => Wv w W w6.heap.size g w8.heap.size vr (catV l ++ z) p b off j X) (by kernel_rfl) hSc (fun W0 hSc => ?_)
                refine held_take 0 ?_ rfl (by kernel_rfl) (by kernel_rfl) (by kernel_rfl) (fun _ _ _ h => h) (by rfl) ?_ hSc ?_
                rotate_left
                · (intro W hSW; have a0 := hSW.a0; have a1 := hSW.a1; have a2 := hSW.a2; have q0 := hSW.q0; have q1 := hSW.q1; have q2 := hSW.q2; go_simp; try rfl)
                try simp only [Act.put, List.setIfInBounds_toArray, List.set_cons_zero, List.set_cons_succ]
                refine held_take 1 ?_ rfl (by kernel_rfl) (by kernel_rfl) (by kernel_rfl) (fun _ _ _ h => h) (by rfl) ?_ hSc ?_
                rotate_left
                · (intro W hSW; have a0 := hSW.a0; have a1 := hSW.a1; have a2 := hSW.a2; have q0 := hSW.q0; have q1 := hSW.q1; have q2 := hSW.q2; go_simp; try rfl)
                try simp only [Act.put, List.setIfInBounds_toArray, List.set_cons_zero, List.set_cons_succ]
                refine held_take 2 ?_ rfl (by kernel_rfl) (by kernel_rfl) (by kernel_rfl) (fun _ _ _ h => h) (by rfl) ?_ hSc ?_
                rotate_left
                · (intro W hSW; have a0 := hSW.a0; have a1 := hSW.a1; have a2 := hSW.a2; have q0 := hSW.q0; have q1 := hSW.q1; have q2 := hSW.q2; go_simp; try rfl)
                try simp only [Act.put, List.setIfInBounds_toArray, List.set_cons_zero, List.set_cons_succ]
                refine held_take 3 ?_ rfl (by kernel_rfl) (by kernel_rfl) (by kernel_rfl) (fun _ _ _ h => h) (by rfl) ?_ hSc ?_
                rotate_left
                · (intro W hSW; have a0 := hSW.a0; have a1 := hSW.a1; have a2 := hSW.a2; have q0 := hSW.q0; have q1 := hSW.q1; have q2 := hSW.q2; go_simp; try rfl)
                try simp only [Act.put, List.setIfInBounds_toArray, List.set_cons_zero, List.set_cons_succ]
                refine held_take 4 ?_ rfl (by kernel_rfl) (by kernel_rfl) (by kernel_rfl) (fun _ _ _ h => h) (by rfl) ?_ hSc ?_
                rotate_left
                · (intro W hSW; have a0 := hSW.a0; have a1 := hSW.a1; have a2 := hSW.a2; have q0 := hSW.q0; have q1 := hSW.q1; have q2 := hSW.q2; go_simp; try rfl)
                try simp only [Act.put, List.setIfInBounds_toArray, List.set_cons_zero, List.set_cons_succ]
                refine held_take 5 ?_ rfl (by kernel_rfl) (by kernel_rfl) (by kernel_rfl) (fun _ _ _ h => h) (by rfl) ?_ hSc ?_
                rotate_left
                · (intro W hSW; have a0 := hSW.a0; have a1 := hSW.a1; have a2 := hSW.a2; have q0 := hSW.q0; have q1 := hSW.q1; have q2 := hSW.q2; go_simp; try rfl)
                try simp only [Act.put, List.setIfInBounds_toArray, List.set_cons_zero, List.set_cons_succ]
                refine held_take 6 ?_ rfl (by kernel_rfl) (by kernel_rfl) (by kernel_rfl) (fun _ _ _ h => h) (by rfl) ?_ hSc ?_
                rotate_left
                · (intro W hSW; have a0 := hSW.a0; have a1 := hSW.a1; have a2 := hSW.a2; have q0 := hSW.q0; have q1 := hSW.q1; have q2 := hSW.q2; go_simp; try rfl)
                try simp only [Act.put, List.setIfInBounds_toArray, List.set_cons_zero, List.set_cons_succ]
                refine held_take 7 ?_ rfl (by kernel_rfl) (by kernel_rfl) (by kernel_rfl) (fun _ _ _ h => h) (by rfl) ?_ hSc ?_
                rotate_left
                · (intro W hSW; have a0 := hSW.a0; have a1 := hSW.a1; have a2 := hSW.a2; have q0 := hSW.q0; have q1 := hSW.q1; have q2 := hSW.q2; go_simp; try rfl)
                try simp only [Act.put, List.setIfInBounds_toArray, List.set_cons_zero, List.set_cons_succ]
                refine held_take 8 ?_ rfl (by kernel_rfl) (by kernel_rfl) (by kernel_rfl) (fun _ _ _ h => h) (by rfl) ?_ hSc ?_
                rotate_left
                · (intro W hSW; have a0 := hSW.a0; have a1 := hSW.a1; have a2 := hSW.a2; have q0 := hSW.q0; have q1 := hSW.q1; have q2 := hSW.q2; go_simp; try rfl)
                try simp only [Act.put, List.setIfInBounds_toArray, List.set_cons_zero, List.set_cons_succ]
                refine held_next 9 rfl (by kernel_rfl) (by rfl) ?_
                go_simp
                refine ⟨fun W => Wv w W w6.heap.size g w8.heap.size vr (catV l ++ z) p b off j X, fun W hW => hW, hSc, ?_⟩
                refine wpAnyH_done (by kernel_rfl) ?_ _
                go_wp2_with fail
                go_roundw
                case rel => exact ⟨j + 1, by go_num, by omega, by rw [HP.out]; exact hSc.rd, hSc.below⟩
                case measure => simp [intOf]; omega
              · have ej : j = l.length := by omega
                rw [ej, List.take_length] at hrd
                have HRD := Lib.hid hrd
                have HBx := Lib.hid hB
                clear hrd hB ej
                go_wp2_with (first | (go_at_call 19; refine (At_any _ HRD.out).mono ?_; rintro e w8 ⟨rfl, rfl⟩) | (go_at_call 20; refine (Bad_any _ HRD.out).mono ?_; rintro e w8 ⟨rfl, rfl⟩) | (go_at_call 7; refine (known_any _).mono ?_; rintro e w9 ⟨rfl, b9⟩))
                go_ret
                exact ⟨rfl, HBx.out.trans (b9.mono HBx.out.size)⟩

set_option maxHeartbeats 1000000 in
theorem back_long0 (A : Option Addr) (d : Nat) (l : List VV) (v : Value) (w : World) (hG : GsV eV w 0 w.heap.size (.slice A l.length d) l) (hd0 : decide ((100 : Int) < l.length) = true) :
    Calls Try.prog 6 #[.slice A l.length d, v] w fun e w' => e = .returned (.bool true) ∧ Below w.heap.size w w' := by
  have hlen := hG.len
  have HG := Lib.hid hG
  clear hG
  go_enter Try.func6, Try.ntmps6
  go_wp2_with fail
  go_loopw [5, 15] (fun s i wr => ∃ (j : Nat) (N : Int), s = .int .i64 N ∧ i = .int .i64 j ∧ j ≤ l.length ∧ wr = w) (fun _ i _ => l.length - (intOf i).toNat)
  case atStart => exact ⟨0, 0, rfl, rfl, Nat.zero_le _, by trivial⟩
  case round =>
    obtain ⟨j, N, rfl, rfl, hj, hw⟩ := hrel
    have hw := hw.symm
    subst hw
    by_cases hlt : j < l.length
    · skip
      have hG := HG.out
      obtain ⟨b, off, c', e, -, -, -, hbw, hc⟩ := hG.form (by rintro rfl; simp at hlt)
      injection e with e1 e2 e3
      clear e2
      subst e1 e3
      obtain ⟨X, hX⟩ : ∃ X, l[j]? = some X := ⟨_, List.getElem?_eq_getElem hlt⟩
      have q0 := vcell0 (hc j X hX)
      have q1 := vcell1 (hc j X hX)
      have q2 := vcell2 (hc j X hX)
      clear hc hG
      go_wp2
      go_roundw
      case rel => exact ⟨j + 1, _, by go_num, rfl, by omega, by trivial⟩
      case measure => simp [intOf]; omega
    · clear hj
      go_wp2_with (go_at_call 7; refine (known_any _).mono ?_; rintro e w9 ⟨rfl, b9⟩)
      go_ret
      exact ⟨rfl, b9⟩
set_option maxHeartbeats 1000000 in
theorem back_long1 (A : Option Addr) (d : Nat) (l : List VV) (A2 : Option Addr) (m d2 : Nat) (w : World) (hG : GsV eV w 0 w.heap.size (.slice A l.length d) l) (hd0 : decide ((100 : Int) < l.length) = false) (hd1 : decide ((1000 : Int) < m) = true) :
    Calls Try.prog 6 #[.slice A l.length d, .slice A2 m d2] w fun e w' => e = .returned (.bool true) ∧ Below w.heap.size w w' := by
  have hlen := hG.len
  have HG := Lib.hid hG
  clear hG
  go_enter Try.func6, Try.ntmps6
  go_wp2_with fail
  go_loopw [5, 15] (fun s i wr => ∃ (j : Nat) (N : Int), s = .int .i64 N ∧ i = .int .i64 j ∧ j ≤ l.length ∧ wr = w) (fun _ i _ => l.length - (intOf i).toNat)
  case atStart => exact ⟨0, 0, rfl, rfl, Nat.zero_le _, by trivial⟩
  case round =>
    obtain ⟨j, N, rfl, rfl, hj, hw⟩ := hrel
    have hw := hw.symm
    subst hw
    by_cases hlt : j < l.length
    · skip
      have hG := HG.out
      obtain ⟨b, off, c', e, -, -, -, hbw, hc⟩ := hG.form (by rintro rfl; simp at hlt)
      injection e with e1 e2 e3
      clear e2
      subst e1 e3
      obtain ⟨X, hX⟩ : ∃ X, l[j]? = some X := ⟨_, List.getElem?_eq_getElem hlt⟩
      have q0 := vcell0 (hc j X hX)
      have q1 := vcell1 (hc j X hX)
      have q2 := vcell2 (hc j X hX)
      clear hc hG
      go_wp2
      go_roundw
      case rel => exact ⟨j + 1, _, by go_num, rfl, by omega, by trivial⟩
      case measure => simp [intOf]; omega
    · clear hj
      cases hN : decide ((100000 : Int) < N) with
      | true =>
        go_wp2_with (go_at_call 7; refine (known_any _).mono ?_; rintro e w9 ⟨rfl, b9⟩)
        go_ret
        exact ⟨rfl, b9⟩
      | false =>
        go_wp2_with (go_at_call 7; refine (known_any _).mono ?_; rintro e w9 ⟨rfl, b9⟩)
        go_ret
        exact ⟨rfl, b9⟩
theorem back_any (A : Option Addr) (d : Nat) (l : List VV) (A2 : Option Addr) (d2 : Nat) (z : List UInt8) (w : World) (hG : GsV eV w 0 w.heap.size (.slice A l.length d) l) (hZ : Gs e8 w 0 w.heap.size (.slice A2 z.length d2) z) (hok : ∀ x ∈ l, x.ok) :
    Calls Try.prog 6 #[.slice A l.length d, .slice A2 z.length d2] w fun e w' => e = .returned (.bool true) ∧ Below w.heap.size w w' := by
  cases hd0 : decide ((100 : Int) < l.length) with
  | true => exact back_long0 A d l _ w hG hd0
  | false =>
    cases hd1 : decide ((1000 : Int) < z.length) with
    | true => exact back_long1 A d l A2 z.length d2 w hG hd0 hd1
    | false => exact back_go A d l A2 d2 z w hG hZ hok hd0 hd1 (by have := of_decide_eq_false hd0; omega) (by have := of_decide_eq_false hd1; omega)
end Go.Proofs.Ytigngijpbchlaaa
