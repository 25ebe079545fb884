/- Walks: the document's Interval. -/
import Derived.Test.YtjojhoaienjjeaaMa4
namespace Go.Proofs.Ytjojhoaienjjeaa
open Go.RowKit
set_option linter.unusedVariables false

def soW (cmp : Int) (X x : VV) : Bool := soI (cmpW x X) cmp
/-- Where the first one is that is so, or -1; behind which one the last is. -/
def loV (p : VV → Bool) (l : List VV) : Int := (l.foldl (fun (s : Nat × Int) x => (s.1 + 1, if s.2 < 0 ∧ p x = true then (s.1 : Int) else s.2)) (0, -1)).2
def hiV (p : VV → Bool) (l : List VV) : Nat := (l.foldl (fun (s : Nat × Nat) x => (s.1 + 1, if p x = true then s.1 + 1 else s.2)) (0, 0)).2
theorem loV_fst (p : VV → Bool) : ∀ (l : List VV) (a : Nat) (b : Int), (l.foldl (fun (s : Nat × Int) x => (s.1 + 1, if s.2 < 0 ∧ p x = true then (s.1 : Int) else s.2)) (a, b)).1 = a + l.length
  | [], _, _ => rfl
  | _ :: l, a, b => by rw [List.foldl_cons, loV_fst p l, List.length_cons]; omega
theorem hiV_fst (p : VV → Bool) : ∀ (l : List VV) (a b : Nat), (l.foldl (fun (s : Nat × Nat) x => (s.1 + 1, if p x = true then s.1 + 1 else s.2)) (a, b)).1 = a + l.length
  | [], _, _ => rfl
  | _ :: l, a, b => by rw [List.foldl_cons, hiV_fst p l, List.length_cons]; omega
theorem loV_snoc (p : VV → Bool) (l : List VV) (x : VV) : loV p (l ++ [x]) = if loV p l < 0 ∧ p x = true then (l.length : Int) else loV p l := by
  unfold loV
  rw [List.foldl_append, List.foldl_cons, List.foldl_nil]
  simp only [loV_fst, Nat.zero_add]
theorem hiV_snoc (p : VV → Bool) (l : List VV) (x : VV) : hiV p (l ++ [x]) = if p x = true then l.length + 1 else hiV p l := by
  unfold hiV
  rw [List.foldl_append, List.foldl_cons, List.foldl_nil]
  simp only [hiV_fst, Nat.zero_add]
/-- The interval: its ends, what is told. -/
def intA (kind : Int) (l : List VV) (cmp : Int) (X : VV) : Int × Int × Int :=
  if mayW X = false ∨ cmp < 1 ∨ cmp = 2 ∨ 6 < cmp then (0, 0, 2) else if X.k ≠ kind then (0, 0, 9) else
  if loV (soW cmp X) l < 0 then (if cmp = 3 ∨ cmp = 4 then (0, 0, 0) else if cmp = 5 then (hiV (soW 4 X) l, hiV (soW 4 X) l, 0) else (hiV (soW 3 X) l, hiV (soW 3 X) l, 0))
  else (loV (soW cmp X) l, hiV (soW cmp X) l, 0)
/-- A boxed value beside one of a row. -/
structure Iv (w W : World) (X Y : VV) (b off j : Nat) : Prop where
  bx : Bx1 w W X.k X.n X.s
  lt : b < W.heap.size
  q0 : W.cell? ⟨b, off + j * 3, none⟩ = some (.int .u8 Y.k)
  q1 : W.cell? ⟨b, off + j * 3 + 1, none⟩ = some (.int .i64 Y.n)
  q2 : W.cell? ⟨b, off + j * 3 + 2, none⟩ = some (.string Y.s)
section
variable {w W W' : World} {X Y : VV} {b off j : Nat}
theorem Iv.step (h : Iv w W X Y b off j) (c : Below W.heap.size W W') : Iv w W' X Y b off j := ⟨h.bx.step c, Nat.lt_of_lt_of_le h.lt c.size, (c.cell (p := ⟨b, _, none⟩) h.lt).trans h.q0, (c.cell (p := ⟨b, _, none⟩) h.lt).trans h.q1, (c.cell (p := ⟨b, _, none⟩) h.lt).trans h.q2⟩
theorem Iv.drewN (h : Iv w W X Y b off j) (m : Nat) : Iv w (W.drewN m) X Y b off j := ⟨⟨below_drewN h.bx.below m, h.bx.r1⟩, h.lt, h.q0, h.q1, h.q2⟩
theorem Iv.drew (h : Iv w W X Y b off j) : Iv w W.drew X Y b off j := ⟨h.bx.drew, h.lt, h.q0, h.q1, h.q2⟩
/-- Behind a region that drew once. -/
theorem Iv.any (h : Iv w W X Y b off j) (c : Below W.drew.heap.size W.drew W') : Iv w W' X Y b off j := h.drew.step c
end

set_option maxHeartbeats 2000000 in
set_option maxRecDepth 100000 in
theorem interval_c (kind : Int) (A : Option Addr) (d : Nat) (l : List VV) (cmp : Int) (X : VV) (w : World) (hG : GsV eV w 0 w.heap.size (.slice A l.length d) l) (hl : ∀ x ∈ l, x.s.size ≤ 1000000000) (hX : X.s.size ≤ 1000000000) :
    Calls Try.prog 17 #[.int .u8 kind, .slice A l.length d, .int .u8 cmp, vV X.k X.n X.s] w fun e w' => e = .returned (.tuple #[.int .i64 (intA kind l cmp X).1, .int .i64 (intA kind l cmp X).2.1, .int .i64 (intA kind l cmp X).2.2]) ∧ Below w.heap.size w w' := by
  have hmc := fun W => refmay_any X.k X.n X.s W
  rw [show mayV X.k X.n (bls X.s) = mayW X from rfl] at hmc
  have hL := hG.len
  have HG := Lib.hid hG
  have HS := Lib.hid hl
  have HX := Lib.hid hX
  clear hG hl hX
  have hall : mayW X = false ∨ (mayW X = true ∧ cmp < 1) ∨ (mayW X = true ∧ cmp = 2) ∨ (mayW X = true ∧ ¬ cmp < 1 ∧ cmp ≠ 2 ∧ 6 < cmp) ∨ (mayW X = true ∧ ¬ cmp < 1 ∧ cmp ≠ 2 ∧ ¬ 6 < cmp) := by
    cases mayW X with
    | false => left; rfl
    | true => right; by_cases h1 : cmp < 1 <;> by_cases h2 : cmp = 2 <;> by_cases h3 : 6 < cmp <;> simp [*]
  rcases hall with hx | ⟨hm, hx⟩ | ⟨hm, hx⟩ | ⟨hm, g1, g2, hx⟩ | ⟨hm, g1, g2, g3⟩
  · skip
    have hA : intA kind l cmp X = (0, 0, 2) := by unfold intA; rw [if_pos (by left; exact hx)]
    rw [hA]
    rw [hx] at hmc
    clear hA hx
    go_enter Try.func17, Try.ntmps17
    go_wp2_with (go_at_call 31; refine (hmc _).mono ?_; rintro e w3 ⟨rfl, b3⟩; have hB := (Bx1.new w X.k X.n X.s).step b3; have HB := Lib.hid hB; clear hB b3)
    go_ret3
    exact ⟨rfl, HB.out.below⟩
  · skip
    have d1 : decide (cmp < 1) = true := decide_eq_true hx
    have hA : intA kind l cmp X = (0, 0, 2) := by unfold intA; rw [if_pos (by right; left; exact hx)]
    rw [hA]
    rw [hm] at hmc
    clear hA hx
    go_enter Try.func17, Try.ntmps17
    go_wp2_with (go_at_call 31; refine (hmc _).mono ?_; rintro e w3 ⟨rfl, b3⟩; have hB := (Bx1.new w X.k X.n X.s).step b3; have HB := Lib.hid hB; clear hB b3)
    go_ret3
    exact ⟨rfl, HB.out.below⟩
  · skip
    have d1 : decide (cmp < 1) = false := decide_eq_false (by omega)
    have e2 : (cmp == 2) = true := by simp [hx]
    have hA : intA kind l cmp X = (0, 0, 2) := by unfold intA; rw [if_pos (by right; right; left; exact hx)]
    rw [hA]
    rw [hm] at hmc
    clear hA hx
    go_enter Try.func17, Try.ntmps17
    go_wp2_with (go_at_call 31; refine (hmc _).mono ?_; rintro e w3 ⟨rfl, b3⟩; have hB := (Bx1.new w X.k X.n X.s).step b3; have HB := Lib.hid hB; clear hB b3)
    go_ret3
    exact ⟨rfl, HB.out.below⟩
  · skip
    have d1 : decide (cmp < 1) = false := decide_eq_false (by omega)
    have e2 : (cmp == 2) = false := by simp; omega
    have d3 : decide (6 < cmp) = true := decide_eq_true (by omega)
    have hA : intA kind l cmp X = (0, 0, 2) := by unfold intA; rw [if_pos (by right; right; right; exact hx)]
    rw [hA]
    rw [hm] at hmc
    clear hA hx
    go_enter Try.func17, Try.ntmps17
    go_wp2_with (go_at_call 31; refine (hmc _).mono ?_; rintro e w3 ⟨rfl, b3⟩; have hB := (Bx1.new w X.k X.n X.s).step b3; have HB := Lib.hid hB; clear hB b3)
    go_ret3
    exact ⟨rfl, HB.out.below⟩
  · have d1 : decide (cmp < 1) = false := decide_eq_false g1
    have e2 : (cmp == 2) = false := by simp [g2]
    have d3 : decide (6 < cmp) = false := decide_eq_false g3
    rw [hm] at hmc
    have HG4 := Lib.hid (And.intro g1 (And.intro g2 g3))
    have HMAY := Lib.hid hm
    clear hm
    by_cases hk : X.k = kind
    · have e5 : (X.k != kind) = false := by simp [hk]
      have HK := Lib.hid hk
      clear hk g1 g2 g3
      go_enter Try.func17, Try.ntmps17
      go_wp2_with (go_at_call 31; refine (hmc _).mono ?_; rintro e w3 ⟨rfl, b3⟩; have hB := (Bx1.new w X.k X.n X.s).step b3; have a0 := hB.a0; have HB := Lib.hid hB; clear hB b3)
      have HB0 := HB
      clear a0 hmc
      go_loopw [11, 12, 13, 14, 15] (fun lo hi f g i wr => ∃ (j : Nat) (LO : Int), i = .int .i64 j ∧ j ≤ l.length ∧ lo = .int .i64 LO ∧ loV (soW cmp X) (l.take j) = LO ∧ hi = .int .i64 (hiV (soW cmp X) (l.take j)) ∧ f = .int .i64 (hiV (soW 3 X) (l.take j)) ∧ g = .int .i64 (hiV (soW 4 X) (l.take j)) ∧ Bx1 w wr X.k X.n X.s) (fun _ _ _ _ i _ => l.length - (intOf i).toNat)
      case atStart => exact ⟨0, -1, rfl, Nat.zero_le _, rfl, rfl, rfl, rfl, rfl, HB0.out⟩
      case round =>
        obtain ⟨j, LO, rfl, hj, rfl, hLO, rfl, rfl, rfl, hBx⟩ := hrel
        have HLO := Lib.hid hLO
        have HB := Lib.hid hBx
        clear hLO hBx
        by_cases hlt : j < l.length
        · skip
          have hG := HG.out.below HB.out.below
          obtain ⟨b, boff, bc', e, -, -, -, bw, hc⟩ := hG.form (fun e => by have h := congrArg List.length e; simp only [List.length_nil] at h; omega)
          injection e with e1 e2 e3
          clear e2
          subst e1 e3
          obtain ⟨Y, hY⟩ : ∃ Y, l[j]? = some Y := ⟨_, List.getElem?_eq_getElem (by omega)⟩
          have q0 := vcell0 (hc j Y hY)
          have q1 := vcell1 (hc j Y hY)
          have q2 := vcell2 (hc j Y hY)
          have HY := Lib.hid hY
          clear hc hG hY
          have HSN := Lib.hid (show l.take (j + 1) = l.take j ++ [Y] by rw [List.take_add_one, HY.out]; rfl)
          have hjl : (l.take j).length = j := by rw [List.length_take]; omega
          have hI : Iv w wr X Y b boff j := ⟨HB.out, Nat.lt_of_lt_of_le bw HB.out.below.size, q0, q1, q2⟩
          have HI := Lib.hid hI
          have a0 := HB.out.a0
          have a1 := HB.out.a1
          have a2 := HB.out.a2
          have hys := HS.out Y (List.mem_of_getElem? HY.out)
          have hs1 := fun W => so_any Y.k Y.n Y.s cmp X.k X.n X.s W hys HX.out
          have hs3 := fun W => so_any Y.k Y.n Y.s 3 X.k X.n X.s W hys HX.out
          have hs4 := fun W => so_any Y.k Y.n Y.s 4 X.k X.n X.s W hys HX.out
          rw [show soI (cmpV Y.k Y.n (bls Y.s) X.k X.n (bls X.s)) cmp = soW cmp X Y from rfl] at hs1
          rw [show soI (cmpV Y.k Y.n (bls Y.s) X.k X.n (bls X.s)) 3 = soW 3 X Y from rfl] at hs3
          rw [show soI (cmpV Y.k Y.n (bls Y.s) X.k X.n (bls X.s)) 4 = soW 4 X Y from rfl] at hs4
          clear hI hys
          rcases Bool.eq_false_or_eq_true (soW cmp X Y) with h1 | h1
          · skip
            by_cases hlo : LO < 0
            · skip
              cases h3 : soW 3 X Y
              · skip
                cases h4 : soW 4 X Y
                · skip
                  rw [h1] at hs1
                  rw [h3] at hs3
                  rw [h4] at hs4
                  have d1 : decide (LO < 0) = true := decide_eq_true hlo
                  have H1 := Lib.hid h1
                  have H3 := Lib.hid h3
                  have H4 := Lib.hid h4
                  have HLO2 := Lib.hid hlo
                  clear hlo
                  clear h1 h3 h4
                  go_wp2_with fail
                  clear a0 a1 a2 q0 q1 q2
                  have hSc := HI.out.drew
                  refine wp_region_all (S := fun W => Iv w W X Y b boff j) (by kernel_rfl) hSc (fun W0 hSc => ?_)
                  refine held_take 0 ?_ rfl (by kernel_rfl) (by kernel_rfl) (by kernel_rfl) (fun _ _ _ h => h) (by rfl) ?_ hSc ?_
                  rotate_left
                  · (intro W hSW; have a0 := hSW.bx.a0; have a1 := hSW.bx.a1; have a2 := hSW.bx.a2; have q0 := hSW.q0; have q1 := hSW.q1; have q2 := hSW.q2; go_simp; try rfl)
                  try simp only [Act.put, List.setIfInBounds_toArray, List.set_cons_zero, List.set_cons_succ]
                  refine held_take 1 ?_ rfl (by kernel_rfl) (by kernel_rfl) (by kernel_rfl) (fun _ _ _ h => h) (by rfl) ?_ hSc ?_
                  rotate_left
                  · (intro W hSW; have a0 := hSW.bx.a0; have a1 := hSW.bx.a1; have a2 := hSW.bx.a2; have q0 := hSW.q0; have q1 := hSW.q1; have q2 := hSW.q2; go_simp; try rfl)
                  try simp only [Act.put, List.setIfInBounds_toArray, List.set_cons_zero, List.set_cons_succ]
                  refine held_take 2 ?_ rfl (by kernel_rfl) (by kernel_rfl) (by kernel_rfl) (fun _ _ _ h => h) (by rfl) ?_ hSc ?_
                  rotate_left
                  · (intro W hSW; have a0 := hSW.bx.a0; have a1 := hSW.bx.a1; have a2 := hSW.bx.a2; have q0 := hSW.q0; have q1 := hSW.q1; have q2 := hSW.q2; go_simp; try rfl)
                  try simp only [Act.put, List.setIfInBounds_toArray, List.set_cons_zero, List.set_cons_succ]
                  refine held_take 3 ?_ rfl (by kernel_rfl) (by kernel_rfl) (by kernel_rfl) (fun _ _ _ h => h) (by rfl) ?_ hSc ?_
                  rotate_left
                  · (intro W hSW; have a0 := hSW.bx.a0; have a1 := hSW.bx.a1; have a2 := hSW.bx.a2; have q0 := hSW.q0; have q1 := hSW.q1; have q2 := hSW.q2; go_simp; try rfl)
                  try simp only [Act.put, List.setIfInBounds_toArray, List.set_cons_zero, List.set_cons_succ]
                  refine held_take 4 ?_ rfl (by kernel_rfl) (by kernel_rfl) (by kernel_rfl) (fun _ _ _ h => h) (by rfl) ?_ hSc ?_
                  rotate_left
                  · (intro W hSW; have a0 := hSW.bx.a0; have a1 := hSW.bx.a1; have a2 := hSW.bx.a2; have q0 := hSW.q0; have q1 := hSW.q1; have q2 := hSW.q2; go_simp; try rfl)
                  try simp only [Act.put, List.setIfInBounds_toArray, List.set_cons_zero, List.set_cons_succ]
                  refine held_take 5 ?_ rfl (by kernel_rfl) (by kernel_rfl) (by kernel_rfl) (fun _ _ _ h => h) (by rfl) ?_ hSc ?_
                  rotate_left
                  · (intro W hSW; have a0 := hSW.bx.a0; have a1 := hSW.bx.a1; have a2 := hSW.bx.a2; have q0 := hSW.q0; have q1 := hSW.q1; have q2 := hSW.q2; go_simp; try rfl)
                  try simp only [Act.put, List.setIfInBounds_toArray, List.set_cons_zero, List.set_cons_succ]
                  refine held_next 6 rfl (by kernel_rfl) (by rfl) ?_
                  go_simp
                  refine (hs1 _).mono ?_
                  rintro e wq1 ⟨rfl, bz⟩
                  have hSd : (fun W => Iv w W X Y b boff j) wq1 := hSc.step bz
                  refine ⟨fun W => Iv w W X Y b boff j, fun W hW => hW, hSd, ?_⟩
                  clear hSc bz
                  have hSc := hSd
                  clear hSd
                  try simp only [Act.put, List.setIfInBounds_toArray, List.set_cons_zero, List.set_cons_succ]
                  refine wpAnyH_done (by kernel_rfl) ?_ _
                  have HI1 := Lib.hid hSc
                  clear hSc
                  have a0 := HI1.out.bx.a0
                  have a1 := HI1.out.bx.a1
                  have a2 := HI1.out.bx.a2
                  have q0 := HI1.out.q0
                  have q1 := HI1.out.q1
                  have q2 := HI1.out.q2
                  clear hs1
                  go_wp2_with fail
                  clear a0 a1 a2 q0 q1 q2
                  have hSc := HI1.out.drew
                  refine wp_region_all (S := fun W => Iv w W X Y b boff j) (by kernel_rfl) hSc (fun W0 hSc => ?_)
                  refine held_take 0 ?_ rfl (by kernel_rfl) (by kernel_rfl) (by kernel_rfl) (fun _ _ _ h => h) (by rfl) ?_ hSc ?_
                  rotate_left
                  · (intro W hSW; have a0 := hSW.bx.a0; have a1 := hSW.bx.a1; have a2 := hSW.bx.a2; have q0 := hSW.q0; have q1 := hSW.q1; have q2 := hSW.q2; go_simp; try rfl)
                  try simp only [Act.put, List.setIfInBounds_toArray, List.set_cons_zero, List.set_cons_succ]
                  refine held_take 1 ?_ rfl (by kernel_rfl) (by kernel_rfl) (by kernel_rfl) (fun _ _ _ h => h) (by rfl) ?_ hSc ?_
                  rotate_left
                  · (intro W hSW; have a0 := hSW.bx.a0; have a1 := hSW.bx.a1; have a2 := hSW.bx.a2; have q0 := hSW.q0; have q1 := hSW.q1; have q2 := hSW.q2; go_simp; try rfl)
                  try simp only [Act.put, List.setIfInBounds_toArray, List.set_cons_zero, List.set_cons_succ]
                  refine held_take 2 ?_ rfl (by kernel_rfl) (by kernel_rfl) (by kernel_rfl) (fun _ _ _ h => h) (by rfl) ?_ hSc ?_
                  rotate_left
                  · (intro W hSW; have a0 := hSW.bx.a0; have a1 := hSW.bx.a1; have a2 := hSW.bx.a2; have q0 := hSW.q0; have q1 := hSW.q1; have q2 := hSW.q2; go_simp; try rfl)
                  try simp only [Act.put, List.setIfInBounds_toArray, List.set_cons_zero, List.set_cons_succ]
                  refine held_take 3 ?_ rfl (by kernel_rfl) (by kernel_rfl) (by kernel_rfl) (fun _ _ _ h => h) (by rfl) ?_ hSc ?_
                  rotate_left
                  · (intro W hSW; have a0 := hSW.bx.a0; have a1 := hSW.bx.a1; have a2 := hSW.bx.a2; have q0 := hSW.q0; have q1 := hSW.q1; have q2 := hSW.q2; go_simp; try rfl)
                  try simp only [Act.put, List.setIfInBounds_toArray, List.set_cons_zero, List.set_cons_succ]
                  refine held_take 4 ?_ rfl (by kernel_rfl) (by kernel_rfl) (by kernel_rfl) (fun _ _ _ h => h) (by rfl) ?_ hSc ?_
                  rotate_left
                  · (intro W hSW; have a0 := hSW.bx.a0; have a1 := hSW.bx.a1; have a2 := hSW.bx.a2; have q0 := hSW.q0; have q1 := hSW.q1; have q2 := hSW.q2; go_simp; try rfl)
                  try simp only [Act.put, List.setIfInBounds_toArray, List.set_cons_zero, List.set_cons_succ]
                  refine held_next 5 rfl (by kernel_rfl) (by rfl) ?_
                  go_simp
                  refine (hs3 _).mono ?_
                  rintro e wq2 ⟨rfl, bz⟩
                  have hSd : (fun W => Iv w W X Y b boff j) wq2 := hSc.step bz
                  refine ⟨fun W => Iv w W X Y b boff j, fun W hW => hW, hSd, ?_⟩
                  clear hSc bz
                  have hSc := hSd
                  clear hSd
                  try simp only [Act.put, List.setIfInBounds_toArray, List.set_cons_zero, List.set_cons_succ]
                  refine wpAnyH_done (by kernel_rfl) ?_ _
                  have HI3 := Lib.hid hSc
                  clear hSc
                  have a0 := HI3.out.bx.a0
                  have a1 := HI3.out.bx.a1
                  have a2 := HI3.out.bx.a2
                  have q0 := HI3.out.q0
                  have q1 := HI3.out.q1
                  have q2 := HI3.out.q2
                  clear hs3
                  go_wp2_with fail
                  clear a0 a1 a2 q0 q1 q2
                  have hSc := HI3.out.drew
                  refine wp_region_all (S := fun W => Iv w W X Y b boff j) (by kernel_rfl) hSc (fun W0 hSc => ?_)
                  refine held_take 0 ?_ rfl (by kernel_rfl) (by kernel_rfl) (by kernel_rfl) (fun _ _ _ h => h) (by rfl) ?_ hSc ?_
                  rotate_left
                  · (intro W hSW; have a0 := hSW.bx.a0; have a1 := hSW.bx.a1; have a2 := hSW.bx.a2; have q0 := hSW.q0; have q1 := hSW.q1; have q2 := hSW.q2; go_simp; try rfl)
                  try simp only [Act.put, List.setIfInBounds_toArray, List.set_cons_zero, List.set_cons_succ]
                  refine held_take 1 ?_ rfl (by kernel_rfl) (by kernel_rfl) (by kernel_rfl) (fun _ _ _ h => h) (by rfl) ?_ hSc ?_
                  rotate_left
                  · (intro W hSW; have a0 := hSW.bx.a0; have a1 := hSW.bx.a1; have a2 := hSW.bx.a2; have q0 := hSW.q0; have q1 := hSW.q1; have q2 := hSW.q2; go_simp; try rfl)
                  try simp only [Act.put, List.setIfInBounds_toArray, List.set_cons_zero, List.set_cons_succ]
                  refine held_take 2 ?_ rfl (by kernel_rfl) (by kernel_rfl) (by kernel_rfl) (fun _ _ _ h => h) (by rfl) ?_ hSc ?_
                  rotate_left
                  · (intro W hSW; have a0 := hSW.bx.a0; have a1 := hSW.bx.a1; have a2 := hSW.bx.a2; have q0 := hSW.q0; have q1 := hSW.q1; have q2 := hSW.q2; go_simp; try rfl)
                  try simp only [Act.put, List.setIfInBounds_toArray, List.set_cons_zero, List.set_cons_succ]
                  refine held_take 3 ?_ rfl (by kernel_rfl) (by kernel_rfl) (by kernel_rfl) (fun _ _ _ h => h) (by rfl) ?_ hSc ?_
                  rotate_left
                  · (intro W hSW; have a0 := hSW.bx.a0; have a1 := hSW.bx.a1; have a2 := hSW.bx.a2; have q0 := hSW.q0; have q1 := hSW.q1; have q2 := hSW.q2; go_simp; try rfl)
                  try simp only [Act.put, List.setIfInBounds_toArray, List.set_cons_zero, List.set_cons_succ]
                  refine held_take 4 ?_ rfl (by kernel_rfl) (by kernel_rfl) (by kernel_rfl) (fun _ _ _ h => h) (by rfl) ?_ hSc ?_
                  rotate_left
                  · (intro W hSW; have a0 := hSW.bx.a0; have a1 := hSW.bx.a1; have a2 := hSW.bx.a2; have q0 := hSW.q0; have q1 := hSW.q1; have q2 := hSW.q2; go_simp; try rfl)
                  try simp only [Act.put, List.setIfInBounds_toArray, List.set_cons_zero, List.set_cons_succ]
                  refine held_next 5 rfl (by kernel_rfl) (by rfl) ?_
                  go_simp
                  refine (hs4 _).mono ?_
                  rintro e wq3 ⟨rfl, bz⟩
                  have hSd : (fun W => Iv w W X Y b boff j) wq3 := hSc.step bz
                  refine ⟨fun W => Iv w W X Y b boff j, fun W hW => hW, hSd, ?_⟩
                  clear hSc bz
                  have hSc := hSd
                  clear hSd
                  try simp only [Act.put, List.setIfInBounds_toArray, List.set_cons_zero, List.set_cons_succ]
                  refine wpAnyH_done (by kernel_rfl) ?_ _
                  have HI4 := Lib.hid hSc
                  clear hSc
                  have a0 := HI4.out.bx.a0
                  have a1 := HI4.out.bx.a1
                  have a2 := HI4.out.bx.a2
                  have q0 := HI4.out.q0
                  have q1 := HI4.out.q1
                  have q2 := HI4.out.q2
                  clear hs4
                  go_wp2
                  go_roundw
                  case rel => exact ⟨j + 1, _, by go_num, by omega, rfl, by rw [HSN.out, loV_snoc, HLO.out, H1.out]; simp [HLO2.out, hjl], by rw [HSN.out, hiV_snoc, H1.out]; simp [hjl], by rw [HSN.out, hiV_snoc, H3.out]; simp, by rw [HSN.out, hiV_snoc, H4.out]; simp, HI4.out.bx⟩
                  case measure => simp [intOf]; omega
                · skip
                  rw [h1] at hs1
                  rw [h3] at hs3
                  rw [h4] at hs4
                  have d1 : decide (LO < 0) = true := decide_eq_true hlo
                  have H1 := Lib.hid h1
                  have H3 := Lib.hid h3
                  have H4 := Lib.hid h4
                  have HLO2 := Lib.hid hlo
                  clear hlo
                  clear h1 h3 h4
                  go_wp2_with fail
                  clear a0 a1 a2 q0 q1 q2
                  have hSc := HI.out.drew
                  refine wp_region_all (S := fun W => Iv w W X Y b boff j) (by kernel_rfl) hSc (fun W0 hSc => ?_)
                  refine held_take 0 ?_ rfl (by kernel_rfl) (by kernel_rfl) (by kernel_rfl) (fun _ _ _ h => h) (by rfl) ?_ hSc ?_
                  rotate_left
                  · (intro W hSW; have a0 := hSW.bx.a0; have a1 := hSW.bx.a1; have a2 := hSW.bx.a2; have q0 := hSW.q0; have q1 := hSW.q1; have q2 := hSW.q2; go_simp; try rfl)
                  try simp only [Act.put, List.setIfInBounds_toArray, List.set_cons_zero, List.set_cons_succ]
                  refine held_take 1 ?_ rfl (by kernel_rfl) (by kernel_rfl) (by kernel_rfl) (fun _ _ _ h => h) (by rfl) ?_ hSc ?_
                  rotate_left
                  · (intro W hSW; have a0 := hSW.bx.a0; have a1 := hSW.bx.a1; have a2 := hSW.bx.a2; have q0 := hSW.q0; have q1 := hSW.q1; have q2 := hSW.q2; go_simp; try rfl)
                  try simp only [Act.put, List.setIfInBounds_toArray, List.set_cons_zero, List.set_cons_succ]
                  refine held_take 2 ?_ rfl (by kernel_rfl) (by kernel_rfl) (by kernel_rfl) (fun _ _ _ h => h) (by rfl) ?_ hSc ?_
                  rotate_left
                  · (intro W hSW; have a0 := hSW.bx.a0; have a1 := hSW.bx.a1; have a2 := hSW.bx.a2; have q0 := hSW.q0; have q1 := hSW.q1; have q2 := hSW.q2; go_simp; try rfl)
                  try simp only [Act.put, List.setIfInBounds_toArray, List.set_cons_zero, List.set_cons_succ]
                  refine held_take 3 ?_ rfl (by kernel_rfl) (by kernel_rfl) (by kernel_rfl) (fun _ _ _ h => h) (by rfl) ?_ hSc ?_
                  rotate_left
                  · (intro W hSW; have a0 := hSW.bx.a0; have a1 := hSW.bx.a1; have a2 := hSW.bx.a2; have q0 := hSW.q0; have q1 := hSW.q1; have q2 := hSW.q2; go_simp; try rfl)
                  try simp only [Act.put, List.setIfInBounds_toArray, List.set_cons_zero, List.set_cons_succ]
                  refine held_take 4 ?_ rfl (by kernel_rfl) (by kernel_rfl) (by kernel_rfl) (fun _ _ _ h => h) (by rfl) ?_ hSc ?_
                  rotate_left
                  · (intro W hSW; have a0 := hSW.bx.a0; have a1 := hSW.bx.a1; have a2 := hSW.bx.a2; have q0 := hSW.q0; have q1 := hSW.q1; have q2 := hSW.q2; go_simp; try rfl)
                  try simp only [Act.put, List.setIfInBounds_toArray, List.set_cons_zero, List.set_cons_succ]
                  refine held_take 5 ?_ rfl (by kernel_rfl) (by kernel_rfl) (by kernel_rfl) (fun _ _ _ h => h) (by rfl) ?_ hSc ?_
                  rotate_left
                  · (intro W hSW; have a0 := hSW.bx.a0; have a1 := hSW.bx.a1; have a2 := hSW.bx.a2; have q0 := hSW.q0; have q1 := hSW.q1; have q2 := hSW.q2; go_simp; try rfl)
                  try simp only [Act.put, List.setIfInBounds_toArray, List.set_cons_zero, List.set_cons_succ]
                  refine held_next 6 rfl (by kernel_rfl) (by rfl) ?_
                  go_simp
                  refine (hs1 _).mono ?_
                  rintro e wq1 ⟨rfl, bz⟩
                  have hSd : (fun W => Iv w W X Y b boff j) wq1 := hSc.step bz
                  refine ⟨fun W => Iv w W X Y b boff j, fun W hW => hW, hSd, ?_⟩
                  clear hSc bz
                  have hSc := hSd
                  clear hSd
                  try simp only [Act.put, List.setIfInBounds_toArray, List.set_cons_zero, List.set_cons_succ]
                  refine wpAnyH_done (by kernel_rfl) ?_ _
                  have HI1 := Lib.hid hSc
                  clear hSc
                  have a0 := HI1.out.bx.a0
                  have a1 := HI1.out.bx.a1
                  have a2 := HI1.out.bx.a2
                  have q0 := HI1.out.q0
                  have q1 := HI1.out.q1
                  have q2 := HI1.out.q2
                  clear hs1
                  go_wp2_with fail
                  clear a0 a1 a2 q0 q1 q2
                  have hSc := HI1.out.drew
                  refine wp_region_all (S := fun W => Iv w W X Y b boff j) (by kernel_rfl) hSc (fun W0 hSc => ?_)
                  refine held_take 0 ?_ rfl (by kernel_rfl) (by kernel_rfl) (by kernel_rfl) (fun _ _ _ h => h) (by rfl) ?_ hSc ?_
                  rotate_left
                  · (intro W hSW; have a0 := hSW.bx.a0; have a1 := hSW.bx.a1; have a2 := hSW.bx.a2; have q0 := hSW.q0; have q1 := hSW.q1; have q2 := hSW.q2; go_simp; try rfl)
                  try simp only [Act.put, List.setIfInBounds_toArray, List.set_cons_zero, List.set_cons_succ]
                  refine held_take 1 ?_ rfl (by kernel_rfl) (by kernel_rfl) (by kernel_rfl) (fun _ _ _ h => h) (by rfl) ?_ hSc ?_
                  rotate_left
                  · (intro W hSW; have a0 := hSW.bx.a0; have a1 := hSW.bx.a1; have a2 := hSW.bx.a2; have q0 := hSW.q0; have q1 := hSW.q1; have q2 := hSW.q2; go_simp; try rfl)
                  try simp only [Act.put, List.setIfInBounds_toArray, List.set_cons_zero, List.set_cons_succ]
                  refine held_take 2 ?_ rfl (by kernel_rfl) (by kernel_rfl) (by kernel_rfl) (fun _ _ _ h => h) (by rfl) ?_ hSc ?_
                  rotate_left
                  · (intro W hSW; have a0 := hSW.bx.a0; have a1 := hSW.bx.a1; have a2 := hSW.bx.a2; have q0 := hSW.q0; have q1 := hSW.q1; have q2 := hSW.q2; go_simp; try rfl)
                  try simp only [Act.put, List.setIfInBounds_toArray, List.set_cons_zero, List.set_cons_succ]
                  refine held_take 3 ?_ rfl (by kernel_rfl) (by kernel_rfl) (by kernel_rfl) (fun _ _ _ h => h) (by rfl) ?_ hSc ?_
                  rotate_left
                  · (intro W hSW; have a0 := hSW.bx.a0; have a1 := hSW.bx.a1; have a2 := hSW.bx.a2; have q0 := hSW.q0; have q1 := hSW.q1; have q2 := hSW.q2; go_simp; try rfl)
                  try simp only [Act.put, List.setIfInBounds_toArray, List.set_cons_zero, List.set_cons_succ]
                  refine held_take 4 ?_ rfl (by kernel_rfl) (by kernel_rfl) (by kernel_rfl) (fun _ _ _ h => h) (by rfl) ?_ hSc ?_
                  rotate_left
                  · (intro W hSW; have a0 := hSW.bx.a0; have a1 := hSW.bx.a1; have a2 := hSW.bx.a2; have q0 := hSW.q0; have q1 := hSW.q1; have q2 := hSW.q2; go_simp; try rfl)
                  try simp only [Act.put, List.setIfInBounds_toArray, List.set_cons_zero, List.set_cons_succ]
                  refine held_next 5 rfl (by kernel_rfl) (by rfl) ?_
                  go_simp
                  refine (hs3 _).mono ?_
                  rintro e wq2 ⟨rfl, bz⟩
                  have hSd : (fun W => Iv w W X Y b boff j) wq2 := hSc.step bz
                  refine ⟨fun W => Iv w W X Y b boff j, fun W hW => hW, hSd, ?_⟩
                  clear hSc bz
                  have hSc := hSd
                  clear hSd
                  try simp only [Act.put, List.setIfInBounds_toArray, List.set_cons_zero, List.set_cons_succ]
                  refine wpAnyH_done (by kernel_rfl) ?_ _
                  have HI3 := Lib.hid hSc
                  clear hSc
                  have a0 := HI3.out.bx.a0
                  have a1 := HI3.out.bx.a1
                  have a2 := HI3.out.bx.a2
                  have q0 := HI3.out.q0
                  have q1 := HI3.out.q1
                  have q2 := HI3.out.q2
                  clear hs3
                  go_wp2_with fail
                  clear a0 a1 a2 q0 q1 q2
                  have hSc := HI3.out.drew
                  refine wp_region_all (S := fun W => Iv w W X Y b boff j) (by kernel_rfl) hSc (fun W0 hSc => ?_)
                  refine held_take 0 ?_ rfl (by kernel_rfl) (by kernel_rfl) (by kernel_rfl) (fun _ _ _ h => h) (by rfl) ?_ hSc ?_
                  rotate_left
                  · (intro W hSW; have a0 := hSW.bx.a0; have a1 := hSW.bx.a1; have a2 := hSW.bx.a2; have q0 := hSW.q0; have q1 := hSW.q1; have q2 := hSW.q2; go_simp; try rfl)
                  try simp only [Act.put, List.setIfInBounds_toArray, List.set_cons_zero, List.set_cons_succ]
                  refine held_take 1 ?_ rfl (by kernel_rfl) (by kernel_rfl) (by kernel_rfl) (fun _ _ _ h => h) (by rfl) ?_ hSc ?_
                  rotate_left
                  · (intro W hSW; have a0 := hSW.bx.a0; have a1 := hSW.bx.a1; have a2 := hSW.bx.a2; have q0 := hSW.q0; have q1 := hSW.q1; have q2 := hSW.q2; go_simp; try rfl)
                  try simp only [Act.put, List.setIfInBounds_toArray, List.set_cons_zero, List.set_cons_succ]
                  refine held_take 2 ?_ rfl (by kernel_rfl) (by kernel_rfl) (by kernel_rfl) (fun _ _ _ h => h) (by rfl) ?_ hSc ?_
                  rotate_left
                  · (intro W hSW; have a0 := hSW.bx.a0; have a1 := hSW.bx.a1; have a2 := hSW.bx.a2; have q0 := hSW.q0; have q1 := hSW.q1; have q2 := hSW.q2; go_simp; try rfl)
                  try simp only [Act.put, List.setIfInBounds_toArray, List.set_cons_zero, List.set_cons_succ]
                  refine held_take 3 ?_ rfl (by kernel_rfl) (by kernel_rfl) (by kernel_rfl) (fun _ _ _ h => h) (by rfl) ?_ hSc ?_
                  rotate_left
                  · (intro W hSW; have a0 := hSW.bx.a0; have a1 := hSW.bx.a1; have a2 := hSW.bx.a2; have q0 := hSW.q0; have q1 := hSW.q1; have q2 := hSW.q2; go_simp; try rfl)
                  try simp only [Act.put, List.setIfInBounds_toArray, List.set_cons_zero, List.set_cons_succ]
                  refine held_take 4 ?_ rfl (by kernel_rfl) (by kernel_rfl) (by kernel_rfl) (fun _ _ _ h => h) (by rfl) ?_ hSc ?_
                  rotate_left
                  · (intro W hSW; have a0 := hSW.bx.a0; have a1 := hSW.bx.a1; have a2 := hSW.bx.a2; have q0 := hSW.q0; have q1 := hSW.q1; have q2 := hSW.q2; go_simp; try rfl)
                  try simp only [Act.put, List.setIfInBounds_toArray, List.set_cons_zero, List.set_cons_succ]
                  refine held_next 5 rfl (by kernel_rfl) (by rfl) ?_
                  go_simp
                  refine (hs4 _).mono ?_
                  rintro e wq3 ⟨rfl, bz⟩
                  have hSd : (fun W => Iv w W X Y b boff j) wq3 := hSc.step bz
                  refine ⟨fun W => Iv w W X Y b boff j, fun W hW => hW, hSd, ?_⟩
                  clear hSc bz
                  have hSc := hSd
                  clear hSd
                  try simp only [Act.put, List.setIfInBounds_toArray, List.set_cons_zero, List.set_cons_succ]
                  refine wpAnyH_done (by kernel_rfl) ?_ _
                  have HI4 := Lib.hid hSc
                  clear hSc
                  have a0 := HI4.out.bx.a0
                  have a1 := HI4.out.bx.a1
                  have a2 := HI4.out.bx.a2
                  have q0 := HI4.out.q0
                  have q1 := HI4.out.q1
                  have q2 := HI4.out.q2
                  clear hs4
                  go_wp2
                  go_roundw
                  case rel => exact ⟨j + 1, _, by go_num, by omega, rfl, by rw [HSN.out, loV_snoc, HLO.out, H1.out]; simp [HLO2.out, hjl], by rw [HSN.out, hiV_snoc, H1.out]; simp [hjl], by rw [HSN.out, hiV_snoc, H3.out]; simp, by rw [HSN.out, hiV_snoc, H4.out]; simp [hjl], HI4.out.bx⟩
                  case measure => simp [intOf]; omega
              · skip
                cases h4 : soW 4 X Y
                · skip
                  rw [h1] at hs1
                  rw [h3] at hs3
                  rw [h4] at hs4
                  have d1 : decide (LO < 0) = true := decide_eq_true hlo
                  have H1 := Lib.hid h1
                  have H3 := Lib.hid h3
                  have H4 := Lib.hid h4
                  have HLO2 := Lib.hid hlo
                  clear hlo
                  clear h1 h3 h4
                  go_wp2_with fail
                  clear a0 a1 a2 q0 q1 q2
                  have hSc := HI.out.drew
                  refine wp_region_all (S := fun W => Iv w W X Y b boff j) (by kernel_rfl) hSc (fun W0 hSc => ?_)
                  refine held_take 0 ?_ rfl (by kernel_rfl) (by kernel_rfl) (by kernel_rfl) (fun _ _ _ h => h) (by rfl) ?_ hSc ?_
                  rotate_left
                  · (intro W hSW; have a0 := hSW.bx.a0; have a1 := hSW.bx.a1; have a2 := hSW.bx.a2; have q0 := hSW.q0; have q1 := hSW.q1; have q2 := hSW.q2; go_simp; try rfl)
                  try simp only [Act.put, List.setIfInBounds_toArray, List.set_cons_zero, List.set_cons_succ]
                  refine held_take 1 ?_ rfl (by kernel_rfl) (by kernel_rfl) (by kernel_rfl) (fun _ _ _ h => h) (by rfl) ?_ hSc ?_
                  rotate_left
                  · (intro W hSW; have a0 := hSW.bx.a0; have a1 := hSW.bx.a1; have a2 := hSW.bx.a2; have q0 := hSW.q0; have q1 := hSW.q1; have q2 := hSW.q2; go_simp; try rfl)
                  try simp only [Act.put, List.setIfInBounds_toArray, List.set_cons_zero, List.set_cons_succ]
                  refine held_take 2 ?_ rfl (by kernel_rfl) (by kernel_rfl) (by kernel_rfl) (fun _ _ _ h => h) (by rfl) ?_ hSc ?_
                  rotate_left
                  · (intro W hSW; have a0 := hSW.bx.a0; have a1 := hSW.bx.a1; have a2 := hSW.bx.a2; have q0 := hSW.q0; have q1 := hSW.q1; have q2 := hSW.q2; go_simp; try rfl)
                  try simp only [Act.put, List.setIfInBounds_toArray, List.set_cons_zero, List.set_cons_succ]
                  refine held_take 3 ?_ rfl (by kernel_rfl) (by kernel_rfl) (by kernel_rfl) (fun _ _ _ h => h) (by rfl) ?_ hSc ?_
                  rotate_left
                  · (intro W hSW; have a0 := hSW.bx.a0; have a1 := hSW.bx.a1; have a2 := hSW.bx.a2; have q0 := hSW.q0; have q1 := hSW.q1; have q2 := hSW.q2; go_simp; try rfl)
                  try simp only [Act.put, List.setIfInBounds_toArray, List.set_cons_zero, List.set_cons_succ]
                  refine held_take 4 ?_ rfl (by kernel_rfl) (by kernel_rfl) (by kernel_rfl) (fun _ _ _ h => h) (by rfl) ?_ hSc ?_
                  rotate_left
                  · (intro W hSW; have a0 := hSW.bx.a0; have a1 := hSW.bx.a1; have a2 := hSW.bx.a2; have q0 := hSW.q0; have q1 := hSW.q1; have q2 := hSW.q2; go_simp; try rfl)
                  try simp only [Act.put, List.setIfInBounds_toArray, List.set_cons_zero, List.set_cons_succ]
                  refine held_take 5 ?_ rfl (by kernel_rfl) (by kernel_rfl) (by kernel_rfl) (fun _ _ _ h => h) (by rfl) ?_ hSc ?_
                  rotate_left
                  · (intro W hSW; have a0 := hSW.bx.a0; have a1 := hSW.bx.a1; have a2 := hSW.bx.a2; have q0 := hSW.q0; have q1 := hSW.q1; have q2 := hSW.q2; go_simp; try rfl)
                  try simp only [Act.put, List.setIfInBounds_toArray, List.set_cons_zero, List.set_cons_succ]
                  refine held_next 6 rfl (by kernel_rfl) (by rfl) ?_
                  go_simp
                  refine (hs1 _).mono ?_
                  rintro e wq1 ⟨rfl, bz⟩
                  have hSd : (fun W => Iv w W X Y b boff j) wq1 := hSc.step bz
                  refine ⟨fun W => Iv w W X Y b boff j, fun W hW => hW, hSd, ?_⟩
                  clear hSc bz
                  have hSc := hSd
                  clear hSd
                  try simp only [Act.put, List.setIfInBounds_toArray, List.set_cons_zero, List.set_cons_succ]
                  refine wpAnyH_done (by kernel_rfl) ?_ _
                  have HI1 := Lib.hid hSc
                  clear hSc
                  have a0 := HI1.out.bx.a0
                  have a1 := HI1.out.bx.a1
                  have a2 := HI1.out.bx.a2
                  have q0 := HI1.out.q0
                  have q1 := HI1.out.q1
                  have q2 := HI1.out.q2
                  clear hs1
                  go_wp2_with fail
                  clear a0 a1 a2 q0 q1 q2
                  have hSc := HI1.out.drew
                  refine wp_region_all (S := fun W => Iv w W X Y b boff j) (by kernel_rfl) hSc (fun W0 hSc => ?_)
                  refine held_take 0 ?_ rfl (by kernel_rfl) (by kernel_rfl) (by kernel_rfl) (fun _ _ _ h => h) (by rfl) ?_ hSc ?_
                  rotate_left
                  · (intro W hSW; have a0 := hSW.bx.a0; have a1 := hSW.bx.a1; have a2 := hSW.bx.a2; have q0 := hSW.q0; have q1 := hSW.q1; have q2 := hSW.q2; go_simp; try rfl)
                  try simp only [Act.put, List.setIfInBounds_toArray, List.set_cons_zero, List.set_cons_succ]
                  refine held_take 1 ?_ rfl (by kernel_rfl) (by kernel_rfl) (by kernel_rfl) (fun _ _ _ h => h) (by rfl) ?_ hSc ?_
                  rotate_left
                  · (intro W hSW; have a0 := hSW.bx.a0; have a1 := hSW.bx.a1; have a2 := hSW.bx.a2; have q0 := hSW.q0; have q1 := hSW.q1; have q2 := hSW.q2; go_simp; try rfl)
                  try simp only [Act.put, List.setIfInBounds_toArray, List.set_cons_zero, List.set_cons_succ]
                  refine held_take 2 ?_ rfl (by kernel_rfl) (by kernel_rfl) (by kernel_rfl) (fun _ _ _ h => h) (by rfl) ?_ hSc ?_
                  rotate_left
                  · (intro W hSW; have a0 := hSW.bx.a0; have a1 := hSW.bx.a1; have a2 := hSW.bx.a2; have q0 := hSW.q0; have q1 := hSW.q1; have q2 := hSW.q2; go_simp; try rfl)
                  try simp only [Act.put, List.setIfInBounds_toArray, List.set_cons_zero, List.set_cons_succ]
                  refine held_take 3 ?_ rfl (by kernel_rfl) (by kernel_rfl) (by kernel_rfl) (fun _ _ _ h => h) (by rfl) ?_ hSc ?_
                  rotate_left
                  · (intro W hSW; have a0 := hSW.bx.a0; have a1 := hSW.bx.a1; have a2 := hSW.bx.a2; have q0 := hSW.q0; have q1 := hSW.q1; have q2 := hSW.q2; go_simp; try rfl)
                  try simp only [Act.put, List.setIfInBounds_toArray, List.set_cons_zero, List.set_cons_succ]
                  refine held_take 4 ?_ rfl (by kernel_rfl) (by kernel_rfl) (by kernel_rfl) (fun _ _ _ h => h) (by rfl) ?_ hSc ?_
                  rotate_left
                  · (intro W hSW; have a0 := hSW.bx.a0; have a1 := hSW.bx.a1; have a2 := hSW.bx.a2; have q0 := hSW.q0; have q1 := hSW.q1; have q2 := hSW.q2; go_simp; try rfl)
                  try simp only [Act.put, List.setIfInBounds_toArray, List.set_cons_zero, List.set_cons_succ]
                  refine held_next 5 rfl (by kernel_rfl) (by rfl) ?_
                  go_simp
                  refine (hs3 _).mono ?_
                  rintro e wq2 ⟨rfl, bz⟩
                  have hSd : (fun W => Iv w W X Y b boff j) wq2 := hSc.step bz
                  refine ⟨fun W => Iv w W X Y b boff j, fun W hW => hW, hSd, ?_⟩
                  clear hSc bz
                  have hSc := hSd
                  clear hSd
                  try simp only [Act.put, List.setIfInBounds_toArray, List.set_cons_zero, List.set_cons_succ]
                  refine wpAnyH_done (by kernel_rfl) ?_ _
                  have HI3 := Lib.hid hSc
                  clear hSc
                  have a0 := HI3.out.bx.a0
                  have a1 := HI3.out.bx.a1
                  have a2 := HI3.out.bx.a2
                  have q0 := HI3.out.q0
                  have q1 := HI3.out.q1
                  have q2 := HI3.out.q2
                  clear hs3
                  go_wp2_with fail
                  clear a0 a1 a2 q0 q1 q2
                  have hSc := HI3.out.drew
                  refine wp_region_all (S := fun W => Iv w W X Y b boff j) (by kernel_rfl) hSc (fun W0 hSc => ?_)
                  refine held_take 0 ?_ rfl (by kernel_rfl) (by kernel_rfl) (by kernel_rfl) (fun _ _ _ h => h) (by rfl) ?_ hSc ?_
                  rotate_left
                  · (intro W hSW; have a0 := hSW.bx.a0; have a1 := hSW.bx.a1; have a2 := hSW.bx.a2; have q0 := hSW.q0; have q1 := hSW.q1; have q2 := hSW.q2; go_simp; try rfl)
                  try simp only [Act.put, List.setIfInBounds_toArray, List.set_cons_zero, List.set_cons_succ]
                  refine held_take 1 ?_ rfl (by kernel_rfl) (by kernel_rfl) (by kernel_rfl) (fun _ _ _ h => h) (by rfl) ?_ hSc ?_
                  rotate_left
                  · (intro W hSW; have a0 := hSW.bx.a0; have a1 := hSW.bx.a1; have a2 := hSW.bx.a2; have q0 := hSW.q0; have q1 := hSW.q1; have q2 := hSW.q2; go_simp; try rfl)
                  try simp only [Act.put, List.setIfInBounds_toArray, List.set_cons_zero, List.set_cons_succ]
                  refine held_take 2 ?_ rfl (by kernel_rfl) (by kernel_rfl) (by kernel_rfl) (fun _ _ _ h => h) (by rfl) ?_ hSc ?_
                  rotate_left
                  · (intro W hSW; have a0 := hSW.bx.a0; have a1 := hSW.bx.a1; have a2 := hSW.bx.a2; have q0 := hSW.q0; have q1 := hSW.q1; have q2 := hSW.q2; go_simp; try rfl)
                  try simp only [Act.put, List.setIfInBounds_toArray, List.set_cons_zero, List.set_cons_succ]
                  refine held_take 3 ?_ rfl (by kernel_rfl) (by kernel_rfl) (by kernel_rfl) (fun _ _ _ h => h) (by rfl) ?_ hSc ?_
                  rotate_left
                  · (intro W hSW; have a0 := hSW.bx.a0; have a1 := hSW.bx.a1; have a2 := hSW.bx.a2; have q0 := hSW.q0; have q1 := hSW.q1; have q2 := hSW.q2; go_simp; try rfl)
                  try simp only [Act.put, List.setIfInBounds_toArray, List.set_cons_zero, List.set_cons_succ]
                  refine held_take 4 ?_ rfl (by kernel_rfl) (by kernel_rfl) (by kernel_rfl) (fun _ _ _ h => h) (by rfl) ?_ hSc ?_
                  rotate_left
                  · (intro W hSW; have a0 := hSW.bx.a0; have a1 := hSW.bx.a1; have a2 := hSW.bx.a2; have q0 := hSW.q0; have q1 := hSW.q1; have q2 := hSW.q2; go_simp; try rfl)
                  try simp only [Act.put, List.setIfInBounds_toArray, List.set_cons_zero, List.set_cons_succ]
                  refine held_next 5 rfl (by kernel_rfl) (by rfl) ?_
                  go_simp
                  refine (hs4 _).mono ?_
                  rintro e wq3 ⟨rfl, bz⟩
                  have hSd : (fun W => Iv w W X Y b boff j) wq3 := hSc.step bz
                  refine ⟨fun W => Iv w W X Y b boff j, fun W hW => hW, hSd, ?_⟩
                  clear hSc bz
                  have hSc := hSd
                  clear hSd
                  try simp only [Act.put, List.setIfInBounds_toArray, List.set_cons_zero, List.set_cons_succ]
                  refine wpAnyH_done (by kernel_rfl) ?_ _
                  have HI4 := Lib.hid hSc
                  clear hSc
                  have a0 := HI4.out.bx.a0
                  have a1 := HI4.out.bx.a1
                  have a2 := HI4.out.bx.a2
                  have q0 := HI4.out.q0
                  have q1 := HI4.out.q1
                  have q2 := HI4.out.q2
                  clear hs4
                  go_wp2
                  go_roundw
                  case rel => exact ⟨j + 1, _, by go_num, by omega, rfl, by rw [HSN.out, loV_snoc, HLO.out, H1.out]; simp [HLO2.out, hjl], by rw [HSN.out, hiV_snoc, H1.out]; simp [hjl], by rw [HSN.out, hiV_snoc, H3.out]; simp [hjl], by rw [HSN.out, hiV_snoc, H4.out]; simp, HI4.out.bx⟩
                  case measure => simp [intOf]; omega
                · skip
                  rw [h1] at hs1
                  rw [h3] at hs3
                  rw [h4] at hs4
                  have d1 : decide (LO < 0) = true := decide_eq_true hlo
                  have H1 := Lib.hid h1
                  have H3 := Lib.hid h3
                  have H4 := Lib.hid h4
                  have HLO2 := Lib.hid hlo
                  clear hlo
                  clear h1 h3 h4
                  go_wp2_with fail
                  clear a0 a1 a2 q0 q1 q2
                  have hSc := HI.out.drew
                  refine wp_region_all (S := fun W => Iv w W X Y b boff j) (by kernel_rfl) hSc (fun W0 hSc => ?_)
                  refine held_take 0 ?_ rfl (by kernel_rfl) (by kernel_rfl) (by kernel_rfl) (fun _ _ _ h => h) (by rfl) ?_ hSc ?_
                  rotate_left
                  · (intro W hSW; have a0 := hSW.bx.a0; have a1 := hSW.bx.a1; have a2 := hSW.bx.a2; have q0 := hSW.q0; have q1 := hSW.q1; have q2 := hSW.q2; go_simp; try rfl)
                  try simp only [Act.put, List.setIfInBounds_toArray, List.set_cons_zero, List.set_cons_succ]
                  refine held_take 1 ?_ rfl (by kernel_rfl) (by kernel_rfl) (by kernel_rfl) (fun _ _ _ h => h) (by rfl) ?_ hSc ?_
                  rotate_left
                  · (intro W hSW; have a0 := hSW.bx.a0; have a1 := hSW.bx.a1; have a2 := hSW.bx.a2; have q0 := hSW.q0; have q1 := hSW.q1; have q2 := hSW.q2; go_simp; try rfl)
                  try simp only [Act.put, List.setIfInBounds_toArray, List.set_cons_zero, List.set_cons_succ]
                  refine held_take 2 ?_ rfl (by kernel_rfl) (by kernel_rfl) (by kernel_rfl) (fun _ _ _ h => h) (by rfl) ?_ hSc ?_
                  rotate_left
                  · (intro W hSW; have a0 := hSW.bx.a0; have a1 := hSW.bx.a1; have a2 := hSW.bx.a2; have q0 := hSW.q0; have q1 := hSW.q1; have q2 := hSW.q2; go_simp; try rfl)
                  try simp only [Act.put, List.setIfInBounds_toArray, List.set_cons_zero, List.set_cons_succ]
                  refine held_take 3 ?_ rfl (by kernel_rfl) (by kernel_rfl) (by kernel_rfl) (fun _ _ _ h => h) (by rfl) ?_ hSc ?_
                  rotate_left
                  · (intro W hSW; have a0 := hSW.bx.a0; have a1 := hSW.bx.a1; have a2 := hSW.bx.a2; have q0 := hSW.q0; have q1 := hSW.q1; have q2 := hSW.q2; go_simp; try rfl)
                  try simp only [Act.put, List.setIfInBounds_toArray, List.set_cons_zero, List.set_cons_succ]
                  refine held_take 4 ?_ rfl (by kernel_rfl) (by kernel_rfl) (by kernel_rfl) (fun _ _ _ h => h) (by rfl) ?_ hSc ?_
                  rotate_left
                  · (intro W hSW; have a0 := hSW.bx.a0; have a1 := hSW.bx.a1; have a2 := hSW.bx.a2; have q0 := hSW.q0; have q1 := hSW.q1; have q2 := hSW.q2; go_simp; try rfl)
                  try simp only [Act.put, List.setIfInBounds_toArray, List.set_cons_zero, List.set_cons_succ]
                  refine held_take 5 ?_ rfl (by kernel_rfl) (by kernel_rfl) (by kernel_rfl) (fun _ _ _ h => h) (by rfl) ?_ hSc ?_
                  rotate_left
                  · (intro W hSW; have a0 := hSW.bx.a0; have a1 := hSW.bx.a1; have a2 := hSW.bx.a2; have q0 := hSW.q0; have q1 := hSW.q1; have q2 := hSW.q2; go_simp; try rfl)
                  try simp only [Act.put, List.setIfInBounds_toArray, List.set_cons_zero, List.set_cons_succ]
                  refine held_next 6 rfl (by kernel_rfl) (by rfl) ?_
                  go_simp
                  refine (hs1 _).mono ?_
                  rintro e wq1 ⟨rfl, bz⟩
                  have hSd : (fun W => Iv w W X Y b boff j) wq1 := hSc.step bz
                  refine ⟨fun W => Iv w W X Y b boff j, fun W hW => hW, hSd, ?_⟩
                  clear hSc bz
                  have hSc := hSd
                  clear hSd
                  try simp only [Act.put, List.setIfInBounds_toArray, List.set_cons_zero, List.set_cons_succ]
                  refine wpAnyH_done (by kernel_rfl) ?_ _
                  have HI1 := Lib.hid hSc
                  clear hSc
                  have a0 := HI1.out.bx.a0
                  have a1 := HI1.out.bx.a1
                  have a2 := HI1.out.bx.a2
                  have q0 := HI1.out.q0
                  have q1 := HI1.out.q1
                  have q2 := HI1.out.q2
                  clear hs1
                  go_wp2_with fail
                  clear a0 a1 a2 q0 q1 q2
                  have hSc := HI1.out.drew
                  refine wp_region_all (S := fun W => Iv w W X Y b boff j) (by kernel_rfl) hSc (fun W0 hSc => ?_)
                  refine held_take 0 ?_ rfl (by kernel_rfl) (by kernel_rfl) (by kernel_rfl) (fun _ _ _ h => h) (by rfl) ?_ hSc ?_
                  rotate_left
                  · (intro W hSW; have a0 := hSW.bx.a0; have a1 := hSW.bx.a1; have a2 := hSW.bx.a2; have q0 := hSW.q0; have q1 := hSW.q1; have q2 := hSW.q2; go_simp; try rfl)
                  try simp only [Act.put, List.setIfInBounds_toArray, List.set_cons_zero, List.set_cons_succ]
                  refine held_take 1 ?_ rfl (by kernel_rfl) (by kernel_rfl) (by kernel_rfl) (fun _ _ _ h => h) (by rfl) ?_ hSc ?_
                  rotate_left
                  · (intro W hSW; have a0 := hSW.bx.a0; have a1 := hSW.bx.a1; have a2 := hSW.bx.a2; have q0 := hSW.q0; have q1 := hSW.q1; have q2 := hSW.q2; go_simp; try rfl)
                  try simp only [Act.put, List.setIfInBounds_toArray, List.set_cons_zero, List.set_cons_succ]
                  refine held_take 2 ?_ rfl (by kernel_rfl) (by kernel_rfl) (by kernel_rfl) (fun _ _ _ h => h) (by rfl) ?_ hSc ?_
                  rotate_left
                  · (intro W hSW; have a0 := hSW.bx.a0; have a1 := hSW.bx.a1; have a2 := hSW.bx.a2; have q0 := hSW.q0; have q1 := hSW.q1; have q2 := hSW.q2; go_simp; try rfl)
                  try simp only [Act.put, List.setIfInBounds_toArray, List.set_cons_zero, List.set_cons_succ]
                  refine held_take 3 ?_ rfl (by kernel_rfl) (by kernel_rfl) (by kernel_rfl) (fun _ _ _ h => h) (by rfl) ?_ hSc ?_
                  rotate_left
                  · (intro W hSW; have a0 := hSW.bx.a0; have a1 := hSW.bx.a1; have a2 := hSW.bx.a2; have q0 := hSW.q0; have q1 := hSW.q1; have q2 := hSW.q2; go_simp; try rfl)
                  try simp only [Act.put, List.setIfInBounds_toArray, List.set_cons_zero, List.set_cons_succ]
                  refine held_take 4 ?_ rfl (by kernel_rfl) (by kernel_rfl) (by kernel_rfl) (fun _ _ _ h => h) (by rfl) ?_ hSc ?_
                  rotate_left
                  · (intro W hSW; have a0 := hSW.bx.a0; have a1 := hSW.bx.a1; have a2 := hSW.bx.a2; have q0 := hSW.q0; have q1 := hSW.q1; have q2 := hSW.q2; go_simp; try rfl)
                  try simp only [Act.put, List.setIfInBounds_toArray, List.set_cons_zero, List.set_cons_succ]
                  refine held_next 5 rfl (by kernel_rfl) (by rfl) ?_
                  go_simp
                  refine (hs3 _).mono ?_
                  rintro e wq2 ⟨rfl, bz⟩
                  have hSd : (fun W => Iv w W X Y b boff j) wq2 := hSc.step bz
                  refine ⟨fun W => Iv w W X Y b boff j, fun W hW => hW, hSd, ?_⟩
                  clear hSc bz
                  have hSc := hSd
                  clear hSd
                  try simp only [Act.put, List.setIfInBounds_toArray, List.set_cons_zero, List.set_cons_succ]
                  refine wpAnyH_done (by kernel_rfl) ?_ _
                  have HI3 := Lib.hid hSc
                  clear hSc
                  have a0 := HI3.out.bx.a0
                  have a1 := HI3.out.bx.a1
                  have a2 := HI3.out.bx.a2
                  have q0 := HI3.out.q0
                  have q1 := HI3.out.q1
                  have q2 := HI3.out.q2
                  clear hs3
                  go_wp2_with fail
                  clear a0 a1 a2 q0 q1 q2
                  have hSc := HI3.out.drew
                  refine wp_region_all (S := fun W => Iv w W X Y b boff j) (by kernel_rfl) hSc (fun W0 hSc => ?_)
                  refine held_take 0 ?_ rfl (by kernel_rfl) (by kernel_rfl) (by kernel_rfl) (fun _ _ _ h => h) (by rfl) ?_ hSc ?_
                  rotate_left
                  · (intro W hSW; have a0 := hSW.bx.a0; have a1 := hSW.bx.a1; have a2 := hSW.bx.a2; have q0 := hSW.q0; have q1 := hSW.q1; have q2 := hSW.q2; go_simp; try rfl)
                  try simp only [Act.put, List.setIfInBounds_toArray, List.set_cons_zero, List.set_cons_succ]
                  refine held_take 1 ?_ rfl (by kernel_rfl) (by kernel_rfl) (by kernel_rfl) (fun _ _ _ h => h) (by rfl) ?_ hSc ?_
                  rotate_left
                  · (intro W hSW; have a0 := hSW.bx.a0; have a1 := hSW.bx.a1; have a2 := hSW.bx.a2; have q0 := hSW.q0; have q1 := hSW.q1; have q2 := hSW.q2; go_simp; try rfl)
                  try simp only [Act.put, List.setIfInBounds_toArray, List.set_cons_zero, List.set_cons_succ]
                  refine held_take 2 ?_ rfl (by kernel_rfl) (by kernel_rfl) (by kernel_rfl) (fun _ _ _ h => h) (by rfl) ?_ hSc ?_
                  rotate_left
                  · (intro W hSW; have a0 := hSW.bx.a0; have a1 := hSW.bx.a1; have a2 := hSW.bx.a2; have q0 := hSW.q0; have q1 := hSW.q1; have q2 := hSW.q2; go_simp; try rfl)
                  try simp only [Act.put, List.setIfInBounds_toArray, List.set_cons_zero, List.set_cons_succ]
                  refine held_take 3 ?_ rfl (by kernel_rfl) (by kernel_rfl) (by kernel_rfl) (fun _ _ _ h => h) (by rfl) ?_ hSc ?_
                  rotate_left
                  · (intro W hSW; have a0 := hSW.bx.a0; have a1 := hSW.bx.a1; have a2 := hSW.bx.a2; have q0 := hSW.q0; have q1 := hSW.q1; have q2 := hSW.q2; go_simp; try rfl)
                  try simp only [Act.put, List.setIfInBounds_toArray, List.set_cons_zero, List.set_cons_succ]
                  refine held_take 4 ?_ rfl (by kernel_rfl) (by kernel_rfl) (by kernel_rfl) (fun _ _ _ h => h) (by rfl) ?_ hSc ?_
                  rotate_left
                  · (intro W hSW; have a0 := hSW.bx.a0; have a1 := hSW.bx.a1; have a2 := hSW.bx.a2; have q0 := hSW.q0; have q1 := hSW.q1; have q2 := hSW.q2; go_simp; try rfl)
                  try simp only [Act.put, List.setIfInBounds_toArray, List.set_cons_zero, List.set_cons_succ]
                  refine held_next 5 rfl (by kernel_rfl) (by rfl) ?_
                  go_simp
                  refine (hs4 _).mono ?_
                  rintro e wq3 ⟨rfl, bz⟩
                  have hSd : (fun W => Iv w W X Y b boff j) wq3 := hSc.step bz
                  refine ⟨fun W => Iv w W X Y b boff j, fun W hW => hW, hSd, ?_⟩
                  clear hSc bz
                  have hSc := hSd
                  clear hSd
                  try simp only [Act.put, List.setIfInBounds_toArray, List.set_cons_zero, List.set_cons_succ]
                  refine wpAnyH_done (by kernel_rfl) ?_ _
                  have HI4 := Lib.hid hSc
                  clear hSc
                  have a0 := HI4.out.bx.a0
                  have a1 := HI4.out.bx.a1
                  have a2 := HI4.out.bx.a2
                  have q0 := HI4.out.q0
                  have q1 := HI4.out.q1
                  have q2 := HI4.out.q2
                  clear hs4
                  go_wp2
                  go_roundw
                  case rel => exact ⟨j + 1, _, by go_num, by omega, rfl, by rw [HSN.out, loV_snoc, HLO.out, H1.out]; simp [HLO2.out, hjl], by rw [HSN.out, hiV_snoc, H1.out]; simp [hjl], by rw [HSN.out, hiV_snoc, H3.out]; simp [hjl], by rw [HSN.out, hiV_snoc, H4.out]; simp [hjl], HI4.out.bx⟩
                  case measure => simp [intOf]; omega
            · skip
              cases h3 : soW 3 X Y
              · skip
                cases h4 : soW 4 X Y
                · skip
                  rw [h1] at hs1
                  rw [h3] at hs3
                  rw [h4] at hs4
                  have d1 : decide (LO < 0) = false := decide_eq_false hlo
                  have H1 := Lib.hid h1
                  have H3 := Lib.hid h3
                  have H4 := Lib.hid h4
                  have HLO2 := Lib.hid hlo
                  clear hlo
                  clear h1 h3 h4
                  go_wp2_with fail
                  clear a0 a1 a2 q0 q1 q2
                  have hSc := HI.out.drew
                  refine wp_region_all (S := fun W => Iv w W X Y b boff j) (by kernel_rfl) hSc (fun W0 hSc => ?_)
                  refine held_take 0 ?_ rfl (by kernel_rfl) (by kernel_rfl) (by kernel_rfl) (fun _ _ _ h => h) (by rfl) ?_ hSc ?_
                  rotate_left
                  · (intro W hSW; have a0 := hSW.bx.a0; have a1 := hSW.bx.a1; have a2 := hSW.bx.a2; have q0 := hSW.q0; have q1 := hSW.q1; have q2 := hSW.q2; go_simp; try rfl)
                  try simp only [Act.put, List.setIfInBounds_toArray, List.set_cons_zero, List.set_cons_succ]
                  refine held_take 1 ?_ rfl (by kernel_rfl) (by kernel_rfl) (by kernel_rfl) (fun _ _ _ h => h) (by rfl) ?_ hSc ?_
                  rotate_left
                  · (intro W hSW; have a0 := hSW.bx.a0; have a1 := hSW.bx.a1; have a2 := hSW.bx.a2; have q0 := hSW.q0; have q1 := hSW.q1; have q2 := hSW.q2; go_simp; try rfl)
                  try simp only [Act.put, List.setIfInBounds_toArray, List.set_cons_zero, List.set_cons_succ]
                  refine held_take 2 ?_ rfl (by kernel_rfl) (by kernel_rfl) (by kernel_rfl) (fun _ _ _ h => h) (by rfl) ?_ hSc ?_
                  rotate_left
                  · (intro W hSW; have a0 := hSW.bx.a0; have a1 := hSW.bx.a1; have a2 := hSW.bx.a2; have q0 := hSW.q0; have q1 := hSW.q1; have q2 := hSW.q2; go_simp; try rfl)
                  try simp only [Act.put, List.setIfInBounds_toArray, List.set_cons_zero, List.set_cons_succ]
                  refine held_take 3 ?_ rfl (by kernel_rfl) (by kernel_rfl) (by kernel_rfl) (fun _ _ _ h => h) (by rfl) ?_ hSc ?_
                  rotate_left
                  · (intro W hSW; have a0 := hSW.bx.a0; have a1 := hSW.bx.a1; have a2 := hSW.bx.a2; have q0 := hSW.q0; have q1 := hSW.q1; have q2 := hSW.q2; go_simp; try rfl)
                  try simp only [Act.put, List.setIfInBounds_toArray, List.set_cons_zero, List.set_cons_succ]
                  refine held_take 4 ?_ rfl (by kernel_rfl) (by kernel_rfl) (by kernel_rfl) (fun _ _ _ h => h) (by rfl) ?_ hSc ?_
                  rotate_left
                  · (intro W hSW; have a0 := hSW.bx.a0; have a1 := hSW.bx.a1; have a2 := hSW.bx.a2; have q0 := hSW.q0; have q1 := hSW.q1; have q2 := hSW.q2; go_simp; try rfl)
                  try simp only [Act.put, List.setIfInBounds_toArray, List.set_cons_zero, List.set_cons_succ]
                  refine held_take 5 ?_ rfl (by kernel_rfl) (by kernel_rfl) (by kernel_rfl) (fun _ _ _ h => h) (by rfl) ?_ hSc ?_
                  rotate_left
                  · (intro W hSW; have a0 := hSW.bx.a0; have a1 := hSW.bx.a1; have a2 := hSW.bx.a2; have q0 := hSW.q0; have q1 := hSW.q1; have q2 := hSW.q2; go_simp; try rfl)
                  try simp only [Act.put, List.setIfInBounds_toArray, List.set_cons_zero, List.set_cons_succ]
                  refine held_next 6 rfl (by kernel_rfl) (by rfl) ?_
                  go_simp
                  refine (hs1 _).mono ?_
                  rintro e wq1 ⟨rfl, bz⟩
                  have hSd : (fun W => Iv w W X Y b boff j) wq1 := hSc.step bz
                  refine ⟨fun W => Iv w W X Y b boff j, fun W hW => hW, hSd, ?_⟩
                  clear hSc bz
                  have hSc := hSd
                  clear hSd
                  try simp only [Act.put, List.setIfInBounds_toArray, List.set_cons_zero, List.set_cons_succ]
                  refine wpAnyH_done (by kernel_rfl) ?_ _
                  have HI1 := Lib.hid hSc
                  clear hSc
                  have a0 := HI1.out.bx.a0
                  have a1 := HI1.out.bx.a1
                  have a2 := HI1.out.bx.a2
                  have q0 := HI1.out.q0
                  have q1 := HI1.out.q1
                  have q2 := HI1.out.q2
                  clear hs1
                  go_wp2_with fail
                  clear a0 a1 a2 q0 q1 q2
                  have hSc := HI1.out.drew
                  refine wp_region_all (S := fun W => Iv w W X Y b boff j) (by kernel_rfl) hSc (fun W0 hSc => ?_)
                  refine held_take 0 ?_ rfl (by kernel_rfl) (by kernel_rfl) (by kernel_rfl) (fun _ _ _ h => h) (by rfl) ?_ hSc ?_
                  rotate_left
                  · (intro W hSW; have a0 := hSW.bx.a0; have a1 := hSW.bx.a1; have a2 := hSW.bx.a2; have q0 := hSW.q0; have q1 := hSW.q1; have q2 := hSW.q2; go_simp; try rfl)
                  try simp only [Act.put, List.setIfInBounds_toArray, List.set_cons_zero, List.set_cons_succ]
                  refine held_take 1 ?_ rfl (by kernel_rfl) (by kernel_rfl) (by kernel_rfl) (fun _ _ _ h => h) (by rfl) ?_ hSc ?_
                  rotate_left
                  · (intro W hSW; have a0 := hSW.bx.a0; have a1 := hSW.bx.a1; have a2 := hSW.bx.a2; have q0 := hSW.q0; have q1 := hSW.q1; have q2 := hSW.q2; go_simp; try rfl)
                  try simp only [Act.put, List.setIfInBounds_toArray, List.set_cons_zero, List.set_cons_succ]
                  refine held_take 2 ?_ rfl (by kernel_rfl) (by kernel_rfl) (by kernel_rfl) (fun _ _ _ h => h) (by rfl) ?_ hSc ?_
                  rotate_left
                  · (intro W hSW; have a0 := hSW.bx.a0; have a1 := hSW.bx.a1; have a2 := hSW.bx.a2; have q0 := hSW.q0; have q1 := hSW.q1; have q2 := hSW.q2; go_simp; try rfl)
                  try simp only [Act.put, List.setIfInBounds_toArray, List.set_cons_zero, List.set_cons_succ]
                  refine held_take 3 ?_ rfl (by kernel_rfl) (by kernel_rfl) (by kernel_rfl) (fun _ _ _ h => h) (by rfl) ?_ hSc ?_
                  rotate_left
                  · (intro W hSW; have a0 := hSW.bx.a0; have a1 := hSW.bx.a1; have a2 := hSW.bx.a2; have q0 := hSW.q0; have q1 := hSW.q1; have q2 := hSW.q2; go_simp; try rfl)
                  try simp only [Act.put, List.setIfInBounds_toArray, List.set_cons_zero, List.set_cons_succ]
                  refine held_take 4 ?_ rfl (by kernel_rfl) (by kernel_rfl) (by kernel_rfl) (fun _ _ _ h => h) (by rfl) ?_ hSc ?_
                  rotate_left
                  · (intro W hSW; have a0 := hSW.bx.a0; have a1 := hSW.bx.a1; have a2 := hSW.bx.a2; have q0 := hSW.q0; have q1 := hSW.q1; have q2 := hSW.q2; go_simp; try rfl)
                  try simp only [Act.put, List.setIfInBounds_toArray, List.set_cons_zero, List.set_cons_succ]
                  refine held_next 5 rfl (by kernel_rfl) (by rfl) ?_
                  go_simp
                  refine (hs3 _).mono ?_
                  rintro e wq2 ⟨rfl, bz⟩
                  have hSd : (fun W => Iv w W X Y b boff j) wq2 := hSc.step bz
                  refine ⟨fun W => Iv w W X Y b boff j, fun W hW => hW, hSd, ?_⟩
                  clear hSc bz
                  have hSc := hSd
                  clear hSd
                  try simp only [Act.put, List.setIfInBounds_toArray, List.set_cons_zero, List.set_cons_succ]
                  refine wpAnyH_done (by kernel_rfl) ?_ _
                  have HI3 := Lib.hid hSc
                  clear hSc
                  have a0 := HI3.out.bx.a0
                  have a1 := HI3.out.bx.a1
                  have a2 := HI3.out.bx.a2
                  have q0 := HI3.out.q0
                  have q1 := HI3.out.q1
                  have q2 := HI3.out.q2
                  clear hs3
                  go_wp2_with fail
                  clear a0 a1 a2 q0 q1 q2
                  have hSc := HI3.out.drew
                  refine wp_region_all (S := fun W => Iv w W X Y b boff j) (by kernel_rfl) hSc (fun W0 hSc => ?_)
                  refine held_take 0 ?_ rfl (by kernel_rfl) (by kernel_rfl) (by kernel_rfl) (fun _ _ _ h => h) (by rfl) ?_ hSc ?_
                  rotate_left
                  · (intro W hSW; have a0 := hSW.bx.a0; have a1 := hSW.bx.a1; have a2 := hSW.bx.a2; have q0 := hSW.q0; have q1 := hSW.q1; have q2 := hSW.q2; go_simp; try rfl)
                  try simp only [Act.put, List.setIfInBounds_toArray, List.set_cons_zero, List.set_cons_succ]
                  refine held_take 1 ?_ rfl (by kernel_rfl) (by kernel_rfl) (by kernel_rfl) (fun _ _ _ h => h) (by rfl) ?_ hSc ?_
                  rotate_left
                  · (intro W hSW; have a0 := hSW.bx.a0; have a1 := hSW.bx.a1; have a2 := hSW.bx.a2; have q0 := hSW.q0; have q1 := hSW.q1; have q2 := hSW.q2; go_simp; try rfl)
                  try simp only [Act.put, List.setIfInBounds_toArray, List.set_cons_zero, List.set_cons_succ]
                  refine held_take 2 ?_ rfl (by kernel_rfl) (by kernel_rfl) (by kernel_rfl) (fun _ _ _ h => h) (by rfl) ?_ hSc ?_
                  rotate_left
                  · (intro W hSW; have a0 := hSW.bx.a0; have a1 := hSW.bx.a1; have a2 := hSW.bx.a2; have q0 := hSW.q0; have q1 := hSW.q1; have q2 := hSW.q2; go_simp; try rfl)
                  try simp only [Act.put, List.setIfInBounds_toArray, List.set_cons_zero, List.set_cons_succ]
                  refine held_take 3 ?_ rfl (by kernel_rfl) (by kernel_rfl) (by kernel_rfl) (fun _ _ _ h => h) (by rfl) ?_ hSc ?_
                  rotate_left
                  · (intro W hSW; have a0 := hSW.bx.a0; have a1 := hSW.bx.a1; have a2 := hSW.bx.a2; have q0 := hSW.q0; have q1 := hSW.q1; have q2 := hSW.q2; go_simp; try rfl)
                  try simp only [Act.put, List.setIfInBounds_toArray, List.set_cons_zero, List.set_cons_succ]
                  refine held_take 4 ?_ rfl (by kernel_rfl) (by kernel_rfl) (by kernel_rfl) (fun _ _ _ h => h) (by rfl) ?_ hSc ?_
                  rotate_left
                  · (intro W hSW; have a0 := hSW.bx.a0; have a1 := hSW.bx.a1; have a2 := hSW.bx.a2; have q0 := hSW.q0; have q1 := hSW.q1; have q2 := hSW.q2; go_simp; try rfl)
                  try simp only [Act.put, List.setIfInBounds_toArray, List.set_cons_zero, List.set_cons_succ]
                  refine held_next 5 rfl (by kernel_rfl) (by rfl) ?_
                  go_simp
                  refine (hs4 _).mono ?_
                  rintro e wq3 ⟨rfl, bz⟩
                  have hSd : (fun W => Iv w W X Y b boff j) wq3 := hSc.step bz
                  refine ⟨fun W => Iv w W X Y b boff j, fun W hW => hW, hSd, ?_⟩
                  clear hSc bz
                  have hSc := hSd
                  clear hSd
                  try simp only [Act.put, List.setIfInBounds_toArray, List.set_cons_zero, List.set_cons_succ]
                  refine wpAnyH_done (by kernel_rfl) ?_ _
                  have HI4 := Lib.hid hSc
                  clear hSc
                  have a0 := HI4.out.bx.a0
                  have a1 := HI4.out.bx.a1
                  have a2 := HI4.out.bx.a2
                  have q0 := HI4.out.q0
                  have q1 := HI4.out.q1
                  have q2 := HI4.out.q2
                  clear hs4
                  go_wp2
                  go_roundw
                  case rel => exact ⟨j + 1, _, by go_num, by omega, rfl, by rw [HSN.out, loV_snoc, HLO.out, if_neg (fun h => by have h1 := h.1; have := HLO2.out; omega)], by rw [HSN.out, hiV_snoc, H1.out]; simp [hjl], by rw [HSN.out, hiV_snoc, H3.out]; simp, by rw [HSN.out, hiV_snoc, H4.out]; simp, HI4.out.bx⟩
                  case measure => simp [intOf]; omega
                · skip
                  rw [h1] at hs1
                  rw [h3] at hs3
                  rw [h4] at hs4
                  have d1 : decide (LO < 0) = false := decide_eq_false hlo
                  have H1 := Lib.hid h1
                  have H3 := Lib.hid h3
                  have H4 := Lib.hid h4
                  have HLO2 := Lib.hid hlo
                  clear hlo
                  clear h1 h3 h4
                  go_wp2_with fail
                  clear a0 a1 a2 q0 q1 q2
                  have hSc := HI.out.drew
                  refine wp_region_all (S := fun W => Iv w W X Y b boff j) (by kernel_rfl) hSc (fun W0 hSc => ?_)
                  refine held_take 0 ?_ rfl (by kernel_rfl) (by kernel_rfl) (by kernel_rfl) (fun _ _ _ h => h) (by rfl) ?_ hSc ?_
                  rotate_left
                  · (intro W hSW; have a0 := hSW.bx.a0; have a1 := hSW.bx.a1; have a2 := hSW.bx.a2; have q0 := hSW.q0; have q1 := hSW.q1; have q2 := hSW.q2; go_simp; try rfl)
                  try simp only [Act.put, List.setIfInBounds_toArray, List.set_cons_zero, List.set_cons_succ]
                  refine held_take 1 ?_ rfl (by kernel_rfl) (by kernel_rfl) (by kernel_rfl) (fun _ _ _ h => h) (by rfl) ?_ hSc ?_
                  rotate_left
                  · (intro W hSW; have a0 := hSW.bx.a0; have a1 := hSW.bx.a1; have a2 := hSW.bx.a2; have q0 := hSW.q0; have q1 := hSW.q1; have q2 := hSW.q2; go_simp; try rfl)
                  try simp only [Act.put, List.setIfInBounds_toArray, List.set_cons_zero, List.set_cons_succ]
                  refine held_take 2 ?_ rfl (by kernel_rfl) (by kernel_rfl) (by kernel_rfl) (fun _ _ _ h => h) (by rfl) ?_ hSc ?_
                  rotate_left
                  · (intro W hSW; have a0 := hSW.bx.a0; have a1 := hSW.bx.a1; have a2 := hSW.bx.a2; have q0 := hSW.q0; have q1 := hSW.q1; have q2 := hSW.q2; go_simp; try rfl)
                  try simp only [Act.put, List.setIfInBounds_toArray, List.set_cons_zero, List.set_cons_succ]
                  refine held_take 3 ?_ rfl (by kernel_rfl) (by kernel_rfl) (by kernel_rfl) (fun _ _ _ h => h) (by rfl) ?_ hSc ?_
                  rotate_left
                  · (intro W hSW; have a0 := hSW.bx.a0; have a1 := hSW.bx.a1; have a2 := hSW.bx.a2; have q0 := hSW.q0; have q1 := hSW.q1; have q2 := hSW.q2; go_simp; try rfl)
                  try simp only [Act.put, List.setIfInBounds_toArray, List.set_cons_zero, List.set_cons_succ]
                  refine held_take 4 ?_ rfl (by kernel_rfl) (by kernel_rfl) (by kernel_rfl) (fun _ _ _ h => h) (by rfl) ?_ hSc ?_
                  rotate_left
                  · (intro W hSW; have a0 := hSW.bx.a0; have a1 := hSW.bx.a1; have a2 := hSW.bx.a2; have q0 := hSW.q0; have q1 := hSW.q1; have q2 := hSW.q2; go_simp; try rfl)
                  try simp only [Act.put, List.setIfInBounds_toArray, List.set_cons_zero, List.set_cons_succ]
                  refine held_take 5 ?_ rfl (by kernel_rfl) (by kernel_rfl) (by kernel_rfl) (fun _ _ _ h => h) (by rfl) ?_ hSc ?_
                  rotate_left
                  · (intro W hSW; have a0 := hSW.bx.a0; have a1 := hSW.bx.a1; have a2 := hSW.bx.a2; have q0 := hSW.q0; have q1 := hSW.q1; have q2 := hSW.q2; go_simp; try rfl)
                  try simp only [Act.put, List.setIfInBounds_toArray, List.set_cons_zero, List.set_cons_succ]
                  refine held_next 6 rfl (by kernel_rfl) (by rfl) ?_
                  go_simp
                  refine (hs1 _).mono ?_
                  rintro e wq1 ⟨rfl, bz⟩
                  have hSd : (fun W => Iv w W X Y b boff j) wq1 := hSc.step bz
                  refine ⟨fun W => Iv w W X Y b boff j, fun W hW => hW, hSd, ?_⟩
                  clear hSc bz
                  have hSc := hSd
                  clear hSd
                  try simp only [Act.put, List.setIfInBounds_toArray, List.set_cons_zero, List.set_cons_succ]
                  refine wpAnyH_done (by kernel_rfl) ?_ _
                  have HI1 := Lib.hid hSc
                  clear hSc
                  have a0 := HI1.out.bx.a0
                  have a1 := HI1.out.bx.a1
                  have a2 := HI1.out.bx.a2
                  have q0 := HI1.out.q0
                  have q1 := HI1.out.q1
                  have q2 := HI1.out.q2
                  clear hs1
                  go_wp2_with fail
                  clear a0 a1 a2 q0 q1 q2
                  have hSc := HI1.out.drew
                  refine wp_region_all (S := fun W => Iv w W X Y b boff j) (by kernel_rfl) hSc (fun W0 hSc => ?_)
                  refine held_take 0 ?_ rfl (by kernel_rfl) (by kernel_rfl) (by kernel_rfl) (fun _ _ _ h => h) (by rfl) ?_ hSc ?_
                  rotate_left
                  · (intro W hSW; have a0 := hSW.bx.a0; have a1 := hSW.bx.a1; have a2 := hSW.bx.a2; have q0 := hSW.q0; have q1 := hSW.q1; have q2 := hSW.q2; go_simp; try rfl)
                  try simp only [Act.put, List.setIfInBounds_toArray, List.set_cons_zero, List.set_cons_succ]
                  refine held_take 1 ?_ rfl (by kernel_rfl) (by kernel_rfl) (by kernel_rfl) (fun _ _ _ h => h) (by rfl) ?_ hSc ?_
                  rotate_left
                  · (intro W hSW; have a0 := hSW.bx.a0; have a1 := hSW.bx.a1; have a2 := hSW.bx.a2; have q0 := hSW.q0; have q1 := hSW.q1; have q2 := hSW.q2; go_simp; try rfl)
                  try simp only [Act.put, List.setIfInBounds_toArray, List.set_cons_zero, List.set_cons_succ]
                  refine held_take 2 ?_ rfl (by kernel_rfl) (by kernel_rfl) (by kernel_rfl) (fun _ _ _ h => h) (by rfl) ?_ hSc ?_
                  rotate_left
                  · (intro W hSW; have a0 := hSW.bx.a0; have a1 := hSW.bx.a1; have a2 := hSW.bx.a2; have q0 := hSW.q0; have q1 := hSW.q1; have q2 := hSW.q2; go_simp; try rfl)
                  try simp only [Act.put, List.setIfInBounds_toArray, List.set_cons_zero, List.set_cons_succ]
                  refine held_take 3 ?_ rfl (by kernel_rfl) (by kernel_rfl) (by kernel_rfl) (fun _ _ _ h => h) (by rfl) ?_ hSc ?_
                  rotate_left
                  · (intro W hSW; have a0 := hSW.bx.a0; have a1 := hSW.bx.a1; have a2 := hSW.bx.a2; have q0 := hSW.q0; have q1 := hSW.q1; have q2 := hSW.q2; go_simp; try rfl)
                  try simp only [Act.put, List.setIfInBounds_toArray, List.set_cons_zero, List.set_cons_succ]
                  refine held_take 4 ?_ rfl (by kernel_rfl) (by kernel_rfl) (by kernel_rfl) (fun _ _ _ h => h) (by rfl) ?_ hSc ?_
                  rotate_left
                  · (intro W hSW; have a0 := hSW.bx.a0; have a1 := hSW.bx.a1; have a2 := hSW.bx.a2; have q0 := hSW.q0; have q1 := hSW.q1; have q2 := hSW.q2; go_simp; try rfl)
                  try simp only [Act.put, List.setIfInBounds_toArray, List.set_cons_zero, List.set_cons_succ]
                  refine held_next 5 rfl (by kernel_rfl) (by rfl) ?_
                  go_simp
                  refine (hs3 _).mono ?_
                  rintro e wq2 ⟨rfl, bz⟩
                  have hSd : (fun W => Iv w W X Y b boff j) wq2 := hSc.step bz
                  refine ⟨fun W => Iv w W X Y b boff j, fun W hW => hW, hSd, ?_⟩
                  clear hSc bz
                  have hSc := hSd
                  clear hSd
                  try simp only [Act.put, List.setIfInBounds_toArray, List.set_cons_zero, List.set_cons_succ]
                  refine wpAnyH_done (by kernel_rfl) ?_ _
                  have HI3 := Lib.hid hSc
                  clear hSc
                  have a0 := HI3.out.bx.a0
                  have a1 := HI3.out.bx.a1
                  have a2 := HI3.out.bx.a2
                  have q0 := HI3.out.q0
                  have q1 := HI3.out.q1
                  have q2 := HI3.out.q2
                  clear hs3
                  go_wp2_with fail
                  clear a0 a1 a2 q0 q1 q2
                  have hSc := HI3.out.drew
                  refine wp_region_all (S := fun W => Iv w W X Y b boff j) (by kernel_rfl) hSc (fun W0 hSc => ?_)
                  refine held_take 0 ?_ rfl (by kernel_rfl) (by kernel_rfl) (by kernel_rfl) (fun _ _ _ h => h) (by rfl) ?_ hSc ?_
                  rotate_left
                  · (intro W hSW; have a0 := hSW.bx.a0; have a1 := hSW.bx.a1; have a2 := hSW.bx.a2; have q0 := hSW.q0; have q1 := hSW.q1; have q2 := hSW.q2; go_simp; try rfl)
                  try simp only [Act.put, List.setIfInBounds_toArray, List.set_cons_zero, List.set_cons_succ]
                  refine held_take 1 ?_ rfl (by kernel_rfl) (by kernel_rfl) (by kernel_rfl) (fun _ _ _ h => h) (by rfl) ?_ hSc ?_
                  rotate_left
                  · (intro W hSW; have a0 := hSW.bx.a0; have a1 := hSW.bx.a1; have a2 := hSW.bx.a2; have q0 := hSW.q0; have q1 := hSW.q1; have q2 := hSW.q2; go_simp; try rfl)
                  try simp only [Act.put, List.setIfInBounds_toArray, List.set_cons_zero, List.set_cons_succ]
                  refine held_take 2 ?_ rfl (by kernel_rfl) (by kernel_rfl) (by kernel_rfl) (fun _ _ _ h => h) (by rfl) ?_ hSc ?_
                  rotate_left
                  · (intro W hSW; have a0 := hSW.bx.a0; have a1 := hSW.bx.a1; have a2 := hSW.bx.a2; have q0 := hSW.q0; have q1 := hSW.q1; have q2 := hSW.q2; go_simp; try rfl)
                  try simp only [Act.put, List.setIfInBounds_toArray, List.set_cons_zero, List.set_cons_succ]
                  refine held_take 3 ?_ rfl (by kernel_rfl) (by kernel_rfl) (by kernel_rfl) (fun _ _ _ h => h) (by rfl) ?_ hSc ?_
                  rotate_left
                  · (intro W hSW; have a0 := hSW.bx.a0; have a1 := hSW.bx.a1; have a2 := hSW.bx.a2; have q0 := hSW.q0; have q1 := hSW.q1; have q2 := hSW.q2; go_simp; try rfl)
                  try simp only [Act.put, List.setIfInBounds_toArray, List.set_cons_zero, List.set_cons_succ]
                  refine held_take 4 ?_ rfl (by kernel_rfl) (by kernel_rfl) (by kernel_rfl) (fun _ _ _ h => h) (by rfl) ?_ hSc ?_
                  rotate_left
                  · (intro W hSW; have a0 := hSW.bx.a0; have a1 := hSW.bx.a1; have a2 := hSW.bx.a2; have q0 := hSW.q0; have q1 := hSW.q1; have q2 := hSW.q2; go_simp; try rfl)
                  try simp only [Act.put, List.setIfInBounds_toArray, List.set_cons_zero, List.set_cons_succ]
                  refine held_next 5 rfl (by kernel_rfl) (by rfl) ?_
                  go_simp
                  refine (hs4 _).mono ?_
                  rintro e wq3 ⟨rfl, bz⟩
                  have hSd : (fun W => Iv w W X Y b boff j) wq3 := hSc.step bz
                  refine ⟨fun W => Iv w W X Y b boff j, fun W hW => hW, hSd, ?_⟩
                  clear hSc bz
                  have hSc := hSd
                  clear hSd
                  try simp only [Act.put, List.setIfInBounds_toArray, List.set_cons_zero, List.set_cons_succ]
                  refine wpAnyH_done (by kernel_rfl) ?_ _
                  have HI4 := Lib.hid hSc
                  clear hSc
                  have a0 := HI4.out.bx.a0
                  have a1 := HI4.out.bx.a1
                  have a2 := HI4.out.bx.a2
                  have q0 := HI4.out.q0
                  have q1 := HI4.out.q1
                  have q2 := HI4.out.q2
                  clear hs4
                  go_wp2
                  go_roundw
                  case rel => exact ⟨j + 1, _, by go_num, by omega, rfl, by rw [HSN.out, loV_snoc, HLO.out, if_neg (fun h => by have h1 := h.1; have := HLO2.out; omega)], by rw [HSN.out, hiV_snoc, H1.out]; simp [hjl], by rw [HSN.out, hiV_snoc, H3.out]; simp, by rw [HSN.out, hiV_snoc, H4.out]; simp [hjl], HI4.out.bx⟩
                  case measure => simp [intOf]; omega
              · skip
                cases h4 : soW 4 X Y
                · skip
                  rw [h1] at hs1
                  rw [h3] at hs3
                  rw [h4] at hs4
                  have d1 : decide (LO < 0) = false := decide_eq_false hlo
                  have H1 := Lib.hid h1
                  have H3 := Lib.hid h3
                  have H4 := Lib.hid h4
                  have HLO2 := Lib.hid hlo
                  clear hlo
                  clear h1 h3 h4
                  go_wp2_with fail
                  clear a0 a1 a2 q0 q1 q2
                  have hSc := HI.out.drew
                  refine wp_region_all (S := fun W => Iv w W X Y b boff j) (by kernel_rfl) hSc (fun W0 hSc => ?_)
                  refine held_take 0 ?_ rfl (by kernel_rfl) (by kernel_rfl) (by kernel_rfl) (fun _ _ _ h => h) (by rfl) ?_ hSc ?_
                  rotate_left
                  · (intro W hSW; have a0 := hSW.bx.a0; have a1 := hSW.bx.a1; have a2 := hSW.bx.a2; have q0 := hSW.q0; have q1 := hSW.q1; have q2 := hSW.q2; go_simp; try rfl)
                  try simp only [Act.put, List.setIfInBounds_toArray, List.set_cons_zero, List.set_cons_succ]
                  refine held_take 1 ?_ rfl (by kernel_rfl) (by kernel_rfl) (by kernel_rfl) (fun _ _ _ h => h) (by rfl) ?_ hSc ?_
                  rotate_left
                  · (intro W hSW; have a0 := hSW.bx.a0; have a1 := hSW.bx.a1; have a2 := hSW.bx.a2; have q0 := hSW.q0; have q1 := hSW.q1; have q2 := hSW.q2; go_simp; try rfl)
                  try simp only [Act.put, List.setIfInBounds_toArray, List.set_cons_zero, List.set_cons_succ]
                  refine held_take 2 ?_ rfl (by kernel_rfl) (by kernel_rfl) (by kernel_rfl) (fun _ _ _ h => h) (by rfl) ?_ hSc ?_
                  rotate_left
                  · (intro W hSW; have a0 := hSW.bx.a0; have a1 := hSW.bx.a1; have a2 := hSW.bx.a2; have q0 := hSW.q0; have q1 := hSW.q1; have q2 := hSW.q2; go_simp; try rfl)
                  try simp only [Act.put, List.setIfInBounds_toArray, List.set_cons_zero, List.set_cons_succ]
                  refine held_take 3 ?_ rfl (by kernel_rfl) (by kernel_rfl) (by kernel_rfl) (fun _ _ _ h => h) (by rfl) ?_ hSc ?_
                  rotate_left
                  · (intro W hSW; have a0 := hSW.bx.a0; have a1 := hSW.bx.a1; have a2 := hSW.bx.a2; have q0 := hSW.q0; have q1 := hSW.q1; have q2 := hSW.q2; go_simp; try rfl)
                  try simp only [Act.put, List.setIfInBounds_toArray, List.set_cons_zero, List.set_cons_succ]
                  refine held_take 4 ?_ rfl (by kernel_rfl) (by kernel_rfl) (by kernel_rfl) (fun _ _ _ h => h) (by rfl) ?_ hSc ?_
                  rotate_left
                  · (intro W hSW; have a0 := hSW.bx.a0; have a1 := hSW.bx.a1; have a2 := hSW.bx.a2; have q0 := hSW.q0; have q1 := hSW.q1; have q2 := hSW.q2; go_simp; try rfl)
                  try simp only [Act.put, List.setIfInBounds_toArray, List.set_cons_zero, List.set_cons_succ]
                  refine held_take 5 ?_ rfl (by kernel_rfl) (by kernel_rfl) (by kernel_rfl) (fun _ _ _ h => h) (by rfl) ?_ hSc ?_
                  rotate_left
                  · (intro W hSW; have a0 := hSW.bx.a0; have a1 := hSW.bx.a1; have a2 := hSW.bx.a2; have q0 := hSW.q0; have q1 := hSW.q1; have q2 := hSW.q2; go_simp; try rfl)
                  try simp only [Act.put, List.setIfInBounds_toArray, List.set_cons_zero, List.set_cons_succ]
                  refine held_next 6 rfl (by kernel_rfl) (by rfl) ?_
                  go_simp
                  refine (hs1 _).mono ?_
                  rintro e wq1 ⟨rfl, bz⟩
                  have hSd : (fun W => Iv w W X Y b boff j) wq1 := hSc.step bz
                  refine ⟨fun W => Iv w W X Y b boff j, fun W hW => hW, hSd, ?_⟩
                  clear hSc bz
                  have hSc := hSd
                  clear hSd
                  try simp only [Act.put, List.setIfInBounds_toArray, List.set_cons_zero, List.set_cons_succ]
                  refine wpAnyH_done (by kernel_rfl) ?_ _
                  have HI1 := Lib.hid hSc
                  clear hSc
                  have a0 := HI1.out.bx.a0
                  have a1 := HI1.out.bx.a1
                  have a2 := HI1.out.bx.a2
                  have q0 := HI1.out.q0
                  have q1 := HI1.out.q1
                  have q2 := HI1.out.q2
                  clear hs1
                  go_wp2_with fail
                  clear a0 a1 a2 q0 q1 q2
                  have hSc := HI1.out.drew
                  refine wp_region_all (S := fun W => Iv w W X Y b boff j) (by kernel_rfl) hSc (fun W0 hSc => ?_)
                  refine held_take 0 ?_ rfl (by kernel_rfl) (by kernel_rfl) (by kernel_rfl) (fun _ _ _ h => h) (by rfl) ?_ hSc ?_
                  rotate_left
                  · (intro W hSW; have a0 := hSW.bx.a0; have a1 := hSW.bx.a1; have a2 := hSW.bx.a2; have q0 := hSW.q0; have q1 := hSW.q1; have q2 := hSW.q2; go_simp; try rfl)
                  try simp only [Act.put, List.setIfInBounds_toArray, List.set_cons_zero, List.set_cons_succ]
                  refine held_take 1 ?_ rfl (by kernel_rfl) (by kernel_rfl) (by kernel_rfl) (fun _ _ _ h => h) (by rfl) ?_ hSc ?_
                  rotate_left
                  · (intro W hSW; have a0 := hSW.bx.a0; have a1 := hSW.bx.a1; have a2 := hSW.bx.a2; have q0 := hSW.q0; have q1 := hSW.q1; have q2 := hSW.q2; go_simp; try rfl)
                  try simp only [Act.put, List.setIfInBounds_toArray, List.set_cons_zero, List.set_cons_succ]
                  refine held_take 2 ?_ rfl (by kernel_rfl) (by kernel_rfl) (by kernel_rfl) (fun _ _ _ h => h) (by rfl) ?_ hSc ?_
                  rotate_left
                  · (intro W hSW; have a0 := hSW.bx.a0; have a1 := hSW.bx.a1; have a2 := hSW.bx.a2; have q0 := hSW.q0; have q1 := hSW.q1; have q2 := hSW.q2; go_simp; try rfl)
                  try simp only [Act.put, List.setIfInBounds_toArray, List.set_cons_zero, List.set_cons_succ]
                  refine held_take 3 ?_ rfl (by kernel_rfl) (by kernel_rfl) (by kernel_rfl) (fun _ _ _ h => h) (by rfl) ?_ hSc ?_
                  rotate_left
                  · (intro W hSW; have a0 := hSW.bx.a0; have a1 := hSW.bx.a1; have a2 := hSW.bx.a2; have q0 := hSW.q0; have q1 := hSW.q1; have q2 := hSW.q2; go_simp; try rfl)
                  try simp only [Act.put, List.setIfInBounds_toArray, List.set_cons_zero, List.set_cons_succ]
                  refine held_take 4 ?_ rfl (by kernel_rfl) (by kernel_rfl) (by kernel_rfl) (fun _ _ _ h => h) (by rfl) ?_ hSc ?_
                  rotate_left
                  · (intro W hSW; have a0 := hSW.bx.a0; have a1 := hSW.bx.a1; have a2 := hSW.bx.a2; have q0 := hSW.q0; have q1 := hSW.q1; have q2 := hSW.q2; go_simp; try rfl)
                  try simp only [Act.put, List.setIfInBounds_toArray, List.set_cons_zero, List.set_cons_succ]
                  refine held_next 5 rfl (by kernel_rfl) (by rfl) ?_
                  go_simp
                  refine (hs3 _).mono ?_
                  rintro e wq2 ⟨rfl, bz⟩
                  have hSd : (fun W => Iv w W X Y b boff j) wq2 := hSc.step bz
                  refine ⟨fun W => Iv w W X Y b boff j, fun W hW => hW, hSd, ?_⟩
                  clear hSc bz
                  have hSc := hSd
                  clear hSd
                  try simp only [Act.put, List.setIfInBounds_toArray, List.set_cons_zero, List.set_cons_succ]
                  refine wpAnyH_done (by kernel_rfl) ?_ _
                  have HI3 := Lib.hid hSc
                  clear hSc
                  have a0 := HI3.out.bx.a0
                  have a1 := HI3.out.bx.a1
                  have a2 := HI3.out.bx.a2
                  have q0 := HI3.out.q0
                  have q1 := HI3.out.q1
                  have q2 := HI3.out.q2
                  clear hs3
                  go_wp2_with fail
                  clear a0 a1 a2 q0 q1 q2
                  have hSc := HI3.out.drew
                  refine wp_region_all (S := fun W => Iv w W X Y b boff j) (by kernel_rfl) hSc (fun W0 hSc => ?_)
                  refine held_take 0 ?_ rfl (by kernel_rfl) (by kernel_rfl) (by kernel_rfl) (fun _ _ _ h => h) (by rfl) ?_ hSc ?_
                  rotate_left
                  · (intro W hSW; have a0 := hSW.bx.a0; have a1 := hSW.bx.a1; have a2 := hSW.bx.a2; have q0 := hSW.q0; have q1 := hSW.q1; have q2 := hSW.q2; go_simp; try rfl)
                  try simp only [Act.put, List.setIfInBounds_toArray, List.set_cons_zero, List.set_cons_succ]
                  refine held_take 1 ?_ rfl (by kernel_rfl) (by kernel_rfl) (by kernel_rfl) (fun _ _ _ h => h) (by rfl) ?_ hSc ?_
                  rotate_left
                  · (intro W hSW; have a0 := hSW.bx.a0; have a1 := hSW.bx.a1; have a2 := hSW.bx.a2; have q0 := hSW.q0; have q1 := hSW.q1; have q2 := hSW.q2; go_simp; try rfl)
                  try simp only [Act.put, List.setIfInBounds_toArray, List.set_cons_zero, List.set_cons_succ]
                  refine held_take 2 ?_ rfl (by kernel_rfl) (by kernel_rfl) (by kernel_rfl) (fun _ _ _ h => h) (by rfl) ?_ hSc ?_
                  rotate_left
                  · (intro W hSW; have a0 := hSW.bx.a0; have a1 := hSW.bx.a1; have a2 := hSW.bx.a2; have q0 := hSW.q0; have q1 := hSW.q1; have q2 := hSW.q2; go_simp; try rfl)
                  try simp only [Act.put, List.setIfInBounds_toArray, List.set_cons_zero, List.set_cons_succ]
                  refine held_take 3 ?_ rfl (by kernel_rfl) (by kernel_rfl) (by kernel_rfl) (fun _ _ _ h => h) (by rfl) ?_ hSc ?_
                  rotate_left
                  · (intro W hSW; have a0 := hSW.bx.a0; have a1 := hSW.bx.a1; have a2 := hSW.bx.a2; have q0 := hSW.q0; have q1 := hSW.q1; have q2 := hSW.q2; go_simp; try rfl)
                  try simp only [Act.put, List.setIfInBounds_toArray, List.set_cons_zero, List.set_cons_succ]
                  refine held_take 4 ?_ rfl (by kernel_rfl) (by kernel_rfl) (by kernel_rfl) (fun _ _ _ h => h) (by rfl) ?_ hSc ?_
                  rotate_left
                  · (intro W hSW; have a0 := hSW.bx.a0; have a1 := hSW.bx.a1; have a2 := hSW.bx.a2; have q0 := hSW.q0; have q1 := hSW.q1; have q2 := hSW.q2; go_simp; try rfl)
                  try simp only [Act.put, List.setIfInBounds_toArray, List.set_cons_zero, List.set_cons_succ]
                  refine held_next 5 rfl (by kernel_rfl) (by rfl) ?_
                  go_simp
                  refine (hs4 _).mono ?_
                  rintro e wq3 ⟨rfl, bz⟩
                  have hSd : (fun W => Iv w W X Y b boff j) wq3 := hSc.step bz
                  refine ⟨fun W => Iv w W X Y b boff j, fun W hW => hW, hSd, ?_⟩
                  clear hSc bz
                  have hSc := hSd
                  clear hSd
                  try simp only [Act.put, List.setIfInBounds_toArray, List.set_cons_zero, List.set_cons_succ]
                  refine wpAnyH_done (by kernel_rfl) ?_ _
                  have HI4 := Lib.hid hSc
                  clear hSc
                  have a0 := HI4.out.bx.a0
                  have a1 := HI4.out.bx.a1
                  have a2 := HI4.out.bx.a2
                  have q0 := HI4.out.q0
                  have q1 := HI4.out.q1
                  have q2 := HI4.out.q2
                  clear hs4
                  go_wp2
                  go_roundw
                  case rel => exact ⟨j + 1, _, by go_num, by omega, rfl, by rw [HSN.out, loV_snoc, HLO.out, if_neg (fun h => by have h1 := h.1; have := HLO2.out; omega)], by rw [HSN.out, hiV_snoc, H1.out]; simp [hjl], by rw [HSN.out, hiV_snoc, H3.out]; simp [hjl], by rw [HSN.out, hiV_snoc, H4.out]; simp, HI4.out.bx⟩
                  case measure => simp [intOf]; omega
                · skip
                  rw [h1] at hs1
                  rw [h3] at hs3
                  rw [h4] at hs4
                  have d1 : decide (LO < 0) = false := decide_eq_false hlo
                  have H1 := Lib.hid h1
                  have H3 := Lib.hid h3
                  have H4 := Lib.hid h4
                  have HLO2 := Lib.hid hlo
                  clear hlo
                  clear h1 h3 h4
                  go_wp2_with fail
                  clear a0 a1 a2 q0 q1 q2
                  have hSc := HI.out.drew
                  refine wp_region_all (S := fun W => Iv w W X Y b boff j) (by kernel_rfl) hSc (fun W0 hSc => ?_)
                  refine held_take 0 ?_ rfl (by kernel_rfl) (by kernel_rfl) (by kernel_rfl) (fun _ _ _ h => h) (by rfl) ?_ hSc ?_
                  rotate_left
                  · (intro W hSW; have a0 := hSW.bx.a0; have a1 := hSW.bx.a1; have a2 := hSW.bx.a2; have q0 := hSW.q0; have q1 := hSW.q1; have q2 := hSW.q2; go_simp; try rfl)
                  try simp only [Act.put, List.setIfInBounds_toArray, List.set_cons_zero, List.set_cons_succ]
                  refine held_take 1 ?_ rfl (by kernel_rfl) (by kernel_rfl) (by kernel_rfl) (fun _ _ _ h => h) (by rfl) ?_ hSc ?_
                  rotate_left
                  · (intro W hSW; have a0 := hSW.bx.a0; have a1 := hSW.bx.a1; have a2 := hSW.bx.a2; have q0 := hSW.q0; have q1 := hSW.q1; have q2 := hSW.q2; go_simp; try rfl)
                  try simp only [Act.put, List.setIfInBounds_toArray, List.set_cons_zero, List.set_cons_succ]
                  refine held_take 2 ?_ rfl (by kernel_rfl) (by kernel_rfl) (by kernel_rfl) (fun _ _ _ h => h) (by rfl) ?_ hSc ?_
                  rotate_left
                  · (intro W hSW; have a0 := hSW.bx.a0; have a1 := hSW.bx.a1; have a2 := hSW.bx.a2; have q0 := hSW.q0; have q1 := hSW.q1; have q2 := hSW.q2; go_simp; try rfl)
                  try simp only [Act.put, List.setIfInBounds_toArray, List.set_cons_zero, List.set_cons_succ]
                  refine held_take 3 ?_ rfl (by kernel_rfl) (by kernel_rfl) (by kernel_rfl) (fun _ _ _ h => h) (by rfl) ?_ hSc ?_
                  rotate_left
                  · (intro W hSW; have a0 := hSW.bx.a0; have a1 := hSW.bx.a1; have a2 := hSW.bx.a2; have q0 := hSW.q0; have q1 := hSW.q1; have q2 := hSW.q2; go_simp; try rfl)
                  try simp only [Act.put, List.setIfInBounds_toArray, List.set_cons_zero, List.set_cons_succ]
                  refine held_take 4 ?_ rfl (by kernel_rfl) (by kernel_rfl) (by kernel_rfl) (fun _ _ _ h => h) (by rfl) ?_ hSc ?_
                  rotate_left
                  · (intro W hSW; have a0 := hSW.bx.a0; have a1 := hSW.bx.a1; have a2 := hSW.bx.a2; have q0 := hSW.q0; have q1 := hSW.q1; have q2 := hSW.q2; go_simp; try rfl)
                  try simp only [Act.put, List.setIfInBounds_toArray, List.set_cons_zero, List.set_cons_succ]
                  refine held_take 5 ?_ rfl (by kernel_rfl) (by kernel_rfl) (by kernel_rfl) (fun _ _ _ h => h) (by rfl) ?_ hSc ?_
                  rotate_left
                  · (intro W hSW; have a0 := hSW.bx.a0; have a1 := hSW.bx.a1; have a2 := hSW.bx.a2; have q0 := hSW.q0; have q1 := hSW.q1; have q2 := hSW.q2; go_simp; try rfl)
                  try simp only [Act.put, List.setIfInBounds_toArray, List.set_cons_zero, List.set_cons_succ]
                  refine held_next 6 rfl (by kernel_rfl) (by rfl) ?_
                  go_simp
                  refine (hs1 _).mono ?_
                  rintro e wq1 ⟨rfl, bz⟩
                  have hSd : (fun W => Iv w W X Y b boff j) wq1 := hSc.step bz
                  refine ⟨fun W => Iv w W X Y b boff j, fun W hW => hW, hSd, ?_⟩
                  clear hSc bz
                  have hSc := hSd
                  clear hSd
                  try simp only [Act.put, List.setIfInBounds_toArray, List.set_cons_zero, List.set_cons_succ]
                  refine wpAnyH_done (by kernel_rfl) ?_ _
                  have HI1 := Lib.hid hSc
                  clear hSc
                  have a0 := HI1.out.bx.a0
                  have a1 := HI1.out.bx.a1
                  have a2 := HI1.out.bx.a2
                  have q0 := HI1.out.q0
                  have q1 := HI1.out.q1
                  have q2 := HI1.out.q2
                  clear hs1
                  go_wp2_with fail
                  clear a0 a1 a2 q0 q1 q2
                  have hSc := HI1.out.drew
                  refine wp_region_all (S := fun W => Iv w W X Y b boff j) (by kernel_rfl) hSc (fun W0 hSc => ?_)
                  refine held_take 0 ?_ rfl (by kernel_rfl) (by kernel_rfl) (by kernel_rfl) (fun _ _ _ h => h) (by rfl) ?_ hSc ?_
                  rotate_left
                  · (intro W hSW; have a0 := hSW.bx.a0; have a1 := hSW.bx.a1; have a2 := hSW.bx.a2; have q0 := hSW.q0; have q1 := hSW.q1; have q2 := hSW.q2; go_simp; try rfl)
                  try simp only [Act.put, List.setIfInBounds_toArray, List.set_cons_zero, List.set_cons_succ]
                  refine held_take 1 ?_ rfl (by kernel_rfl) (by kernel_rfl) (by kernel_rfl) (fun _ _ _ h => h) (by rfl) ?_ hSc ?_
                  rotate_left
                  · (intro W hSW; have a0 := hSW.bx.a0; have a1 := hSW.bx.a1; have a2 := hSW.bx.a2; have q0 := hSW.q0; have q1 := hSW.q1; have q2 := hSW.q2; go_simp; try rfl)
                  try simp only [Act.put, List.setIfInBounds_toArray, List.set_cons_zero, List.set_cons_succ]
                  refine held_take 2 ?_ rfl (by kernel_rfl) (by kernel_rfl) (by kernel_rfl) (fun _ _ _ h => h) (by rfl) ?_ hSc ?_
                  rotate_left
                  · (intro W hSW; have a0 := hSW.bx.a0; have a1 := hSW.bx.a1; have a2 := hSW.bx.a2; have q0 := hSW.q0; have q1 := hSW.q1; have q2 := hSW.q2; go_simp; try rfl)
                  try simp only [Act.put, List.setIfInBounds_toArray, List.set_cons_zero, List.set_cons_succ]
                  refine held_take 3 ?_ rfl (by kernel_rfl) (by kernel_rfl) (by kernel_rfl) (fun _ _ _ h => h) (by rfl) ?_ hSc ?_
                  rotate_left
                  · (intro W hSW; have a0 := hSW.bx.a0; have a1 := hSW.bx.a1; have a2 := hSW.bx.a2; have q0 := hSW.q0; have q1 := hSW.q1; have q2 := hSW.q2; go_simp; try rfl)
                  try simp only [Act.put, List.setIfInBounds_toArray, List.set_cons_zero, List.set_cons_succ]
                  refine held_take 4 ?_ rfl (by kernel_rfl) (by kernel_rfl) (by kernel_rfl) (fun _ _ _ h => h) (by rfl) ?_ hSc ?_
                  rotate_left
                  · (intro W hSW; have a0 := hSW.bx.a0; have a1 := hSW.bx.a1; have a2 := hSW.bx.a2; have q0 := hSW.q0; have q1 := hSW.q1; have q2 := hSW.q2; go_simp; try rfl)
                  try simp only [Act.put, List.setIfInBounds_toArray, List.set_cons_zero, List.set_cons_succ]
                  refine held_next 5 rfl (by kernel_rfl) (by rfl) ?_
                  go_simp
                  refine (hs3 _).mono ?_
                  rintro e wq2 ⟨rfl, bz⟩
                  have hSd : (fun W => Iv w W X Y b boff j) wq2 := hSc.step bz
                  refine ⟨fun W => Iv w W X Y b boff j, fun W hW => hW, hSd, ?_⟩
                  clear hSc bz
                  have hSc := hSd
                  clear hSd
                  try simp only [Act.put, List.setIfInBounds_toArray, List.set_cons_zero, List.set_cons_succ]
                  refine wpAnyH_done (by kernel_rfl) ?_ _
                  have HI3 := Lib.hid hSc
                  clear hSc
                  have a0 := HI3.out.bx.a0
                  have a1 := HI3.out.bx.a1
                  have a2 := HI3.out.bx.a2
                  have q0 := HI3.out.q0
                  have q1 := HI3.out.q1
                  have q2 := HI3.out.q2
                  clear hs3
                  go_wp2_with fail
                  clear a0 a1 a2 q0 q1 q2
                  have hSc := HI3.out.drew
                  refine wp_region_all (S := fun W => Iv w W X Y b boff j) (by kernel_rfl) hSc (fun W0 hSc => ?_)
                  refine held_take 0 ?_ rfl (by kernel_rfl) (by kernel_rfl) (by kernel_rfl) (fun _ _ _ h => h) (by rfl) ?_ hSc ?_
                  rotate_left
                  · (intro W hSW; have a0 := hSW.bx.a0; have a1 := hSW.bx.a1; have a2 := hSW.bx.a2; have q0 := hSW.q0; have q1 := hSW.q1; have q2 := hSW.q2; go_simp; try rfl)
                  try simp only [Act.put, List.setIfInBounds_toArray, List.set_cons_zero, List.set_cons_succ]
                  refine held_take 1 ?_ rfl (by kernel_rfl) (by kernel_rfl) (by kernel_rfl) (fun _ _ _ h => h) (by rfl) ?_ hSc ?_
                  rotate_left
                  · (intro W hSW; have a0 := hSW.bx.a0; have a1 := hSW.bx.a1; have a2 := hSW.bx.a2; have q0 := hSW.q0; have q1 := hSW.q1; have q2 := hSW.q2; go_simp; try rfl)
                  try simp only [Act.put, List.setIfInBounds_toArray, List.set_cons_zero, List.set_cons_succ]
                  refine held_take 2 ?_ rfl (by kernel_rfl) (by kernel_rfl) (by kernel_rfl) (fun _ _ _ h => h) (by rfl) ?_ hSc ?_
                  rotate_left
                  · (intro W hSW; have a0 := hSW.bx.a0; have a1 := hSW.bx.a1; have a2 := hSW.bx.a2; have q0 := hSW.q0; have q1 := hSW.q1; have q2 := hSW.q2; go_simp; try rfl)
                  try simp only [Act.put, List.setIfInBounds_toArray, List.set_cons_zero, List.set_cons_succ]
                  refine held_take 3 ?_ rfl (by kernel_rfl) (by kernel_rfl) (by kernel_rfl) (fun _ _ _ h => h) (by rfl) ?_ hSc ?_
                  rotate_left
                  · (intro W hSW; have a0 := hSW.bx.a0; have a1 := hSW.bx.a1; have a2 := hSW.bx.a2; have q0 := hSW.q0; have q1 := hSW.q1; have q2 := hSW.q2; go_simp; try rfl)
                  try simp only [Act.put, List.setIfInBounds_toArray, List.set_cons_zero, List.set_cons_succ]
                  refine held_take 4 ?_ rfl (by kernel_rfl) (by kernel_rfl) (by kernel_rfl) (fun _ _ _ h => h) (by rfl) ?_ hSc ?_
                  rotate_left
                  · (intro W hSW; have a0 := hSW.bx.a0; have a1 := hSW.bx.a1; have a2 := hSW.bx.a2; have q0 := hSW.q0; have q1 := hSW.q1; have q2 := hSW.q2; go_simp; try rfl)
                  try simp only [Act.put, List.setIfInBounds_toArray, List.set_cons_zero, List.set_cons_succ]
                  refine held_next 5 rfl (by kernel_rfl) (by rfl) ?_
                  go_simp
                  refine (hs4 _).mono ?_
                  rintro e wq3 ⟨rfl, bz⟩
                  have hSd : (fun W => Iv w W X Y b boff j) wq3 := hSc.step bz
                  refine ⟨fun W => Iv w W X Y b boff j, fun W hW => hW, hSd, ?_⟩
                  clear hSc bz
                  have hSc := hSd
                  clear hSd
                  try simp only [Act.put, List.setIfInBounds_toArray, List.set_cons_zero, List.set_cons_succ]
                  refine wpAnyH_done (by kernel_rfl) ?_ _
                  have HI4 := Lib.hid hSc
                  clear hSc
                  have a0 := HI4.out.bx.a0
                  have a1 := HI4.out.bx.a1
                  have a2 := HI4.out.bx.a2
                  have q0 := HI4.out.q0
                  have q1 := HI4.out.q1
                  have q2 := HI4.out.q2
                  clear hs4
                  go_wp2
                  go_roundw
                  case rel => exact ⟨j + 1, _, by go_num, by omega, rfl, by rw [HSN.out, loV_snoc, HLO.out, if_neg (fun h => by have h1 := h.1; have := HLO2.out; omega)], by rw [HSN.out, hiV_snoc, H1.out]; simp [hjl], by rw [HSN.out, hiV_snoc, H3.out]; simp [hjl], by rw [HSN.out, hiV_snoc, H4.out]; simp [hjl], HI4.out.bx⟩
                  case measure => simp [intOf]; omega
          · skip
            cases h3 : soW 3 X Y
            · skip
              cases h4 : soW 4 X Y
              · skip
                rw [h1] at hs1
                rw [h3] at hs3
                rw [h4] at hs4
                have H1 := Lib.hid h1
                have H3 := Lib.hid h3
                have H4 := Lib.hid h4
                clear h1 h3 h4
                go_wp2_with fail
                clear a0 a1 a2 q0 q1 q2
                have hSc := HI.out.drew
                refine wp_region_all (S := fun W => Iv w W X Y b boff j) (by kernel_rfl) hSc (fun W0 hSc => ?_)
                refine held_take 0 ?_ rfl (by kernel_rfl) (by kernel_rfl) (by kernel_rfl) (fun _ _ _ h => h) (by rfl) ?_ hSc ?_
                rotate_left
                · (intro W hSW; have a0 := hSW.bx.a0; have a1 := hSW.bx.a1; have a2 := hSW.bx.a2; have q0 := hSW.q0; have q1 := hSW.q1; have q2 := hSW.q2; go_simp; try rfl)
                try simp only [Act.put, List.setIfInBounds_toArray, List.set_cons_zero, List.set_cons_succ]
                refine held_take 1 ?_ rfl (by kernel_rfl) (by kernel_rfl) (by kernel_rfl) (fun _ _ _ h => h) (by rfl) ?_ hSc ?_
                rotate_left
                · (intro W hSW; have a0 := hSW.bx.a0; have a1 := hSW.bx.a1; have a2 := hSW.bx.a2; have q0 := hSW.q0; have q1 := hSW.q1; have q2 := hSW.q2; go_simp; try rfl)
                try simp only [Act.put, List.setIfInBounds_toArray, List.set_cons_zero, List.set_cons_succ]
                refine held_take 2 ?_ rfl (by kernel_rfl) (by kernel_rfl) (by kernel_rfl) (fun _ _ _ h => h) (by rfl) ?_ hSc ?_
                rotate_left
                · (intro W hSW; have a0 := hSW.bx.a0; have a1 := hSW.bx.a1; have a2 := hSW.bx.a2; have q0 := hSW.q0; have q1 := hSW.q1; have q2 := hSW.q2; go_simp; try rfl)
                try simp only [Act.put, List.setIfInBounds_toArray, List.set_cons_zero, List.set_cons_succ]
                refine held_take 3 ?_ rfl (by kernel_rfl) (by kernel_rfl) (by kernel_rfl) (fun _ _ _ h => h) (by rfl) ?_ hSc ?_
                rotate_left
                · (intro W hSW; have a0 := hSW.bx.a0; have a1 := hSW.bx.a1; have a2 := hSW.bx.a2; have q0 := hSW.q0; have q1 := hSW.q1; have q2 := hSW.q2; go_simp; try rfl)
                try simp only [Act.put, List.setIfInBounds_toArray, List.set_cons_zero, List.set_cons_succ]
                refine held_take 4 ?_ rfl (by kernel_rfl) (by kernel_rfl) (by kernel_rfl) (fun _ _ _ h => h) (by rfl) ?_ hSc ?_
                rotate_left
                · (intro W hSW; have a0 := hSW.bx.a0; have a1 := hSW.bx.a1; have a2 := hSW.bx.a2; have q0 := hSW.q0; have q1 := hSW.q1; have q2 := hSW.q2; go_simp; try rfl)
                try simp only [Act.put, List.setIfInBounds_toArray, List.set_cons_zero, List.set_cons_succ]
                refine held_take 5 ?_ rfl (by kernel_rfl) (by kernel_rfl) (by kernel_rfl) (fun _ _ _ h => h) (by rfl) ?_ hSc ?_
                rotate_left
                · (intro W hSW; have a0 := hSW.bx.a0; have a1 := hSW.bx.a1; have a2 := hSW.bx.a2; have q0 := hSW.q0; have q1 := hSW.q1; have q2 := hSW.q2; go_simp; try rfl)
                try simp only [Act.put, List.setIfInBounds_toArray, List.set_cons_zero, List.set_cons_succ]
                refine held_next 6 rfl (by kernel_rfl) (by rfl) ?_
                go_simp
                refine (hs1 _).mono ?_
                rintro e wq1 ⟨rfl, bz⟩
                have hSd : (fun W => Iv w W X Y b boff j) wq1 := hSc.step bz
                refine ⟨fun W => Iv w W X Y b boff j, fun W hW => hW, hSd, ?_⟩
                clear hSc bz
                have hSc := hSd
                clear hSd
                try simp only [Act.put, List.setIfInBounds_toArray, List.set_cons_zero, List.set_cons_succ]
                refine wpAnyH_done (by kernel_rfl) ?_ _
                have HI1 := Lib.hid hSc
                clear hSc
                have a0 := HI1.out.bx.a0
                have a1 := HI1.out.bx.a1
                have a2 := HI1.out.bx.a2
                have q0 := HI1.out.q0
                have q1 := HI1.out.q1
                have q2 := HI1.out.q2
                clear hs1
                go_wp2_with fail
                clear a0 a1 a2 q0 q1 q2
                have hSc := HI1.out.drew
                refine wp_region_all (S := fun W => Iv w W X Y b boff j) (by kernel_rfl) hSc (fun W0 hSc => ?_)
                refine held_take 0 ?_ rfl (by kernel_rfl) (by kernel_rfl) (by kernel_rfl) (fun _ _ _ h => h) (by rfl) ?_ hSc ?_
                rotate_left
                · (intro W hSW; have a0 := hSW.bx.a0; have a1 := hSW.bx.a1; have a2 := hSW.bx.a2; have q0 := hSW.q0; have q1 := hSW.q1; have q2 := hSW.q2; go_simp; try rfl)
                try simp only [Act.put, List.setIfInBounds_toArray, List.set_cons_zero, List.set_cons_succ]
                refine held_take 1 ?_ rfl (by kernel_rfl) (by kernel_rfl) (by kernel_rfl) (fun _ _ _ h => h) (by rfl) ?_ hSc ?_
                rotate_left
                · (intro W hSW; have a0 := hSW.bx.a0; have a1 := hSW.bx.a1; have a2 := hSW.bx.a2; have q0 := hSW.q0; have q1 := hSW.q1; have q2 := hSW.q2; go_simp; try rfl)
                try simp only [Act.put, List.setIfInBounds_toArray, List.set_cons_zero, List.set_cons_succ]
                refine held_take 2 ?_ rfl (by kernel_rfl) (by kernel_rfl) (by kernel_rfl) (fun _ _ _ h => h) (by rfl) ?_ hSc ?_
                rotate_left
                · (intro W hSW; have a0 := hSW.bx.a0; have a1 := hSW.bx.a1; have a2 := hSW.bx.a2; have q0 := hSW.q0; have q1 := hSW.q1; have q2 := hSW.q2; go_simp; try rfl)
                try simp only [Act.put, List.setIfInBounds_toArray, List.set_cons_zero, List.set_cons_succ]
                refine held_take 3 ?_ rfl (by kernel_rfl) (by kernel_rfl) (by kernel_rfl) (fun _ _ _ h => h) (by rfl) ?_ hSc ?_
                rotate_left
                · (intro W hSW; have a0 := hSW.bx.a0; have a1 := hSW.bx.a1; have a2 := hSW.bx.a2; have q0 := hSW.q0; have q1 := hSW.q1; have q2 := hSW.q2; go_simp; try rfl)
                try simp only [Act.put, List.setIfInBounds_toArray, List.set_cons_zero, List.set_cons_succ]
                refine held_take 4 ?_ rfl (by kernel_rfl) (by kernel_rfl) (by kernel_rfl) (fun _ _ _ h => h) (by rfl) ?_ hSc ?_
                rotate_left
                · (intro W hSW; have a0 := hSW.bx.a0; have a1 := hSW.bx.a1; have a2 := hSW.bx.a2; have q0 := hSW.q0; have q1 := hSW.q1; have q2 := hSW.q2; go_simp; try rfl)
                try simp only [Act.put, List.setIfInBounds_toArray, List.set_cons_zero, List.set_cons_succ]
                refine held_next 5 rfl (by kernel_rfl) (by rfl) ?_
                go_simp
                refine (hs3 _).mono ?_
                rintro e wq2 ⟨rfl, bz⟩
                have hSd : (fun W => Iv w W X Y b boff j) wq2 := hSc.step bz
                refine ⟨fun W => Iv w W X Y b boff j, fun W hW => hW, hSd, ?_⟩
                clear hSc bz
                have hSc := hSd
                clear hSd
                try simp only [Act.put, List.setIfInBounds_toArray, List.set_cons_zero, List.set_cons_succ]
                refine wpAnyH_done (by kernel_rfl) ?_ _
                have HI3 := Lib.hid hSc
                clear hSc
                have a0 := HI3.out.bx.a0
                have a1 := HI3.out.bx.a1
                have a2 := HI3.out.bx.a2
                have q0 := HI3.out.q0
                have q1 := HI3.out.q1
                have q2 := HI3.out.q2
                clear hs3
                go_wp2_with fail
                clear a0 a1 a2 q0 q1 q2
                have hSc := HI3.out.drew
                refine wp_region_all (S := fun W => Iv w W X Y b boff j) (by kernel_rfl) hSc (fun W0 hSc => ?_)
                refine held_take 0 ?_ rfl (by kernel_rfl) (by kernel_rfl) (by kernel_rfl) (fun _ _ _ h => h) (by rfl) ?_ hSc ?_
                rotate_left
                · (intro W hSW; have a0 := hSW.bx.a0; have a1 := hSW.bx.a1; have a2 := hSW.bx.a2; have q0 := hSW.q0; have q1 := hSW.q1; have q2 := hSW.q2; go_simp; try rfl)
                try simp only [Act.put, List.setIfInBounds_toArray, List.set_cons_zero, List.set_cons_succ]
                refine held_take 1 ?_ rfl (by kernel_rfl) (by kernel_rfl) (by kernel_rfl) (fun _ _ _ h => h) (by rfl) ?_ hSc ?_
                rotate_left
                · (intro W hSW; have a0 := hSW.bx.a0; have a1 := hSW.bx.a1; have a2 := hSW.bx.a2; have q0 := hSW.q0; have q1 := hSW.q1; have q2 := hSW.q2; go_simp; try rfl)
                try simp only [Act.put, List.setIfInBounds_toArray, List.set_cons_zero, List.set_cons_succ]
                refine held_take 2 ?_ rfl (by kernel_rfl) (by kernel_rfl) (by kernel_rfl) (fun _ _ _ h => h) (by rfl) ?_ hSc ?_
                rotate_left
                · (intro W hSW; have a0 := hSW.bx.a0; have a1 := hSW.bx.a1; have a2 := hSW.bx.a2; have q0 := hSW.q0; have q1 := hSW.q1; have q2 := hSW.q2; go_simp; try rfl)
                try simp only [Act.put, List.setIfInBounds_toArray, List.set_cons_zero, List.set_cons_succ]
                refine held_take 3 ?_ rfl (by kernel_rfl) (by kernel_rfl) (by kernel_rfl) (fun _ _ _ h => h) (by rfl) ?_ hSc ?_
                rotate_left
                · (intro W hSW; have a0 := hSW.bx.a0; have a1 := hSW.bx.a1; have a2 := hSW.bx.a2; have q0 := hSW.q0; have q1 := hSW.q1; have q2 := hSW.q2; go_simp; try rfl)
                try simp only [Act.put, List.setIfInBounds_toArray, List.set_cons_zero, List.set_cons_succ]
                refine held_take 4 ?_ rfl (by kernel_rfl) (by kernel_rfl) (by kernel_rfl) (fun _ _ _ h => h) (by rfl) ?_ hSc ?_
                rotate_left
                · (intro W hSW; have a0 := hSW.bx.a0; have a1 := hSW.bx.a1; have a2 := hSW.bx.a2; have q0 := hSW.q0; have q1 := hSW.q1; have q2 := hSW.q2; go_simp; try rfl)
                try simp only [Act.put, List.setIfInBounds_toArray, List.set_cons_zero, List.set_cons_succ]
                refine held_next 5 rfl (by kernel_rfl) (by rfl) ?_
                go_simp
                refine (hs4 _).mono ?_
                rintro e wq3 ⟨rfl, bz⟩
                have hSd : (fun W => Iv w W X Y b boff j) wq3 := hSc.step bz
                refine ⟨fun W => Iv w W X Y b boff j, fun W hW => hW, hSd, ?_⟩
                clear hSc bz
                have hSc := hSd
                clear hSd
                try simp only [Act.put, List.setIfInBounds_toArray, List.set_cons_zero, List.set_cons_succ]
                refine wpAnyH_done (by kernel_rfl) ?_ _
                have HI4 := Lib.hid hSc
                clear hSc
                have a0 := HI4.out.bx.a0
                have a1 := HI4.out.bx.a1
                have a2 := HI4.out.bx.a2
                have q0 := HI4.out.q0
                have q1 := HI4.out.q1
                have q2 := HI4.out.q2
                clear hs4
                go_wp2
                go_roundw
                case rel => exact ⟨j + 1, _, by go_num, by omega, rfl, by rw [HSN.out, loV_snoc, HLO.out, H1.out]; simp, by rw [HSN.out, hiV_snoc, H1.out]; simp, by rw [HSN.out, hiV_snoc, H3.out]; simp, by rw [HSN.out, hiV_snoc, H4.out]; simp, HI4.out.bx⟩
                case measure => simp [intOf]; omega
              · skip
                rw [h1] at hs1
                rw [h3] at hs3
                rw [h4] at hs4
                have H1 := Lib.hid h1
                have H3 := Lib.hid h3
                have H4 := Lib.hid h4
                clear h1 h3 h4
                go_wp2_with fail
                clear a0 a1 a2 q0 q1 q2
                have hSc := HI.out.drew
                refine wp_region_all (S := fun W => Iv w W X Y b boff j) (by kernel_rfl) hSc (fun W0 hSc => ?_)
                refine held_take 0 ?_ rfl (by kernel_rfl) (by kernel_rfl) (by kernel_rfl) (fun _ _ _ h => h) (by rfl) ?_ hSc ?_
                rotate_left
                · (intro W hSW; have a0 := hSW.bx.a0; have a1 := hSW.bx.a1; have a2 := hSW.bx.a2; have q0 := hSW.q0; have q1 := hSW.q1; have q2 := hSW.q2; go_simp; try rfl)
                try simp only [Act.put, List.setIfInBounds_toArray, List.set_cons_zero, List.set_cons_succ]
                refine held_take 1 ?_ rfl (by kernel_rfl) (by kernel_rfl) (by kernel_rfl) (fun _ _ _ h => h) (by rfl) ?_ hSc ?_
                rotate_left
                · (intro W hSW; have a0 := hSW.bx.a0; have a1 := hSW.bx.a1; have a2 := hSW.bx.a2; have q0 := hSW.q0; have q1 := hSW.q1; have q2 := hSW.q2; go_simp; try rfl)
                try simp only [Act.put, List.setIfInBounds_toArray, List.set_cons_zero, List.set_cons_succ]
                refine held_take 2 ?_ rfl (by kernel_rfl) (by kernel_rfl) (by kernel_rfl) (fun _ _ _ h => h) (by rfl) ?_ hSc ?_
                rotate_left
                · (intro W hSW; have a0 := hSW.bx.a0; have a1 := hSW.bx.a1; have a2 := hSW.bx.a2; have q0 := hSW.q0; have q1 := hSW.q1; have q2 := hSW.q2; go_simp; try rfl)
                try simp only [Act.put, List.setIfInBounds_toArray, List.set_cons_zero, List.set_cons_succ]
                refine held_take 3 ?_ rfl (by kernel_rfl) (by kernel_rfl) (by kernel_rfl) (fun _ _ _ h => h) (by rfl) ?_ hSc ?_
                rotate_left
                · (intro W hSW; have a0 := hSW.bx.a0; have a1 := hSW.bx.a1; have a2 := hSW.bx.a2; have q0 := hSW.q0; have q1 := hSW.q1; have q2 := hSW.q2; go_simp; try rfl)
                try simp only [Act.put, List.setIfInBounds_toArray, List.set_cons_zero, List.set_cons_succ]
                refine held_take 4 ?_ rfl (by kernel_rfl) (by kernel_rfl) (by kernel_rfl) (fun _ _ _ h => h) (by rfl) ?_ hSc ?_
                rotate_left
                · (intro W hSW; have a0 := hSW.bx.a0; have a1 := hSW.bx.a1; have a2 := hSW.bx.a2; have q0 := hSW.q0; have q1 := hSW.q1; have q2 := hSW.q2; go_simp; try rfl)
                try simp only [Act.put, List.setIfInBounds_toArray, List.set_cons_zero, List.set_cons_succ]
                refine held_take 5 ?_ rfl (by kernel_rfl) (by kernel_rfl) (by kernel_rfl) (fun _ _ _ h => h) (by rfl) ?_ hSc ?_
                rotate_left
                · (intro W hSW; have a0 := hSW.bx.a0; have a1 := hSW.bx.a1; have a2 := hSW.bx.a2; have q0 := hSW.q0; have q1 := hSW.q1; have q2 := hSW.q2; go_simp; try rfl)
                try simp only [Act.put, List.setIfInBounds_toArray, List.set_cons_zero, List.set_cons_succ]
                refine held_next 6 rfl (by kernel_rfl) (by rfl) ?_
                go_simp
                refine (hs1 _).mono ?_
                rintro e wq1 ⟨rfl, bz⟩
                have hSd : (fun W => Iv w W X Y b boff j) wq1 := hSc.step bz
                refine ⟨fun W => Iv w W X Y b boff j, fun W hW => hW, hSd, ?_⟩
                clear hSc bz
                have hSc := hSd
                clear hSd
                try simp only [Act.put, List.setIfInBounds_toArray, List.set_cons_zero, List.set_cons_succ]
                refine wpAnyH_done (by kernel_rfl) ?_ _
                have HI1 := Lib.hid hSc
                clear hSc
                have a0 := HI1.out.bx.a0
                have a1 := HI1.out.bx.a1
                have a2 := HI1.out.bx.a2
                have q0 := HI1.out.q0
                have q1 := HI1.out.q1
                have q2 := HI1.out.q2
                clear hs1
                go_wp2_with fail
                clear a0 a1 a2 q0 q1 q2
                have hSc := HI1.out.drew
                refine wp_region_all (S := fun W => Iv w W X Y b boff j) (by kernel_rfl) hSc (fun W0 hSc => ?_)
                refine held_take 0 ?_ rfl (by kernel_rfl) (by kernel_rfl) (by kernel_rfl) (fun _ _ _ h => h) (by rfl) ?_ hSc ?_
                rotate_left
                · (intro W hSW; have a0 := hSW.bx.a0; have a1 := hSW.bx.a1; have a2 := hSW.bx.a2; have q0 := hSW.q0; have q1 := hSW.q1; have q2 := hSW.q2; go_simp; try rfl)
                try simp only [Act.put, List.setIfInBounds_toArray, List.set_cons_zero, List.set_cons_succ]
                refine held_take 1 ?_ rfl (by kernel_rfl) (by kernel_rfl) (by kernel_rfl) (fun _ _ _ h => h) (by rfl) ?_ hSc ?_
                rotate_left
                · (intro W hSW; have a0 := hSW.bx.a0; have a1 := hSW.bx.a1; have a2 := hSW.bx.a2; have q0 := hSW.q0; have q1 := hSW.q1; have q2 := hSW.q2; go_simp; try rfl)
                try simp only [Act.put, List.setIfInBounds_toArray, List.set_cons_zero, List.set_cons_succ]
                refine held_take 2 ?_ rfl (by kernel_rfl) (by kernel_rfl) (by kernel_rfl) (fun _ _ _ h => h) (by rfl) ?_ hSc ?_
                rotate_left
                · (intro W hSW; have a0 := hSW.bx.a0; have a1 := hSW.bx.a1; have a2 := hSW.bx.a2; have q0 := hSW.q0; have q1 := hSW.q1; have q2 := hSW.q2; go_simp; try rfl)
                try simp only [Act.put, List.setIfInBounds_toArray, List.set_cons_zero, List.set_cons_succ]
                refine held_take 3 ?_ rfl (by kernel_rfl) (by kernel_rfl) (by kernel_rfl) (fun _ _ _ h => h) (by rfl) ?_ hSc ?_
                rotate_left
                · (intro W hSW; have a0 := hSW.bx.a0; have a1 := hSW.bx.a1; have a2 := hSW.bx.a2; have q0 := hSW.q0; have q1 := hSW.q1; have q2 := hSW.q2; go_simp; try rfl)
                try simp only [Act.put, List.setIfInBounds_toArray, List.set_cons_zero, List.set_cons_succ]
                refine held_take 4 ?_ rfl (by kernel_rfl) (by kernel_rfl) (by kernel_rfl) (fun _ _ _ h => h) (by rfl) ?_ hSc ?_
                rotate_left
                · (intro W hSW; have a0 := hSW.bx.a0; have a1 := hSW.bx.a1; have a2 := hSW.bx.a2; have q0 := hSW.q0; have q1 := hSW.q1; have q2 := hSW.q2; go_simp; try rfl)
                try simp only [Act.put, List.setIfInBounds_toArray, List.set_cons_zero, List.set_cons_succ]
                refine held_next 5 rfl (by kernel_rfl) (by rfl) ?_
                go_simp
                refine (hs3 _).mono ?_
                rintro e wq2 ⟨rfl, bz⟩
                have hSd : (fun W => Iv w W X Y b boff j) wq2 := hSc.step bz
                refine ⟨fun W => Iv w W X Y b boff j, fun W hW => hW, hSd, ?_⟩
                clear hSc bz
                have hSc := hSd
                clear hSd
                try simp only [Act.put, List.setIfInBounds_toArray, List.set_cons_zero, List.set_cons_succ]
                refine wpAnyH_done (by kernel_rfl) ?_ _
                have HI3 := Lib.hid hSc
                clear hSc
                have a0 := HI3.out.bx.a0
                have a1 := HI3.out.bx.a1
                have a2 := HI3.out.bx.a2
                have q0 := HI3.out.q0
                have q1 := HI3.out.q1
                have q2 := HI3.out.q2
                clear hs3
                go_wp2_with fail
                clear a0 a1 a2 q0 q1 q2
                have hSc := HI3.out.drew
                refine wp_region_all (S := fun W => Iv w W X Y b boff j) (by kernel_rfl) hSc (fun W0 hSc => ?_)
                refine held_take 0 ?_ rfl (by kernel_rfl) (by kernel_rfl) (by kernel_rfl) (fun _ _ _ h => h) (by rfl) ?_ hSc ?_
                rotate_left
                · (intro W hSW; have a0 := hSW.bx.a0; have a1 := hSW.bx.a1; have a2 := hSW.bx.a2; have q0 := hSW.q0; have q1 := hSW.q1; have q2 := hSW.q2; go_simp; try rfl)
                try simp only [Act.put, List.setIfInBounds_toArray, List.set_cons_zero, List.set_cons_succ]
                refine held_take 1 ?_ rfl (by kernel_rfl) (by kernel_rfl) (by kernel_rfl) (fun _ _ _ h => h) (by rfl) ?_ hSc ?_
                rotate_left
                · (intro W hSW; have a0 := hSW.bx.a0; have a1 := hSW.bx.a1; have a2 := hSW.bx.a2; have q0 := hSW.q0; have q1 := hSW.q1; have q2 := hSW.q2; go_simp; try rfl)
                try simp only [Act.put, List.setIfInBounds_toArray, List.set_cons_zero, List.set_cons_succ]
                refine held_take 2 ?_ rfl (by kernel_rfl) (by kernel_rfl) (by kernel_rfl) (fun _ _ _ h => h) (by rfl) ?_ hSc ?_
                rotate_left
                · (intro W hSW; have a0 := hSW.bx.a0; have a1 := hSW.bx.a1; have a2 := hSW.bx.a2; have q0 := hSW.q0; have q1 := hSW.q1; have q2 := hSW.q2; go_simp; try rfl)
                try simp only [Act.put, List.setIfInBounds_toArray, List.set_cons_zero, List.set_cons_succ]
                refine held_take 3 ?_ rfl (by kernel_rfl) (by kernel_rfl) (by kernel_rfl) (fun _ _ _ h => h) (by rfl) ?_ hSc ?_
                rotate_left
                · (intro W hSW; have a0 := hSW.bx.a0; have a1 := hSW.bx.a1; have a2 := hSW.bx.a2; have q0 := hSW.q0; have q1 := hSW.q1; have q2 := hSW.q2; go_simp; try rfl)
                try simp only [Act.put, List.setIfInBounds_toArray, List.set_cons_zero, List.set_cons_succ]
                refine held_take 4 ?_ rfl (by kernel_rfl) (by kernel_rfl) (by kernel_rfl) (fun _ _ _ h => h) (by rfl) ?_ hSc ?_
                rotate_left
                · (intro W hSW; have a0 := hSW.bx.a0; have a1 := hSW.bx.a1; have a2 := hSW.bx.a2; have q0 := hSW.q0; have q1 := hSW.q1; have q2 := hSW.q2; go_simp; try rfl)
                try simp only [Act.put, List.setIfInBounds_toArray, List.set_cons_zero, List.set_cons_succ]
                refine held_next 5 rfl (by kernel_rfl) (by rfl) ?_
                go_simp
                refine (hs4 _).mono ?_
                rintro e wq3 ⟨rfl, bz⟩
                have hSd : (fun W => Iv w W X Y b boff j) wq3 := hSc.step bz
                refine ⟨fun W => Iv w W X Y b boff j, fun W hW => hW, hSd, ?_⟩
                clear hSc bz
                have hSc := hSd
                clear hSd
                try simp only [Act.put, List.setIfInBounds_toArray, List.set_cons_zero, List.set_cons_succ]
                refine wpAnyH_done (by kernel_rfl) ?_ _
                have HI4 := Lib.hid hSc
                clear hSc
                have a0 := HI4.out.bx.a0
                have a1 := HI4.out.bx.a1
                have a2 := HI4.out.bx.a2
                have q0 := HI4.out.q0
                have q1 := HI4.out.q1
                have q2 := HI4.out.q2
                clear hs4
                go_wp2
                go_roundw
                case rel => exact ⟨j + 1, _, by go_num, by omega, rfl, by rw [HSN.out, loV_snoc, HLO.out, H1.out]; simp, by rw [HSN.out, hiV_snoc, H1.out]; simp, by rw [HSN.out, hiV_snoc, H3.out]; simp, by rw [HSN.out, hiV_snoc, H4.out]; simp [hjl], HI4.out.bx⟩
                case measure => simp [intOf]; omega
            · skip
              cases h4 : soW 4 X Y
              · skip
                rw [h1] at hs1
                rw [h3] at hs3
                rw [h4] at hs4
                have H1 := Lib.hid h1
                have H3 := Lib.hid h3
                have H4 := Lib.hid h4
                clear h1 h3 h4
                go_wp2_with fail
                clear a0 a1 a2 q0 q1 q2
                have hSc := HI.out.drew
                refine wp_region_all (S := fun W => Iv w W X Y b boff j) (by kernel_rfl) hSc (fun W0 hSc => ?_)
                refine held_take 0 ?_ rfl (by kernel_rfl) (by kernel_rfl) (by kernel_rfl) (fun _ _ _ h => h) (by rfl) ?_ hSc ?_
                rotate_left
                · (intro W hSW; have a0 := hSW.bx.a0; have a1 := hSW.bx.a1; have a2 := hSW.bx.a2; have q0 := hSW.q0; have q1 := hSW.q1; have q2 := hSW.q2; go_simp; try rfl)
                try simp only [Act.put, List.setIfInBounds_toArray, List.set_cons_zero, List.set_cons_succ]
                refine held_take 1 ?_ rfl (by kernel_rfl) (by kernel_rfl) (by kernel_rfl) (fun _ _ _ h => h) (by rfl) ?_ hSc ?_
                rotate_left
                · (intro W hSW; have a0 := hSW.bx.a0; have a1 := hSW.bx.a1; have a2 := hSW.bx.a2; have q0 := hSW.q0; have q1 := hSW.q1; have q2 := hSW.q2; go_simp; try rfl)
                try simp only [Act.put, List.setIfInBounds_toArray, List.set_cons_zero, List.set_cons_succ]
                refine held_take 2 ?_ rfl (by kernel_rfl) (by kernel_rfl) (by kernel_rfl) (fun _ _ _ h => h) (by rfl) ?_ hSc ?_
                rotate_left
                · (intro W hSW; have a0 := hSW.bx.a0; have a1 := hSW.bx.a1; have a2 := hSW.bx.a2; have q0 := hSW.q0; have q1 := hSW.q1; have q2 := hSW.q2; go_simp; try rfl)
                try simp only [Act.put, List.setIfInBounds_toArray, List.set_cons_zero, List.set_cons_succ]
                refine held_take 3 ?_ rfl (by kernel_rfl) (by kernel_rfl) (by kernel_rfl) (fun _ _ _ h => h) (by rfl) ?_ hSc ?_
                rotate_left
                · (intro W hSW; have a0 := hSW.bx.a0; have a1 := hSW.bx.a1; have a2 := hSW.bx.a2; have q0 := hSW.q0; have q1 := hSW.q1; have q2 := hSW.q2; go_simp; try rfl)
                try simp only [Act.put, List.setIfInBounds_toArray, List.set_cons_zero, List.set_cons_succ]
                refine held_take 4 ?_ rfl (by kernel_rfl) (by kernel_rfl) (by kernel_rfl) (fun _ _ _ h => h) (by rfl) ?_ hSc ?_
                rotate_left
                · (intro W hSW; have a0 := hSW.bx.a0; have a1 := hSW.bx.a1; have a2 := hSW.bx.a2; have q0 := hSW.q0; have q1 := hSW.q1; have q2 := hSW.q2; go_simp; try rfl)
                try simp only [Act.put, List.setIfInBounds_toArray, List.set_cons_zero, List.set_cons_succ]
                refine held_take 5 ?_ rfl (by kernel_rfl) (by kernel_rfl) (by kernel_rfl) (fun _ _ _ h => h) (by rfl) ?_ hSc ?_
                rotate_left
                · (intro W hSW; have a0 := hSW.bx.a0; have a1 := hSW.bx.a1; have a2 := hSW.bx.a2; have q0 := hSW.q0; have q1 := hSW.q1; have q2 := hSW.q2; go_simp; try rfl)
                try simp only [Act.put, List.setIfInBounds_toArray, List.set_cons_zero, List.set_cons_succ]
                refine held_next 6 rfl (by kernel_rfl) (by rfl) ?_
                go_simp
                refine (hs1 _).mono ?_
                rintro e wq1 ⟨rfl, bz⟩
                have hSd : (fun W => Iv w W X Y b boff j) wq1 := hSc.step bz
                refine ⟨fun W => Iv w W X Y b boff j, fun W hW => hW, hSd, ?_⟩
                clear hSc bz
                have hSc := hSd
                clear hSd
                try simp only [Act.put, List.setIfInBounds_toArray, List.set_cons_zero, List.set_cons_succ]
                refine wpAnyH_done (by kernel_rfl) ?_ _
                have HI1 := Lib.hid hSc
                clear hSc
                have a0 := HI1.out.bx.a0
                have a1 := HI1.out.bx.a1
                have a2 := HI1.out.bx.a2
                have q0 := HI1.out.q0
                have q1 := HI1.out.q1
                have q2 := HI1.out.q2
                clear hs1
                go_wp2_with fail
                clear a0 a1 a2 q0 q1 q2
                have hSc := HI1.out.drew
                refine wp_region_all (S := fun W => Iv w W X Y b boff j) (by kernel_rfl) hSc (fun W0 hSc => ?_)
                refine held_take 0 ?_ rfl (by kernel_rfl) (by kernel_rfl) (by kernel_rfl) (fun _ _ _ h => h) (by rfl) ?_ hSc ?_
                rotate_left
                · (intro W hSW; have a0 := hSW.bx.a0; have a1 := hSW.bx.a1; have a2 := hSW.bx.a2; have q0 := hSW.q0; have q1 := hSW.q1; have q2 := hSW.q2; go_simp; try rfl)
                try simp only [Act.put, List.setIfInBounds_toArray, List.set_cons_zero, List.set_cons_succ]
                refine held_take 1 ?_ rfl (by kernel_rfl) (by kernel_rfl) (by kernel_rfl) (fun _ _ _ h => h) (by rfl) ?_ hSc ?_
                rotate_left
                · (intro W hSW; have a0 := hSW.bx.a0; have a1 := hSW.bx.a1; have a2 := hSW.bx.a2; have q0 := hSW.q0; have q1 := hSW.q1; have q2 := hSW.q2; go_simp; try rfl)
                try simp only [Act.put, List.setIfInBounds_toArray, List.set_cons_zero, List.set_cons_succ]
                refine held_take 2 ?_ rfl (by kernel_rfl) (by kernel_rfl) (by kernel_rfl) (fun _ _ _ h => h) (by rfl) ?_ hSc ?_
                rotate_left
                · (intro W hSW; have a0 := hSW.bx.a0; have a1 := hSW.bx.a1; have a2 := hSW.bx.a2; have q0 := hSW.q0; have q1 := hSW.q1; have q2 := hSW.q2; go_simp; try rfl)
                try simp only [Act.put, List.setIfInBounds_toArray, List.set_cons_zero, List.set_cons_succ]
                refine held_take 3 ?_ rfl (by kernel_rfl) (by kernel_rfl) (by kernel_rfl) (fun _ _ _ h => h) (by rfl) ?_ hSc ?_
                rotate_left
                · (intro W hSW; have a0 := hSW.bx.a0; have a1 := hSW.bx.a1; have a2 := hSW.bx.a2; have q0 := hSW.q0; have q1 := hSW.q1; have q2 := hSW.q2; go_simp; try rfl)
                try simp only [Act.put, List.setIfInBounds_toArray, List.set_cons_zero, List.set_cons_succ]
                refine held_take 4 ?_ rfl (by kernel_rfl) (by kernel_rfl) (by kernel_rfl) (fun _ _ _ h => h) (by rfl) ?_ hSc ?_
                rotate_left
                · (intro W hSW; have a0 := hSW.bx.a0; have a1 := hSW.bx.a1; have a2 := hSW.bx.a2; have q0 := hSW.q0; have q1 := hSW.q1; have q2 := hSW.q2; go_simp; try rfl)
                try simp only [Act.put, List.setIfInBounds_toArray, List.set_cons_zero, List.set_cons_succ]
                refine held_next 5 rfl (by kernel_rfl) (by rfl) ?_
                go_simp
                refine (hs3 _).mono ?_
                rintro e wq2 ⟨rfl, bz⟩
                have hSd : (fun W => Iv w W X Y b boff j) wq2 := hSc.step bz
                refine ⟨fun W => Iv w W X Y b boff j, fun W hW => hW, hSd, ?_⟩
                clear hSc bz
                have hSc := hSd
                clear hSd
                try simp only [Act.put, List.setIfInBounds_toArray, List.set_cons_zero, List.set_cons_succ]
                refine wpAnyH_done (by kernel_rfl) ?_ _
                have HI3 := Lib.hid hSc
                clear hSc
                have a0 := HI3.out.bx.a0
                have a1 := HI3.out.bx.a1
                have a2 := HI3.out.bx.a2
                have q0 := HI3.out.q0
                have q1 := HI3.out.q1
                have q2 := HI3.out.q2
                clear hs3
                go_wp2_with fail
                clear a0 a1 a2 q0 q1 q2
                have hSc := HI3.out.drew
                refine wp_region_all (S := fun W => Iv w W X Y b boff j) (by kernel_rfl) hSc (fun W0 hSc => ?_)
                refine held_take 0 ?_ rfl (by kernel_rfl) (by kernel_rfl) (by kernel_rfl) (fun _ _ _ h => h) (by rfl) ?_ hSc ?_
                rotate_left
                · (intro W hSW; have a0 := hSW.bx.a0; have a1 := hSW.bx.a1; have a2 := hSW.bx.a2; have q0 := hSW.q0; have q1 := hSW.q1; have q2 := hSW.q2; go_simp; try rfl)
                try simp only [Act.put, List.setIfInBounds_toArray, List.set_cons_zero, List.set_cons_succ]
                refine held_take 1 ?_ rfl (by kernel_rfl) (by kernel_rfl) (by kernel_rfl) (fun _ _ _ h => h) (by rfl) ?_ hSc ?_
                rotate_left
                · (intro W hSW; have a0 := hSW.bx.a0; have a1 := hSW.bx.a1; have a2 := hSW.bx.a2; have q0 := hSW.q0; have q1 := hSW.q1; have q2 := hSW.q2; go_simp; try rfl)
                try simp only [Act.put, List.setIfInBounds_toArray, List.set_cons_zero, List.set_cons_succ]
                refine held_take 2 ?_ rfl (by kernel_rfl) (by kernel_rfl) (by kernel_rfl) (fun _ _ _ h => h) (by rfl) ?_ hSc ?_
                rotate_left
                · (intro W hSW; have a0 := hSW.bx.a0; have a1 := hSW.bx.a1; have a2 := hSW.bx.a2; have q0 := hSW.q0; have q1 := hSW.q1; have q2 := hSW.q2; go_simp; try rfl)
                try simp only [Act.put, List.setIfInBounds_toArray, List.set_cons_zero, List.set_cons_succ]
                refine held_take 3 ?_ rfl (by kernel_rfl) (by kernel_rfl) (by kernel_rfl) (fun _ _ _ h => h) (by rfl) ?_ hSc ?_
                rotate_left
                · (intro W hSW; have a0 := hSW.bx.a0; have a1 := hSW.bx.a1; have a2 := hSW.bx.a2; have q0 := hSW.q0; have q1 := hSW.q1; have q2 := hSW.q2; go_simp; try rfl)
                try simp only [Act.put, List.setIfInBounds_toArray, List.set_cons_zero, List.set_cons_succ]
                refine held_take 4 ?_ rfl (by kernel_rfl) (by kernel_rfl) (by kernel_rfl) (fun _ _ _ h => h) (by rfl) ?_ hSc ?_
                rotate_left
                · (intro W hSW; have a0 := hSW.bx.a0; have a1 := hSW.bx.a1; have a2 := hSW.bx.a2; have q0 := hSW.q0; have q1 := hSW.q1; have q2 := hSW.q2; go_simp; try rfl)
                try simp only [Act.put, List.setIfInBounds_toArray, List.set_cons_zero, List.set_cons_succ]
                refine held_next 5 rfl (by kernel_rfl) (by rfl) ?_
                go_simp
                refine (hs4 _).mono ?_
                rintro e wq3 ⟨rfl, bz⟩
                have hSd : (fun W => Iv w W X Y b boff j) wq3 := hSc.step bz
                refine ⟨fun W => Iv w W X Y b boff j, fun W hW => hW, hSd, ?_⟩
                clear hSc bz
                have hSc := hSd
                clear hSd
                try simp only [Act.put, List.setIfInBounds_toArray, List.set_cons_zero, List.set_cons_succ]
                refine wpAnyH_done (by kernel_rfl) ?_ _
                have HI4 := Lib.hid hSc
                clear hSc
                have a0 := HI4.out.bx.a0
                have a1 := HI4.out.bx.a1
                have a2 := HI4.out.bx.a2
                have q0 := HI4.out.q0
                have q1 := HI4.out.q1
                have q2 := HI4.out.q2
                clear hs4
                go_wp2
                go_roundw
                case rel => exact ⟨j + 1, _, by go_num, by omega, rfl, by rw [HSN.out, loV_snoc, HLO.out, H1.out]; simp, by rw [HSN.out, hiV_snoc, H1.out]; simp, by rw [HSN.out, hiV_snoc, H3.out]; simp [hjl], by rw [HSN.out, hiV_snoc, H4.out]; simp, HI4.out.bx⟩
                case measure => simp [intOf]; omega
              · skip
                rw [h1] at hs1
                rw [h3] at hs3
                rw [h4] at hs4
                have H1 := Lib.hid h1
                have H3 := Lib.hid h3
                have H4 := Lib.hid h4
                clear h1 h3 h4
                go_wp2_with fail
                clear a0 a1 a2 q0 q1 q2
                have hSc := HI.out.drew
                refine wp_region_all (S := fun W => Iv w W X Y b boff j) (by kernel_rfl) hSc (fun W0 hSc => ?_)
                refine held_take 0 ?_ rfl (by kernel_rfl) (by kernel_rfl) (by kernel_rfl) (fun _ _ _ h => h) (by rfl) ?_ hSc ?_
                rotate_left
                · (intro W hSW; have a0 := hSW.bx.a0; have a1 := hSW.bx.a1; have a2 := hSW.bx.a2; have q0 := hSW.q0; have q1 := hSW.q1; have q2 := hSW.q2; go_simp; try rfl)
                try simp only [Act.put, List.setIfInBounds_toArray, List.set_cons_zero, List.set_cons_succ]
                refine held_take 1 ?_ rfl (by kernel_rfl) (by kernel_rfl) (by kernel_rfl) (fun _ _ _ h => h) (by rfl) ?_ hSc ?_
                rotate_left
                · (intro W hSW; have a0 := hSW.bx.a0; have a1 := hSW.bx.a1; have a2 := hSW.bx.a2; have q0 := hSW.q0; have q1 := hSW.q1; have q2 := hSW.q2; go_simp; try rfl)
                try simp only [Act.put, List.setIfInBounds_toArray, List.set_cons_zero, List.set_cons_succ]
                refine held_take 2 ?_ rfl (by kernel_rfl) (by kernel_rfl) (by kernel_rfl) (fun _ _ _ h => h) (by rfl) ?_ hSc ?_
                rotate_left
                · (intro W hSW; have a0 := hSW.bx.a0; have a1 := hSW.bx.a1; have a2 := hSW.bx.a2; have q0 := hSW.q0; have q1 := hSW.q1; have q2 := hSW.q2; go_simp; try rfl)
                try simp only [Act.put, List.setIfInBounds_toArray, List.set_cons_zero, List.set_cons_succ]
                refine held_take 3 ?_ rfl (by kernel_rfl) (by kernel_rfl) (by kernel_rfl) (fun _ _ _ h => h) (by rfl) ?_ hSc ?_
                rotate_left
                · (intro W hSW; have a0 := hSW.bx.a0; have a1 := hSW.bx.a1; have a2 := hSW.bx.a2; have q0 := hSW.q0; have q1 := hSW.q1; have q2 := hSW.q2; go_simp; try rfl)
                try simp only [Act.put, List.setIfInBounds_toArray, List.set_cons_zero, List.set_cons_succ]
                refine held_take 4 ?_ rfl (by kernel_rfl) (by kernel_rfl) (by kernel_rfl) (fun _ _ _ h => h) (by rfl) ?_ hSc ?_
                rotate_left
                · (intro W hSW; have a0 := hSW.bx.a0; have a1 := hSW.bx.a1; have a2 := hSW.bx.a2; have q0 := hSW.q0; have q1 := hSW.q1; have q2 := hSW.q2; go_simp; try rfl)
                try simp only [Act.put, List.setIfInBounds_toArray, List.set_cons_zero, List.set_cons_succ]
                refine held_take 5 ?_ rfl (by kernel_rfl) (by kernel_rfl) (by kernel_rfl) (fun _ _ _ h => h) (by rfl) ?_ hSc ?_
                rotate_left
                · (intro W hSW; have a0 := hSW.bx.a0; have a1 := hSW.bx.a1; have a2 := hSW.bx.a2; have q0 := hSW.q0; have q1 := hSW.q1; have q2 := hSW.q2; go_simp; try rfl)
                try simp only [Act.put, List.setIfInBounds_toArray, List.set_cons_zero, List.set_cons_succ]
                refine held_next 6 rfl (by kernel_rfl) (by rfl) ?_
                go_simp
                refine (hs1 _).mono ?_
                rintro e wq1 ⟨rfl, bz⟩
                have hSd : (fun W => Iv w W X Y b boff j) wq1 := hSc.step bz
                refine ⟨fun W => Iv w W X Y b boff j, fun W hW => hW, hSd, ?_⟩
                clear hSc bz
                have hSc := hSd
                clear hSd
                try simp only [Act.put, List.setIfInBounds_toArray, List.set_cons_zero, List.set_cons_succ]
                refine wpAnyH_done (by kernel_rfl) ?_ _
                have HI1 := Lib.hid hSc
                clear hSc
                have a0 := HI1.out.bx.a0
                have a1 := HI1.out.bx.a1
                have a2 := HI1.out.bx.a2
                have q0 := HI1.out.q0
                have q1 := HI1.out.q1
                have q2 := HI1.out.q2
                clear hs1
                go_wp2_with fail
                clear a0 a1 a2 q0 q1 q2
                have hSc := HI1.out.drew
                refine wp_region_all (S := fun W => Iv w W X Y b boff j) (by kernel_rfl) hSc (fun W0 hSc => ?_)
                refine held_take 0 ?_ rfl (by kernel_rfl) (by kernel_rfl) (by kernel_rfl) (fun _ _ _ h => h) (by rfl) ?_ hSc ?_
                rotate_left
                · (intro W hSW; have a0 := hSW.bx.a0; have a1 := hSW.bx.a1; have a2 := hSW.bx.a2; have q0 := hSW.q0; have q1 := hSW.q1; have q2 := hSW.q2; go_simp; try rfl)
                try simp only [Act.put, List.setIfInBounds_toArray, List.set_cons_zero, List.set_cons_succ]
                refine held_take 1 ?_ rfl (by kernel_rfl) (by kernel_rfl) (by kernel_rfl) (fun _ _ _ h => h) (by rfl) ?_ hSc ?_
                rotate_left
                · (intro W hSW; have a0 := hSW.bx.a0; have a1 := hSW.bx.a1; have a2 := hSW.bx.a2; have q0 := hSW.q0; have q1 := hSW.q1; have q2 := hSW.q2; go_simp; try rfl)
                try simp only [Act.put, List.setIfInBounds_toArray, List.set_cons_zero, List.set_cons_succ]
                refine held_take 2 ?_ rfl (by kernel_rfl) (by kernel_rfl) (by kernel_rfl) (fun _ _ _ h => h) (by rfl) ?_ hSc ?_
                rotate_left
                · (intro W hSW; have a0 := hSW.bx.a0; have a1 := hSW.bx.a1; have a2 := hSW.bx.a2; have q0 := hSW.q0; have q1 := hSW.q1; have q2 := hSW.q2; go_simp; try rfl)
                try simp only [Act.put, List.setIfInBounds_toArray, List.set_cons_zero, List.set_cons_succ]
                refine held_take 3 ?_ rfl (by kernel_rfl) (by kernel_rfl) (by kernel_rfl) (fun _ _ _ h => h) (by rfl) ?_ hSc ?_
                rotate_left
                · (intro W hSW; have a0 := hSW.bx.a0; have a1 := hSW.bx.a1; have a2 := hSW.bx.a2; have q0 := hSW.q0; have q1 := hSW.q1; have q2 := hSW.q2; go_simp; try rfl)
                try simp only [Act.put, List.setIfInBounds_toArray, List.set_cons_zero, List.set_cons_succ]
                refine held_take 4 ?_ rfl (by kernel_rfl) (by kernel_rfl) (by kernel_rfl) (fun _ _ _ h => h) (by rfl) ?_ hSc ?_
                rotate_left
                · (intro W hSW; have a0 := hSW.bx.a0; have a1 := hSW.bx.a1; have a2 := hSW.bx.a2; have q0 := hSW.q0; have q1 := hSW.q1; have q2 := hSW.q2; go_simp; try rfl)
                try simp only [Act.put, List.setIfInBounds_toArray, List.set_cons_zero, List.set_cons_succ]
                refine held_next 5 rfl (by kernel_rfl) (by rfl) ?_
                go_simp
                refine (hs3 _).mono ?_
                rintro e wq2 ⟨rfl, bz⟩
                have hSd : (fun W => Iv w W X Y b boff j) wq2 := hSc.step bz
                refine ⟨fun W => Iv w W X Y b boff j, fun W hW => hW, hSd, ?_⟩
                clear hSc bz
                have hSc := hSd
                clear hSd
                try simp only [Act.put, List.setIfInBounds_toArray, List.set_cons_zero, List.set_cons_succ]
                refine wpAnyH_done (by kernel_rfl) ?_ _
                have HI3 := Lib.hid hSc
                clear hSc
                have a0 := HI3.out.bx.a0
                have a1 := HI3.out.bx.a1
                have a2 := HI3.out.bx.a2
                have q0 := HI3.out.q0
                have q1 := HI3.out.q1
                have q2 := HI3.out.q2
                clear hs3
                go_wp2_with fail
                clear a0 a1 a2 q0 q1 q2
                have hSc := HI3.out.drew
                refine wp_region_all (S := fun W => Iv w W X Y b boff j) (by kernel_rfl) hSc (fun W0 hSc => ?_)
                refine held_take 0 ?_ rfl (by kernel_rfl) (by kernel_rfl) (by kernel_rfl) (fun _ _ _ h => h) (by rfl) ?_ hSc ?_
                rotate_left
                · (intro W hSW; have a0 := hSW.bx.a0; have a1 := hSW.bx.a1; have a2 := hSW.bx.a2; have q0 := hSW.q0; have q1 := hSW.q1; have q2 := hSW.q2; go_simp; try rfl)
                try simp only [Act.put, List.setIfInBounds_toArray, List.set_cons_zero, List.set_cons_succ]
                refine held_take 1 ?_ rfl (by kernel_rfl) (by kernel_rfl) (by kernel_rfl) (fun _ _ _ h => h) (by rfl) ?_ hSc ?_
                rotate_left
                · (intro W hSW; have a0 := hSW.bx.a0; have a1 := hSW.bx.a1; have a2 := hSW.bx.a2; have q0 := hSW.q0; have q1 := hSW.q1; have q2 := hSW.q2; go_simp; try rfl)
                try simp only [Act.put, List.setIfInBounds_toArray, List.set_cons_zero, List.set_cons_succ]
                refine held_take 2 ?_ rfl (by kernel_rfl) (by kernel_rfl) (by kernel_rfl) (fun _ _ _ h => h) (by rfl) ?_ hSc ?_
                rotate_left
                · (intro W hSW; have a0 := hSW.bx.a0; have a1 := hSW.bx.a1; have a2 := hSW.bx.a2; have q0 := hSW.q0; have q1 := hSW.q1; have q2 := hSW.q2; go_simp; try rfl)
                try simp only [Act.put, List.setIfInBounds_toArray, List.set_cons_zero, List.set_cons_succ]
                refine held_take 3 ?_ rfl (by kernel_rfl) (by kernel_rfl) (by kernel_rfl) (fun _ _ _ h => h) (by rfl) ?_ hSc ?_
                rotate_left
                · (intro W hSW; have a0 := hSW.bx.a0; have a1 := hSW.bx.a1; have a2 := hSW.bx.a2; have q0 := hSW.q0; have q1 := hSW.q1; have q2 := hSW.q2; go_simp; try rfl)
                try simp only [Act.put, List.setIfInBounds_toArray, List.set_cons_zero, List.set_cons_succ]
                refine held_take 4 ?_ rfl (by kernel_rfl) (by kernel_rfl) (by kernel_rfl) (fun _ _ _ h => h) (by rfl) ?_ hSc ?_
                rotate_left
                · (intro W hSW; have a0 := hSW.bx.a0; have a1 := hSW.bx.a1; have a2 := hSW.bx.a2; have q0 := hSW.q0; have q1 := hSW.q1; have q2 := hSW.q2; go_simp; try rfl)
                try simp only [Act.put, List.setIfInBounds_toArray, List.set_cons_zero, List.set_cons_succ]
                refine held_next 5 rfl (by kernel_rfl) (by rfl) ?_
                go_simp
                refine (hs4 _).mono ?_
                rintro e wq3 ⟨rfl, bz⟩
                have hSd : (fun W => Iv w W X Y b boff j) wq3 := hSc.step bz
                refine ⟨fun W => Iv w W X Y b boff j, fun W hW => hW, hSd, ?_⟩
                clear hSc bz
                have hSc := hSd
                clear hSd
                try simp only [Act.put, List.setIfInBounds_toArray, List.set_cons_zero, List.set_cons_succ]
                refine wpAnyH_done (by kernel_rfl) ?_ _
                have HI4 := Lib.hid hSc
                clear hSc
                have a0 := HI4.out.bx.a0
                have a1 := HI4.out.bx.a1
                have a2 := HI4.out.bx.a2
                have q0 := HI4.out.q0
                have q1 := HI4.out.q1
                have q2 := HI4.out.q2
                clear hs4
                go_wp2
                go_roundw
                case rel => exact ⟨j + 1, _, by go_num, by omega, rfl, by rw [HSN.out, loV_snoc, HLO.out, H1.out]; simp, by rw [HSN.out, hiV_snoc, H1.out]; simp, by rw [HSN.out, hiV_snoc, H3.out]; simp [hjl], by rw [HSN.out, hiV_snoc, H4.out]; simp [hjl], HI4.out.bx⟩
                case measure => simp [intOf]; omega
        · have ej : j = l.length := by omega
          subst ej
          have hlo := HLO.out
          rw [List.take_length] at hlo
          have hpre : ∀ t : Int × Int × Int, (if loV (soW cmp X) l < 0 then (if cmp = 3 ∨ cmp = 4 then (0, 0, 0) else if cmp = 5 then ((hiV (soW 4 X) l : Int), (hiV (soW 4 X) l : Int), 0) else ((hiV (soW 3 X) l : Int), (hiV (soW 3 X) l : Int), 0)) else (loV (soW cmp X) l, (hiV (soW cmp X) l : Int), 0)) = t → intA kind l cmp X = t := by
            intro t ht
            rw [← ht]
            unfold intA
            rw [if_neg (by rw [HMAY.out]; have := HG4.out; simp; omega), if_neg (by simp [HK.out])]
          by_cases h0 : LO < 0
          · have d1 : decide (LO < 0) = true := decide_eq_true h0
            have hcase : cmp = 3 ∨ (cmp ≠ 3 ∧ cmp = 4) ∨ (cmp ≠ 3 ∧ cmp ≠ 4 ∧ cmp = 5) ∨ (cmp ≠ 3 ∧ cmp ≠ 4 ∧ cmp ≠ 5) := by omega
            rcases hcase with h3 | ⟨h3, h4⟩ | ⟨h3, h4, h5⟩ | ⟨h3, h4, h5⟩
            · skip
              have e3 : (cmp == 3) = true := by simp [h3]
              have hA := hpre _ (by rw [if_pos (by rw [hlo]; exact h0), if_pos (Or.inl h3)])
              have HA := Lib.hid hA
              clear hA hpre hlo h0 h3
              go_wp2
              go_ret3
              rw [HA.out]
              exact ⟨by simp only [List.take_length]; rfl, HB.out.below⟩
            · skip
              have e3 : (cmp == 3) = false := by simp [h3]
              have e4 : (cmp == 4) = true := by simp [h4]
              have hA := hpre _ (by rw [if_pos (by rw [hlo]; exact h0), if_pos (Or.inr h4)])
              have HA := Lib.hid hA
              clear hA hpre hlo h0 h3 h4
              go_wp2
              go_ret3
              rw [HA.out]
              exact ⟨by simp only [List.take_length]; rfl, HB.out.below⟩
            · skip
              have e3 : (cmp == 3) = false := by simp [h3]
              have e4 : (cmp == 4) = false := by simp [h4]
              have e5 : (cmp == 5) = true := by simp [h5]
              have hA := hpre _ (by rw [if_pos (by rw [hlo]; exact h0), if_neg (by omega), if_pos h5])
              have HA := Lib.hid hA
              clear hA hpre hlo h0 h3 h4 h5
              go_wp2
              go_ret3
              rw [HA.out]
              exact ⟨by simp only [List.take_length]; rfl, HB.out.below⟩
            · skip
              have e3 : (cmp == 3) = false := by simp [h3]
              have e4 : (cmp == 4) = false := by simp [h4]
              have e5 : (cmp == 5) = false := by simp [h5]
              have hA := hpre _ (by rw [if_pos (by rw [hlo]; exact h0), if_neg (by omega), if_neg h5])
              have HA := Lib.hid hA
              clear hA hpre hlo h0 h3 h4 h5
              go_wp2
              go_ret3
              rw [HA.out]
              exact ⟨by simp only [List.take_length]; rfl, HB.out.below⟩
          · have d1 : decide (LO < 0) = false := decide_eq_false h0
            have hA := hpre _ (by rw [if_neg (by rw [hlo]; exact h0), hlo])
            have HA := Lib.hid hA
            clear hA hpre hlo h0
            go_wp2
            go_ret3
            rw [HA.out]
            exact ⟨by simp only [List.take_length]; rfl, HB.out.below⟩
    · have e5 : (X.k != kind) = true := by simp [hk]
      have hA : intA kind l cmp X = (0, 0, 9) := by
        unfold intA
        rw [if_neg (by rw [HMAY.out]; have := HG4.out; simp; omega), if_pos hk]
      rw [hA]
      clear hA hk
      go_enter Try.func17, Try.ntmps17
      go_wp2_with (go_at_call 31; refine (hmc _).mono ?_; rintro e w3 ⟨rfl, b3⟩; have hB := (Bx1.new w X.k X.n X.s).step b3; have a0 := hB.a0; have HB := Lib.hid hB; clear hB b3)
      go_ret3
      exact ⟨rfl, HB.out.below⟩
end Go.Proofs.Ytjojhoaienjjeaa
