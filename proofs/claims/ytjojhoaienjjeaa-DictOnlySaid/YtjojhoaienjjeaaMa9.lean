/- A region that draws its order and only reads, inside a round of a range over a function. -/
import Derived.RangeFuncNested
import Derived.RangeFuncBound
import Derived.RangeFuncCalls
import Derived.RangeFuncLeaves
import Derived.Shelf.Abstract
import Derived.Shelf.RegionOpen
import Derived.WalkKit
import Derived.OwnWalkIn
import Derived.TacticsInMore
import Derived.LoopNIn
import Derived.LoopIn
import Derived.Test.YtjojhoaienjjeaaMa8
import Derived.Sort.QuietTacIn
/- Walks: dict's All, and the function that it tells. -/
namespace Go.Proofs.Ytjojhoaienjjeaa
open Go.RowKit Go.Shelf
set_option linter.unusedVariables false

attribute [local go_sem] Oper.semAt_some

/-- The first k ids and values. -/
def prs (l : List VV) (k : Nat) : List (Nat × VV) := (List.range k).map fun j => (j, l[j]!)
theorem prs_succ (l : List VV) (k : Nat) : prs l (k + 1) = prs l k ++ [(k, l[k]!)] := by simp [prs, List.range_succ]
theorem prs_len (l : List VV) (k : Nat) : (prs l k).length = k := by simp [prs]
def encP (x : Nat × VV) : Array Value := #[.int .i64 (x.1 : Int), vV x.2.k x.2.n x.2.s]
set_option maxHeartbeats 400000 in
theorem all_any (p : Value) (k : Int) (A : Option Addr) (n d : Nat) (w : World) (h : DictAt w p k (.slice A n d)) : Calls Try.prog 14 #[p] w fun e w' => e = .returned (.func (.func 34) #[] #[.pointer (some ⟨w.heap.size, 0, none⟩)]) ∧ w' = w.alloc (.cells #[.slice A n d] 22) := by
  have HC := Lib.hid (list_any p k _ w h)
  clear h
  go_enter Try.func14, Try.ntmps14
  go_wp2_with (go_at_call 33; refine HC.out.mono ?_; rintro e w1 ⟨rfl, hz⟩; have hz := hz.symm; subst hz)
  go_ret
  exact ⟨rfl, rfl⟩

set_option maxRecDepth 100000 in
set_option maxHeartbeats 2000000 in
theorem all1_in (F : Fence) (n : Nat) (h8 : F.fn 34) (hro : F.round = none) (hn : 1 ≤ n) (l Bs n₀ b off len cap : Nat) (zs : List VV) (hlen : len ≤ 1000000000) (hb : b < n₀) (J Jx : List (Nat × VV) → World → Prop)
    (W : World) (hle : n₀ ≤ W.heap.size) (hJa : AbidesFrom W.heap.size J)
    (hY : ∀ pre x W, J pre W → pre.length < len → YieldAt F (n - 1) Try.prog l (encP x) W fun e W' =>
      (e = .returned (.bool true) ∧ J (pre ++ [x]) W' ∧ Below n₀ W W') ∨ (e = .returned (.bool false) ∧ Jx (pre ++ [x]) W'))
    (hBs : W.cell? ⟨Bs, 0, none⟩ = some (.slice (some ⟨b, off, none⟩) len cap))
    (hc0 : ∀ j, j < len → W.cell? ⟨b, off + j * 3, none⟩ = some (.int .u8 zs[j]!.k)) (hc1 : ∀ j, j < len → W.cell? ⟨b, off + j * 3 + 1, none⟩ = some (.int .i64 zs[j]!.n)) (hc2 : ∀ j, j < len → W.cell? ⟨b, off + j * 3 + 2, none⟩ = some (.string zs[j]!.s)) (h0 : J [] W) :
    CallsIn F n Try.prog 34 #[.func (.yield l) #[] #[], .pointer (some ⟨Bs, 0, none⟩)] W fun e W' => (∃ v, e = .returned v) ∧
      ((∃ ys, ys = prs zs len ∧ J ys W') ∨ (∃ pre, (∃ k, k ≤ len ∧ pre = prs zs k) ∧ Jx pre W')) := by
  refine callsIn_of_wp Try.func34 rfl h8 ?_ hro
  simp only [Try.ntmps34, List.size_toArray, List.length_cons, List.length_nil, Nat.reduceAdd, Nat.reduceSub, Array.replicate_succ, Array.replicate_zero, List.push_toArray, List.append_toArray, List.nil_append, List.cons_append]
  gi_wp2
  gi_loopw [7] (fun i wr => ∃ k : Nat, k ≤ len ∧ i = .int .i64 k ∧ J (prs zs k) wr ∧ Below n₀ W wr)
    (fun i _ => len - (intOf i).toNat)
  case atStart => exact ⟨0, Nat.zero_le _, rfl, h0, Below.refl _ _⟩
  case round =>
    obtain ⟨k, hk, rfl, hJs, hnx⟩ := hrel
    have q0 := fun h : k < len => (hnx.cell (p := ⟨b, off + k * 3, none⟩) hb).trans (hc0 k h)
    have q1 := fun h : k < len => (hnx.cell (p := ⟨b, off + k * 3 + 1, none⟩) hb).trans (hc1 k h)
    have q2 := fun h : k < len => (hnx.cell (p := ⟨b, off + k * 3 + 2, none⟩) hb).trans (hc2 k h)
    by_cases hlt : k < len
    · obtain ⟨Y, hY1⟩ : ∃ Y, zs[k]! = Y := ⟨_, rfl⟩
      have p0 := q0 hlt
      have p1 := q1 hlt
      have p2 := q2 hlt
      rw [hY1] at p0 p1 p2
      clear q0 q1 q2 hc0 hc1 hc2
      obtain ⟨fn, tmps, assign, body, hy, hR⟩ := hY _ (k, Y) (wr.alloc (.cells #[.int .u8 Y.k, .int .i64 Y.n, .string Y.s] 38)) (hJa _ _ _ none hJs (World.grownBy_alloc _ _ none) (by simp)) (by rw [prs_len]; exact hlt)
      dsimp only [encP] at hy
      have HY := Lib.hid hY1
      clear hY1
      gi_wp2
      refine hR.mono ?_
      rintro e W3 (⟨rfl, hJ3, hk3⟩ | ⟨rfl, hJx3⟩)
      · gi_wp2
        go_roundw
        case rel => exact ⟨k + 1, by omega, by go_num, by rw [prs_succ, HY.out]; exact hJ3, (hnx.alloc (Nat.le_trans hle hnx.size) _).trans hk3⟩
        case measure => simp [intOf]; omega
      · gi_wp2
        refine bodyPost_ret (results_none rfl _ _ _) rfl ?_
        exact ⟨⟨_, rfl⟩, .inr ⟨_, ⟨k + 1, by omega, by rw [prs_succ, HY.out]⟩, hJx3⟩⟩
    · obtain rfl : k = len := by omega
      clear q0 q1 q2 hc0 hc1 hc2
      gi_wp2
      go_end0
      exact ⟨⟨_, rfl⟩, .inl ⟨_, rfl, hJs⟩⟩

set_option maxRecDepth 100000 in
set_option maxHeartbeats 1000000 in
theorem all1_none (F : Fence) (n : Nat) (h8 : F.fn 34) (hro : F.round = none) (l Bs : Nat) (A : Option Addr) (cap : Nat) (J : List (Nat × VV) → World → Prop) (W : World) (hBs : W.cell? ⟨Bs, 0, none⟩ = some (.slice A 0 cap)) (h0 : J [] W) :
    CallsIn F n Try.prog 34 #[.func (.yield l) #[] #[], .pointer (some ⟨Bs, 0, none⟩)] W fun e W' => (∃ v, e = .returned v) ∧ J [] W' := by
  refine callsIn_of_wp Try.func34 rfl h8 ?_ hro
  simp only [Try.ntmps34, List.size_toArray, List.length_cons, List.length_nil, Nat.reduceAdd, Nat.reduceSub, Array.replicate_succ, Array.replicate_zero, List.push_toArray, List.append_toArray, List.nil_append, List.cons_append]
  gi_wp2
  gi_loopw [7] (fun i wr => i = .int .i64 0 ∧ J [] wr) (fun _ _ => 0)
  case atStart => exact ⟨rfl, h0⟩
  case round =>
    obtain ⟨rfl, hJs⟩ := hrel
    gi_wp2
    go_end0
    exact ⟨⟨_, rfl⟩, hJs⟩
/-- The function that All tells, beside any loop's body. -/
theorem all_stops (Bs : Nat) (A : Option Addr) (d : Nat) (l : List VV) (w : World) (n₀ : Nat) (hlen : l.length ≤ 1000000000) (hn₀ : n₀ ≤ w.heap.size) (hBs : Bs < w.heap.size) (hc : w.cell? ⟨Bs, 0, none⟩ = some (.slice A l.length d)) (hG : GsV eV w 0 n₀ (.slice A l.length d) l) :
    SeqStopsK Fence.wide (3 - 1) Try.prog 34 #[.pointer (some ⟨Bs, 0, none⟩)] encP (Below n₀) (fun ys => ys = prs l l.length) (fun pre => ∃ k, k ≤ l.length ∧ pre = prs l k) l.length w := fun y J Jx W hW hJ _ hY h0 => by
  have hc' := (hW.cell (p := ⟨Bs, 0, none⟩) hBs).trans hc
  by_cases hl : l = []
  · subst hl
    exact (all1_none Fence.wide _ trivial rfl y Bs A d J W hc' h0).mono fun e W' ⟨he, hj⟩ => ⟨he, .inl ⟨_, rfl, hj⟩⟩
  · obtain ⟨b, off, c, e, -, -, -, hb, hcs⟩ := hG.form hl
    injection e with e1 e2 e3
    subst e1
    have at_ : ∀ j, j < l.length → l[j]? = some l[j]! := fun j hj => by rw [getElem!_pos l j hj]; exact List.getElem?_eq_getElem hj
    have hbw : b < w.heap.size := Nat.lt_of_lt_of_le hb hn₀
    exact all1_in Fence.wide _ trivial rfl (by omega) y Bs n₀ b off l.length d l hlen hb J Jx W (Nat.le_trans hn₀ hW.size) hJ hY hc'
      (fun j hj => (hW.cell (p := ⟨b, _, none⟩) hbw).trans (vcell0 (hcs j _ (at_ j hj)))) (fun j hj => (hW.cell (p := ⟨b, _, none⟩) hbw).trans (vcell1 (hcs j _ (at_ j hj)))) (fun j hj => (hW.cell (p := ⟨b, _, none⟩) hbw).trans (vcell2 (hcs j _ (at_ j hj)))) h0
end Go.Proofs.Ytjojhoaienjjeaa
/- Walks: dict's Value. -/
namespace Go.Proofs.Ytjojhoaienjjeaa
open Go.RowKit
set_option linter.unusedVariables false

set_option maxHeartbeats 1000000 in
theorem value_none (p : Value) (k : Int) (A : Option Addr) (d : Nat) (l : List VV) (id : Int) (w : World) (hD : DictAt w p k (.slice A l.length d)) (hk : k = 0) :
    Calls Try.prog 19 #[p, .int .i64 id] w fun e w' => e = .returned (.tuple #[vV 0 0 ⟨#[]⟩, .int .i64 1]) ∧ Below w.heap.size w w' := by
  obtain ⟨W0, hW0⟩ : ∃ W0, W0 = w.alloc (.cells #[.int .u8 0, .int .i64 0, .string ⟨#[]⟩] 38) := ⟨_, rfl⟩
  have R0 := Lib.hid (show Row W0 w.heap.size 38 #[.int .u8 0, .int .i64 0, .string ⟨#[]⟩] by rw [hW0]; exact Row.new _ _ _)
  have B0 := Lib.hid (show Below w.heap.size w W0 by rw [hW0]; exact (Below.refl _ _).alloc (Nat.le_refl _) _)
  have HK := Lib.hid (fun W (b : Below w.heap.size w W) => kind_any p k _ W (hD.step b))
  have HL := Lib.hid (fun W (b : Below w.heap.size w W) => len_any p k A l.length d W (hD.step b))
  have d0 := R0.out.cell 0
  have d1 := R0.out.cell 1
  have d2 := R0.out.cell 2
  have f0 := R0.out.frozen 0
  have f1 := R0.out.frozen 1
  have f2 := R0.out.frozen 2
  subst hk
  clear hD
  go_enter Try.func19, Try.ntmps19
  go_wp2_with fail
  rw [← hW0]
  clear hW0
  go_wp2_with (first
    | (go_at_call 21; refine (HK.out _ B0.out).mono ?_; rintro e w1 ⟨rfl, hz⟩; have hz := hz.symm; subst hz)
    | (go_at_call 20; refine (HL.out _ B0.out).mono ?_; rintro e w2 ⟨rfl, hz⟩; have hz := hz.symm; subst hz))
  have S := set3 (x' := .int .u8 0) (y' := .int .i64 0) (z' := .string ⟨#[]⟩) R0.out
  refine bodyPost_ret (v := .tuple #[vV 0 0 ⟨#[]⟩, .int .i64 1]) ?_ rfl ⟨rfl, B0.out.grown S.2 B0.out.size (fun j h => by injection h with h; omega)⟩
  exact res_cell rfl _ _ _ _ _ _ _ _ (by rfl) (by rfl) S.1 Try.underlying38 szV3
set_option maxHeartbeats 1000000 in
theorem value_out (p : Value) (k : Int) (A : Option Addr) (d : Nat) (l : List VV) (id : Int) (w : World) (hD : DictAt w p k (.slice A l.length d)) (hk : k ≠ 0) (hi : id < 0 ∨ (l.length : Int) ≤ id) :
    Calls Try.prog 19 #[p, .int .i64 id] w fun e w' => e = .returned (.tuple #[vV 0 0 ⟨#[]⟩, .int .i64 7]) ∧ Below w.heap.size w w' := by
  obtain ⟨W0, hW0⟩ : ∃ W0, W0 = w.alloc (.cells #[.int .u8 0, .int .i64 0, .string ⟨#[]⟩] 38) := ⟨_, rfl⟩
  have R0 := Lib.hid (show Row W0 w.heap.size 38 #[.int .u8 0, .int .i64 0, .string ⟨#[]⟩] by rw [hW0]; exact Row.new _ _ _)
  have B0 := Lib.hid (show Below w.heap.size w W0 by rw [hW0]; exact (Below.refl _ _).alloc (Nat.le_refl _) _)
  have HK := Lib.hid (fun W (b : Below w.heap.size w W) => kind_any p k _ W (hD.step b))
  have HL := Lib.hid (fun W (b : Below w.heap.size w W) => len_any p k A l.length d W (hD.step b))
  have d0 := R0.out.cell 0
  have d1 := R0.out.cell 1
  have d2 := R0.out.cell 2
  have f0 := R0.out.frozen 0
  have f1 := R0.out.frozen 1
  have f2 := R0.out.frozen 2
  have e0 : (k == 0) = false := by simp [hk]
  clear hD
  by_cases h : id < 0
  · have d3 : decide (id < 0) = true := decide_eq_true h
    go_enter Try.func19, Try.ntmps19
    go_wp2_with fail
    rw [← hW0]
    clear hW0
    go_wp2_with (first
      | (go_at_call 21; refine (HK.out _ B0.out).mono ?_; rintro e w1 ⟨rfl, hz⟩; have hz := hz.symm; subst hz)
      | (go_at_call 20; refine (HL.out _ B0.out).mono ?_; rintro e w2 ⟨rfl, hz⟩; have hz := hz.symm; subst hz))
    have S := set3 (x' := .int .u8 0) (y' := .int .i64 0) (z' := .string ⟨#[]⟩) R0.out
    refine bodyPost_ret (v := .tuple #[vV 0 0 ⟨#[]⟩, .int .i64 7]) ?_ rfl ⟨rfl, B0.out.grown S.2 B0.out.size (fun j h => by injection h with h; omega)⟩
    exact res_cell rfl _ _ _ _ _ _ _ _ (by rfl) (by rfl) S.1 Try.underlying38 szV3
  · have d3 : decide (id < 0) = false := decide_eq_false h
    obtain ⟨L, hL⟩ : ∃ L, l.length = L := ⟨_, rfl⟩
    rw [hL] at HL hi
    have d4 : decide ((L : Int) ≤ id) = true := decide_eq_true (by omega)
    clear hi hL hk
    go_enter Try.func19, Try.ntmps19
    go_wp2_with fail
    rw [← hW0]
    clear hW0
    go_wp2_with (first
      | (go_at_call 21; refine (HK.out _ B0.out).mono ?_; rintro e w1 ⟨rfl, hz⟩; have hz := hz.symm; subst hz)
      | (go_at_call 20; refine (HL.out _ B0.out).mono ?_; rintro e w2 ⟨rfl, hz⟩; have hz := hz.symm; subst hz))
    have S := set3 (x' := .int .u8 0) (y' := .int .i64 0) (z' := .string ⟨#[]⟩) R0.out
    refine bodyPost_ret (v := .tuple #[vV 0 0 ⟨#[]⟩, .int .i64 7]) ?_ rfl ⟨rfl, B0.out.grown S.2 B0.out.size (fun j h => by injection h with h; omega)⟩
    exact res_cell rfl _ _ _ _ _ _ _ _ (by rfl) (by rfl) S.1 Try.underlying38 szV3
set_option maxHeartbeats 1000000 in
theorem value_at (g : Nat) (k : Int) (A : Option Addr) (d : Nat) (l : List VV) (j : Nat) (Y : VV) (w : World) (hD0 : DcM w g A d k l) (hY : l[j]? = some Y) :
    Calls Try.prog 19 #[.pointer (some ⟨g, 0, none⟩), .int .i64 j] w fun e w' => e = .returned (.tuple #[vV Y.k Y.n Y.s, .int .i64 0]) ∧ Below w.heap.size w w' := by
  obtain ⟨p, hp⟩ : ∃ p, p = Value.pointer (some ⟨g, 0, none⟩) := ⟨_, rfl⟩
  have hD : DictAt w p k (.slice A l.length d) := by rw [hp]; exact hD0.at_
  obtain ⟨W0, hW0⟩ : ∃ W0, W0 = w.alloc (.cells #[.int .u8 0, .int .i64 0, .string ⟨#[]⟩] 38) := ⟨_, rfl⟩
  have R0 := Lib.hid (show Row W0 w.heap.size 38 #[.int .u8 0, .int .i64 0, .string ⟨#[]⟩] by rw [hW0]; exact Row.new _ _ _)
  have B0 := Lib.hid (show Below w.heap.size w W0 by rw [hW0]; exact (Below.refl _ _).alloc (Nat.le_refl _) _)
  have HK := Lib.hid (fun W (b : Below w.heap.size w W) => kind_any p k _ W (hD.step b))
  have HL := Lib.hid (fun W (b : Below w.heap.size w W) => len_any p k A l.length d W (hD.step b))
  have d0 := R0.out.cell 0
  have d1 := R0.out.cell 1
  have d2 := R0.out.cell 2
  have f0 := R0.out.frozen 0
  have f1 := R0.out.frozen 1
  have f2 := R0.out.frozen 2
  subst hp
  have hjl := (List.getElem?_eq_some_iff.1 hY).1
  have c1 := (hD0.row.below B0.out hD0.row.lt).cell 1
  obtain ⟨b, boff, bc', e, -, -, -, bw, hc⟩ := hD0.vals.form (fun e => by have h := congrArg List.length e; simp only [List.length_nil] at h; omega)
  have q0 := (B0.out.cell (p := ⟨b, _, none⟩) bw).trans (vcell0 (hc j Y hY))
  have q1 := (B0.out.cell (p := ⟨b, _, none⟩) bw).trans (vcell1 (hc j Y hY))
  have q2 := (B0.out.cell (p := ⟨b, _, none⟩) bw).trans (vcell2 (hc j Y hY))
  have e0 : (k == 0) = false := by have := hD0.kind; simp; omega
  have hN := hD0.small
  injection e with e1 e2 e3
  clear e2
  subst e1 e3
  obtain ⟨L, hL⟩ : ∃ L, l.length = L := ⟨_, rfl⟩
  rw [hL] at HL c1 hjl hN
  have d3 : decide ((j : Int) < 0) = false := decide_eq_false (by omega)
  have d4 : decide ((L : Int) ≤ (j : Int)) = false := decide_eq_false (by omega)
  clear hD hD0 hY hc hL
  go_enter Try.func19, Try.ntmps19
  go_wp2_with fail
  rw [← hW0]
  clear hW0
  go_wp2_with (first
    | (go_at_call 21; refine (HK.out _ B0.out).mono ?_; rintro e w1 ⟨rfl, hz⟩; have hz := hz.symm; subst hz)
    | (go_at_call 20; refine (HL.out _ B0.out).mono ?_; rintro e w2 ⟨rfl, hz⟩; have hz := hz.symm; subst hz))
  have S := set3 (x' := .int .u8 Y.k) (y' := .int .i64 Y.n) (z' := .string Y.s) R0.out
  refine bodyPost_ret (v := .tuple #[vV Y.k Y.n Y.s, .int .i64 0]) ?_ rfl ⟨rfl, B0.out.grown S.2 B0.out.size (fun j h => by injection h with h; omega)⟩
  exact res_cell rfl _ _ _ _ _ _ _ _ (by rfl) (by rfl) S.1 Try.underlying38 szV3
end Go.Proofs.Ytjojhoaienjjeaa
/- Loops over what All tells: two variables, the second one in a box; how such a function ends. -/
namespace Go.Proofs.Ytjojhoaienjjeaa
open Go.RowKit Go.Shelf
set_option linter.unusedVariables false

theorem leaves_ret {F : Fence} {n : Nat} {P : Program} {fn : Func} {R : Ending → World → Prop} {a : Act} {w : World} {v : Value} (hr : (results fn a.tmps).run P w = .ok v w) (hd : a.defers = []) (hR : R (.returned v) w) : bodyPostM F n P fn R .ret a w := by
  show LeavesInM F n P fn a.tmps R a.defers .returning w
  rw [hd]
  exact ⟨v, hr, hR⟩
theorem leaves_mark {F : Fence} {n D : Nat} {P : Program} {fn : Func} {R : Ending → World → Prop} {a : Act} {w : World} {v : Value} (hd : a.defers = [{ target := .collected D, args := #[] }]) (hK : w.heap[D]? = some (.deferred (some [])))
    (hr : (results fn a.tmps).run P (w.putObj D (.deferred none)) = .ok v (w.putObj D (.deferred none))) (hR : R (.returned v) (w.putObj D (.deferred none))) : bodyPostM F n P fn R .ret a w := by
  show LeavesInM F n P fn a.tmps R a.defers .returning w
  rw [hd]
  exact ⟨by simp, .inl ⟨_, _, rfl, run_takeDeferred hK, v, hr, hR⟩⟩
theorem run_eql_func_nil {P : Program} (w : World) (t : TypeId) (ps rs : Array TypeId) (v : Bool) (f : Fn) (a b : Array Value) (h : P.underlying t = some (.func ps rs v)) : (binOp .eql t (.func f a b) .nilFunc).run P w = .ok (.bool false) w := by
  have h2 : ∀ d : Nat, (Op.equalIn (d + 1) t (.func f a b) .nilFunc).run P w = .ok false w := fun d => by
    simp [Op.equalIn, run_underlying h]
  simp only [binOp]
  simp [Op.equal, Op.maxDepth, h2 9999]
/-- A piece of code that can't be left but by its end. -/
def onlyN (Q : Exit → Act → World → Prop) : Exit → Act → World → Prop
  | .normal, a, w => Q .normal a w
  | _, _, _ => False
theorem wp_only {P : Program} {c : Code} {Q : Exit → Act → World → Prop} {a : Act} {w : World} (h : c.wp P (onlyN Q) a w) : c.wp P Q a w :=
  Code.wp_mono (fun e a' w' he => by cases e <;> first | exact he | exact he.elim) h
theorem keepD {w w' : World} {D : Nat} {x : Obj} (hk : w.heap[D]? = some x) (h : Below w.heap.size w w') : w'.heap[D]? = some x := (h.block D (Array.getElem?_eq_some_iff.1 hk).1).trans hk
theorem keepsFrom_below {B : Nat} {W W' : World} (h : Below W.heap.size W W') : KeepsFrom B W W' := ⟨h.size, fun k o _ hk _ => (h.block k (Array.getElem?_eq_some_iff.1 hk).1).trans hk⟩
/-- A block of cells abides what turns no cells. -/
theorem row_own {β : Type} {X Y : World} {row : Option Nat} {g : Nat} {t : TypeId} {cs : Array Value} (hs : Row X g t cs) (hg : X.grownBy Y row) (hr : ∀ r, row = some r → ∃ o : Obj, X.heap[r]? = some o ∧ o.isCells = false) : Row Y g t cs :=
  hs.grown hg (fun e => by obtain ⟨o, ho, hc⟩ := hr g e; rw [show X.heap[g]? = _ from hs] at ho; cases ho; cases hc)
/-- The frame of a round: what has come, its number beside it, the box of its value. -/
def rfr (ts : Array Value) (s1 s2 d1 d2 : Nat) (x : Nat × VV) (Bx : Nat) : Array Value :=
  ((((ts.setIfInBounds s1 (.int .i64 (x.1 : Int))).setIfInBounds s2 (vV x.2.k x.2.n x.2.s)).setIfInBounds d1 (.int .i64 (x.1 : Int))).setIfInBounds d2 (.pointer (some ⟨Bx, 0, none⟩)))
theorem zip_two (ts : Array Value) (s1 s2 : Nat) (x : Nat × VV) : (ts.setIfInBounds s1 (.int .i64 (x.1 : Int))).setIfInBounds s2 (vV x.2.k x.2.n x.2.s) = ((#[s1, s2] : Array Tmp).zip (encP x)).foldl (fun t (p, v) => t.setIfInBounds p v) ts := by
  simp [encP]
/-- A range over ids and values; the value of each round in a box. -/
theorem range_box {g : Operand} {s1 s2 d1 d2 : Nat} {assign body : Code} {Q : Exit → Act → World → Prop} {ts : Array Value} {w : World} {gf : Nat} {lb : Array Value} {n₀ : Nat} (hn₀ : n₀ ≤ w.heap.size)
    (hg : (Act.mk ts []).eval g = .func (.func gf) #[] lb) (eg : ∀ args w, (callFunc gf args).run Try.prog w = .ok (.enter gf args) w)
    {S Sp : List (Nat × VV) → Prop} {N : Nat} {w0 : World} (hseq : SeqStopsK Fence.wide (3 - 1) Try.prog gf lb encP (Below n₀) S Sp N w0) (hb0 : Below w0.heap.size w0 w)
    (I : List (Nat × VV) → World → Prop) (Ix : Code → List (Nat × VV) → World → Prop) (hI : OwnFrom w.heap.size I) (hIx : ∀ c, OwnFrom w.heap.size (Ix c)) (h0 : I [] w)
    (hassign : ∀ (l : Nat) (x : Nat × VV) (W : World) (K : Act → World → Prop),
      K { tmps := rfr ts s1 s2 d1 d2 x W.heap.size, defers := [] } (W.alloc (.cells #[.int .u8 x.2.k, .int .i64 x.2.n, .string x.2.s] 38)) →
      assign.wpIn (Fence.wide.inRound l) (3 - 1 - 1) Try.prog (Exit.then K (fun _ _ _ => False)) { tmps := (ts.setIfInBounds s1 (.int .i64 (x.1 : Int))).setIfInBounds s2 (vV x.2.k x.2.n x.2.s), defers := [] } W)
    (hbody : ∀ (l : Nat) (pre : List (Nat × VV)) (x : Nat × VV) (Bx : Nat) (W : World), w.heap.size ≤ Bx → I pre W → Row W Bx 38 #[.int .u8 x.2.k, .int .i64 x.2.n, .string x.2.s] → pre.length < N → body.wpIn (Fence.wide.inRound l) (3 - 1 - 1) Try.prog (ownPostG w.heap.size (Below n₀) I Ix (pre ++ [x]) W) { tmps := rfr ts s1 s2 d1 d2 x Bx, defers := [] } W)
    (hdone : ∀ (D : Nat) (xs : List (Nat × VV)) (W : World), w.heap.size ≤ D → S xs → I xs W → W.heap[D]? = some (.deferred (some [])) → Q .normal { tmps := ts, defers := [{ target := .collected D, args := #[] }] } W)
    (hstop : ∀ (D : Nat) (c : Code) (pre : List (Nat × VV)) (W : World), w.heap.size ≤ D → Sp pre → Ix c pre W → W.heap[D]? = some (.deferred (some [])) → c.wpIn Fence.wide 3 Try.prog Q { tmps := ts, defers := [{ target := .collected D, args := #[] }] } W) :
    (Code.rangeFunc g #[s1, s2] assign body).wpIn Fence.wide 3 Try.prog Q { tmps := ts, defers := [] } w := by
  refine wpIn_rangeFunc_ownH (F := Fence.wide) (n := 3) (a := { tmps := ts, defers := [] }) rfl (by omega) hg trivial eg hseq belowK_t (belowK_b hn₀) hb0 (fun _ => rfl)
    (fun xs W => I xs W ∧ w.heap.size ≤ W.heap.size) (fun c xs W => Ix c xs W) (OwnFrom.and hI (fun s X Y row hs hg hr => Nat.le_trans hs hg.size)) hIx ⟨h0, Nat.le_refl _⟩
    (fun x a' W => ∃ Bx, w.heap.size ≤ Bx ∧ Row W Bx 38 #[.int .u8 x.2.k, .int .i64 x.2.n, .string x.2.s] ∧ a' = { tmps := rfr ts s1 s2 d1 d2 x Bx, defers := [] })
    (fun x a' s X Y row hs hg hr => by obtain ⟨Bx, h1, h2, h3⟩ := hs; exact ⟨Bx, h1, row_own (β := Unit) h2 hg (fun r e => (hr r e).2), h3⟩)
    (fun l pre x W K hi hK => (zip_two ts s1 s2 x) ▸ hassign l x W K (hK _ _ ((KeepsOthers.alloc _ _).from _) ((Below.refl _ W).alloc (Nat.le_trans hn₀ hi.2) _) ⟨hI.alloc _ hi.1, by simp; omega⟩ ⟨W.heap.size, hi.2, Row.new _ _ _, rfl⟩))
    (fun l pre x a' W hl _ hi hx hlt => by
      obtain ⟨Bx, h1, h2, rfl⟩ := hx
      refine wpIn_mono (hbody l pre x Bx W h1 hi.1 h2 hlt) ?_
      intro e a2 W2 h
      have hsz : ∀ {W2 : World}, KeepsFrom w.heap.size W W2 → w.heap.size ≤ W2.heap.size := fun k => Nat.le_trans hi.2 k.size
      cases e with
      | normal => exact ⟨h.1, h.2.1, h.2.2, hsz h.1⟩
      | ret => exact h
      | exit id => exact h
      | goto t => exact h
      | panic c => exact h
      | outgrown => exact h)
    (fun D xs W hD hS hi hK => hdone D xs W hD hS hi.1 hK) (fun D c pre W hD hS hi hK => hstop D c pre W hD hS hi hK)
end Go.Proofs.Ytjojhoaienjjeaa
namespace Go.Proofs.Ytjojhoaienjjeaa
open Go.RowKit Go.Shelf
set_option linter.unusedVariables false

def noDefer (l : List Oper) : Bool := l.all fun o => match o.op with
  | .defer _ => false
  | _ => true
theorem noDefer_at {l : List Oper} (h : noDefer l = true) {o : Oper} (ho : o ∈ l) (c : Call) : o.op ≠ .defer c := by
  intro e
  have := List.all_eq_true.1 h o ho
  rw [e] at this
  cases this
theorem opIn_round {l n : Nat} {P : Program} {o : Oper} {a : Act} {w : World} {K K' : Act → World → Prop} {Q : Exit → Act → World → Prop} (hd : ∀ c, o.op ≠ .defer c) (hK : ∀ a w, K a w → K' a w)
    (h : o.wpIn Fence.wide n P a w K Q) : o.wpIn (Fence.wide.inRound l) n P a w K' Q := by
  have h2 := (Oper.wpIn_mono hK h).2
  rw [Oper.semAt_eq _ _ _ hd] at h2
  refine ⟨fun _ _ => trivial, ?_⟩
  rw [Oper.semAt_eq _ _ _ hd]
  exact h2
theorem opsIn_round {l n : Nat} {P : Program} {ops : Array Oper} {Q : Exit → Act → World → Prop} (hd : noDefer ops.toList = true) : ∀ (ls : List Nat) (a : Act) (w : World), wpOpsIn Fence.wide n P ops Q ls a w → wpOpsIn (Fence.wide.inRound l) n P ops Q ls a w
  | [], _, _, h => h
  | i :: rest, a, w, h => by
    unfold wpOpsIn at h ⊢
    cases ho : ops[i]? with
    | none => rw [ho] at h; exact opsIn_round hd rest a w h
    | some o =>
      rw [ho] at h
      have hm : o ∈ ops.toList := by rw [← Array.getElem?_toList] at ho; exact List.mem_of_getElem? ho
      simp only at h ⊢
      split at h
      · rename_i hw
        rw [if_pos hw]
        exact opIn_round (noDefer_at hd hm) (fun a w h => opsIn_round hd rest a w h) h
      · rename_i hw
        rw [if_neg hw]
        exact ⟨fun _ _ => trivial, opsIn_round hd rest _ w h.2⟩
theorem wpIn_round_quiet {y n : Nat} {P : Program} {id : Nat} {Q : Exit → Act → World → Prop} {a : Act} {w : World} {l : List Oper} (hm : P.follows .mixedOrders = true) (hB : Region.lexB .any l.toArray = true) (hN : noDefer l = true)
    (h : wpQuietIn Fence.wide n P l.toArray (fun w' => ∃ n, w' = w.drewN n) (fun a' => ∀ w', (∃ n, w' = w.drewN n) → Q .normal a' w') l a) : (Code.region id l.toArray true).wpIn (Fence.wide.inRound y) n P Q a w := by
  simp only [Region.lexB, Bool.and_eq_true] at hB
  refine wpIn_region_draw fun t => ?_
  refine opsIn_round (by simpa using hN) _ _ _ ?_
  simp only [Region.schedule, hm, Bool.true_or, if_true]
  refine wpAnyIn_sound l.toArray.size t _ a _ ?_
  refine wpAnyIn_of_quiet (C := fun w' => ∃ n, w' = w.drewN n) (Q := fun a' => ∀ w', (∃ n, w' = w.drewN n) → Q .normal a' w') rfl (fun _ w' hw' h => h w' hw') _ _ _ _ ⟨1, rfl⟩ ?_
  have := wpAnyQIn_lex (F := Fence.wide) (n := n) (C := fun w' => ∃ n, w' = w.drewN n) (md := .any) hB.1 l 0 (Array.replicate l.toArray.size false) a (by simp) (by simpa using hB.2) h
  simpa using this
end Go.Proofs.Ytjojhoaienjjeaa
