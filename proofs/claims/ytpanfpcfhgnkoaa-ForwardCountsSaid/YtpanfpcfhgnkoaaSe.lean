/- Walks: the function that All tells; a range over it. -/
import Derived.RangeFuncNested
import Derived.RangeFuncBound
import Derived.RangeFuncLeaves
import Derived.Shelf.Abstract
import Derived.Shelf.RegionOpen
import Derived.WalkKit
import Derived.OwnWalkIn
import Derived.TacticsInMore
import Derived.LoopNIn
import Derived.LoopIn
import Derived.Test.YtpanfpcfhgnkoaaSd
namespace Go.Proofs.Ytpanfpcfhgnkoaa
open Go.RowKit Go.Shelf
set_option linter.unusedVariables false

attribute [local go_sem] Oper.semAt_some

/-- The first k rows and ids. -/
def prs (l : List Int) (k : Nat) : List (Nat × Int) := (List.range k).map fun j => (j, l[j]!)
theorem prs_succ (l : List Int) (k : Nat) : prs l (k + 1) = prs l k ++ [(k, l[k]!)] := by simp [prs, List.range_succ]
theorem prs_len (l : List Int) (k : Nat) : (prs l k).length = k := by simp [prs]
def encP (x : Nat × Int) : Array Value := #[.int .i64 (x.1 : Int), .int .i64 x.2]
/-- Blocks below n are kept, and block g. -/
def KB (n g : Nat) (A B : World) : Prop := Below n A B ∧ B.heap[g]? = A.heap[g]?
theorem KB.refl (n g : Nat) (A : World) : KB n g A A := ⟨Below.refl _ _, rfl⟩
theorem KB.trans {n g : Nat} {A B C : World} (h : KB n g A B) (k : KB n g B C) : KB n g A C := ⟨h.1.trans k.1, k.2.trans h.2⟩
theorem KB.drewN {n g : Nat} {A B : World} (h : KB n g A B) (m : Nat) : KB n g A (B.drewN m) := ⟨below_drewN h.1 m, h.2⟩
theorem KB.put {n g : Nat} {w : World} (hn : n ≤ w.heap.size) (hg : g < w.heap.size) (W : World) (l : Nat) (o o' : Obj) (hl : w.heap.size ≤ l) (h : W.heap[l]? = some o) (h1 : o.isCells = false) (h2 : o.isWalk = false) : KB n g W (W.putObj l o') :=
  ⟨belowK_b hn W l o o' hl h h1 h2, World.putObj_heap_other (k := g) (by omega)⟩
theorem KB.of {n g : Nat} {A B : World} {m : Nat} (h : Below m A B) (hn : n ≤ m) (hg : g < m) : KB n g A B := ⟨h.mono hn, h.block g hg⟩
theorem IxH.kb {W W' : World} {hi g : Nat} {A : Option Addr} {c : Nat} {zs : List Int} {many : Int} (h : IxH W hi g A c zs many) (k : KB hi g W W') : IxH W' hi g A c zs many :=
  ⟨h.row.keep k.2, h.pkd.below k.1, h.may, h.all, h.small⟩
theorem IxH.below {W W' : World} {hi g : Nat} {A : Option Addr} {c : Nat} {zs : List Int} {many : Int} (h : IxH W hi g A c zs many) (hh : hi ≤ W.heap.size) (b : Below W.heap.size W W') : IxH W' hi g A c zs many :=
  ⟨h.row.below b h.row.lt, h.pkd.below (b.mono hh), h.may, h.all, h.small⟩
set_option maxRecDepth 100000 in
set_option maxHeartbeats 2000000 in
theorem all1_in (n : Nat) (hn : 1 ≤ n) (l Bs n₀ : Nat) (A : Option Addr) (c : Nat) (zs : List Int) (many : Int) (J Jx : List (Nat × Int) → World → Prop)
    (W : World) (hle : n₀ ≤ W.heap.size) (hH : IxH W n₀ Bs A c zs many) (hJa : AbidesFrom W.heap.size J)
    (hY : ∀ pre x W, J pre W → pre.length < zs.length → YieldAt Fence.wide (n - 1) Try.prog l (encP x) W fun e W' =>
      (e = .returned (.bool true) ∧ J (pre ++ [x]) W' ∧ KB n₀ Bs W W') ∨ (e = .returned (.bool false) ∧ Jx (pre ++ [x]) W'))
    (h0 : J [] W) :
    CallsIn Fence.wide n Try.prog 31 #[.func (.yield l) #[] #[], .pointer (some ⟨Bs, 0, none⟩)] W fun e W' => (∃ v, e = .returned v) ∧
      ((∃ ys, ys = prs zs zs.length ∧ J ys W') ∨ (∃ pre, (∃ k, k ≤ zs.length ∧ pre = prs zs k) ∧ Jx pre W')) := by
  have HSM := Lib.hid hH.small
  have cr := hH.row.cell 0
  have HH := Lib.hid hH
  clear hH
  obtain ⟨N, hN⟩ : ∃ N, zs.length = N := ⟨_, rfl⟩
  have HNN := Lib.hid hN
  have hNs : N ≤ 100000 := hN ▸ HSM.out
  rw [hN] at cr
  refine callsIn_of_wp Try.func31 rfl trivial ?_ rfl
  simp only [Try.ntmps31, List.size_toArray, List.length_cons, List.length_nil, Nat.reduceAdd, Nat.reduceSub, Array.replicate_succ, Array.replicate_zero, List.push_toArray, List.append_toArray, List.nil_append, List.cons_append]
  gi_wp2
  clear cr
  gi_loopw [6] (fun i wr => ∃ k : Nat, k ≤ N ∧ i = .int .i64 k ∧ J (prs zs k) wr ∧ KB n₀ Bs W wr)
    (fun i _ => N - (intOf i).toNat)
  case atStart => exact ⟨0, Nat.zero_le _, rfl, h0, KB.refl _ _ _⟩
  case round =>
    obtain ⟨k, hk, rfl, hJs, hnx⟩ := hrel
    by_cases hlt : k < N
    · obtain ⟨z, hz⟩ : ∃ z, zs[k]? = some z := ⟨_, List.getElem?_eq_getElem (by omega)⟩
      have hz2 : zs[k]! = z := by rw [getElem!_pos zs k (by omega)]; exact (List.getElem?_eq_some_iff.1 hz).2
      have HAT := Lib.hid (at_h Bs A c zs many k z wr n₀ (HH.out.kb hnx) hz)
      have HY := Lib.hid hz2
      have HJS := Lib.hid hJs
      have HNX := Lib.hid hnx
      clear hz hz2 hJs hnx
      gi_wp2_with (refine ⟨trivial, ?_⟩; gi_at_call 32; refine (callsIn_wide.2 HAT.out).mono ?_; rintro e w2 ⟨rfl, nq, hq⟩; subst hq; obtain ⟨fn, tmps, assign, body, hy, hR⟩ := hY (prs zs k) (k, z) (wr.drewN nq) (hJa _ _ _ none HJS.out (grown_drewN (World.grownBy.refl _ _) nq) (by simp)) (by rw [prs_len]; omega); dsimp only [encP] at hy)
      refine hR.mono ?_
      rintro e W3 (⟨rfl, hJ3, hk3⟩ | ⟨rfl, hJx3⟩)
      · gi_wp2
        go_roundw
        case rel => exact ⟨k + 1, by omega, by go_num, by rw [prs_succ, HY.out]; exact hJ3, (HNX.out.drewN nq).trans hk3⟩
        case measure => simp [intOf]; omega
      · gi_wp2
        refine bodyPost_ret (results_none rfl _ _ _) rfl ?_
        exact ⟨⟨_, rfl⟩, .inr ⟨_, ⟨k + 1, by rw [HNN.out]; omega, by rw [prs_succ, HY.out]⟩, hJx3⟩⟩
    · obtain rfl : k = N := by omega
      gi_wp2
      go_end0
      exact ⟨⟨_, rfl⟩, .inl ⟨_, by rw [HNN.out], hJs⟩⟩
/-- The function that All tells, beside any loop's body. -/
theorem all_stops (Bs : Nat) (A : Option Addr) (c : Nat) (zs : List Int) (many : Int) (w : World) (n₀ : Nat) (hn₀ : n₀ ≤ w.heap.size) (hH : IxH w n₀ Bs A c zs many) :
    SeqStopsK Fence.wide (3 - 1) Try.prog 31 #[.pointer (some ⟨Bs, 0, none⟩)] encP (KB n₀ Bs) (fun ys => ys = prs zs zs.length) (fun pre => ∃ k, k ≤ zs.length ∧ pre = prs zs k) zs.length w := fun y J Jx W hW hJ _ hY h0 =>
  all1_in _ (by omega) y Bs n₀ A c zs many J Jx W (Nat.le_trans hn₀ hW.size) (hH.below hn₀ hW) hJ hY h0
end Go.Proofs.Ytpanfpcfhgnkoaa
