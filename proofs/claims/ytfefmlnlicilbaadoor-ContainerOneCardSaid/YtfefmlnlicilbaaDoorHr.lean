/- A region that draws its order: three operations may come up; facts of containers while blocks are made. -/
import Derived.Test.YtfefmlnlicilbaaDoorRg
import Derived.Test.YtfefmlnlicilbaaDoorHa
namespace Go.Proofs.YtfefmlnlicilbaaDoor
open Go.RowKit
set_option linter.unusedVariables false

section
variable {P : Program} {ops : Array Oper} {Q : Exit → Act → World → Prop} {md : Region.Mode} {S S' : World → Prop}
/-- Three operations may come up: whichever does is carried out. -/
theorem held_three (i j k : Nat) {oi oj ok : Oper} {ri rj rk : List Oper} {fuel : Nat} {listed : Array Bool} {a : Act} {w : World} (hi : ops.toList.drop i = oi :: ri) (hj : ops.toList.drop j = oj :: rj) (hk : ops.toList.drop k = ok :: rk) (hr : Region.ready md ops listed = [i, j, k])
    (hwi : Region.wanted oi (yielded ops a.tmps) = true) (hwj : Region.wanted oj (yielded ops a.tmps) = true) (hwk : Region.wanted ok (yielded ops a.tmps) = true)
    (h1 : Oper.wp P oi a w (fun a' w' => ∃ S' : World → Prop, (∀ W, S' W → S W) ∧ S' w' ∧ wpAnyH P md ops Q S' fuel (listed.setIfInBounds i true) a' w') Q)
    (h2 : Oper.wp P oj a w (fun a' w' => ∃ S' : World → Prop, (∀ W, S' W → S W) ∧ S' w' ∧ wpAnyH P md ops Q S' fuel (listed.setIfInBounds j true) a' w') Q)
    (h3 : Oper.wp P ok a w (fun a' w' => ∃ S' : World → Prop, (∀ W, S' W → S W) ∧ S' w' ∧ wpAnyH P md ops Q S' fuel (listed.setIfInBounds k true) a' w') Q) : wpAnyH P md ops Q S (fuel + 1) listed a w := by
  refine wpAnyH_ready hr (by simp) (AllReadyH.cons (op_at hi) (fun K' hK => ?_) (AllReadyH.cons (op_at hj) (fun K' hK => ?_) (AllReadyH.cons (op_at hk) (fun K' hK => ?_) AllReadyH.nil)))
  · rw [if_pos hwi]
    exact Oper.wp_mono (fun a' w' ⟨S', h1, h2, h3⟩ => hK.out a' w' (h1 _ h2) (fun _ => held_mono h1 _ _ _ _ h3)) h1
  · rw [if_pos hwj]
    exact Oper.wp_mono (fun a' w' ⟨S', h1, h2, h3⟩ => hK.out a' w' (h1 _ h2) (fun _ => held_mono h1 _ _ _ _ h3)) h2
  · rw [if_pos hwk]
    exact Oper.wp_mono (fun a' w' ⟨S', h1, h2, h3⟩ => hK.out a' w' (h1 _ h2) (fun _ => held_mono h1 _ _ _ _ h3)) h3
end

/-- Blocks that rows do not lie in. -/
def Nn (gs : List Nat) (b : Nat) : Prop := ∀ g ∈ gs, b ≠ g
/-- All of them have been made since w0, each once. -/
def Nl (w0 : World) (gs : List Nat) (w : World) : Prop := (∀ g ∈ gs, w0.heap.size ≤ g ∧ g < w.heap.size) ∧ gs.Nodup
section
variable {w0 : World} {gs : List Nat} {w w' : World} {v : Value} {p : Nat → Bool} {k : Nat}
theorem Nl.nil_ (w0 w : World) : Nl w0 [] w := ⟨fun g h => absurd h List.not_mem_nil, List.nodup_nil⟩
theorem Nl.all (h : Nl w0 gs w) : ∀ b, w.heap.size ≤ b → Nn gs b := fun b hb g hg => by have := (h.1 g hg).2; omega
theorem Nl.le (h : Nl w0 gs w) (hs : w.heap.size ≤ w'.heap.size) : Nl w0 gs w' := ⟨fun g hg => ⟨(h.1 g hg).1, Nat.lt_of_lt_of_le (h.1 g hg).2 hs⟩, h.2⟩
theorem Nl.new (h : Nl w0 gs w) (h0 : w0.heap.size ≤ w.heap.size) (hs : w.heap.size < w'.heap.size) : Nl w0 (w.heap.size :: gs) w' := by
  refine ⟨fun g hg => ?_, List.nodup_cons.2 ⟨fun hm => Nat.lt_irrefl _ (h.1 _ hm).2, h.2⟩⟩
  rcases List.mem_cons.1 hg with e | e
  · rw [e]; exact ⟨h0, hs⟩
  · exact ⟨(h.1 g e).1, Nat.lt_trans (h.1 g e).2 hs⟩
/-- What was there already. -/
theorem Cn.old {N : Nat → Prop} (h : Cn N w0 v p k) (b : Below w0.heap.size w0 w) (hl : Nl w0 gs w) : Cn (Nn gs) w v p k :=
  (h.mono (N' := Nn gs) fun x hx _ g hg => by have := (hl.1 g hg).1; omega).step b
/-- A block is made: no row lies in it. -/
theorem Cn.made (h : Cn (Nn gs) w v p k) (b : Below w.heap.size w w') : Cn (Nn (w.heap.size :: gs)) w' v p k :=
  (h.mono (N' := Nn (w.heap.size :: gs)) fun x hx hn g hg => by
    rcases List.mem_cons.1 hg with e | e
    · rw [e]; omega
    · exact hn g e).step b
theorem Cn.put {g : Nat} (h : Cn (Nn gs) w v p k) (hg : w.grownBy w' (some g)) (hm : g ∈ gs) : Cn (Nn gs) w' v p k := h.grown hg (fun hn => hn g hm rfl)
end
end Go.Proofs.YtfefmlnlicilbaaDoor
