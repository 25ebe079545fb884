/- Walks: bytes are read. -/
import Derived.Test.YtigjkolhhhmdhaaRf
import Derived.Deep.RegionWith
namespace Go.Proofs.Ytigjkolhhhmdhaa
open Go.RowKit
set_option linter.unusedVariables false

/-- What a reader at p of l answers where it is asked for n bytes: the bytes, the place and whether it is bad behind it. -/
def rb (l : List UInt8) (p : Nat) (x : Bool) (n : Int) : List UInt8 × Nat × Bool :=
  if x then ([], p, true) else if n < 0 ∨ (l.length : Int) - p < n then ([], p, true) else ((l.drop p).take n.toNat, p + n.toNat, false)

theorem sl_cut {w : World} {lo hi : Nat} {A : Option Addr} {n c p m : Nat} {l : List UInt8} (h : Sl w lo hi (.slice A n c) l) (hp : p + m ≤ l.length) :
    Sl w lo hi (.slice (if c = p then A else A.map (·.add p)) m (c - p)) ((l.drop p).take m) := by
  obtain ⟨A', c', e, h0, h1, h2, hb⟩ := h
  injection e with e1 e2 e3
  subst e1 e2 e3
  have hl : ((l.drop p).take m).length = m := by simp; omega
  refine ⟨_, c - p, by rw [hl], fun e => ?_, by omega, by omega, fun hne => ?_⟩
  · split at e
    · omega
    · rename_i hcp
      cases A with
      | none => have := h0 rfl; omega
      | some a => simp at e
  · have hm : 0 < m := by
      rcases Nat.eq_zero_or_pos m with h | h
      · subst h; simp at hne
      · exact h
    obtain ⟨b, off, rfl, g1, g2, hc⟩ := hb (by rintro rfl; simp at hp; omega)
    rw [if_neg (by omega)]
    refine ⟨b, off + p, ?_, g1, g2, fun j x hx => ?_⟩
    · simp [Addr.add]
    · rw [List.getElem?_take] at hx
      split at hx
      · rw [List.getElem?_drop] at hx
        rw [Nat.add_assoc]
        exact hc _ _ hx
      · cases hx

theorem Rd.marked {w : World} {base g : Nat} {v : Value} {l : List UInt8} {p : Nat} {x y : Bool} (h : Rd w base g v l p x) : Rd (w.setCell ⟨g, 2, none⟩ (.bool y)) base g v l p y := by
  have h1 := h.row.set_ 2 (.bool y)
  have hne := h.ne
  exact ⟨h1, h.own.kept (grown_set w g 2 (.bool y)) (fun k hk e => by injection e with e; subst e; exact hne hk), h.ge, h.le, h.small⟩
theorem Rd.placed {w : World} {base g : Nat} {v : Value} {l : List UInt8} {p q : Nat} {x : Bool} (h : Rd w base g v l p x) (hq : q ≤ l.length) : Rd (w.setCell ⟨g, 1, none⟩ (.int .i64 q)) base g v l q x := by
  have h1 := h.row.set_ 1 (.int .i64 q)
  have hne := h.ne
  exact ⟨h1, h.own.kept (grown_set w g 1 _) (fun k hk e => by injection e with e; subst e; exact hne hk), h.ge, hq, h.small⟩

theorem grown_below {a b c : World} {row : Option Nat} (h : a.grownBy b row) (hb : Below b.heap.size b c) : a.grownBy c row :=
  ⟨hb.os.trans h.os, hb.tape.trans h.tape, hb.output.trans h.output, Nat.le_trans h.size hb.size, fun i hi hn => (hb.block i (Nat.lt_of_lt_of_le hi h.size)).trans (h.block i hi hn)⟩
theorem good_end {base g : Nat} {v v3 : Value} {l : List UInt8} {p m : Nat} {w W1 w3 : World} (hR : Rd W1 base g v l p false) (hG : w.grownBy W1 (some g)) (hm : p + m ≤ l.length)
    (o3 : Ow w3 ((W1.setCell ⟨g, 1, none⟩ (.int .i64 ((p : Int) + m))).drew).heap.size v3 ((l.drop p).take m))
    (b3 : Below ((W1.setCell ⟨g, 1, none⟩ (.int .i64 ((p : Int) + m))).drew).heap.size ((W1.setCell ⟨g, 1, none⟩ (.int .i64 ((p : Int) + m))).drew) w3) :
    ∃ v', Ending.returned v3 = Ending.returned v' ∧ Ow w3 w.heap.size v' ((l.drop p).take m) ∧ Rd w3 base g v l (p + m) false ∧ w.grownBy w3 (some g) := by
  have h1 : Rd (W1.setCell ⟨g, 1, none⟩ (.int .i64 ((p : Int) + m))) base g v l (p + m) false := hR.placed (q := p + m) hm
  have hs : ((W1.setCell ⟨g, 1, none⟩ (.int .i64 ((p : Int) + m))).drew).heap.size = W1.heap.size := by simp [World.setCell, World.drew]
  have b4 : Below (W1.setCell ⟨g, 1, none⟩ (.int .i64 ((p : Int) + m))).heap.size (W1.setCell ⟨g, 1, none⟩ (.int .i64 ((p : Int) + m))) w3 := (Below.refl _ _).drew.trans b3
  refine ⟨v3, rfl, o3.more (by rw [hs]; exact hG.size), h1.below b4 (Nat.le_refl _), grown_below (hG.trans (grown_set _ _ _ _)) b4⟩

end Go.Proofs.Ytigjkolhhhmdhaa
