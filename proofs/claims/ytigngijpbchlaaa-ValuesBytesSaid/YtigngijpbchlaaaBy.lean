/- Walks: bytes are read. -/
import Derived.Test.YtigngijpbchlaaaRf
import Derived.Deep.RegionWith
namespace Go.Proofs.Ytigngijpbchlaaa
open Go.RowKit
set_option linter.unusedVariables false

/-- What a reader at p of l answers where it is asked for n bytes: the bytes, the place and whether it is bad behind it. -/
def rb (l : List UInt8) (p : Nat) (x : Bool) (n : Int) : List UInt8 × Nat × Bool :=
  if x then ([], p, true) else if n < 0 ∨ (l.length : Int) - p < n then ([], p, true) else ((l.drop p).take n.toNat, p + n.toNat, false)

theorem sl_cut {w : World} {lo hi : Nat} {A : Option Addr} {n c p m : Nat} {l : List UInt8} (h : Sl w lo hi (.slice A n c) l) (hp : p + m ≤ l.length) :
    Sl w lo hi (.slice (if c = p then A else A.map (·.add p)) m (c - p)) ((l.drop p).take m) := by
  obtain ⟨A', c', e, h0, h1, h2, hb⟩ := h
  injection e with e1 e2 e3
  subst e1 e2 e3
  have hl : ((l.drop p).take m).length = m := by simp; omega
  refine ⟨_, c - p, by rw [hl], fun e => ?_, by omega, by omega, fun hne => ?_⟩
  · split at e
    · omega
    · rename_i hcp
      cases A with
      | none => have := h0 rfl; omega
      | some a => simp at e
  · have hm : 0 < m := by
      rcases Nat.eq_zero_or_pos m with h | h
      · subst h; simp at hne
      · exact h
    obtain ⟨b, off, rfl, g1, g2, hc⟩ := hb (by rintro rfl; simp at hp; omega)
    rw [if_neg (by omega)]
    refine ⟨b, off + p, ?_, g1, g2, fun j x hx => ?_⟩
    · simp [Addr.add]
    · rw [List.getElem?_take] at hx
      split at hx
      · rw [List.getElem?_drop] at hx
        rw [Nat.add_assoc]
        exact hc _ _ hx
      · cases hx

theorem Rd.marked {w : World} {base g : Nat} {v : Value} {l : List UInt8} {p : Nat} {x y : Bool} (h : Rd w base g v l p x) : Rd (w.setCell ⟨g, 2, none⟩ (.bool y)) base g v l p y := by
  have h1 := h.row.set_ 2 (.bool y)
  have hne := h.ne
  exact ⟨h1, h.own.kept (grown_set w g 2 (.bool y)) (fun k hk e => by injection e with e; subst e; exact hne hk), h.ge, h.le, h.small⟩
theorem Rd.placed {w : World} {base g : Nat} {v : Value} {l : List UInt8} {p q : Nat} {x : Bool} (h : Rd w base g v l p x) (hq : q ≤ l.length) : Rd (w.setCell ⟨g, 1, none⟩ (.int .i64 q)) base g v l q x := by
  have h1 := h.row.set_ 1 (.int .i64 q)
  have hne := h.ne
  exact ⟨h1, h.own.kept (grown_set w g 1 _) (fun k hk e => by injection e with e; subst e; exact hne hk), h.ge, hq, h.small⟩

set_option maxHeartbeats 400000 in
theorem Bytes_bad {base g : Nat} {v : Value} {l : List UInt8} {p : Nat} (n : Int) (w : World) (h : Rd w base g v l p true) :
    Calls Try.prog 45 #[.pointer (some ⟨g, 0, none⟩), .int .i64 n] w fun e w' => e = .returned (.slice none 0 0) ∧ w = w' := by
  have H := Lib.hid h
  clear h
  go_enter Try.func45, Try.ntmps45
  go_wp2_with (go_at_call 20; refine (Bad_any _ H.out).mono ?_; rintro e w1 ⟨rfl, rfl⟩)
  go_ret
  exact ⟨rfl, rfl⟩

set_option maxHeartbeats 400000 in
theorem Bytes_neg {base g : Nat} {v : Value} {l : List UInt8} {p : Nat} (n : Int) (w : World) (h : Rd w base g v l p false) (hn : n < 0) :
    Calls Try.prog 45 #[.pointer (some ⟨g, 0, none⟩), .int .i64 n] w fun e w' => e = .returned (.slice none 0 0) ∧ Rd w' base g v l p true ∧ w.grownBy w' (some g) := by
  have c2 := h.c2
  have f2 := h.row.frozen 2
  have H := Lib.hid h
  clear h
  go_enter Try.func45, Try.ntmps45
  go_wp2_with (go_at_call 20; refine (Bad_any _ H.out).mono ?_; rintro e w1 ⟨rfl, rfl⟩)
  go_ret
  exact ⟨rfl, H.out.marked, grown_set _ _ _ _⟩

set_option maxHeartbeats 400000 in
theorem Bytes_more {base g : Nat} {v : Value} {l : List UInt8} {p : Nat} (n : Int) (w : World) (h : Rd w base g v l p false) (hn : 0 ≤ n) (hm : (l.length : Int) - p < n) :
    Calls Try.prog 45 #[.pointer (some ⟨g, 0, none⟩), .int .i64 n] w fun e w' => e = .returned (.slice none 0 0) ∧ Rd w' base g v l p true ∧ w.grownBy w' (some g) := by
  have hle := h.le
  have hlf : ((lf l p false : Nat) : Int) < n := by simp [lf]; omega
  generalize hq : lf l p false = q at *
  have H := Lib.hid h
  have HQ := Lib.hid hq
  clear h hq
  go_enter Try.func45, Try.ntmps45
  go_wp2_with (first | (go_at_call 20; refine (Bad_any _ H.out).mono ?_; rintro e w1 ⟨rfl, rfl⟩) | (go_at_call 49; refine (Left_any _ H.out).mono ?_; rintro e W1 ⟨rfl, k1, hW⟩; have hR : Rd W1 base g v l p false := (by rw [hW]; exact H.out.drewN k1); have hG : w.grownBy W1 (some g) := (by rw [hW]; exact grown_drewN (World.grownBy.refl _ _) k1); clear hW; have c2 := hR.c2; have f2 := hR.row.frozen 2; rw [HQ.out]; have HR := Lib.hid hR; have HG := Lib.hid hG; clear hR hG))
  go_ret
  exact ⟨rfl, HR.out.marked, HG.out.trans (grown_set _ _ _ _)⟩

theorem grown_below {a b c : World} {row : Option Nat} (h : a.grownBy b row) (hb : Below b.heap.size b c) : a.grownBy c row :=
  ⟨hb.os.trans h.os, hb.tape.trans h.tape, hb.output.trans h.output, Nat.le_trans h.size hb.size, fun i hi hn => (hb.block i (Nat.lt_of_lt_of_le hi h.size)).trans (h.block i hi hn)⟩
theorem good_end {base g : Nat} {v v3 : Value} {l : List UInt8} {p m : Nat} {w W1 w3 : World} (hR : Rd W1 base g v l p false) (hG : w.grownBy W1 (some g)) (hm : p + m ≤ l.length)
    (o3 : Ow w3 ((W1.setCell ⟨g, 1, none⟩ (.int .i64 ((p : Int) + m))).drew).heap.size v3 ((l.drop p).take m))
    (b3 : Below ((W1.setCell ⟨g, 1, none⟩ (.int .i64 ((p : Int) + m))).drew).heap.size ((W1.setCell ⟨g, 1, none⟩ (.int .i64 ((p : Int) + m))).drew) w3) :
    ∃ v', Ending.returned v3 = Ending.returned v' ∧ Ow w3 w.heap.size v' ((l.drop p).take m) ∧ Rd w3 base g v l (p + m) false ∧ w.grownBy w3 (some g) := by
  have h1 : Rd (W1.setCell ⟨g, 1, none⟩ (.int .i64 ((p : Int) + m))) base g v l (p + m) false := hR.placed (q := p + m) hm
  have hs : ((W1.setCell ⟨g, 1, none⟩ (.int .i64 ((p : Int) + m))).drew).heap.size = W1.heap.size := by simp [World.setCell, World.drew]
  have b4 : Below (W1.setCell ⟨g, 1, none⟩ (.int .i64 ((p : Int) + m))).heap.size (W1.setCell ⟨g, 1, none⟩ (.int .i64 ((p : Int) + m))) w3 := (Below.refl _ _).drew.trans b3
  refine ⟨v3, rfl, o3.more (by rw [hs]; exact hG.size), h1.below b4 (Nat.le_refl _), grown_below (hG.trans (grown_set _ _ _ _)) b4⟩

set_option maxHeartbeats 1000000 in
theorem Bytes_good {base g : Nat} {v : Value} {l : List UInt8} {p : Nat} (m : Nat) (w : World) (h : Rd w base g v l p false) (hm : p + m ≤ l.length) :
    Calls Try.prog 45 #[.pointer (some ⟨g, 0, none⟩), .int .i64 m] w fun e w' => ∃ v', e = .returned v' ∧ Ow w' w.heap.size v' ((l.drop p).take m) ∧ Rd w' base g v l (p + m) false ∧ w.grownBy w' (some g) := by
  have hsm := h.small
  have hlf : (m : Int) ≤ ((lf l p false : Nat) : Int) := by simp [lf]; omega
  generalize hq : lf l p false = q at *
  obtain ⟨A, c, rfl, -, hlc, hcm, -⟩ := h.own.sl
  unfold maxLen at hcm
  have hpc : (p : Int) + m ≤ c := by omega
  have hcut : ∀ W1, Rd W1 base g (.slice A l.length c) l p false → Sl ((W1.setCell ⟨g, 1, none⟩ (.int .i64 ((p : Int) + m))).drew) base ((W1.setCell ⟨g, 1, none⟩ (.int .i64 ((p : Int) + m))).drew).heap.size (.slice (if c = p then A else A.map (·.add p)) m (c - p)) ((l.drop p).take m) := by
    intro W1 hR
    exact sl_cut (hR.placed (q := p + m) hm).own.sl hm
  have H := Lib.hid h
  have HQ := Lib.hid hq
  clear h hq
  by_cases hcp : c = p
  · have e0 : Value.slice A m (c - p) = .slice A 0 0 := by rw [show m = 0 from by omega, show c - p = 0 from by omega]
    simp only [if_pos hcp, e0] at hcut
    clear e0
    have HCUT := Lib.hid hcut
    clear hcut
    go_enter Try.func45, Try.ntmps45
    go_wp2_with (first | (go_at_call 20; refine (Bad_any _ H.out).mono ?_; rintro e w1 ⟨rfl, rfl⟩) | (go_at_call 49; refine (Left_any _ H.out).mono ?_; rintro e W1 ⟨rfl, k1, hW⟩; have hR : Rd W1 base g _ l p false := (by rw [hW]; exact H.out.drewN k1); have hG : w.grownBy W1 (some g) := (by rw [hW]; exact grown_drewN (World.grownBy.refl _ _) k1); clear hW; have c0 := hR.c0; have c1 := hR.c1; have f1 := hR.row.frozen 1; rw [HQ.out]; have HR := Lib.hid hR; have HG := Lib.hid hG; clear hR hG))
    go_region_with (first | (go_at_call 28; refine (clone_any _ ((l.drop p).take m) base _ (HCUT.out _ HR.out) (by simp; omega)).mono ?_; rintro e w3 ⟨v3, rfl, o3, b3⟩))
    all_goals
      go_wp2
      go_ret
      exact good_end HR.out HG.out hm o3 b3
  · simp only [if_neg hcp] at hcut
    have HCUT := Lib.hid hcut
    clear hcut
    go_enter Try.func45, Try.ntmps45
    go_wp2_with (first | (go_at_call 20; refine (Bad_any _ H.out).mono ?_; rintro e w1 ⟨rfl, rfl⟩) | (go_at_call 49; refine (Left_any _ H.out).mono ?_; rintro e W1 ⟨rfl, k1, hW⟩; have hR : Rd W1 base g _ l p false := (by rw [hW]; exact H.out.drewN k1); have hG : w.grownBy W1 (some g) := (by rw [hW]; exact grown_drewN (World.grownBy.refl _ _) k1); clear hW; have c0 := hR.c0; have c1 := hR.c1; have f1 := hR.row.frozen 1; rw [HQ.out]; have HR := Lib.hid hR; have HG := Lib.hid hG; clear hR hG))
    go_region_with (first | (go_at_call 28; refine (clone_any _ ((l.drop p).take m) base _ (HCUT.out _ HR.out) (by simp; omega)).mono ?_; rintro e w3 ⟨v3, rfl, o3, b3⟩))
    all_goals
      go_wp2
      go_ret
      exact good_end HR.out HG.out hm o3 b3

theorem Bytes_any {base g : Nat} {v : Value} {l : List UInt8} {p : Nat} {x : Bool} (n : Int) (w : World) (h : Rd w base g v l p x) :
    Calls Try.prog 45 #[.pointer (some ⟨g, 0, none⟩), .int .i64 n] w fun e w' => ∃ v', e = .returned v' ∧ Ow w' w.heap.size v' (rb l p x n).1 ∧ Rd w' base g v l (rb l p x n).2.1 (rb l p x n).2.2 ∧ w.grownBy w' (some g) := by
  have hle := h.le
  cases x with
  | true =>
    refine (Bytes_bad n w h).mono ?_
    rintro e w' ⟨rfl, rfl⟩
    exact ⟨_, rfl, Ow.nil_ _ _, h, World.grownBy.refl _ _⟩
  | false =>
    by_cases h0 : n < 0
    · refine (Bytes_neg n w h h0).mono ?_
      rintro e w' ⟨rfl, hr, hg⟩
      have e1 : rb l p false n = ([], p, true) := by simp [rb, h0]
      rw [e1]
      exact ⟨_, rfl, Ow.nil_ _ _, hr, hg⟩
    · by_cases h1 : (l.length : Int) - p < n
      · refine (Bytes_more n w h (by omega) h1).mono ?_
        rintro e w' ⟨rfl, hr, hg⟩
        have e1 : rb l p false n = ([], p, true) := by simp [rb, h1]
        rw [e1]
        exact ⟨_, rfl, Ow.nil_ _ _, hr, hg⟩
      · obtain ⟨m, rfl⟩ := Int.eq_ofNat_of_zero_le (show 0 ≤ n by omega)
        have e1 : rb l p false (m : Int) = ((l.drop p).take m, p + m, false) := by
          unfold rb
          rw [if_neg (by simp), if_neg (by omega)]
          rfl
        rw [e1]
        exact Bytes_good m w h (by omega)
end Go.Proofs.Ytigngijpbchlaaa
