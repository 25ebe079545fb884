/- Walks: the law CursorReads, where there are too many bytes or calls; what its walk needs beside. -/
import Derived.Test.YtmhcbfcpamkfhaaRb
import Derived.Test.YtmhcbfcpamkfhaaRu
import Derived.Test.YtmhcbfcpamkfhaaWr
import Derived.Test.YtmhcbfcpamkfhaaArg
import Derived.Test.YtmhcbfcpamkfhaaBack
namespace Go.Proofs.Ytmhcbfcpamkfhaa
open Go.RowKit
set_option linter.unusedVariables false

/-- Too many bytes, or calls: 'known' alone is asked. -/
theorem reads_long1 (A B : Option Addr) (n c m d : Nat) (w : World) (hn : 2000 < n) (hm : n ≤ 9223372036854775807) :
    Calls Try.prog 4 #[.slice A n c, .slice B m d] w fun e w' => e = .returned (.bool true) ∧ Below w.heap.size w w' := by
  have hd : decide ((2000 : Int) < n) = true := by simp; omega
  go_enter Try.func4, Try.ntmps4
  go_wp2_with (go_at_call 8; refine (known_any _).mono ?_; rintro e w1 ⟨rfl, hb⟩)
  go_ret
  exact ⟨rfl, hb⟩
theorem reads_long2 (A B : Option Addr) (n c m d : Nat) (w : World) (hn : n ≤ 2000) (hm : 100 < m) (hm2 : m ≤ 9223372036854775807) :
    Calls Try.prog 4 #[.slice A n c, .slice B m d] w fun e w' => e = .returned (.bool true) ∧ Below w.heap.size w w' := by
  have hd : decide ((2000 : Int) < n) = false := by simp; omega
  go_enter Try.func4, Try.ntmps4
  go_wp2_with (go_at_call 8; refine (known_any _).mono ?_; rintro e w1 ⟨rfl, hb⟩)
  go_ret
  exact ⟨rfl, hb⟩

theorem refNumber_spec {hi g : Nat} {v : Value} {l : List UInt8} {p : Nat} {x : Bool} {n q : Nat} {y : Bool} (S : Int) (s : Nat) (h : rd l p x s = (n, q, y)) (hS : S = (s : Int)) (w : World) (hr : RR w hi g v l p x) (hs1 : 1 ≤ s) (hs8 : s ≤ 8) :
    Calls Try.prog 17 #[.pointer (some ⟨g, 0, none⟩), .int .i64 S] w fun e w' => e = .returned (.int .u64 n) ∧ RR w' hi g v l q y ∧ w.grownBy w' (some g) := by
  have h1 := refNumber_any S s hS w hr hs1 hs8
  rw [h] at h1
  exact h1
theorem refUint_spec {hi g : Nat} {v : Value} {l : List UInt8} {p : Nat} {x : Bool} {n q : Nat} {y : Bool} (h : rd l p x 0 = (n, q, y)) (w : World) (hr : RR w hi g v l p x) :
    Calls Try.prog 22 #[.pointer (some ⟨g, 0, none⟩)] w fun e w' => e = .returned (.int .u64 n) ∧ RR w' hi g v l q y ∧ w.grownBy w' (some g) := by
  have h1 := refUint_any w hr
  rw [h] at h1
  exact h1
theorem Bytes_to {base g : Nat} {v : Value} {l : List UInt8} {p : Nat} {x : Bool} {n : Int} {s : List UInt8} {q : Nat} {y : Bool} (h : rb l p x n = (s, q, y)) (w : World) (hr : Rd w base g v l p x) :
    Calls Try.prog 23 #[.pointer (some ⟨g, 0, none⟩), .int .i64 n] w fun e w' => ∃ A c, e = .returned (.slice A s.length c) ∧ Ow w' w.heap.size (.slice A s.length c) s ∧ Rd w' base g v l q y ∧ w.grownBy w' (some g) := by
  have h1 := Bytes_any n w hr
  rw [h] at h1
  refine h1.mono ?_
  rintro e w' ⟨v', rfl, o, h2, h3⟩
  obtain ⟨A, c, rfl, -⟩ := o.sl
  exact ⟨A, c, rfl, o, h2, h3⟩
theorem refBytes_to {hi g : Nat} {v : Value} {l : List UInt8} {p : Nat} {x : Bool} {n : Int} {s : List UInt8} {q : Nat} {y : Bool} (h : rb l p x n = (s, q, y)) (w : World) (hr : RR w hi g v l p x) :
    Calls Try.prog 24 #[.pointer (some ⟨g, 0, none⟩), .int .i64 n] w fun e w' => ∃ A c, e = .returned (.slice A s.length c) ∧ Ow w' w.heap.size (.slice A s.length c) s ∧ RR w' hi g v l q y ∧ w.grownBy w' (some g) := by
  have h1 := refBytes_any n w hr
  rw [h] at h1
  refine h1.mono ?_
  rintro e w' ⟨v', rfl, o, h2, h3⟩
  obtain ⟨A, c, rfl, -⟩ := o.sl
  exact ⟨A, c, rfl, o, h2, h3⟩
theorem rb_short (l : List UInt8) (p : Nat) (x : Bool) (n : Int) : (rb l p x n).1.length ≤ l.length := by
  unfold rb
  split
  · simp
  · split
    · simp
    · simp only [List.length_take, List.length_drop]; omega
theorem rd_open (l : List UInt8) (p : Nat) (x : Bool) (s m : Nat) (hs : 1 ≤ s) (hm : 2 ^ (8 * s) ≤ m + 1) : ∃ r q y, rd l p x s = (r, q, y) ∧ (r : Int) ≤ m := by
  have h := rd_lt l p x s hs
  exact ⟨(rd l p x s).1, (rd l p x s).2.1, (rd l p x s).2.2, rfl, by omega⟩

/-- The two readers, of the same bytes, at the same place. -/
structure RS (B g gr : Nat) (v b : Value) (l : List UInt8) (w wr : World) (p : Nat) (x : Bool) : Prop where
  rd : Rd wr B g v l p x
  rr : RR wr w.heap.size gr b l p x
  bel : Below w.heap.size w wr
  hB : w.heap.size ≤ B
  ne : g ≠ gr
section
variable {B g gr : Nat} {v b : Value} {l : List UInt8} {w wr w1 w2 : World} {p q : Nat} {x y : Bool}
theorem RS.far (h : RS B g gr v b l w wr p x) : v.ownBlock ≠ some gr := h.rd.own.not_row h.rr.row (by decide)
theorem RS.hg (h : RS B g gr v b l w wr p x) : w.heap.size ≤ g := Nat.le_trans h.hB h.rd.ge
/-- Behind a call of the reader. -/
theorem RS.one (h : RS B g gr v b l w wr p x) (hg : wr.grownBy w1 (some g)) : RR w1 w.heap.size gr b l p x ∧ Below w.heap.size w w1 :=
  ⟨h.rr.grown hg (fun e => h.ne (Option.some.inj e)) (fun k hk => by injection hk with hk; have := h.hg; omega), h.bel.grown hg h.bel.size (fun k hk => by injection hk with hk; have := h.hg; omega)⟩
/-- Behind the same call of the document's reader. -/
theorem RS.two (h : RS B g gr v b l w wr p x) (hb : Below w.heap.size w w1) (h1 : Rd w1 B g v l q y) (h2 : RR w2 w.heap.size gr b l q y) (hr : RR w1 w.heap.size gr b l p x) (hg : w1.grownBy w2 (some gr)) : RS B g gr v b l w w2 q y :=
  ⟨h1.far hg (fun e => h.ne e.symm) (h1.own.not_row hr.row (by decide)), h2, hb.grown hg hb.size (fun k hk => by injection hk with hk; have := hr.ge; omega), h.hB, h.ne⟩
theorem RS.drewN (h : RS B g gr v b l w wr p x) (n : Nat) : RS B g gr v b l w (wr.drewN n) p x :=
  ⟨h.rd.drewN n, h.rr.drewN n, ⟨h.bel.os, h.bel.tape, h.bel.output, h.bel.size, h.bel.block⟩, h.hB, h.ne⟩
/-- A block that has been made behind both is written over. -/
theorem RS.spoil {row : Option Nat} {n : Nat} (h : RS B g gr v b l w wr p x) (hg : wr.grownBy w1 row) (hr : ∀ k, row = some k → n ≤ k) (hn : w.heap.size ≤ n) (n1 : g < n) (n2 : gr < n) (n3 : ∀ k, v.ownBlock = some k → k < n) : RS B g gr v b l w w1 p x :=
  ⟨⟨h.rd.row.grown hg (fun e => by have := hr _ e; omega), h.rd.own.kept hg (fun k hk e => by have := hr _ e; have := n3 k hk; omega), h.rd.ge, h.rd.le, h.rd.small⟩,
   h.rr.grown hg (fun e => by have := hr _ e; omega) (fun k hk => Nat.le_trans hn (hr k hk)), h.bel.grown hg h.bel.size (fun k hk => Nat.le_trans hn (hr k hk)), h.hB, h.ne⟩
/-- The bytes that were handed in are written over. -/
theorem RS.spoilIn {row : Option Nat} (h : RS B g gr v b l w wr p x) (hg : wr.grownBy w1 row) (hr : ∀ k, row = some k → w.heap.size ≤ k ∧ k < B) (h1 : B ≤ gr) : RS B g gr v b l w w1 p x :=
  ⟨h.rd.grown hg (fun k hk => (hr k hk).2), h.rr.grown hg (fun e => by have := (hr _ e).2; omega) (fun k hk => (hr k hk).1), h.bel.grown hg h.bel.size (fun k hk => (hr k hk).1), h.hB, h.ne⟩
/-- A number of a slice of numbers that came in, in whatever world keeps what was there. -/
theorem row_cell {w wr : World} {A : Option Addr} {n c : Nat} {zs : List Int} (h : IsRow .i64 w A n c zs) (hb : Below w.heap.size w wr) (k : Nat) (hk : k < n) :
    ∃ (b o : Nat) (z : Int), A = some ⟨b, o, none⟩ ∧ wr.cell? ⟨b, o + k, none⟩ = some (.int .i64 z) ∧ -9223372036854775808 ≤ z ∧ z ≤ 9223372036854775807 := by
  rcases h with ⟨rfl, rfl, rfl, rfl⟩ | ⟨x, rfl, hl, hm, hz, hc, hw⟩
  · omega
  · have hkz : k < zs.length := by omega
    have hc0 := hc k hkz
    obtain ⟨b, off, spot⟩ := x
    have hspot : spot = none := by simpa [Addr.add] using World.cell?_spot (hc 0 (by omega))
    subst hspot
    have h2 : (⟨b, off, none⟩ : Addr).add k = ⟨b, off + k, none⟩ := by unfold Addr.add; split <;> simp_all
    rw [h2] at hc0
    have hbl : b < w.heap.size := by simpa using World.block_lt_of_cell? w _ hc0
    refine ⟨b, off, zs.getD k 0, rfl, (hb.cell hbl).trans hc0, ?_⟩
    have hmem : zs.getD k 0 ∈ zs := by
      rw [List.getD, List.getElem?_eq_getElem hkz]
      exact List.getElem_mem hkz
    have hwf := Go.bounds_i64 (hw _ hmem)
    omega
end
end Go.Proofs.Ytmhcbfcpamkfhaa
