/- Walks: the law CursorWrites, its first half. -/
import Derived.Test.YtmhcbfcpamkfhaaLi
import Derived.Test.YtmhcbfcpamkfhaaRg
namespace Go.Proofs.Ytmhcbfcpamkfhaa
open Go.RowKit
set_option linter.unusedVariables false

theorem le_mod (k n : Nat) : le k (n % 256 ^ k) = le k n := by
  induction k generalizing n with
  | zero => rfl
  | succ k ih =>
    rw [le, le]
    have h1 : n % 256 ^ (k + 1) / 256 = n / 256 % 256 ^ k := by
      rw [Nat.pow_succ, Nat.mul_comm, Nat.mod_mul_right_div_self]
    have h2 : UInt8.ofNat (n % 256 ^ (k + 1)) = UInt8.ofNat n := by
      apply UInt8.toNat_inj.1
      simp only [UInt8.toNat_ofNat']
      rw [Nat.pow_succ, Nat.mul_comm]
      exact Nat.mod_mul_right_mod n 256 (256 ^ k)
    rw [h1, h2, ih]
theorem le_mod_int (k : Nat) (x : Int) (h0 : 0 ≤ x) : le k x.toNat = le k (x % (256 ^ k : Nat)).toNat := by
  have : (x % (256 ^ k : Nat)).toNat = x.toNat % 256 ^ k := by
    obtain ⟨n, rfl⟩ := Int.eq_ofNat_of_zero_le h0
    rw [← Int.natCast_emod, Int.toNat_natCast, Int.toNat_natCast]
  rw [this, le_mod]
theorem appendU16_int (v : Value) (l : List UInt8) (lo : Nat) (x : Int) (w : World) (hv : Sl w lo w.heap.size v l) (hb : l.length ≤ 1000000) :
    Calls Try.prog 9 #[v, .int .u16 (x % 65536)] w fun e w' => ∃ v', e = .returned v' ∧ Ow w' w.heap.size v' (l ++ le 2 (x % 65536).toNat) ∧ Below w.heap.size w w' := by
  have h := appendU16_any v l lo (x % 65536).toNat w hv (by omega) hb
  rw [Int.toNat_of_nonneg (by omega)] at h
  exact h
theorem appendU32_int (v : Value) (l : List UInt8) (lo : Nat) (x : Int) (w : World) (hv : Sl w lo w.heap.size v l) (hb : l.length ≤ 1000000) :
    Calls Try.prog 10 #[v, .int .u32 (x % 4294967296)] w fun e w' => ∃ v', e = .returned v' ∧ Ow w' w.heap.size v' (l ++ le 4 (x % 4294967296).toNat) ∧ Below w.heap.size w w' := by
  have h := appendU32_any v l lo (x % 4294967296).toNat w hv (by omega) hb
  rw [Int.toNat_of_nonneg (by omega)] at h
  exact h
theorem appendU64_int (v : Value) (l : List UInt8) (lo : Nat) (x : Int) (w : World) (hv : Sl w lo w.heap.size v l) (h0 : 0 ≤ x) (h1 : x ≤ 18446744073709551615) (hb : l.length ≤ 1000000) :
    Calls Try.prog 11 #[v, .int .u64 x] w fun e w' => ∃ v', e = .returned v' ∧ Ow w' w.heap.size v' (l ++ le 8 x.toNat) ∧ Below w.heap.size w w' := by
  have h := appendU64_any v l lo x.toNat w hv (by omega) hb
  rw [Int.toNat_of_nonneg h0] at h
  exact h
theorem grown_of_below_ {w W : World} (h : Below w.heap.size w W) : w.grownBy W none := ⟨h.os, h.tape, h.output, h.size, fun k hk _ => h.block k hk⟩
theorem cond_first {wp wa wc : World} {g : Nat} (hS : Below wp.heap.size wp wa) (hg : wp.heap.size ≤ g) (bc : Below wa.heap.size wa wc) : ∀ W, wc.grownBy W (some g) → Below wp.heap.size wp W := fun W h => by
  have h1 := hS.trans (bc.mono hS.size)
  exact ⟨h.os.trans h1.os, h.tape.trans h1.tape, h.output.trans h1.output, Nat.le_trans h1.size h.size, fun k hk => (h.block k (Nat.lt_of_lt_of_le hk h1.size) (fun e => by injection e with e; omega)).trans (h1.block k hk)⟩
theorem cond_next {wp wa wc : World} {g : Nat} (hS : wp.grownBy wa (some g)) (bc : Below wa.heap.size wa wc) : ∀ W, wc.grownBy W (some g) → wp.grownBy W (some g) := fun W h =>
  ⟨h.os.trans (bc.os.trans hS.os), h.tape.trans (bc.tape.trans hS.tape), h.output.trans (bc.output.trans hS.output), Nat.le_trans hS.size (Nat.le_trans bc.size h.size),
    fun k hk hn => (h.block k (Nat.lt_of_lt_of_le hk (Nat.le_trans hS.size bc.size)) hn).trans ((bc.block k (Nat.lt_of_lt_of_le hk hS.size)).trans (hS.block k hk hn))⟩

/-- What the document's writers answer: a slice that reads as the string T, in whatever world keeps its bytes. -/
theorem refLittle_str (x : Int) (m : Int) (T : ByteArray) (hT : T = ⟨(le m.toNat x.toNat).toArray⟩) (h0 : 0 ≤ x) (h1 : x ≤ 18446744073709551615) (hm : 0 ≤ m) (hm2 : m ≤ 8) (w : World) :
    Calls Try.prog 13 #[.int .u64 x, .int .i64 m] w fun e w' => ∃ A n c, e = .returned (.slice A n c) ∧ (∀ W row, w'.grownBy W row → (∀ k, row = some k → k < w.heap.size) → (convert 22 9 (.slice A n c)).run Try.prog W = .ok (.string T) W) ∧ Below w.heap.size w w' := by
  have h := refLittle_any x.toNat m w hm hm2 (by omega)
  rw [Int.toNat_of_nonneg h0] at h
  refine h.mono ?_
  rintro e w' ⟨v', rfl, o, b⟩
  obtain ⟨A, n, c, rfl, hk⟩ := str_own o
  exact ⟨A, n, c, rfl, fun W row hg hr => by rw [hT]; exact hk W (o.kept hg (fun k hk e => by have h1 := hr k e; have h2 := (o.lt k hk).1; omega)), b⟩
theorem refShort_str (x : Int) (T : ByteArray) (hT : T = ⟨(short x.toNat).toArray⟩) (h0 : 0 ≤ x) (h1 : x ≤ 18446744073709551615) (w : World) :
    Calls Try.prog 14 #[.int .u64 x] w fun e w' => ∃ A n c, e = .returned (.slice A n c) ∧ (∀ W row, w'.grownBy W row → (∀ k, row = some k → k < w.heap.size) → (convert 22 9 (.slice A n c)).run Try.prog W = .ok (.string T) W) ∧ Below w.heap.size w w' := by
  refine (refShort_any x w h0 h1).mono ?_
  rintro e w' ⟨v', rfl, o, b⟩
  obtain ⟨A, n, c, rfl, hk⟩ := str_own o
  exact ⟨A, n, c, rfl, fun W row hg hr => by rw [hT]; exact hk W (o.kept hg (fun k hk e => by have h1 := hr k e; have h2 := (o.lt k hk).1; omega)), b⟩

/-- What the two loops of the law need of the four slices and strings, whatever the world. -/
structure WF (V : Nat → Value) (Ls : Nat → List UInt8) (U : Nat → ByteArray) (v : Value) : Prop where
  form : ∀ j, j < 4 → ∃ b c, V j = .slice (some ⟨b, 0, none⟩) (Ls j).length c ∧ (Ls j).length ≤ c
  far : ∀ i j, i < 4 → j < 4 → i ≠ j → (V i).ownBlock ≠ (V j).ownBlock
  inFar : ∀ j, j < 4 → v.ownBlock ≠ (V j).ownBlock
  str : ∀ j, j < 4 → U j = ⟨(Ls j).toArray⟩
  small : ∀ j, j < 4 → (Ls j).length ≤ 3000
/-- The world in the k-th round: the slices from the k-th on are as they were made. -/
structure WS (gL gW : Nat) (V : Nat → Value) (Ls : Nat → List UInt8) (U : Nat → ByteArray) (v : Value) (l : List UInt8) (w wr : World) (k : Nat) : Prop where
  rl : Row wr gL 30 #[V 0, V 1, V 2, V 3]
  rs : Row wr gW 33 #[.string (U 0), .string (U 1), .string (U 2), .string (U 3)]
  ow : ∀ j, k ≤ j → j < 4 → Ow wr w.heap.size (V j) (Ls j)
  inn : Ow wr w.heap.size v l
  bel : Below w.heap.size w wr
theorem WS.next {gL gW : Nat} {V : Nat → Value} {Ls : Nat → List UInt8} {U : Nat → ByteArray} {v : Value} {l : List UInt8} {w wr wr' : World} {k : Nat} (hf : WF V Ls U v) (h : WS gL gW V Ls U v l w wr k) (hk : k < 4)
    (hg : wr.grownBy wr' (V k).ownBlock) : WS gL gW V Ls U v l w wr' (k + 1) := by
  have ok := h.ow k (Nat.le_refl _) hk
  refine ⟨h.rl.grown hg (ok.not_row h.rl (by decide)), h.rs.grown hg (ok.not_row h.rs (by decide)), fun j hj hj4 => (h.ow j (by omega) hj4).kept hg (fun b hb e => hf.far j k hj4 hk (by omega) (hb.trans e.symm)),
    h.inn.kept hg (fun b hb e => hf.inFar k hk (hb.trans e.symm)), h.bel.grown hg h.bel.size (fun b hb => (ok.lt b hb).1)⟩
theorem WS.cellL {gL gW : Nat} {V : Nat → Value} {Ls : Nat → List UInt8} {U : Nat → ByteArray} {v : Value} {l : List UInt8} {w wr : World} {k : Nat} (h : WS gL gW V Ls U v l w wr k) (j : Nat) (hj : j < 4) : wr.cell? ⟨gL, j, none⟩ = some (V j) := by
  rw [h.rl.cell]
  match j, hj with
  | 0, _ => rfl
  | 1, _ => rfl
  | 2, _ => rfl
  | 3, _ => rfl
theorem WS.cellS {gL gW : Nat} {V : Nat → Value} {Ls : Nat → List UInt8} {U : Nat → ByteArray} {v : Value} {l : List UInt8} {w wr : World} {k : Nat} (h : WS gL gW V Ls U v l w wr k) (j : Nat) (hj : j < 4) : wr.cell? ⟨gW, j, none⟩ = some (.string (U j)) := by
  rw [h.rs.cell]
  match j, hj with
  | 0, _ => rfl
  | 1, _ => rfl
  | 2, _ => rfl
  | 3, _ => rfl
theorem Ow.stored {w : World} {base b c : Nat} {l : List UInt8} (h : Ow w base (.slice (some ⟨b, 0, none⟩) l.length c) l) (j : Nat) (y : UInt8) :
    Ow (w.setCell ⟨b, j, none⟩ (b8 y)) base (.slice (some ⟨b, 0, none⟩) l.length c) (l.set j y) := by
  have h1 := (World.ownsRow.stored h j (b8 y)).1
  unfold Ow
  rw [List.map_set, List.length_set]
  exact h1
theorem ws_start {w wr : World} {gL gW n2 n3 n4 n5 : Nat} {v0 v1 v2 v3 v : Value} {l l0 l1 l2 l3 : List UInt8} {u0 u1 u2 u3 : ByteArray}
    (rl : Row wr gL 30 #[v0, v1, v2, v3]) (rs : Row wr gW 33 #[.string u0, .string u1, .string u2, .string u3])
    (h : Ow wr w.heap.size v l) (hlt : ∀ k, v.ownBlock = some k → k < n2) (h0 : Ow wr n2 v0 l0) (lt0 : ∀ k, v0.ownBlock = some k → k < n3) (h1 : Ow wr n3 v1 l1) (lt1 : ∀ k, v1.ownBlock = some k → k < n4)
    (h2 : Ow wr n4 v2 l2) (lt2 : ∀ k, v2.ownBlock = some k → k < n5) (h3 : Ow wr n5 v3 l3) (m2 : w.heap.size ≤ n2) (m3 : n2 ≤ n3) (m4 : n3 ≤ n4) (m5 : n4 ≤ n5)
    (e0 : l0 ≠ []) (e1 : l1 ≠ []) (e2 : l2 ≠ []) (e3 : l3 ≠ []) (s0 : u0 = ⟨l0.toArray⟩) (s1 : u1 = ⟨l1.toArray⟩) (s2 : u2 = ⟨l2.toArray⟩) (s3 : u3 = ⟨l3.toArray⟩)
    (b0 : l0.length ≤ 3000) (b1 : l1.length ≤ 3000) (b2 : l2.length ≤ 3000) (b3 : l3.length ≤ 3000) (bel : Below w.heap.size w wr) :
    ∃ (V : Nat → Value) (Ls : Nat → List UInt8) (U : Nat → ByteArray), WF V Ls U v ∧ WS gL gW V Ls U v l w wr 0 := by
  obtain ⟨V, V0, V1, V2, V3⟩ : ∃ V : Nat → Value, V 0 = v0 ∧ V 1 = v1 ∧ V 2 = v2 ∧ V 3 = v3 := ⟨fun j => match j with | 0 => v0 | 1 => v1 | 2 => v2 | _ => v3, rfl, rfl, rfl, rfl⟩
  obtain ⟨Ls, L0, L1, L2, L3⟩ : ∃ Ls : Nat → List UInt8, Ls 0 = l0 ∧ Ls 1 = l1 ∧ Ls 2 = l2 ∧ Ls 3 = l3 := ⟨fun j => match j with | 0 => l0 | 1 => l1 | 2 => l2 | _ => l3, rfl, rfl, rfl, rfl⟩
  obtain ⟨U, U0, U1, U2, U3⟩ : ∃ U : Nat → ByteArray, U 0 = u0 ∧ U 1 = u1 ∧ U 2 = u2 ∧ U 3 = u3 := ⟨fun j => match j with | 0 => u0 | 1 => u1 | 2 => u2 | _ => u3, rfl, rfl, rfl, rfl⟩
  subst V0 V1 V2 V3 L0 L1 L2 L3 U0 U1 U2 U3
  have four : ∀ (p : Nat → Prop), p 0 → p 1 → p 2 → p 3 → ∀ j, j < 4 → p j := by
    intro p p0 p1 p2 p3 j hj
    match j, hj with
    | 0, _ => exact p0
    | 1, _ => exact p1
    | 2, _ => exact p2
    | 3, _ => exact p3
  have fm : ∀ {n : Nat} {v : Value} {l : List UInt8}, Ow wr n v l → l ≠ [] → ∃ b c, v = .slice (some ⟨b, 0, none⟩) l.length c ∧ l.length ≤ c := fun ho he => by
    obtain ⟨b, c, e, hc, _⟩ := ho.form_ he
    exact ⟨b, c, e, hc⟩
  obtain ⟨g0, c0, f0, i0⟩ := fm h0 e0
  obtain ⟨g1, c1, f1, i1⟩ := fm h1 e1
  obtain ⟨g2, c2, f2, i2⟩ := fm h2 e2
  obtain ⟨g3, c3, f3, i3⟩ := fm h3 e3
  have o0 : (V 0).ownBlock = some g0 := by rw [f0]; rfl
  have o1 : (V 1).ownBlock = some g1 := by rw [f1]; rfl
  have o2 : (V 2).ownBlock = some g2 := by rw [f2]; rfl
  have o3 : (V 3).ownBlock = some g3 := by rw [f3]; rfl
  have x0 := (h0.lt g0 o0).1
  have y0 := lt0 g0 o0
  have x1 := (h1.lt g1 o1).1
  have y1 := lt1 g1 o1
  have x2 := (h2.lt g2 o2).1
  have y2 := lt2 g2 o2
  have x3 := (h3.lt g3 o3).1
  have od : ∀ j, j < 4 → ∃ g, (V j).ownBlock = some g ∧ n2 ≤ g := four _ ⟨g0, o0, x0⟩ ⟨g1, o1, by omega⟩ ⟨g2, o2, by omega⟩ ⟨g3, o3, by omega⟩
  refine ⟨V, Ls, U, ⟨four _ ⟨g0, c0, f0, i0⟩ ⟨g1, c1, f1, i1⟩ ⟨g2, c2, f2, i2⟩ ⟨g3, c3, f3, i3⟩, ?_, ?_, four _ s0 s1 s2 s3, four _ b0 b1 b2 b3⟩, ⟨rl, rs, ?_, h, bel⟩⟩
  · intro i j hi hj hne e
    have gi : ∀ j, j < 4 → (V j).ownBlock = some (if j = 0 then g0 else if j = 1 then g1 else if j = 2 then g2 else g3) := four _ o0 o1 o2 o3
    rw [gi i hi, gi j hj] at e
    injection e with e
    rcases (by omega : i = 0 ∨ i = 1 ∨ i = 2 ∨ i = 3) with rfl | rfl | rfl | rfl <;> rcases (by omega : j = 0 ∨ j = 1 ∨ j = 2 ∨ j = 3) with rfl | rfl | rfl | rfl <;> simp at e hne <;> omega
  · intro j hj e
    obtain ⟨g, h1, h2⟩ := od j hj
    have := hlt g (e.trans h1)
    omega
  · intro j _ hj
    exact four (fun j => Ow wr w.heap.size (V j) (Ls j)) (h0.more m2) (h1.more (by omega)) (h2.more (by omega)) (h3.more (by omega)) j hj
theorem str_cat (a b : List UInt8) : (⟨a.toArray⟩ ++ ⟨b.toArray⟩ : ByteArray) = ⟨(a ++ b).toArray⟩ := by
  apply ByteArray.ext
  simp

theorem writes_long (A : Option Addr) (n c : Nat) (x : Int) (w : World) (hn : 2000 < n) (hm : n ≤ 9223372036854775807) :
    Calls Try.prog 3 #[.slice A n c, .int .u64 x] w fun e w' => e = .returned (.bool true) ∧ Below w.heap.size w w' := by
  go_enter Try.func3, Try.ntmps3
  go_wp2_with (go_at_call 8; refine (known_any _).mono ?_; rintro e w1 ⟨rfl, hb⟩)
  go_ret
  exact ⟨rfl, hb⟩
end Go.Proofs.Ytmhcbfcpamkfhaa
