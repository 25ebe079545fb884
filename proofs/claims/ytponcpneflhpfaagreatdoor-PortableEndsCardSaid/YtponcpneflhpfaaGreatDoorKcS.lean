/- Walks: of the package cursor what portable calls: numbers of two, four and eight bytes are written; a new reader; whole numbers are read. -/
import Derived.Test.YtponcpneflhpfaaGreatDoorSa9
import Derived.Test.YtponcpneflhpfaaGreatDoorSa7
import Derived.Test.YtponcpneflhpfaaGreatDoorKpS
import Derived.BigQuiet
import Derived.Deep.QuietTactic
import Derived.Laws.EntriesVeiled
namespace Go.Proofs.YtponcpneflhpfaaGreatDoor
open Go.RowKit
set_option linter.unusedVariables false

set_option maxHeartbeats 400000 in
theorem bad_at (g : Nat) (x : Bool) (w : World) (h2 : w.cell? ⟨g, 2, none⟩ = some (.bool x)) :
    Calls Tryz.prog 325 #[.pointer (some ⟨g, 0, none⟩)] w fun e w' => e = .returned (.bool x) ∧ w = w' := by
  go_enter Tryz.func325, Tryz.ntmps325
  go_wp2
  go_ret
  exact ⟨rfl, rfl⟩

set_option maxHeartbeats 400000 in
theorem left_bad (g : Nat) (w : World) (h2 : w.cell? ⟨g, 2, none⟩ = some (.bool true)) :
    Calls Tryz.prog 328 #[.pointer (some ⟨g, 0, none⟩)] w fun e w' => e = .returned (.int .i64 0) ∧ w = w' := by
  go_enter Tryz.func328, Tryz.ntmps328
  go_wp2
  go_ret
  exact ⟨rfl, rfl⟩

set_option maxHeartbeats 400000 in
theorem left_good (g : Nat) (A : Option Addr) (n c p : Nat) (w : World) (h0 : w.cell? ⟨g, 0, none⟩ = some (.slice A n c)) (h1 : w.cell? ⟨g, 1, none⟩ = some (.int .i64 p)) (h2 : w.cell? ⟨g, 2, none⟩ = some (.bool false)) (hp : p ≤ n) (hn : n ≤ 1000000000) :
    Calls Tryz.prog 328 #[.pointer (some ⟨g, 0, none⟩)] w fun e w' => e = .returned (.int .i64 (n - p : Nat)) ∧ ∃ k, w' = w.drewN k := by
  go_enter Tryz.func328, Tryz.ntmps328
  go_wp2
  go_quiet (fail)
  go_wp2
  go_ret
  refine ⟨?_, _, rfl⟩
  have : ((n - p : Nat) : Int) = (n : Int) - p := by omega
  rw [this]; rfl

set_option maxHeartbeats 400000 in
theorem copyWithRoom_any (v : Value) (l : List UInt8) (lo : Nat) (m : Int) (w : World) (hv : Gs e8 w lo w.heap.size v l) (hm : 0 ≤ m) (hb : (l.length : Int) + m ≤ 100000000) :
    Calls Tryz.prog 323 #[v, .int .i64 m] w fun e w' => ∃ v', e = .returned v' ∧ Gw e8 w' w.heap.size v' l ∧ Below w.heap.size w w' := by
  obtain ⟨m, rfl⟩ := Int.eq_ofNat_of_zero_le hm
  have hv0 := hv
  obtain ⟨A, c, rfl, -, -, -, -⟩ := hv
  go_enter Tryz.func323, Tryz.ntmps323
  go_wp2_with (first | (at_make; refine wpList_gmk e8 _ rfl _ _ _ rfl sli8 inf8 _ _ _ (l.length + m) rfl rfl ?_ (by omega) ?_; omega; intro w1 o1 g1) | (at_builtin; refine wpList_gapp e8 _ rfl _ _ _ rfl w.heap.size sli8 inf8 _ [] rfl o1 lo w.heap.size _ l rfl (hv0.grown g1 (Nat.le_refl _) (fun k h => by cases h)) (by simp; omega) g1.size ?_; intro v2 w2 o2 g2 _))
  have b2 : Below w.heap.size w w2 := (below_of_grown g1 (fun k h => by cases h)).grown g2 g1.size (fun k h => by injection h with h; subst h; exact Nat.le_refl _)
  go_ret
  exact ⟨v2, rfl, o2, b2⟩

set_option maxHeartbeats 400000 in
theorem appendWhole_any (v : Value) (l : List UInt8) (lo : Nat) (N : Nat) (m : Int) (w : World) (hv : Gs e8 w lo w.heap.size v l) (hm : 0 ≤ m) (hm2 : m ≤ 8) (hN : N < 18446744073709551616) (hb : (l.length : Int) + m ≤ 100000000) :
    Calls Tryz.prog 297 #[v, .int .u64 N, .int .i64 m] w fun e w' => ∃ v', e = .returned v' ∧ Gw e8 w' w.heap.size v' (l ++ le m.toNat N) ∧ Below w.heap.size w w' := by
  obtain ⟨m, rfl⟩ := Int.eq_ofNat_of_zero_le hm
  go_enter Tryz.func297, Tryz.ntmps297
  go_wp2_with (go_at_call 323; refine (copyWithRoom_any v l lo m _ hv (by omega) (by omega)).mono ?_; rintro e w1 ⟨v1, rfl, o1, b1⟩)
  go_loopw [1, 7, 12] (fun n u i wr => ∃ k D : Nat, k ≤ m ∧ D = N / 256 ^ k ∧ i = .int .i64 k ∧ n = .int .u64 D ∧ Gw e8 wr w.heap.size u (l ++ le k N) ∧ Below w.heap.size w wr) (fun _ _ i _ => m - (intOf i).toNat)
  case atStart => exact ⟨0, N, by omega, by simp, rfl, rfl, by simpa [le] using o1, b1⟩
  case round =>
    obtain ⟨k, D, hk, hD, rfl, rfl, ok, bk⟩ := hrel
    have hDN : D ≤ N := by rw [hD]; exact Nat.div_le_self _ _
    have HD := Lib.hid hD
    clear hD
    by_cases hlt : k < m
    · go_wp2_with (at_builtin; refine wpList_gapp1 e8 _ rfl _ _ _ rfl w.heap.size sli8 inf8 u7 (l ++ le k N) rfl ok _ (UInt8.ofNat D) (congrArg (Value.int IntKind.u8) (u8_mod D).symm) rfl (by simp [le_length]; omega) bk.size ?_; intro v2 w2 o2 g2 _)
      have b2 : Below w.heap.size w w2 := bk.grown g2 bk.size (fun j hj => (ok.lt j hj).1)
      go_roundw
      case rel => exact ⟨k + 1, D / 256, by omega, by rw [HD.out, div_pow_succ], by go_num, by go_num, by rw [le_snoc, ← HD.out, ← List.append_assoc]; exact o2, b2⟩
      case measure => simp [intOf]; omega
    · obtain rfl : k = m := by omega
      go_wp2
      go_ret
      exact ⟨u7, rfl, by simpa using ok, bk⟩

set_option maxHeartbeats 400000 in
theorem appendU32_any (v : Value) (l : List UInt8) (lo : Nat) (N : Nat) (w : World) (hv : Gs e8 w lo w.heap.size v l) (hN : N < 4294967296) (hb : l.length ≤ 1000000) :
    Calls Tryz.prog 247 #[v, .int .u32 N] w fun e w' => ∃ v', e = .returned v' ∧ Gw e8 w' w.heap.size v' (l ++ le 4 N) ∧ Below w.heap.size w w' := by
  go_enter Tryz.func247, Tryz.ntmps247
  go_wp2_with (go_at_call 297; refine (appendWhole_any v l lo N 4 _ hv (by omega) (by omega) (by omega) (by omega)).mono ?_; rintro e w1 ⟨v1, rfl, o1, b1⟩)
  go_ret
  exact ⟨v1, rfl, o1, b1⟩

set_option maxHeartbeats 400000 in
theorem appendU16_any (v : Value) (l : List UInt8) (lo : Nat) (N : Nat) (w : World) (hv : Gs e8 w lo w.heap.size v l) (hN : N < 65536) (hb : l.length ≤ 1000000) :
    Calls Tryz.prog 248 #[v, .int .u16 N] w fun e w' => ∃ v', e = .returned v' ∧ Gw e8 w' w.heap.size v' (l ++ le 2 N) ∧ Below w.heap.size w w' := by
  go_enter Tryz.func248, Tryz.ntmps248
  go_wp2_with (go_at_call 297; refine (appendWhole_any v l lo N 2 _ hv (by omega) (by omega) (by omega) (by omega)).mono ?_; rintro e w1 ⟨v1, rfl, o1, b1⟩)
  go_ret
  exact ⟨v1, rfl, o1, b1⟩

set_option maxHeartbeats 400000 in
theorem appendU64_any (v : Value) (l : List UInt8) (lo : Nat) (N : Nat) (w : World) (hv : Gs e8 w lo w.heap.size v l) (hN : N < 18446744073709551616) (hb : l.length ≤ 1000000) :
    Calls Tryz.prog 298 #[v, .int .u64 N] w fun e w' => ∃ v', e = .returned v' ∧ Gw e8 w' w.heap.size v' (l ++ le 8 N) ∧ Below w.heap.size w w' := by
  go_enter Tryz.func298, Tryz.ntmps298
  go_wp2_with (go_at_call 297; refine (appendWhole_any v l lo N 8 _ hv (by omega) (by omega) (by omega) (by omega)).mono ?_; rintro e w1 ⟨v1, rfl, o1, b1⟩)
  go_ret
  exact ⟨v1, rfl, o1, b1⟩

set_option maxHeartbeats 400000 in
theorem clone_any (v : Value) (l : List UInt8) (lo : Nat) (w : World) (hv : Gs e8 w lo w.heap.size v l) (hb : l.length ≤ 100000000) :
    Calls Tryz.prog 324 #[v] w fun e w' => ∃ v', e = .returned v' ∧ Gw e8 w' w.heap.size v' l ∧ Below w.heap.size w w' := by
  have hv0 := hv
  obtain ⟨A, c, rfl, hc0, -, -, hbt⟩ := hv
  cases A with
  | none =>
    obtain rfl := hc0 rfl
    have hl : l = [] := by
      by_cases h : l = []
      · exact h
      · obtain ⟨b, off, e, _⟩ := hbt h
        cases e
    subst hl
    clear hc0 hbt hv0
    have hq := fun W n c => Lib.run_eql_slice_nil (P := Tryz.prog) W 60 5 none n c 0 0 Tryz.underlying60
    simp only [Option.isNone_none] at hq
    go_enter Tryz.func324, Tryz.ntmps324
    go_wp2
    go_ret
    exact ⟨_, rfl, Gw.nil_ _ _, Below.refl _ _⟩
  | some ad =>
    clear hc0 hbt
    have hq := fun W n c => Lib.run_eql_slice_nil (P := Tryz.prog) W 60 5 (some ad) n c 0 0 Tryz.underlying60
    simp only [Option.isNone_some] at hq
    go_enter Tryz.func324, Tryz.ntmps324
    go_wp2_with (at_builtin; refine wpList_gapp e8 _ rfl _ _ _ rfl w.heap.size sli8 inf8 _ [] rfl (Gw.empty_ _ _ (Nat.le_refl _)) lo w.heap.size _ l rfl (hv0.alloc (Nat.le_refl _) _) (by simp; omega) (by simp) ?_; intro v2 w2 o2 g2 _)
    go_ret
    exact ⟨v2, rfl, by simpa using o2, ((Below.refl _ _).alloc (Nat.le_refl _) _).grown g2 (by simp) (fun k h => by injection h with h; subst h; exact Nat.le_refl _)⟩

/-- Block g is a reader: the bytes v, which are l; the place p; whether it is bad. -/
structure Rd (w : World) (base g : Nat) (v : Value) (l : List UInt8) (p : Nat) (x : Bool) : Prop where
  row : Row w g 317 #[v, .int .i64 p, .bool x]
  own : Gw e8 w base v l
  ge : base ≤ g
  le : p ≤ l.length
  small : l.length ≤ 10000000

section
variable {w w' : World} {base g : Nat} {v : Value} {l : List UInt8} {p : Nat} {x : Bool}
theorem Gw.not_row {t : TypeId} {cs : Array Value} (h : Gw e8 w base v l) (hr : Row w g t cs) (ht : t ≠ e8.E) : v.ownBlock ≠ some g := by
  rcases h.2 with ⟨rfl, _⟩ | ⟨g', cap, cur, rfl, _, hh, _⟩
  · simp [Value.ownBlock]
  · intro e
    simp only [Value.ownBlock, Option.some.injEq] at e
    subst e
    unfold Row at hr
    rw [hh] at hr
    injection hr with hr
    injection hr with _ h2
    exact ht h2.symm
theorem Rd.c0 (h : Rd w base g v l p x) : w.cell? ⟨g, 0, none⟩ = some v := by rw [h.row.cell]; rfl
theorem Rd.c1 (h : Rd w base g v l p x) : w.cell? ⟨g, 1, none⟩ = some (.int .i64 p) := by rw [h.row.cell]; rfl
theorem Rd.c2 (h : Rd w base g v l p x) : w.cell? ⟨g, 2, none⟩ = some (.bool x) := by rw [h.row.cell]; rfl
theorem Rd.ne (h : Rd w base g v l p x) : v.ownBlock ≠ some g := h.own.not_row h.row (by decide)
theorem Rd.grown {row : Option Nat} (h : Rd w base g v l p x) (hg : w.grownBy w' row) (hr : ∀ k, row = some k → k < base) : Rd w' base g v l p x :=
  ⟨h.row.grown hg (fun e => by have := hr g e; have := h.ge; omega), h.own.kept hg (fun k hk e => by have := hr k e; have := (h.own.lt k hk).1; omega), h.ge, h.le, h.small⟩
theorem Rd.far {row : Nat} (h : Rd w base g v l p x) (hg : w.grownBy w' (some row)) (h1 : row ≠ g) (h2 : v.ownBlock ≠ some row) : Rd w' base g v l p x :=
  ⟨h.row.grown hg (fun e => h1 (Option.some.inj e)), h.own.kept hg (fun k hk e => by injection e with e; subst e; exact h2 hk), h.ge, h.le, h.small⟩
theorem Rd.below {B : Nat} (h : Rd w base g v l p x) (hb : Below B w w') (hB : w.heap.size ≤ B) : Rd w' base g v l p x :=
  ⟨h.row.below hb (Nat.lt_of_lt_of_le h.row.lt hB), h.own.below hb hB, h.ge, h.le, h.small⟩
theorem Rd.alloc (h : Rd w base g v l p x) (o : Obj) : Rd (w.alloc o) base g v l p x := ⟨h.row.alloc o, h.own.alloc o, h.ge, h.le, h.small⟩
theorem Rd.lt (h : Rd w base g v l p x) : g < w.heap.size := h.row.lt
theorem Rd.more (h : Rd w base g v l p x) {base' : Nat} (hb : base' ≤ base) : Rd w base' g v l p x := ⟨h.row, h.own.more hb, Nat.le_trans hb h.ge, h.le, h.small⟩
theorem Rd.drewN (h : Rd w base g v l p x) (n : Nat) : Rd (w.drewN n) base g v l p x := ⟨h.row, h.own, h.ge, h.le, h.small⟩
end


set_option maxHeartbeats 400000 in
theorem new_any (v : Value) (l : List UInt8) (lo : Nat) (w : World) (hv : Gs e8 w lo w.heap.size v l) (hb : l.length ≤ 10000000) :
    Calls Tryz.prog 299 #[v] w fun e w' => ∃ g v', e = .returned (.pointer (some ⟨g, 0, none⟩)) ∧ Rd w' w.heap.size g v' l 0 false ∧ Below w.heap.size w w' := by
  go_enter Tryz.func299, Tryz.ntmps299
  go_wp2_with (go_at_call 324; refine (clone_any v l lo _ hv (by omega)).mono ?_; rintro e w1 ⟨v1, rfl, o1, b1⟩; obtain ⟨A1, c1, rfl, -⟩ := o1.sl)
  go_ret
  exact ⟨w1.heap.size, _, rfl, ⟨Row.new _ _ _, o1.alloc _, b1.size, Nat.zero_le _, hb⟩, b1.alloc b1.size _⟩

/-- One round of a whole number. -/
theorem whole_step (l : List UInt8) (p k : Nat) (y : UInt8) (z D : Int) (h : l[p + k]? = some y) (hz : z = (y.toNat : Int)) (hD : D = (leVal ((l.drop p).take k) : Nat)) (hk : k ≤ 7) :
    bits BinOp.or IntKind.u64 D (IntKind.u64.wrap (z * 2 ^ (8 * k))) = (leVal ((l.drop p).take (k + 1)) : Nat) ∧ leVal ((l.drop p).take (k + 1)) < 18446744073709551616 := by
  subst hz hD
  have hpk : p + k < l.length := by
    rcases Nat.lt_or_ge (p + k) l.length with h1 | h1
    · exact h1
    · rw [List.getElem?_eq_none h1] at h; cases h
  have hlen : ((l.drop p).take k).length = k := by simp; omega
  have hb := leVal_lt ((l.drop p).take k)
  rw [hlen] at hb
  have hn := take_next (l.drop p) k y (by rw [List.getElem?_drop]; exact h)
  have hlt := leVal_lt ((l.drop p).take (k + 1))
  have hlen1 : ((l.drop p).take (k + 1)).length = k + 1 := by simp; omega
  rw [hlen1] at hlt
  have h64 : 2 ^ (8 * (k + 1)) ≤ 18446744073709551616 := Nat.pow_le_pow_right (n := 2) (by omega) (show 8 * (k + 1) ≤ 64 by omega)
  have hv : leVal ((l.drop p).take (k + 1)) = leVal ((l.drop p).take k) + y.toNat * 2 ^ (8 * k) := by rw [hn, leVal_snoc, hlen]
  refine ⟨?_, by omega⟩
  rw [hv] at hlt ⊢
  exact or_high _ _ _ hb (by omega) (by omega)

theorem ret2_u64 {a a' b b' : Int} (h : a = a') (h' : b = b') : Ending.returned (.tuple #[.int .u64 a, .int .i64 b]) = .returned (.tuple #[.int .u64 a', .int .i64 b']) := by rw [h, h']

set_option maxHeartbeats 400000 in
theorem lookWhole_no {base g : Nat} {v : Value} {l : List UInt8} {p : Nat} (s : Int) (w : World) (h : Rd w base g v l p false) (hs : (l.length : Int) - p < s) :
    Calls Tryz.prog 327 #[.pointer (some ⟨g, 0, none⟩), .int .i64 s] w fun e w' => e = .returned (.tuple #[.int .u64 0, .int .i64 0]) ∧ ∃ k, w' = w.drewN k := by
  obtain ⟨A, c, rfl, -⟩ := h.own.sl
  have h0 := h.c0
  have h1 := h.c1
  have h2 := h.c2
  have hle := h.le
  have hsm := h.small
  have hs' : ((l.length - p : Nat) : Int) < s := by omega
  clear h
  go_enter Tryz.func327, Tryz.ntmps327
  go_wp2_with (go_at_call 328; refine (left_good g A _ c p _ h0 h1 h2 hle (by omega)).mono ?_; rintro e w1 ⟨rfl, k1, rfl⟩)
  go_ret2
  exact ⟨rfl, k1, rfl⟩

set_option maxHeartbeats 400000 in
theorem lookWhole_yes {base g : Nat} {v : Value} {l : List UInt8} {p : Nat} (s : Nat) (w : World) (h : Rd w base g v l p false) (hs : p + s ≤ l.length) (hs1 : 1 ≤ s) (hs8 : s ≤ 8) :
    Calls Tryz.prog 327 #[.pointer (some ⟨g, 0, none⟩), .int .i64 s] w fun e w' => e = .returned (.tuple #[.int .u64 (leVal ((l.drop p).take s)), .int .i64 s]) ∧ ∃ k, w' = w.drewN k := by
  obtain ⟨b, c, rfl, hlc, hcm, -, -, hcell, -⟩ := h.own.form (by rintro rfl; simp at hs; omega)
  have h0 := h.c0
  have h1 := h.c1
  have h2 := h.c2
  have hle := h.le
  have hsm := h.small
  have hs' : decide (l.length - p < s) = false := by simp; omega
  unfold maxLen at hcm
  have hpc : (p : Int) + s ≤ c := by omega
  have hne : c ≠ p := by omega
  have HC := Lib.hid hcell
  clear h hcell
  go_enter Tryz.func327, Tryz.ntmps327
  go_wp2_with (go_at_call 328; refine (left_good g _ _ c p _ h0 h1 h2 hle (by omega)).mono ?_; rintro e w1 ⟨rfl, k1, rfl⟩)
  go_quiet (fail)
  go_wp2
  go_loop [4, 28] (fun n i => ∃ (k : Nat) (D : Int), k ≤ s ∧ i = .int .i64 k ∧ n = .int .u64 D ∧ 0 ≤ D ∧ D ≤ 18446744073709551615 ∧ D = (leVal ((l.drop p).take k) : Nat)) (fun _ i => s - (intOf i).toNat)
  case atStart => exact ⟨0, 0, by omega, rfl, rfl, by omega, by omega, by simp [leVal]⟩
  case round =>
    obtain ⟨k, D, hk, rfl, rfl, d0, d1, hD⟩ := hrel
    have HD := Lib.hid hD
    clear hD
    by_cases hlt : k < s
    · obtain ⟨y, hy⟩ : ∃ y, l[p + k]? = some y := ⟨_, List.getElem?_eq_getElem (by omega)⟩
      have hc := HC.out (p + k) y hy
      simp only [e8, b8] at hc
      have HY := Lib.hid hy
      clear hy
      obtain ⟨z, hz⟩ : ∃ z : Int, z = (y.toNat : Int) := ⟨_, rfl⟩
      rw [← hz] at hc
      have z0 : 0 ≤ z := by omega
      have z1 : z ≤ 255 := by have := y.toNat_lt; omega
      have HZ := Lib.hid hz
      clear hz
      go_wp2
      have hst := whole_step l p k y z D HY.out HZ.out HD.out (by omega)
      go_round
      case rel => exact ⟨_, _, _, _, ⟨k + 1, by omega, rfl, _, rfl, by rw [hst.1]; omega, by rw [hst.1]; omega, hst.1⟩, rfl, rfl, rfl, by go_num⟩
      case measure => simp [intOf]; omega
    · have hge : s ≤ k := by omega
      have hks : List.take k (l.drop p) = (l.drop p).take s := by rw [show k = s from by omega]
      have HK := Lib.hid hks
      clear hks
      go_wp2
      go_ret2
      exact ⟨ret2_u64 (by rw [HD.out, HK.out]) rfl, _, rfl⟩

/-- The whole number of size bytes at the head of s, and how many bytes it has: (0, 0), if there are too few. -/
def rdW (s : List UInt8) (size : Nat) : Nat × Nat := if s.length < size then (0, 0) else (leVal (s.take size), size)

theorem lookWhole_any {base g : Nat} {v : Value} {l : List UInt8} {p : Nat} (s : Nat) (w : World) (h : Rd w base g v l p false) (h1 : 1 ≤ s) (h8 : s ≤ 8) :
    Calls Tryz.prog 327 #[.pointer (some ⟨g, 0, none⟩), .int .i64 s] w fun e w' => e = .returned (.tuple #[.int .u64 (rdW (l.drop p) s).1, .int .i64 (rdW (l.drop p) s).2]) ∧ ∃ k, w' = w.drewN k := by
  have hle := h.le
  by_cases hs : l.length - p < s
  · refine (lookWhole_no s w h (by omega)).mono ?_
    rintro e w' ⟨rfl, hw⟩
    exact ⟨by rw [rdW, if_pos (by simpa using hs)]; rfl, hw⟩
  · refine (lookWhole_yes s w h (by omega) h1 h8).mono ?_
    rintro e w' ⟨rfl, hw⟩
    exact ⟨by rw [rdW, if_neg (by simpa using hs)], hw⟩

set_option maxHeartbeats 400000 in
theorem number_bad {base g : Nat} {v : Value} {l : List UInt8} {p : Nat} (s : Int) (w : World) (h : Rd w base g v l p true) :
    Calls Tryz.prog 300 #[.pointer (some ⟨g, 0, none⟩), .int .i64 s] w fun e w' => e = .returned (.int .u64 0) ∧ w = w' := by
  have h2 := h.c2
  clear h
  go_enter Tryz.func300, Tryz.ntmps300
  go_wp2_with (go_at_call 325; refine (bad_at g true _ h2).mono ?_; rintro e w1 ⟨rfl, rfl⟩)
  go_ret
  exact ⟨rfl, rfl⟩

/-- A reader whose mark and place have been written. -/
theorem Rd.moved {w : World} {base g : Nat} {v : Value} {l : List UInt8} {p q : Nat} {x y : Bool} (h : Rd w base g v l p x) (hq : q ≤ l.length) :
    Rd ((w.setCell ⟨g, 2, none⟩ (.bool y)).setCell ⟨g, 1, none⟩ (.int .i64 q)) base g v l q y := by
  have h1 := (h.row.set_ 2 (.bool y)).set_ 1 (.int .i64 q)
  have hne := h.ne
  refine ⟨h1, ?_, h.ge, hq, h.small⟩
  exact (h.own.kept (grown_set w g 2 (.bool y)) (fun k hk e => by injection e with e; subst e; exact hne hk)).kept (grown_set _ g 1 _) (fun k hk e => by injection e with e; subst e; exact hne hk)

theorem rdW_le (s : List UInt8) (n : Nat) : (rdW s n).2 ≤ s.length := by unfold rdW; split <;> simp_all

set_option maxHeartbeats 400000 in
theorem number_whole_ {base g : Nat} {v : Value} {l : List UInt8} {p : Nat} (S : Int) (s : Nat) (hS : S = (s : Int)) (hS1 : S = 1 ∨ 1 < S) (w : World) (h : Rd w base g v l p false) (hs1 : 1 ≤ s) (hs8 : s ≤ 8) :
    Calls Tryz.prog 300 #[.pointer (some ⟨g, 0, none⟩), .int .i64 S] w fun e w' => e = .returned (.int .u64 (rdW (l.drop p) s).1) ∧
      Rd w' base g v l (p + (rdW (l.drop p) s).2) ((rdW (l.drop p) s).2 == 0) ∧ w.grownBy w' (some g) := by
  have h2 := h.c2
  have hk := rdW_le (l.drop p) s
  rw [List.length_drop] at hk
  have hle := h.le
  have hsm := h.small
  have hcall := fun (W : World) (hR : Rd W base g v l p false) => lookWhole_any s W hR hs1 hs8
  rw [← hS] at hcall
  generalize rdW (l.drop p) s = r at *
  obtain ⟨n, k⟩ := r
  simp only at hcall hk ⊢
  have HCALL := Lib.hid hcall
  have H := Lib.hid h
  clear h hcall
  clear hS
  rcases hS1 with rfl | hS1
  · by_cases hk0 : k = 0
    · subst hk0
      go_enter Tryz.func300, Tryz.ntmps300
      go_wp2_with (first | (go_at_call 325; refine (bad_at g false _ h2).mono ?_; rintro e w1 ⟨rfl, rfl⟩) | (go_at_call 327; refine (HCALL.out _ (H.out.alloc _)).mono ?_; rintro e W1 ⟨rfl, k1, hW1⟩; have hR : Rd W1 base g v l p false := (by rw [hW1]; exact (H.out.alloc _).drewN k1); have hG : w.grownBy W1 (some g) := (by rw [hW1]; exact grown_drewN (World.grownBy_alloc w _ _) k1); clear hW1; have c1 := hR.c1; have c2 := hR.c2; have f1 := hR.row.frozen 1; have f2 := hR.row.frozen 2; have HR := Lib.hid hR; have HG := Lib.hid hG; clear hR hG))
      go_ret
      exact ⟨rfl, HR.out.moved hle, (HG.out.trans (grown_set _ _ _ _)).trans (grown_set _ _ _ _)⟩
    · have hb : ((k : Int) == 0) = false := by rw [beq_eq_false_iff_ne]; omega
      have hb2 : (k == 0) = false := by rw [beq_eq_false_iff_ne]; omega
      have HB := Lib.hid hb2
      clear hb2
      go_enter Tryz.func300, Tryz.ntmps300
      go_wp2_with (first | (go_at_call 325; refine (bad_at g false _ h2).mono ?_; rintro e w1 ⟨rfl, rfl⟩) | (go_at_call 327; refine (HCALL.out _ (H.out.alloc _)).mono ?_; rintro e W1 ⟨rfl, k1, hW1⟩; have hR : Rd W1 base g v l p false := (by rw [hW1]; exact (H.out.alloc _).drewN k1); have hG : w.grownBy W1 (some g) := (by rw [hW1]; exact grown_drewN (World.grownBy_alloc w _ _) k1); clear hW1; have c1 := hR.c1; have c2 := hR.c2; have f1 := hR.row.frozen 1; have f2 := hR.row.frozen 2; have HR := Lib.hid hR; have HG := Lib.hid hG; clear hR hG))
      go_ret
      exact ⟨rfl, by rw [HB.out]; exact HR.out.moved (q := p + k) (by omega), (HG.out.trans (grown_set _ _ _ _)).trans (grown_set _ _ _ _)⟩
  · by_cases hk0 : k = 0
    · subst hk0
      go_enter Tryz.func300, Tryz.ntmps300
      go_wp2_with (first | (go_at_call 325; refine (bad_at g false _ h2).mono ?_; rintro e w1 ⟨rfl, rfl⟩) | (go_at_call 327; refine (HCALL.out _ (H.out.alloc _)).mono ?_; rintro e W1 ⟨rfl, k1, hW1⟩; have hR : Rd W1 base g v l p false := (by rw [hW1]; exact (H.out.alloc _).drewN k1); have hG : w.grownBy W1 (some g) := (by rw [hW1]; exact grown_drewN (World.grownBy_alloc w _ _) k1); clear hW1; have c1 := hR.c1; have c2 := hR.c2; have f1 := hR.row.frozen 1; have f2 := hR.row.frozen 2; have HR := Lib.hid hR; have HG := Lib.hid hG; clear hR hG))
      go_ret
      exact ⟨rfl, HR.out.moved hle, (HG.out.trans (grown_set _ _ _ _)).trans (grown_set _ _ _ _)⟩
    · have hb : ((k : Int) == 0) = false := by rw [beq_eq_false_iff_ne]; omega
      have hb2 : (k == 0) = false := by rw [beq_eq_false_iff_ne]; omega
      have HB := Lib.hid hb2
      clear hb2
      go_enter Tryz.func300, Tryz.ntmps300
      go_wp2_with (first | (go_at_call 325; refine (bad_at g false _ h2).mono ?_; rintro e w1 ⟨rfl, rfl⟩) | (go_at_call 327; refine (HCALL.out _ (H.out.alloc _)).mono ?_; rintro e W1 ⟨rfl, k1, hW1⟩; have hR : Rd W1 base g v l p false := (by rw [hW1]; exact (H.out.alloc _).drewN k1); have hG : w.grownBy W1 (some g) := (by rw [hW1]; exact grown_drewN (World.grownBy_alloc w _ _) k1); clear hW1; have c1 := hR.c1; have c2 := hR.c2; have f1 := hR.row.frozen 1; have f2 := hR.row.frozen 2; have HR := Lib.hid hR; have HG := Lib.hid hG; clear hR hG))
      go_ret
      exact ⟨rfl, by rw [HB.out]; exact HR.out.moved (q := p + k) (by omega), (HG.out.trans (grown_set _ _ _ _)).trans (grown_set _ _ _ _)⟩

theorem number_whole {base g : Nat} {v : Value} {l : List UInt8} {p : Nat} (s : Nat) (w : World) (h : Rd w base g v l p false) (hs1 : 1 ≤ s) (hs8 : s ≤ 8) :
    Calls Tryz.prog 300 #[.pointer (some ⟨g, 0, none⟩), .int .i64 s] w fun e w' => e = .returned (.int .u64 (rdW (l.drop p) s).1) ∧
      Rd w' base g v l (p + (rdW (l.drop p) s).2) ((rdW (l.drop p) s).2 == 0) ∧ w.grownBy w' (some g) :=
  number_whole_ _ s rfl (by omega) w h hs1 hs8

set_option maxHeartbeats 400000 in
/-- The reader's U32 where it is not bad: the number that stands there, and whether it is bad behind it. -/
theorem U32_good {base g : Nat} {v : Value} {l : List UInt8} {p : Nat} (w : World) (h : Rd w base g v l p false) :
    Calls Tryz.prog 251 #[.pointer (some ⟨g, 0, none⟩)] w fun e w' => e = .returned (.int .u32 (rdW (l.drop p) 4).1) ∧ Rd w' base g v l (p + (rdW (l.drop p) 4).2) ((rdW (l.drop p) 4).2 == 0) ∧ w.grownBy w' (some g) := by
  have hlt : (rdW (l.drop p) 4).1 < 4294967296 := by
    unfold rdW
    split
    · simp
    · rename_i h
      have h1 := leVal_lt ((l.drop p).take 4)
      have h2 : ((l.drop p).take 4).length = 4 := by simp at h ⊢; omega
      rw [h2] at h1
      exact h1
  have hc := number_whole_ 4 4 rfl (by omega) w h (by omega) (by omega)
  generalize rdW (l.drop p) 4 = r at *
  obtain ⟨n, k⟩ := r
  simp only at hc hlt ⊢
  have HC := Lib.hid hc
  have n1 : (n : Int) < 4294967296 := by omega
  clear hc h hlt
  go_enter Tryz.func251, Tryz.ntmps251
  go_wp2_with (go_at_call 300; refine HC.out.mono ?_; rintro e w1 ⟨rfl, hr, hg⟩)
  go_ret
  exact ⟨rfl, hr, hg⟩
set_option maxHeartbeats 400000 in
/-- The reader's U16 where it is not bad: the number that stands there, and whether it is bad behind it. -/
theorem U16_good {base g : Nat} {v : Value} {l : List UInt8} {p : Nat} (w : World) (h : Rd w base g v l p false) :
    Calls Tryz.prog 254 #[.pointer (some ⟨g, 0, none⟩)] w fun e w' => e = .returned (.int .u16 (rdW (l.drop p) 2).1) ∧ Rd w' base g v l (p + (rdW (l.drop p) 2).2) ((rdW (l.drop p) 2).2 == 0) ∧ w.grownBy w' (some g) := by
  have hlt : (rdW (l.drop p) 2).1 < 65536 := by
    unfold rdW
    split
    · simp
    · rename_i h
      have h1 := leVal_lt ((l.drop p).take 2)
      have h2 : ((l.drop p).take 2).length = 2 := by simp at h ⊢; omega
      rw [h2] at h1
      exact h1
  have hc := number_whole_ 2 2 rfl (by omega) w h (by omega) (by omega)
  generalize rdW (l.drop p) 2 = r at *
  obtain ⟨n, k⟩ := r
  simp only at hc hlt ⊢
  have HC := Lib.hid hc
  have n1 : (n : Int) < 65536 := by omega
  clear hc h hlt
  go_enter Tryz.func254, Tryz.ntmps254
  go_wp2_with (go_at_call 300; refine HC.out.mono ?_; rintro e w1 ⟨rfl, hr, hg⟩)
  go_ret
  exact ⟨rfl, hr, hg⟩
set_option maxHeartbeats 400000 in
/-- The reader's U64 where it is not bad: the number that stands there, and whether it is bad behind it. -/
theorem U64_good {base g : Nat} {v : Value} {l : List UInt8} {p : Nat} (w : World) (h : Rd w base g v l p false) :
    Calls Tryz.prog 331 #[.pointer (some ⟨g, 0, none⟩)] w fun e w' => e = .returned (.int .u64 (rdW (l.drop p) 8).1) ∧ Rd w' base g v l (p + (rdW (l.drop p) 8).2) ((rdW (l.drop p) 8).2 == 0) ∧ w.grownBy w' (some g) := by
  have hlt : (rdW (l.drop p) 8).1 < 18446744073709551616 := by
    unfold rdW
    split
    · simp
    · rename_i h
      have h1 := leVal_lt ((l.drop p).take 8)
      have h2 : ((l.drop p).take 8).length = 8 := by simp at h ⊢; omega
      rw [h2] at h1
      exact h1
  have hc := number_whole_ 8 8 rfl (by omega) w h (by omega) (by omega)
  generalize rdW (l.drop p) 8 = r at *
  obtain ⟨n, k⟩ := r
  simp only at hc hlt ⊢
  have HC := Lib.hid hc
  have n1 : (n : Int) < 18446744073709551616 := by omega
  clear hc h hlt
  go_enter Tryz.func331, Tryz.ntmps331
  go_wp2_with (go_at_call 300; refine HC.out.mono ?_; rintro e w1 ⟨rfl, hr, hg⟩)
  go_ret
  exact ⟨rfl, hr, hg⟩
theorem rdW_yes {l : List UInt8} {p s : Nat} (h : p + s ≤ l.length) (hs : 1 ≤ s) : rdW (l.drop p) s = (leVal ((l.drop p).take s), s) ∧ (s == 0) = false := by
  rw [rdW, if_neg (by rw [List.length_drop]; omega)]
  exact ⟨rfl, by rw [beq_eq_false_iff_ne]; omega⟩
theorem U16_yes {base g : Nat} {v : Value} {l : List UInt8} {p : Nat} (w : World) (h : Rd w base g v l p false) (hp : p + 2 ≤ l.length) :
    Calls Tryz.prog 254 #[.pointer (some ⟨g, 0, none⟩)] w fun e w' => e = .returned (.int .u16 (leVal ((l.drop p).take 2))) ∧ Rd w' base g v l (p + 2) false ∧ w.grownBy w' (some g) := by
  have := U16_good w h
  obtain ⟨e1, e2⟩ := rdW_yes hp (by omega)
  rw [e1, e2] at this
  exact this
theorem U32_yes {base g : Nat} {v : Value} {l : List UInt8} {p : Nat} (w : World) (h : Rd w base g v l p false) (hp : p + 4 ≤ l.length) :
    Calls Tryz.prog 251 #[.pointer (some ⟨g, 0, none⟩)] w fun e w' => e = .returned (.int .u32 (leVal ((l.drop p).take 4))) ∧ Rd w' base g v l (p + 4) false ∧ w.grownBy w' (some g) := by
  have := U32_good w h
  obtain ⟨e1, e2⟩ := rdW_yes hp (by omega)
  rw [e1, e2] at this
  exact this
theorem U64_yes {base g : Nat} {v : Value} {l : List UInt8} {p : Nat} (w : World) (h : Rd w base g v l p false) (hp : p + 8 ≤ l.length) :
    Calls Tryz.prog 331 #[.pointer (some ⟨g, 0, none⟩)] w fun e w' => e = .returned (.int .u64 (leVal ((l.drop p).take 8))) ∧ Rd w' base g v l (p + 8) false ∧ w.grownBy w' (some g) := by
  have := U64_good w h
  obtain ⟨e1, e2⟩ := rdW_yes hp (by omega)
  rw [e1, e2] at this
  exact this
theorem Rd.placed {w : World} {base g : Nat} {v : Value} {l : List UInt8} {p q : Nat} {x : Bool} (h : Rd w base g v l p x) (hq : q ≤ l.length) : Rd (w.setCell ⟨g, 1, none⟩ (.int .i64 q)) base g v l q x := by
  have h1 := h.row.set_ 1 (.int .i64 q)
  have hne := h.ne
  exact ⟨h1, h.own.kept (grown_set w g 1 _) (fun k hk e => by injection e with e; subst e; exact hne hk), h.ge, hq, h.small⟩
theorem grown_below {a b c : World} {row : Option Nat} (h : a.grownBy b row) (hb : Below b.heap.size b c) : a.grownBy c row :=
  ⟨hb.os.trans h.os, hb.tape.trans h.tape, hb.output.trans h.output, Nat.le_trans h.size hb.size, fun i hi hn => (hb.block i (Nat.lt_of_lt_of_le hi h.size)).trans (h.block i hi hn)⟩
theorem good_end {base g : Nat} {v v3 : Value} {l : List UInt8} {p m : Nat} {w W1 w3 : World} (hR : Rd W1 base g v l p false) (hG : w.grownBy W1 (some g)) (hm : p + m ≤ l.length)
    (o3 : Gw e8 w3 ((W1.setCell ⟨g, 1, none⟩ (.int .i64 ((p : Int) + m))).drew).heap.size v3 ((l.drop p).take m))
    (b3 : Below ((W1.setCell ⟨g, 1, none⟩ (.int .i64 ((p : Int) + m))).drew).heap.size ((W1.setCell ⟨g, 1, none⟩ (.int .i64 ((p : Int) + m))).drew) w3) :
    ∃ v', Ending.returned v3 = Ending.returned v' ∧ Gw e8 w3 w.heap.size v' ((l.drop p).take m) ∧ Rd w3 base g v l (p + m) false ∧ w.grownBy w3 (some g) := by
  have h1 : Rd (W1.setCell ⟨g, 1, none⟩ (.int .i64 ((p : Int) + m))) base g v l (p + m) false := hR.placed (q := p + m) hm
  have hs : ((W1.setCell ⟨g, 1, none⟩ (.int .i64 ((p : Int) + m))).drew).heap.size = W1.heap.size := by simp [World.setCell, World.drew]
  have b4 : Below (W1.setCell ⟨g, 1, none⟩ (.int .i64 ((p : Int) + m))).heap.size (W1.setCell ⟨g, 1, none⟩ (.int .i64 ((p : Int) + m))) w3 := (Below.refl _ _).drew.trans b3
  refine ⟨v3, rfl, o3.more (by rw [hs]; exact hG.size), h1.below b4 (Nat.le_refl _), grown_below (hG.trans (grown_set _ _ _ _)) b4⟩

set_option maxHeartbeats 1000000 in
theorem Bytes_yes {base g : Nat} {v : Value} {l : List UInt8} {p : Nat} (m : Nat) (w : World) (h : Rd w base g v l p false) (hm1 : 1 ≤ m) (hm : p + m ≤ l.length) :
    Calls Tryz.prog 301 #[.pointer (some ⟨g, 0, none⟩), .int .i64 m] w fun e w' => ∃ v', e = .returned v' ∧ Gw e8 w' w.heap.size v' ((l.drop p).take m) ∧ Rd w' base g v l (p + m) false ∧ w.grownBy w' (some g) := by
  have hsm := h.small
  have hle := h.le
  obtain ⟨q, hq⟩ : ∃ q, q = l.length - p := ⟨_, rfl⟩
  have hlf : (m : Int) ≤ (q : Int) := by omega
  obtain ⟨A, c, rfl, -, hlc, hcm, -⟩ := h.own.sl
  unfold maxLen at hcm
  have hpc : (p : Int) + m ≤ c := by omega
  have hcp : c ≠ p := by omega
  have hcut : ∀ W1, Rd W1 base g (.slice A l.length c) l p false → Gs e8 ((W1.setCell ⟨g, 1, none⟩ (.int .i64 ((p : Int) + m))).drew) base ((W1.setCell ⟨g, 1, none⟩ (.int .i64 ((p : Int) + m))).drew).heap.size (.slice (A.map (·.add p)) m (c - p)) ((l.drop p).take m) := by
    intro W1 hR
    exact (hR.placed (q := p + m) hm).own.sl.mid hm hcp
  have H := Lib.hid h
  have HQ := Lib.hid hq
  have HCUT := Lib.hid hcut
  clear h hq hcut
  go_enter Tryz.func301, Tryz.ntmps301
  go_wp2_with (first | (go_at_call 325; refine (bad_at g false _ H.out.c2).mono ?_; rintro e w1 ⟨rfl, rfl⟩) | (go_at_call 328; refine (left_good g A _ c p _ H.out.c0 H.out.c1 H.out.c2 hle (by omega)).mono ?_; rintro e W1 ⟨rfl, k1, hW⟩; have hR : Rd W1 base g _ l p false := (by rw [hW]; exact H.out.drewN k1); have hG : w.grownBy W1 (some g) := (by rw [hW]; exact grown_drewN (World.grownBy.refl _ _) k1); clear hW; have c0 := hR.c0; have c1 := hR.c1; have f1 := hR.row.frozen 1; rw [← HQ.out]; have HR := Lib.hid hR; have HG := Lib.hid hG; clear hR hG))
  go_region_with (first | (go_at_call 324; refine (clone_any _ ((l.drop p).take m) base _ (HCUT.out _ HR.out) (by simp; omega)).mono ?_; rintro e w3 ⟨v3, rfl, o3, b3⟩))
  all_goals
    go_wp2
    go_ret
    exact good_end HR.out HG.out hm o3 b3
end Go.Proofs.YtponcpneflhpfaaGreatDoor
