/- Walks: the law DictOnly. -/
import Derived.Test.YtjojhoaienjjeaaMa6
import Derived.Test.YtjojhoaienjjeaaMa8
import Derived.Test.YtjojhoaienjjeaaMa7
import Derived.Test.YtjojhoaienjjeaaMa9
/- Walks: values.Read; the document's Read. -/
namespace Go.Proofs.Ytjojhoaienjjeaa
open Go.RowKit
set_option linter.unusedVariables false

theorem rd_bad {l : List UInt8} {p : Nat} {x : Bool} {N q : Nat} (h : rd l p x 0 = (N, q, true)) : N = 0 := by
  unfold rd at h
  cases x with
  | true => simp at h; omega
  | false =>
    have hf := (rdS_form (l.drop p)).2
    simp only [Bool.false_eq_true, if_false, if_true, Prod.mk.injEq, beq_iff_eq] at h
    have := hf h.2.2
    omega
theorem rd_lt64 (l : List UInt8) (p : Nat) (x : Bool) : (rd l p x 0).1 < 18446744073709551616 := by
  unfold rd
  split
  · simp
  · exact rdS_lt _
section
variable {base g : Nat} {v : Value} {l : List UInt8} {p : Nat} {x : Bool} {k' n' : Int} {L : List UInt8} {ok : Bool} {q : Nat} {y : Bool}
theorem readInt_c (hr : rV l p x 1 = (k', n', L, ok, q, y)) (w : World) (h : Rd w base g v l p x) :
    Calls Try.prog 78 #[.pointer (some ⟨g, 0, none⟩)] w fun e w' => e = .returned (.tuple #[vV k' n' ⟨L.toArray⟩, .bool ok]) ∧ Rd w' base g v l q y ∧ w.grownBy w' (some g) := by
  obtain ⟨N, q1, y1, hd⟩ : ∃ N q1 y1, rd l p x 8 = (N, q1, y1) := ⟨_, _, _, rfl⟩
  unfold rV at hr
  rw [if_pos rfl, hd] at hr
  cases y1 with
  | true =>
    simp only [if_true, Prod.mk.injEq] at hr
    obtain ⟨rfl, rfl, rfl, rfl, rfl, rfl⟩ := hr
    exact readInt_no hd w h
  | false =>
    simp only [Bool.false_eq_true, if_false, Prod.mk.injEq] at hr
    obtain ⟨rfl, rfl, rfl, rfl, rfl, rfl⟩ := hr
    exact readInt_yes hd _ rfl w h
/-- The ways in which a text may be read. -/
theorem rV_two (hr : rV l p x 2 = (k', n', L, ok, q, y)) : ∃ N q1 y1, rd l p x 0 = (N, q1, y1) ∧
    ((y1 = true ∧ N = 0 ∧ k' = 0 ∧ n' = 0 ∧ L = [] ∧ ok = false ∧ q = q1 ∧ y = true) ∨
     (y1 = false ∧ 65535 < N ∧ N < 18446744073709551616 ∧ k' = 0 ∧ n' = 0 ∧ L = [] ∧ ok = false ∧ q = q1 ∧ y = false) ∨
     (y1 = false ∧ N ≤ 65535 ∧ ∃ L2 q2, rb l q1 false (N : Int) = (L2, q2, true) ∧ k' = 0 ∧ n' = 0 ∧ L = [] ∧ ok = false ∧ q = q2 ∧ y = true) ∨
     (y1 = false ∧ N ≤ 65535 ∧ rb l q1 false (N : Int) = (L, q, false) ∧ k' = 2 ∧ n' = 0 ∧ ok = true ∧ y = false)) := by
  obtain ⟨N, q1, y1, hd⟩ : ∃ N q1 y1, rd l p x 0 = (N, q1, y1) := ⟨_, _, _, rfl⟩
  refine ⟨N, q1, y1, hd, ?_⟩
  have hN := rd_lt64 l p x
  unfold rV at hr
  rw [if_neg (by decide), if_pos rfl, hd] at hr
  rw [hd] at hN
  cases y1 with
  | true =>
    simp only [if_true, Prod.mk.injEq] at hr
    obtain ⟨rfl, rfl, rfl, rfl, rfl, rfl⟩ := hr
    exact .inl ⟨rfl, rd_bad hd, rfl, rfl, rfl, rfl, rfl, rfl⟩
  | false =>
    simp only [Bool.false_eq_true, if_false] at hr
    by_cases h1 : 65535 < N
    · rw [if_pos h1] at hr
      simp only [Prod.mk.injEq] at hr
      obtain ⟨rfl, rfl, rfl, rfl, rfl, rfl⟩ := hr
      exact .inr (.inl ⟨rfl, h1, hN, rfl, rfl, rfl, rfl, rfl, rfl⟩)
    · rw [if_neg h1] at hr
      obtain ⟨L2, q2, y2, hb⟩ : ∃ L2 q2 y2, rb l q1 false (N : Int) = (L2, q2, y2) := ⟨_, _, _, rfl⟩
      rw [hb] at hr
      cases y2 with
      | true =>
        simp only [if_true, Prod.mk.injEq] at hr
        obtain ⟨rfl, rfl, rfl, rfl, rfl, rfl⟩ := hr
        exact .inr (.inr (.inl ⟨rfl, by omega, L2, q2, hb, rfl, rfl, rfl, rfl, rfl, rfl⟩))
      | false =>
        simp only [Bool.false_eq_true, if_false, Prod.mk.injEq] at hr
        obtain ⟨rfl, rfl, rfl, rfl, rfl, rfl⟩ := hr
        exact .inr (.inr (.inr ⟨rfl, by omega, hb, rfl, rfl, rfl, rfl⟩))
theorem readText_c (hr : rV l p x 2 = (k', n', L, ok, q, y)) (w : World) (h : Rd w base g v l p x) :
    Calls Try.prog 79 #[.pointer (some ⟨g, 0, none⟩)] w fun e w' => e = .returned (.tuple #[vV k' n' ⟨L.toArray⟩, .bool ok]) ∧ Rd w' base g v l q y ∧ w.grownBy w' (some g) := by
  obtain ⟨N, q1, y1, hd, ⟨rfl, -, rfl, rfl, rfl, rfl, rfl, rfl⟩ | ⟨rfl, hN, -, rfl, rfl, rfl, rfl, rfl, rfl⟩ | ⟨rfl, hN, L2, q2, hb, rfl, rfl, rfl, rfl, rfl, rfl⟩ | ⟨rfl, hN, hb, rfl, rfl, rfl, rfl⟩⟩ := rV_two hr
  · exact readText_no hd w h
  · exact readText_long hd hN w h
  · exact readText_cut hd hN hb w h
  · exact readText_yes hd hN hb w h

set_option maxHeartbeats 400000 in
theorem Read_c {k : Int} (hr : rV l p x k = (k', n', L, ok, q, y)) (w : World) (h : Rd w base g v l p x) :
    Calls Try.prog 69 #[.pointer (some ⟨g, 0, none⟩), .int .u8 k] w fun e w' => e = .returned (.tuple #[vV k' n' ⟨L.toArray⟩, .bool ok]) ∧ Rd w' base g v l q y ∧ w.grownBy w' (some g) := by
  have H := Lib.hid h
  by_cases h1 : k = 1
  · subst h1
    have HR := Lib.hid hr
    clear h hr
    go_enter Try.func69, Try.ntmps69
    go_wp2_with (go_at_call 78; refine (readInt_c HR.out _ (H.out.alloc _)).mono ?_; rintro e w1 ⟨rfl, r1, g1⟩; have hX := (Rx.new H.out).read r1 g1; have d0 := hX.d0; have d1 := hX.d1; have d2 := hX.d2; have f0 := hX.row.frozen 0; have f1 := hX.row.frozen 1; have f2 := hX.row.frozen 2; have HX := Lib.hid hX; clear hX r1 g1)
    have S := HX.out.put (.int .u8 k') (.int .i64 n') (.string ⟨L.toArray⟩)
    refine bodyPost_ret (v := .tuple #[vV k' n' ⟨L.toArray⟩, .bool ok]) ?_ rfl ⟨rfl, S.2.1, S.2.2⟩
    exact res_cell rfl _ _ _ _ _ _ _ _ (by rfl) (by rfl) S.1 Try.underlying38 szV3
  · by_cases h2 : k = 2
    · subst h2
      have HR := Lib.hid hr
      clear h hr
      go_enter Try.func69, Try.ntmps69
      go_wp2_with (go_at_call 79; refine (readText_c HR.out _ (H.out.alloc _)).mono ?_; rintro e w1 ⟨rfl, r1, g1⟩; have hX := (Rx.new H.out).read r1 g1; have d0 := hX.d0; have d1 := hX.d1; have d2 := hX.d2; have f0 := hX.row.frozen 0; have f1 := hX.row.frozen 1; have f2 := hX.row.frozen 2; have HX := Lib.hid hX; clear hX r1 g1)
      have S := HX.out.put (.int .u8 k') (.int .i64 n') (.string ⟨L.toArray⟩)
      refine bodyPost_ret (v := .tuple #[vV k' n' ⟨L.toArray⟩, .bool ok]) ?_ rfl ⟨rfl, S.2.1, S.2.2⟩
      exact res_cell rfl _ _ _ _ _ _ _ _ (by rfl) (by rfl) S.1 Try.underlying38 szV3
    · have e1 : (k == 1) = false := by simp [h1]
      have e2 : (k == 2) = false := by simp [h2]
      unfold rV at hr
      rw [if_neg h1, if_neg h2] at hr
      simp only [Prod.mk.injEq] at hr
      obtain ⟨rfl, rfl, rfl, rfl, rfl, rfl⟩ := hr
      clear h
      go_enter Try.func69, Try.ntmps69
      have hX := Rx.new H.out
      go_wp2
      have S := hX
      refine bodyPost_ret (v := .tuple #[vV 0 0 ⟨#[]⟩, .bool false]) ?_ rfl ⟨rfl, S.rd, ?_⟩
      · exact res_cell rfl _ _ _ _ _ _ _ _ (by rfl) (by rfl) S.row Try.underlying38 szV3
      · exact (World.grownBy_alloc w _ _)
end

theorem grown_far {a b c : World} {g B : Nat} (h : a.grownBy b (some g)) (k : b.grownBy c (some B)) (hB : a.heap.size ≤ B) : a.grownBy c (some g) :=
  ⟨k.os.trans h.os, k.tape.trans h.tape, k.output.trans h.output, Nat.le_trans h.size k.size, fun j hj hne => (k.block j (Nat.lt_of_lt_of_le hj h.size) (fun e => by injection e with e; omega)).trans (h.block j hj hne)⟩
section
variable {w W W' : World} {hi g : Nat} {v : Value} {l : List UInt8} {p q : Nat} {x y : Bool} {c0 c1 c2 : Value}
end
section
variable {hi g : Nat} {v : Value} {l : List UInt8} {p : Nat} {x : Bool} {N q : Nat}
end
end Go.Proofs.Ytjojhoaienjjeaa
/- Plain mathematics: what bytes are read as, as a dictionary. -/
namespace Go.Proofs.Ytjojhoaienjjeaa
open Go.RowKit
set_option linter.unusedVariables false

theorem le_leVal (s : List UInt8) : le s.length (leVal s) = s := by
  induction s with
  | nil => rfl
  | cons x r ih =>
    have hx := x.toNat_lt
    rw [List.length_cons, le, leVal]
    rw [show (x.toNat + 256 * leVal r) / 256 = leVal r by omega, ih]
    congr 1
    apply UInt8.toNat.inj
    simp
theorem leVal_lt8 (s : List UInt8) : leVal s < 256 ^ s.length := by
  induction s with
  | nil => simp [leVal]
  | cons x r ih =>
    have hx := x.toNat_lt
    rw [leVal, List.length_cons, Nat.pow_succ]
    omega
theorem u64_wrap64 {N : Nat} (h : N < 18446744073709551616) : u64 (wrap64 (N : Int)) = N := by
  unfold u64 wrap64
  omega
/-- The value that has been read. -/
def vOf (r : Int × Int × List UInt8 × Bool × Nat × Bool) : VV := ⟨r.1, r.2.1, ⟨r.2.2.1.toArray⟩⟩
theorem bls_vOf (r : Int × Int × List UInt8 × Bool × Nat × Bool) : bls (vOf r).s = r.2.2.1 := by simp [vOf, bls]
theorem drop_app {l r : List UInt8} {p : Nat} (h : p ≤ l.length) : (l ++ r).drop p = l.drop p ++ r := by
  rw [List.drop_append_of_le_length h]
theorem take_two (s : List UInt8) (a b : Nat) : s.take (a + b) = s.take a ++ (s.drop a).take b := by rw [List.take_add]
/-- A value that is read stands there; whatever comes behind it. -/
theorem rV_ok {l : List UInt8} {p : Nat} {k : Int} (hk : k = 1 ∨ k = 2) (hp : p ≤ l.length) (h : (rV l p false k).2.2.2.1 = true) :
    (vOf (rV l p false k)).k = k ∧ mayW (vOf (rV l p false k)) = true ∧ p ≤ (rV l p false k).2.2.2.2.1 ∧ (rV l p false k).2.2.2.2.1 ≤ l.length ∧ (rV l p false k).2.2.2.2.2 = false ∧
    l.take (rV l p false k).2.2.2.2.1 = l.take p ++ (vOf (rV l p false k)).by ∧ ∀ r, rV (l ++ r) p false k = rV l p false k := by
  rcases hk with rfl | rfl
  · by_cases hl : (l.drop p).length < 8
    · have : rd l p false 8 = (0, p + 0, true) := by unfold rd rdW; simp only [hl]; rfl
      unfold rV at h
      rw [this] at h
      simp at h
    · have hl2 : p + 8 ≤ l.length := by rw [List.length_drop] at hl; omega
      have e : rd l p false 8 = (leVal ((l.drop p).take 8), p + 8, false) := by unfold rd rdW; simp only [hl]; rfl
      have hlen : ((l.drop p).take 8).length = 8 := by rw [List.length_take, List.length_drop]; omega
      have hN : leVal ((l.drop p).take 8) < 18446744073709551616 := by have := leVal_lt8 ((l.drop p).take 8); rw [hlen] at this; exact this
      have er : rV l p false 1 = (1, wrap64 (leVal ((l.drop p).take 8) : Int), [], true, p + 8, false) := by unfold rV; rw [e]; rfl
      rw [er]
      refine ⟨rfl, ?_, by simp, hl2, rfl, ?_, fun r => ?_⟩
      · unfold mayW mayV; rw [bls_vOf]; rfl
      · rw [take_two]
        congr 1
        unfold VV.by
        rw [bls_vOf]
        show _ = byV 1 (u64 (wrap64 _)) []
        rw [u64_wrap64 hN, bytes_one]
        have := le_leVal ((l.drop p).take 8)
        rw [hlen] at this
        exact this.symm
      · have hl3 : ¬ ((l ++ r).drop p).length < 8 := by rw [List.length_drop, List.length_append]; omega
        have e2 : rd (l ++ r) p false 8 = (leVal ((l.drop p).take 8), p + 8, false) := by
          unfold rd rdW
          simp only [hl3]
          rw [drop_app hp, List.take_append_of_le_length (by rw [List.length_drop]; omega)]
          rfl
        unfold rV
        rw [e2]
        rfl
  · have hf := rdS_form (l.drop p)
    by_cases h0 : (rdS (l.drop p)).2 = 0
    · have : (rd l p false 0).2.2 = true := by unfold rd; simp [h0]
      unfold rV at h
      simp only [this] at h
      simp at h
    · obtain ⟨h1, h2, h3⟩ := hf.1 h0
      obtain ⟨N, hN⟩ : ∃ N, (rdS (l.drop p)).1 = N := ⟨_, rfl⟩
      obtain ⟨s, hs⟩ : ∃ s, (rdS (l.drop p)).2 = s := ⟨_, rfl⟩
      rw [hN] at h1 h2 h3
      rw [hs] at h0 h2 h3
      have e : rd l p false 0 = (N, p + s, false) := by unfold rd; simp [hN, hs, h0]
      have hsl : p + s ≤ l.length := by
        have := congrArg List.length h3
        rw [List.length_take, List.length_drop, ← h2] at this
        omega
      by_cases hbig : 65535 < N
      · unfold rV at h
        rw [e] at h
        simp [hbig] at h
      · by_cases hcut : (l.length : Int) - ((p + s : Nat) : Int) < (N : Int)
        · have hb : rb l (p + s) false (N : Int) = ([], p + s, true) := by unfold rb; rw [if_neg (by simp), if_pos (.inr hcut)]
          unfold rV at h
          rw [e] at h
          simp [hbig, hb] at h
        · have hb : rb l (p + s) false (N : Int) = ((l.drop (p + s)).take N, p + s + N, false) := by unfold rb; rw [if_neg (by simp), if_neg (by omega)]; simp
          have er : rV l p false 2 = (2, 0, (l.drop (p + s)).take N, true, p + s + N, false) := by
            unfold rV
            rw [e]
            simp [hbig, hb]
          have hL : ((l.drop (p + s)).take N).length = N := by rw [List.length_take, List.length_drop]; omega
          rw [er]
          refine ⟨rfl, ?_, by simp; omega, by simp; omega, rfl, ?_, fun r => ?_⟩
          · unfold mayW mayV
            rw [bls_vOf]
            show (if (2 : Int) = 1 then _ else if (2 : Int) = 2 then _ else _) = true
            rw [if_neg (by omega), if_pos rfl, Bool.and_eq_true]
            exact ⟨rfl, by rw [decide_eq_true_eq]; show ((l.drop (p + s)).take N).length ≤ 65535; omega⟩
          · rw [take_two, take_two, List.append_assoc]
            congr 1
            unfold VV.by
            rw [bls_vOf]
            show _ = byV 2 (u64 0) ((l.drop (p + s)).take N)
            rw [bytes_two, hL, h3]
          · have hap : ((l ++ r).drop p).take (short N).length = short N := by
              rw [drop_app hp, List.take_append_of_le_length (by rw [← h2, List.length_drop]; omega), ← h2]
              exact h3
            have e2 : rd (l ++ r) p false 0 = (N, p + s, false) := by
              unfold rd
              rw [if_neg (by simp)]
              simp only [if_true]
              rw [rdS_of _ N h1 hap, ← h2]
              simp [h0]
            have hb2 : rb (l ++ r) (p + s) false (N : Int) = ((l.drop (p + s)).take N, p + s + N, false) := by
              unfold rb
              rw [if_neg (by simp), if_neg (by rw [List.length_append]; omega), drop_app hsl, Int.toNat_natCast, List.take_append_of_le_length (by rw [List.length_drop]; omega)]
            unfold rV
            rw [e2]
            simp [hbig, hb2]
/-- Does a value rise behind these? -/
def okLast (m : List VV) (v : VV) : Bool := match m.getLast? with
  | none => true
  | some y => decide (cmpW y v < 0)
/-- So many values, from a place on, behind these. -/
def rdG (k : Int) (l : List UInt8) : Nat → Nat → List VV → Option (List VV × Nat)
  | 0, p, m => some (m, p)
  | n + 1, p, m => if (rV l p false k).2.2.2.1 = true ∧ okLast m (vOf (rV l p false k)) = true then rdG k l n (rV l p false k).2.2.2.2.1 (m ++ [vOf (rV l p false k)]) else none
/-- What has been read so far. -/
structure RdI (k : Int) (l H : List UInt8) (p : Nat) (m : List VV) : Prop where
  hp : p ≤ l.length
  up : rise m
  may : ∀ x ∈ m, mayW x = true ∧ x.k = k
  tk : l.take p = H ++ catV m
theorem rise_snoc {m : List VV} {v : VV} (h : rise m) (ho : okLast m v = true) : rise (m ++ [v]) := by
  unfold rise
  rw [List.pairwise_append]
  refine ⟨h, List.pairwise_singleton _ _, fun x hx y hy => ?_⟩
  simp at hy
  subst hy
  unfold okLast at ho
  cases hl : m.getLast? with
  | none => rw [List.getLast?_eq_none_iff] at hl; subst hl; simp at hx
  | some z =>
    rw [hl] at ho
    have hz := of_decide_eq_true ho
    obtain ⟨i, hi, rfl⟩ := List.mem_iff_getElem.1 hx
    have hm : m[m.length - 1]? = some z := by rw [← List.getLast?_eq_getElem?]; exact hl
    by_cases e : i = m.length - 1
    · have : m[i]? = some m[i] := List.getElem?_eq_getElem hi
      subst e
      rw [hm] at this
      injection this with this
      rw [← this]
      exact hz
    · exact cmpW_lt (rise_at h (List.getElem?_eq_getElem hi) hm (by omega)) (by omega)
theorem rdI_next {k : Int} {l H : List UInt8} {p : Nat} {m : List VV} (hk : k = 1 ∨ k = 2) (h : RdI k l H p m) (h1 : (rV l p false k).2.2.2.1 = true) (h2 : okLast m (vOf (rV l p false k)) = true) :
    RdI k l H (rV l p false k).2.2.2.2.1 (m ++ [vOf (rV l p false k)]) := by
  obtain ⟨a1, a2, a3, a4, a5, a6, a7⟩ := rV_ok hk h.hp h1
  refine ⟨a4, rise_snoc h.up h2, fun x hx => ?_, ?_⟩
  · rcases List.mem_append.1 hx with hx | hx
    · exact h.may x hx
    · simp at hx; subst hx; exact ⟨a2, a1⟩
  · rw [a6, h.tk, catV_snoc, List.append_assoc]
theorem rdG_ok {k : Int} {l H : List UInt8} (hk : k = 1 ∨ k = 2) : ∀ (n p : Nat) (m m' : List VV) (q : Nat), RdI k l H p m → rdG k l n p m = some (m', q) → RdI k l H q m' ∧ m'.length = m.length + n ∧ ∀ r, rdG k (l ++ r) n p m = some (m', q)
  | 0, p, m, m', q, h, e => by
    rw [rdG] at e
    injection e with e
    injection e with e1 e2
    subst e1 e2
    exact ⟨h, rfl, fun r => rfl⟩
  | n + 1, p, m, m', q, h, e => by
    rw [rdG] at e
    split at e
    · rename_i hc
      obtain ⟨b1, b2, b3⟩ := rdG_ok hk n _ _ m' q (rdI_next hk h hc.1 hc.2) e
      refine ⟨b1, by rw [b2, List.length_append]; simp; omega, fun r => ?_⟩
      rw [rdG, (rV_ok hk h.hp hc.1).2.2.2.2.2.2 r, if_pos hc]
      exact b3 r
    · cases e
/-- The kind and how many values stand at the head, if these may be. -/
def rdK (l : List UInt8) : Int := ((l.getD 0 0).toNat : Int)
def rdN (l : List UInt8) : Nat := leVal ((l.drop 1).take 4)
def rdHd (l : List UInt8) : Bool := decide (5 ≤ l.length) && kindI (rdK l) && decide (rdN l ≤ 16777216)
/-- What bytes are read as: 0: just these values; 1: there are bytes behind; 2: none. -/
def rdC (l : List UInt8) : Nat × List VV :=
  if rdHd l = true then match rdG (rdK l) l (rdN l) 5 [] with
    | none => (2, [])
    | some (m, q) => if q < l.length then (1, []) else (0, m)
  else (2, [])
theorem rdC_ok {l : List UInt8} (h : (rdC l).1 = 0) : (rdK l = 1 ∨ rdK l = 2) ∧ rise (rdC l).2 ∧ (rdC l).2.length ≤ 16777216 ∧ (∀ x ∈ (rdC l).2, mayW x = true ∧ x.k = rdK l) ∧ dB (l.getD 0 0) (rdC l).2 = l ∧ ∀ x, (rdC (l ++ [x])).1 = 1 := by
  unfold rdC at h ⊢
  split at h
  · rename_i hh
    rw [if_pos hh]
    unfold rdHd at hh
    rw [Bool.and_eq_true, Bool.and_eq_true, decide_eq_true_eq, decide_eq_true_eq] at hh
    obtain ⟨⟨g1, g2⟩, g3⟩ := hh
    have hk : rdK l = 1 ∨ rdK l = 2 := of_decide_eq_true g2
    cases hg : rdG (rdK l) l (rdN l) 5 [] with
    | none => rw [hg] at h; simp at h
    | some t =>
      obtain ⟨m, q⟩ := t
      rw [hg] at h
      simp only at h ⊢
      split at h
      · simp at h
      · rename_i hq
        rw [if_neg hq]
        obtain ⟨i1, i2, i3⟩ := rdG_ok (H := l.take 5) hk (rdN l) 5 [] m q ⟨g1, List.Pairwise.nil, by simp, by simp [catV]⟩ hg
        have hql : q = l.length := by have := i1.hp; omega
        refine ⟨hk, i1.up, by rw [i2]; simpa using g3, i1.may, ?_, fun x => ?_⟩
        · have ht := i1.tk
          rw [hql, List.take_length] at ht
          unfold dB
          rw [ht]
          congr 1
          rw [i2, List.length_nil, Nat.zero_add]
          have h5 : l.take 5 = l.take 1 ++ (l.drop 1).take 4 := take_two l 1 4
          have h1 : l.take 1 = [l.getD 0 0] := by
            cases l with
            | nil => simp at g1
            | cons a r => simp
          rw [show (l.take 5 ++ catV m).getD 0 0 = l.getD 0 0 by rw [← ht], h5, h1]
          congr 1
          unfold rdN
          have hl4 : ((l.drop 1).take 4).length = 4 := by rw [List.length_take, List.length_drop]; omega
          have := le_leVal ((l.drop 1).take 4)
          rw [hl4] at this
          exact this
        · have hK : rdK (l ++ [x]) = rdK l := by
            unfold rdK
            cases l with
            | nil => simp at g1
            | cons a r => simp
          have hN : rdN (l ++ [x]) = rdN l := by
            unfold rdN
            rw [drop_app (by omega), List.take_append_of_le_length (by rw [List.length_drop]; omega)]
          have hH : rdHd (l ++ [x]) = true := by
            unfold rdHd
            rw [hK, hN, Bool.and_eq_true, Bool.and_eq_true, decide_eq_true_eq, decide_eq_true_eq]
            exact ⟨⟨by rw [List.length_append]; omega, g2⟩, g3⟩
          rw [if_pos hH, hK, hN, i3 [x]]
          simp only
          rw [if_pos (by rw [hql, List.length_append]; simp)]
  · simp at h
end Go.Proofs.Ytjojhoaienjjeaa
/- Walks: dict's fault, its reading of the head. -/
namespace Go.Proofs.Ytjojhoaienjjeaa
open Go.RowKit
set_option linter.unusedVariables false

set_option maxHeartbeats 400000 in
theorem ends_any (x : Int) (w : World) : Calls Try.prog 100 #[.int .u8 x] w fun e w' => e = .returned (.bool (decide (x < 128))) ∧ w' = w := by
  go_enter Try.func100, Try.ntmps100
  go_wp2
  go_ret
  exact ⟨rfl, rfl⟩
set_option maxHeartbeats 1000000 in
theorem index8_any (A : Option Addr) (c : Nat) (l : List UInt8) (w : World) (hG : Gs e8 w 0 w.heap.size (.slice A l.length c) l) (hl : l.length ≤ 10000000) :
    Calls Try.prog 106 #[.slice A l.length c, .func (.func 100) #[] #[]] w fun e w' => ∃ r : Int, e = .returned (.int .i64 r) ∧ w' = w := by
  have HE : Enters Try.prog 100 := enters_of Try.func100 (by kernel_rfl) rfl
  unfold Enters at HE
  have HG := Lib.hid hG
  clear hG
  go_enter Try.func106, Try.ntmps106
  go_wp2
  go_loopw [8] (fun i wr => ∃ j : Nat, i = .int .i64 j ∧ j ≤ l.length ∧ Hid (w = wr)) (fun i _ => l.length - (intOf i).toNat)
  case atStart => exact ⟨0, rfl, Nat.zero_le _, Lib.hid rfl⟩
  case round =>
    obtain ⟨j, rfl, hj, hw⟩ := hrel
    have hz := hw.out
    subst hz
    clear hw
    by_cases hlt : j < l.length
    · obtain ⟨b, boff, bc', e, -, -, -, bw, hc⟩ := HG.out.form (fun e => by have h := congrArg List.length e; simp only [List.length_nil] at h; omega)
      injection e with e1 e2 e3
      clear e2
      subst e1 e3
      obtain ⟨y, hy⟩ : ∃ y, l[j]? = some y := ⟨_, List.getElem?_eq_getElem hlt⟩
      have q0 := hc j y hy
      simp only [e8, b8] at q0
      obtain ⟨Y, hY⟩ : ∃ Y : Int, Y = (y.toNat : Int) := ⟨_, rfl⟩
      rw [← hY] at q0
      have HC := Lib.hid (ends_any Y w)
      clear hc hy hY
      cases hq : decide (Y < 128) with
      | true =>
        rw [hq] at HC
        clear hq
        go_wp2_with fail
        refine HC.out.mono ?_
        rintro e w2 ⟨rfl, hz⟩
        have hz := hz.symm
        subst hz
        go_wp2
        go_ret
        exact ⟨_, rfl, rfl⟩
      | false =>
        rw [hq] at HC
        clear hq
        go_wp2_with fail
        refine HC.out.mono ?_
        rintro e w2 ⟨rfl, hz⟩
        have hz := hz.symm
        subst hz
        go_wp2
        go_roundw
        case rel => exact ⟨j + 1, by go_num, by omega, Lib.hid (by trivial)⟩
        case measure => simp [intOf]; omega
    · go_wp2
      go_ret
      exact ⟨_, rfl, rfl⟩
set_option maxHeartbeats 400000 in
theorem any8_any (A : Option Addr) (c : Nat) (l : List UInt8) (w : World) (hG : Gs e8 w 0 w.heap.size (.slice A l.length c) l) (hl : l.length ≤ 10000000) :
    Calls Try.prog 99 #[.slice A l.length c, .func (.func 100) #[] #[]] w fun e w' => ∃ r : Int, e = .returned (.bool (decide (0 ≤ r))) ∧ w' = w := by
  have HC := Lib.hid (index8_any A c l w hG hl)
  clear hG
  go_enter Try.func99, Try.ntmps99
  go_wp2_with (go_at_call 106; refine HC.out.mono ?_; rintro e w1 ⟨r, rfl, hz⟩; have hz := hz.symm; subst hz)
  go_ret
  exact ⟨r, rfl, rfl⟩
/-- Some answer that is yes or no. -/
def SomeB (e : Ending) : Prop := ∃ B : Bool, e = .returned (.bool B)
/-- An error that is one of two. -/
def SomeE (e : Ending) : Prop := ∃ E : Int, e = .returned (.int .i64 E) ∧ (E = 4 ∨ E = 5)
set_option maxHeartbeats 1000000 in
theorem wrong_any (A : Option Addr) (c : Nat) (l : List UInt8) (w : World) (hG : Gs e8 w 0 w.heap.size (.slice A l.length c) l) (hl : l.length ≤ 1000000) :
    Calls Try.prog 80 #[.slice A l.length c] w fun e w' => SomeB e ∧ Below w.heap.size w w' := by
  obtain ⟨m, hm⟩ : ∃ m, min l.length 10 = m := ⟨_, rfl⟩
  have hmin : min (l.length : Int) 10 = (m : Int) := by omega
  have hml : m ≤ l.length := by omega
  have hc : l.length ≤ c := by obtain ⟨A', c', e, h0, h1, h2, hb⟩ := hG; injection e with e1 e2 e3; omega
  have HT := Lib.hid (hG.take hml)
  have ht : (l.take m).length = m := by rw [List.length_take]; omega
  have HCF := Lib.hid (by have := any8_any A c (l.take m) w (by rw [ht]; exact HT.out) (by rw [ht]; omega); rw [ht] at this; exact this)
  have HNew := Lib.hid (new_any (.slice A m c) (l.take m) 0 w HT.out (by rw [ht]; omega))
  obtain ⟨⟨N, q, y⟩, hR⟩ : ∃ t, rd (l.take m) 0 false 0 = t := ⟨_, rfl⟩
  have HRD := Lib.hid hR
  clear hG hm ht hR
  cases y with
  | true =>
    by_cases h10 : m < 10
    · have d1 : decide ((m : Int) < 10) = true := decide_eq_true (by omega)
      clear h10
      go_enter Try.func80, Try.ntmps80
      go_wp2_with fail
      refine HCF.out.mono ?_
      rintro e w1 ⟨r, rfl, hz⟩
      have hz := hz.symm
      subst hz
      cases hB : decide (0 ≤ r) with
      | false =>
        go_wp2
        go_ret
        exact ⟨⟨_, rfl⟩, Below.refl _ _⟩
      | true =>
        go_wp2_with (first
          | (go_at_call 46; refine HNew.out.mono ?_; rintro e w2 ⟨g2, v2, rfl, r2, b2⟩; have R2 := Lib.hid r2; have B2 := Lib.hid b2; clear r2 b2)
          | (go_at_call 96; refine (Uint_any _ R2.out).mono ?_; rw [HRD.out]; rintro e w3 ⟨rfl, r3, g3⟩; have B3 := Lib.hid (B2.out.grown g3 B2.out.size (fun j h => by injection h with h; subst h; exact R2.out.ge)); have R3 := Lib.hid r3; clear r3 g3)
          | (go_at_call 66; refine (Bad_any _ R3.out).mono ?_; rintro e w4 ⟨rfl, rfl⟩))
        go_ret
        exact ⟨⟨_, rfl⟩, B3.out⟩
    · have d1 : decide ((m : Int) < 10) = false := decide_eq_false (by omega)
      clear h10
      go_enter Try.func80, Try.ntmps80
      go_wp2_with (first
        | (go_at_call 46; refine HNew.out.mono ?_; rintro e w2 ⟨g2, v2, rfl, r2, b2⟩; have R2 := Lib.hid r2; have B2 := Lib.hid b2; clear r2 b2)
        | (go_at_call 96; refine (Uint_any _ R2.out).mono ?_; rw [HRD.out]; rintro e w3 ⟨rfl, r3, g3⟩; have B3 := Lib.hid (B2.out.grown g3 B2.out.size (fun j h => by injection h with h; subst h; exact R2.out.ge)); have R3 := Lib.hid r3; clear r3 g3)
        | (go_at_call 66; refine (Bad_any _ R3.out).mono ?_; rintro e w4 ⟨rfl, rfl⟩))
      go_ret
      exact ⟨⟨_, rfl⟩, B3.out⟩
  | false =>
    by_cases h10 : m < 10
    · have d1 : decide ((m : Int) < 10) = true := decide_eq_true (by omega)
      clear h10
      go_enter Try.func80, Try.ntmps80
      go_wp2_with fail
      refine HCF.out.mono ?_
      rintro e w1 ⟨r, rfl, hz⟩
      have hz := hz.symm
      subst hz
      cases hB : decide (0 ≤ r) with
      | false =>
        go_wp2
        go_ret
        exact ⟨⟨_, rfl⟩, Below.refl _ _⟩
      | true =>
        go_wp2_with (first
          | (go_at_call 46; refine HNew.out.mono ?_; rintro e w2 ⟨g2, v2, rfl, r2, b2⟩; have R2 := Lib.hid r2; have B2 := Lib.hid b2; clear r2 b2)
          | (go_at_call 96; refine (Uint_any _ R2.out).mono ?_; rw [HRD.out]; rintro e w3 ⟨rfl, r3, g3⟩; have B3 := Lib.hid (B2.out.grown g3 B2.out.size (fun j h => by injection h with h; subst h; exact R2.out.ge)); have R3 := Lib.hid r3; clear r3 g3)
          | (go_at_call 66; refine (Bad_any _ R3.out).mono ?_; rintro e w4 ⟨rfl, rfl⟩))
        go_ret
        exact ⟨⟨_, rfl⟩, B3.out⟩
    · have d1 : decide ((m : Int) < 10) = false := decide_eq_false (by omega)
      clear h10
      go_enter Try.func80, Try.ntmps80
      go_wp2_with (first
        | (go_at_call 46; refine HNew.out.mono ?_; rintro e w2 ⟨g2, v2, rfl, r2, b2⟩; have R2 := Lib.hid r2; have B2 := Lib.hid b2; clear r2 b2)
        | (go_at_call 96; refine (Uint_any _ R2.out).mono ?_; rw [HRD.out]; rintro e w3 ⟨rfl, r3, g3⟩; have B3 := Lib.hid (B2.out.grown g3 B2.out.size (fun j h => by injection h with h; subst h; exact R2.out.ge)); have R3 := Lib.hid r3; clear r3 g3)
        | (go_at_call 66; refine (Bad_any _ R3.out).mono ?_; rintro e w4 ⟨rfl, rfl⟩))
      go_ret
      exact ⟨⟨_, rfl⟩, B3.out⟩
set_option maxHeartbeats 1000000 in
theorem fault_any (kind : Int) (A : Option Addr) (c : Nat) (l : List UInt8) (w : World) (hG : Gs e8 w 0 w.heap.size (.slice A l.length c) l) (hl : l.length ≤ 1000000) :
    Calls Try.prog 70 #[.int .u8 kind, .slice A l.length c] w fun e w' => SomeE e ∧ Below w.heap.size w w' := by
  have HC := Lib.hid (wrong_any A c l w hG hl)
  clear hG
  by_cases hk : kind = 2
  · subst hk
    go_enter Try.func70, Try.ntmps70
    go_wp2_with fail
    refine HC.out.mono ?_
    rintro e w1 ⟨⟨B, rfl⟩, b1⟩
    have B1 := Lib.hid b1
    clear b1
    cases B with
    | true =>
      go_wp2
      go_ret
      exact ⟨⟨5, rfl, .inr rfl⟩, B1.out⟩
    | false =>
      go_wp2
      go_ret
      exact ⟨⟨4, rfl, .inl rfl⟩, B1.out⟩
  · have e1 : (kind == 2) = false := by simp [hk]
    go_enter Try.func70, Try.ntmps70
    go_wp2
    go_ret
    exact ⟨⟨4, rfl, .inl rfl⟩, Below.refl _ _⟩
end Go.Proofs.Ytjojhoaienjjeaa
/- Walks: dict's reading of the head. -/
namespace Go.Proofs.Ytjojhoaienjjeaa
open Go.RowKit
set_option linter.unusedVariables false

theorem rd1_no {l : List UInt8} (h : l.length < 1) : rd l 0 false 1 = (0, 0, true) := by unfold rd rdW; simp [h]
theorem rd1_yes {l : List UInt8} (h : ¬ l.length < 1) : rd l 0 false 1 = ((l.getD 0 0).toNat, 1, false) := by
  cases l with
  | nil => simp at h
  | cons a r => unfold rd rdW; simp [leVal]
theorem rd4_no {l : List UInt8} (h1 : ¬ l.length < 1) (h : l.length < 5) : rd l 1 false 4 = (0, 1, true) := by
  have h2 : l.length - 1 < 4 := by omega
  unfold rd rdW; simp [h2]
theorem rd4_yes {l : List UInt8} (h : ¬ l.length < 5) : rd l 1 false 4 = (rdN l, 5, false) := by
  have h2 : ¬ l.length - 1 < 4 := by omega
  unfold rd rdW rdN; simp [h2]
/-- What the head's reading tells. -/
def HeadAns (l : List UInt8) (base g : Nat) (v : Value) (e : Ending) (w' : World) : Prop :=
  (rdHd l = true ∧ e = .returned (.tuple #[.int .u8 (rdK l), .int .u32 (rdN l), .int .i64 0]) ∧ Rd w' base g v l 5 false) ∨ (rdHd l = false ∧ ∃ E : Int, e = .returned (.tuple #[.int .u8 0, .int .u32 0, .int .i64 E]) ∧ E ≠ 0)
set_option maxHeartbeats 4000000 in
set_option maxRecDepth 100000 in
theorem head_any (l : List UInt8) (base g : Nat) (v : Value) (w : World) (hR : Rd w base g v l 0 false) (hb : base ≤ w.heap.size) :
    Calls Try.prog 47 #[.pointer (some ⟨g, 0, none⟩)] w fun e w' => HeadAns l base g v e w' ∧ Below base w w' := by
  have HR := Lib.hid hR
  have HB := Lib.hid hb
  have HGE := Lib.hid hR.ge
  have HU8 := Lib.hid (U8_any w hR)
  clear hR hb
  by_cases h1 : l.length < 1
  · rw [rd1_no h1] at HU8
    have HA := Lib.hid (show rdHd l = false by unfold rdHd; rw [decide_eq_false (by omega)]; rfl)
    clear h1
    go_enter Try.func47, Try.ntmps47
    go_wp2_with (first
      | (go_at_call 65; refine HU8.out.mono ?_; rintro e w1 ⟨rfl, r1, g1⟩; have R1 := Lib.hid r1; have B1 := Lib.hid ((Below.refl base w).grown g1 HB.out (fun j h => by injection h with h; subst h; exact HGE.out)); clear r1 g1)
      | (go_at_call 66; refine (Bad_any _ R1.out).mono ?_; rintro e w4 ⟨rfl, hz⟩; subst hz))
    go_ret3
    exact ⟨.inr ⟨HA.out, 4, rfl, by decide⟩, B1.out⟩
  · rw [rd1_yes h1] at HU8
    have HKI := Lib.hid (fun W => iskind_any (rdK l) W)
    cases hk : kindI (rdK l) with
    | false =>
      have HA := Lib.hid (show rdHd l = false by unfold rdHd; rw [hk]; simp)
      rw [hk] at HKI
      have hK : ((l.getD 0 0).toNat : Int) = rdK l := rfl
      rw [hK] at HU8
      clear h1 hk hK
      generalize rdK l = K at HU8 HKI
      go_enter Try.func47, Try.ntmps47
      go_wp2_with (first
        | (go_at_call 65; refine HU8.out.mono ?_; rintro e w1 ⟨rfl, r1, g1⟩; have R1 := Lib.hid r1; have B1 := Lib.hid ((Below.refl base w).grown g1 HB.out (fun j h => by injection h with h; subst h; exact HGE.out)); clear r1 g1)
        | (go_at_call 66; refine (Bad_any _ R1.out).mono ?_; rintro e w4 ⟨rfl, hz⟩; subst hz)
        | (go_at_call 25; refine (HKI.out _).mono ?_; rintro e w5 ⟨rfl, b5⟩; have B5 := Lib.hid (B1.out.trans (b5.mono (Nat.le_trans HB.out B1.out.size))); clear b5))
      go_ret3
      exact ⟨.inr ⟨HA.out, 5, rfl, by decide⟩, B5.out⟩
    | true =>
      rw [hk] at HKI
      have hK : ((l.getD 0 0).toNat : Int) = rdK l := rfl
      rw [hK] at HU8
      have hu4 := fun W (h : Rd W base g v l 1 false) => U32_any W h
      by_cases h5 : l.length < 5
      · rw [rd4_no h1 h5] at hu4
        have HU4 := Lib.hid hu4
        have HA := Lib.hid (show rdHd l = false by unfold rdHd; rw [decide_eq_false (by omega)]; rfl)
        clear h1 hk hK h5 hu4
        generalize rdK l = K at HU8 HKI
        go_enter Try.func47, Try.ntmps47
        go_wp2_with (first
          | (go_at_call 65; refine HU8.out.mono ?_; rintro e w1 ⟨rfl, r1, g1⟩; have R1 := Lib.hid r1; have B1 := Lib.hid ((Below.refl base w).grown g1 HB.out (fun j h => by injection h with h; subst h; exact HGE.out)); clear r1 g1)
          | (go_at_call 66; refine (Bad_any _ R1.out).mono ?_; clear HU8; rintro e w4 ⟨rfl, hz⟩; subst hz)
          | (go_at_call 25; refine (HKI.out _).mono ?_; rintro e w5 ⟨rfl, b5⟩; have B5 := Lib.hid (B1.out.trans (b5.mono (Nat.le_trans HB.out B1.out.size))); have R5 := Lib.hid (R1.out.below b5 (Nat.le_refl _)); clear b5 R1)
          | (go_at_call 67; refine (HU4.out _ R5.out).mono ?_; rintro e w6 ⟨rfl, r6, g6⟩; have R6 := Lib.hid r6; have B6 := Lib.hid (B5.out.grown g6 (Nat.le_trans HB.out B5.out.size) (fun j h => by injection h with h; subst h; exact HGE.out)); clear r6 g6)
          | (go_at_call 66; refine (Bad_any _ R6.out).mono ?_; rintro e w7 ⟨rfl, hz⟩; subst hz))
        go_ret3
        exact ⟨.inr ⟨HA.out, 4, rfl, by decide⟩, B6.out⟩
      · rw [rd4_yes h5] at hu4
        obtain ⟨N, hN⟩ : ∃ N, rdN l = N := ⟨_, rfl⟩
        obtain ⟨K, hKK⟩ : ∃ K, rdK l = K := ⟨_, rfl⟩
        rw [hN] at hu4
        rw [hKK] at HU8 HKI
        have HU4 := Lib.hid hu4
        by_cases hbig : N ≤ 16777216
        · have HA := Lib.hid (show rdHd l = true by unfold rdHd; rw [hk, hN, decide_eq_true (by omega), decide_eq_true hbig]; rfl)
          have d1 : decide ((16777216 : Int) < (N : Int)) = false := decide_eq_false (by omega)
          have HN := Lib.hid hN
          have HKK := Lib.hid hKK
          clear h1 hk hK h5 hu4 hN hKK hbig
          go_enter Try.func47, Try.ntmps47
          go_wp2_with (first
            | (go_at_call 65; refine HU8.out.mono ?_; rintro e w1 ⟨rfl, r1, g1⟩; have R1 := Lib.hid r1; have B1 := Lib.hid ((Below.refl base w).grown g1 HB.out (fun j h => by injection h with h; subst h; exact HGE.out)); clear r1 g1)
            | (go_at_call 66; refine (Bad_any _ R1.out).mono ?_; clear HU8; rintro e w4 ⟨rfl, hz⟩; subst hz)
            | (go_at_call 25; refine (HKI.out _).mono ?_; rintro e w5 ⟨rfl, b5⟩; have B5 := Lib.hid (B1.out.trans (b5.mono (Nat.le_trans HB.out B1.out.size))); have R5 := Lib.hid (R1.out.below b5 (Nat.le_refl _)); clear b5 R1)
            | (go_at_call 67; refine (HU4.out _ R5.out).mono ?_; rintro e w6 ⟨rfl, r6, g6⟩; have R6 := Lib.hid r6; have B6 := Lib.hid (B5.out.grown g6 (Nat.le_trans HB.out B5.out.size) (fun j h => by injection h with h; subst h; exact HGE.out)); clear r6 g6)
            | (go_at_call 66; refine (Bad_any _ R6.out).mono ?_; rintro e w7 ⟨rfl, hz⟩; subst hz))
          go_ret3
          exact ⟨.inl ⟨HA.out, by rw [HN.out, HKK.out]; rfl, R6.out⟩, B6.out⟩
        · have HA := Lib.hid (show rdHd l = false by unfold rdHd; rw [hN, decide_eq_false hbig]; simp)
          have d1 : decide ((16777216 : Int) < (N : Int)) = true := decide_eq_true (by omega)
          clear h1 hk hK h5 hu4 hN hKK hbig
          go_enter Try.func47, Try.ntmps47
          go_wp2_with (first
            | (go_at_call 65; refine HU8.out.mono ?_; rintro e w1 ⟨rfl, r1, g1⟩; have R1 := Lib.hid r1; have B1 := Lib.hid ((Below.refl base w).grown g1 HB.out (fun j h => by injection h with h; subst h; exact HGE.out)); clear r1 g1)
            | (go_at_call 66; refine (Bad_any _ R1.out).mono ?_; clear HU8; rintro e w4 ⟨rfl, hz⟩; subst hz)
            | (go_at_call 25; refine (HKI.out _).mono ?_; rintro e w5 ⟨rfl, b5⟩; have B5 := Lib.hid (B1.out.trans (b5.mono (Nat.le_trans HB.out B1.out.size))); have R5 := Lib.hid (R1.out.below b5 (Nat.le_refl _)); clear b5 R1)
            | (go_at_call 67; refine (HU4.out _ R5.out).mono ?_; rintro e w6 ⟨rfl, r6, g6⟩; have R6 := Lib.hid r6; have B6 := Lib.hid (B5.out.grown g6 (Nat.le_trans HB.out B5.out.size) (fun j h => by injection h with h; subst h; exact HGE.out)); clear r6 g6)
            | (go_at_call 66; refine (Bad_any _ R6.out).mono ?_; rintro e w7 ⟨rfl, hz⟩; subst hz))
          go_ret3
          exact ⟨.inr ⟨HA.out, 3, rfl, by decide⟩, B6.out⟩
end Go.Proofs.Ytjojhoaienjjeaa
/- Walks: dict's reading of the values. -/
namespace Go.Proofs.Ytjojhoaienjjeaa
open Go.RowKit
set_option linter.unusedVariables false

theorem rd_after {w w' : World} {base g B : Nat} {v : Value} {l : List UInt8} {p : Nat} {x : Bool} {row : Option Nat} (h : Rd w base g v l p x) (hg : w.grownBy w' row) (hgB : g < B) (hv : ∀ k, v.ownBlock = some k → k < B) (hr : ∀ k, row = some k → B ≤ k) : Rd w' base g v l p x := by
  cases row with
  | none => exact h.grown hg (fun k e => by cases e)
  | some r => exact h.far hg (by have := hr r rfl; omega) (fun e => by have h1 := hv r e; have h2 := hr r rfl; omega)
theorem cell_last {W : World} {b off i : Nat} {m : List VV} {Y : VV} (h : m[i]? = some Y) (hc : ∀ j x, m[j]? = some x → ∀ i u, (eV.cs x)[i]? = some u → W.cell? ⟨b, off + (eV.n * j + i), none⟩ = some u) : W.cell? ⟨b, off + i * 3, none⟩ = some (.int .u8 Y.k) ∧ W.cell? ⟨b, off + i * 3 + 1, none⟩ = some (.int .i64 Y.n) ∧ W.cell? ⟨b, off + i * 3 + 2, none⟩ = some (.string Y.s) :=
  ⟨vcell0 (hc i Y h), vcell1 (hc i Y h), vcell2 (hc i Y h)⟩
theorem last_cells {W : World} {B b off i n c : Nat} {m : List VV} {Y : VV} (h : GwV eV W B (.slice (some ⟨b, off, none⟩) n c) m) (hm : m ≠ []) (hY : m[i]? = some Y) : b < W.heap.size ∧ W.cell? ⟨b, off + i * 3, none⟩ = some (.int .u8 Y.k) ∧ W.cell? ⟨b, off + i * 3 + 1, none⟩ = some (.int .i64 Y.n) ∧ W.cell? ⟨b, off + i * 3 + 2, none⟩ = some (.string Y.s) := by
  obtain ⟨b', off', c', e, -, -, -, bw, hc⟩ := h.sl.form hm
  injection e with e1 e2 e3
  injection e1 with e1
  injection e1 with e4 e5
  subst e4 e5
  exact ⟨bw, cell_last hY hc⟩
/-- What the values' reading tells. -/
def ValsAns (R : Option (List VV × Nat)) (l : List UInt8) (base g : Nat) (v : Value) (e : Ending) (w' : World) : Prop :=
  (∃ m q A' d', R = some (m, q) ∧ e = .returned (.tuple #[.slice A' m.length d', .int .i64 0]) ∧ GsV eV w' 0 w'.heap.size (.slice A' m.length d') m ∧ Rd w' base g v l q false) ∨ (R = none ∧ ∃ E : Int, e = .returned (.tuple #[.slice none 0 0, .int .i64 E]) ∧ E ≠ 0)
theorem ind_cut {j i : Nat} (h : j = i + 1) (hj : j ≤ 100000000) : IntKind.i64.wrap ((j : Int) - 1) = (i : Int) := by rw [IntKind.wrap_i64]; omega
theorem wrap32 {j N : Nat} (h : j < N) (hN : N ≤ 16777216) : IntKind.u32.wrap ((j : Int) + 1) = ((j + 1 : Nat) : Int) := by rw [IntKind.wrap_u32]; omega
set_option maxHeartbeats 8000000 in
set_option maxRecDepth 100000 in
theorem values_any (l : List UInt8) (base g : Nat) (v : Value) (A : Option Addr) (c : Nat) (k : Int) (N : Nat) (w : World) (hR : Rd w base g v l 5 false) (hb : base ≤ w.heap.size) (hG : Gs e8 w 0 base (.slice A l.length c) l) (hk : k = 1 ∨ k = 2) (hN : N ≤ 16777216) (hl : l.length ≤ 1000000) (h5 : 5 ≤ l.length) :
    Calls Try.prog 48 #[.pointer (some ⟨g, 0, none⟩), .slice A l.length c, .int .u8 k, .int .u32 N] w fun e w' => ValsAns (rdG k l N 5 []) l base g v e w' ∧ Below base w w' := by
  have HG := Lib.hid hG
  have HB := Lib.hid hb
  have HGE := Lib.hid hR.ge
  have HK := Lib.hid hk
  have HL := Lib.hid hl
  have HGL := Lib.hid hR.lt
  have HOV := Lib.hid (fun j (h : v.ownBlock = some j) => (hR.own.lt j h).2)
  obtain ⟨R, hRR⟩ : ∃ R, rdG k l N 5 [] = R := ⟨_, rfl⟩
  have HR0 := Lib.hid hR
  have HRR := Lib.hid hRR
  have HI0 := Lib.hid (show RdI k l (l.take 5) 5 [] from ⟨h5, List.Pairwise.nil, by simp, by simp [catV]⟩)
  rw [hRR]
  clear hR hb hG hk hRR hl h5
  go_enter Try.func48, Try.ntmps48
  go_wp2
  go_loopw [10, 15] (fun v10 t wr => ∃ j : Nat, t = .int .u32 j ∧ j ≤ N ∧ Hid (∃ (p : Nat) (m : List VV), m.length = j ∧ Rd wr base g v l p false ∧ GwV eV wr w.heap.size v10 m ∧ Below base w wr ∧ w.heap.size ≤ wr.heap.size ∧ RdI k l (l.take 5) p m ∧ rdG k l (N - j) p m = R)) (fun _ t _ => N - (intOf t).toNat)
  case atStart => exact ⟨0, rfl, Nat.zero_le _, Lib.hid ⟨5, [], rfl, HR0.out, GwV.nil_ _ _, Below.refl _ _, Nat.le_refl _, HI0.out, HRR.out⟩⟩
  case round =>
    obtain ⟨j, rfl, hj, hI⟩ := hrel
    obtain ⟨p, m, hml, hr, hw, hbb, hsz, hi, hg⟩ := hI.out
    clear hI
    have HML := Lib.hid hml
    have HRD := Lib.hid hr
    have HW := Lib.hid hw
    have HBB := Lib.hid hbb
    have HSZ := Lib.hid hsz
    have HI := Lib.hid hi
    have HGG := Lib.hid hg
    obtain ⟨A10, d10, hv10, -⟩ := hw.sl
    subst hv10
    by_cases hlt : j < N
    · have d1 : decide ((j : Int) < (N : Int)) = true := decide_eq_true (by omega)
      have w32 := wrap32 hlt hN
      obtain ⟨n', hn'⟩ : ∃ n', N - j = n' + 1 := ⟨N - j - 1, by omega⟩
      rw [hn', rdG] at hg
      obtain ⟨⟨k', n1, L, ok, q, y⟩, hV⟩ : ∃ t, rV l p false k = t := ⟨_, rfl⟩
      have HV := Lib.hid hV
      have hrdv := fun W (h : Rd W base g v l p false) => Read_c hV W h
      rw [hV] at hg
      simp only at hg
      have HRC := Lib.hid hrdv
      have HAt := Lib.hid (fun W (h : Rd W base g v l p false) => At_any W h)
      clear hml hr hw hbb hsz hi hV hrdv
      cases ok with
      | false =>
        have hnone : R = none := by simpa using hg.symm
        have HNO := Lib.hid hnone
        clear hg hnone
        have hp := HI.out.hp
        have hll := HL.out
        obtain ⟨b, boff, bc', e, hlc, hcm, -, bw, -⟩ := HG.out.form (fun e => by have := HGL.out; have h5 := HI0.out.hp; rw [e] at h5; simp at h5)
        injection e with e1 e2 e3
        clear e2
        subst e1 e3
        have HGW := Lib.hid (fun W (h : Below base wr W) => (HG.out.below (HBB.out.trans h)).more (Nat.le_refl _) (Nat.le_trans HB.out (Nat.le_trans HSZ.out h.size)))
        by_cases hcp : c = p
        · skip
          have hcut := fun W (h : Below base wr W) => sl_cut (p := p) (m := l.length - p) (HGW.out W h) (by omega)
          simp only [if_pos hcp] at hcut
          have hlc2 : ((l.drop p).take (l.length - p)).length = l.length - p := by rw [List.length_take, List.length_drop]; omega
          have HFL := Lib.hid (fun W (h : Below base wr W) => (by have := fault_any k _ _ ((l.drop p).take (l.length - p)) W (by rw [hlc2]; exact hcut W h) (by rw [hlc2]; omega); rw [hlc2] at this; exact this))
          have epl : l.length = p := by omega
          have e0 : l.length - p = 0 := by omega
          have e1 : c - p = 0 := by omega
          rw [e0, e1] at HFL
          clear hcut hlc2 e0 e1
          go_wp2_with (first
            | (go_at_call 68; refine (HAt.out _ HRD.out).mono ?_; rintro e w1 ⟨rfl, hz⟩; subst hz)
            | (go_at_call 69; refine (HRC.out _ HRD.out).mono ?_; rintro e w2 ⟨rfl, r2, g2⟩; have R2 := Lib.hid r2; have hsz2 := Nat.le_trans HSZ.out g2.size; have B2r := Lib.hid ((Below.refl base _).grown g2 (Nat.le_trans HB.out HSZ.out) (fun j h => by injection h with h; subst h; exact HGE.out)); have B2 := Lib.hid (HBB.out.trans B2r.out); have W2 := Lib.hid (HW.out.kept g2 (fun j h e => by injection e with e; subst e; have := (HW.out.lt _ h).1; have := HGL.out; omega)); have S2 := Lib.hid hsz2; clear r2 g2 hsz2)
            | (go_at_call 70; refine (HFL.out _ (B2r.out.alloc (Nat.le_trans HB.out S2.out) _)).mono ?_; rintro e w3 ⟨⟨E, rfl, hE⟩, b3⟩; have HE := Lib.hid hE; have B3 := Lib.hid ((B2.out.alloc (Nat.le_trans HB.out S2.out) _).trans (b3.mono (by simp; exact Nat.le_succ_of_le (Nat.le_trans HB.out S2.out)))); clear hE b3))
          go_ret2
          exact ⟨.inr ⟨HNO.out, E, rfl, by have := HE.out; omega⟩, B3.out⟩
        · skip
          have hcut := fun W (h : Below base wr W) => sl_cut (p := p) (m := l.length - p) (HGW.out W h) (by omega)
          simp only [if_neg hcp, Option.map_some, addr_addv] at hcut
          have hlc2 : ((l.drop p).take (l.length - p)).length = l.length - p := by rw [List.length_take, List.length_drop]; omega
          have HFL := Lib.hid (fun W (h : Below base wr W) => (by have := fault_any k _ _ ((l.drop p).take (l.length - p)) W (by rw [hlc2]; exact hcut W h) (by rw [hlc2]; omega); rw [hlc2] at this; exact this))
          clear hcut hlc2
          go_wp2_with (first
            | (go_at_call 68; refine (HAt.out _ HRD.out).mono ?_; rintro e w1 ⟨rfl, hz⟩; subst hz)
            | (go_at_call 69; refine (HRC.out _ HRD.out).mono ?_; rintro e w2 ⟨rfl, r2, g2⟩; have R2 := Lib.hid r2; have hsz2 := Nat.le_trans HSZ.out g2.size; have B2r := Lib.hid ((Below.refl base _).grown g2 (Nat.le_trans HB.out HSZ.out) (fun j h => by injection h with h; subst h; exact HGE.out)); have B2 := Lib.hid (HBB.out.trans B2r.out); have W2 := Lib.hid (HW.out.kept g2 (fun j h e => by injection e with e; subst e; have := (HW.out.lt _ h).1; have := HGL.out; omega)); have S2 := Lib.hid hsz2; clear r2 g2 hsz2)
            | (go_at_call 70; refine (HFL.out _ (B2r.out.alloc (Nat.le_trans HB.out S2.out) _)).mono ?_; rintro e w3 ⟨⟨E, rfl, hE⟩, b3⟩; have HE := Lib.hid hE; have B3 := Lib.hid ((B2.out.alloc (Nat.le_trans HB.out S2.out) _).trans (b3.mono (by simp; exact Nat.le_succ_of_le (Nat.le_trans HB.out S2.out)))); clear hE b3))
          go_ret2
          exact ⟨.inr ⟨HNO.out, E, rfl, by have := HE.out; omega⟩, B3.out⟩
      | true =>
        have hy : y = false := by
          have := (rV_ok HK.out HI.out.hp (by rw [HV.out])).2.2.2.2.1
          rw [HV.out] at this
          exact this
        subst hy
        obtain ⟨X, hX⟩ : ∃ X : VV, X = ⟨k', n1, ⟨L.toArray⟩⟩ := ⟨_, rfl⟩
        have hvx : vOf (k', n1, L, true, q, false) = X := by rw [hX]; rfl
        rw [hvx] at hg
        have hnext : okLast m X = true → RdI k l (l.take 5) q (m ++ [X]) := fun ho => by
          have := rdI_next HK.out HI.out (by rw [HV.out]) (by rw [HV.out, hvx]; exact ho)
          rw [HV.out, hvx] at this
          exact this
        have hk1 : X.k = k' := by rw [hX]
        have hk2 : X.n = n1 := by rw [hX]
        have hk3 : X.s = ⟨L.toArray⟩ := by rw [hX]
        have HX := Lib.hid hX
        rw [← hk1, ← hk2, ← hk3] at HRC
        clear hvx hX hk1 hk2 hk3
        by_cases hm0 : m = []
        · subst hm0
          have ho : okLast [] X = true := rfl
          have HIN := Lib.hid (hnext ho)
          have HGN := Lib.hid (show rdG k l n' q ([] ++ [X]) = R by rw [← hg, if_pos ⟨rfl, ho⟩])
          have ej0 : j = 0 := HML.out.symm
          clear hg hnext ho
          go_wp2_with (first
            | (go_at_call 68; refine (HAt.out _ HRD.out).mono ?_; rintro e w1 ⟨rfl, hz⟩; subst hz)
            | (go_at_call 69; refine (HRC.out _ HRD.out).mono ?_; rintro e w2 ⟨rfl, r2, g2⟩; have R2 := Lib.hid r2; have hsz2 := Nat.le_trans HSZ.out g2.size; have B2r := Lib.hid ((Below.refl base _).grown g2 (Nat.le_trans HB.out HSZ.out) (fun j h => by injection h with h; subst h; exact HGE.out)); have B2 := Lib.hid (HBB.out.trans B2r.out); have W2 := Lib.hid (HW.out.kept g2 (fun j h e => by injection e with e; subst e; have := (HW.out.lt _ h).1; have := HGL.out; omega)); have S2 := Lib.hid hsz2; clear r2 g2 hsz2))
          go_region
          obtain ⟨U, hU⟩ : ∃ U, U = (w2.alloc (.cells #[.int .u8 X.k, .int .i64 X.n, .string X.s] 38)).drew := ⟨_, rfl⟩
          have W3 := Lib.hid (show GwV eV U w.heap.size _ _ by rw [hU]; exact (W2.out.alloc (.cells #[.int .u8 X.k, .int .i64 X.n, .string X.s] 38)).drewN 1)
          have R3 := Lib.hid (show Rd U base g v l q false by rw [hU]; exact (R2.out.alloc (.cells #[.int .u8 X.k, .int .i64 X.n, .string X.s] 38)).drewN 1)
          have B3 := Lib.hid (show Below base w U by rw [hU]; exact (B2.out.alloc (Nat.le_trans HB.out S2.out) (.cells #[.int .u8 X.k, .int .i64 X.n, .string X.s] 38)).drew)
          have S3 := Lib.hid (show w.heap.size ≤ U.heap.size by rw [hU]; show _ ≤ (w2.heap.push _).size; simp; exact Nat.le_succ_of_le S2.out)
          have bx := Lib.hid (show Row U w2.heap.size 38 #[.int .u8 X.k, .int .i64 X.n, .string X.s] by rw [hU]; exact Row.new w2 _ _)
          have a0 := bx.out.cell 0
          have a1 := bx.out.cell 1
          have a2 := bx.out.cell 2
          rw [← hU]
          clear hU
          go_wp2_with (at_builtin; refine wpList_gappv1 eV _ rfl _ _ _ rfl w.heap.size sliV infV _ [] rfl W3.out _ X (by rfl) rfl (by simp) S3.out ?_; intro v4 w4 o4 g4 _; have O4 := Lib.hid o4; have G4 := Lib.hid g4; clear o4 g4)
          go_roundw
          case rel => exact ⟨j + 1, by first | rfl | rw [w32] | go_num, by omega, Lib.hid ⟨q, [] ++ [X], by rw [ej0]; rfl, rd_after R3.out G4.out HGL.out HOV.out (fun z h => (W3.out.lt z h).1), O4.out, B3.out.grown G4.out (Nat.le_trans HB.out S3.out) (fun z h => Nat.le_trans HB.out (W3.out.lt z h).1), Nat.le_trans S3.out G4.out.size, HIN.out, by rw [show N - (j + 1) = n' by omega]; exact HGN.out⟩⟩
          case measure => simp [intOf]; omega
        · obtain ⟨i, hij⟩ : ∃ i, j = i + 1 := ⟨j - 1, by have : j ≠ 0 := fun e => hm0 (List.length_eq_zero_iff.1 (HML.out.trans e)); omega⟩
          have hW2 := HW.out
          have hmj := HML.out
          rw [hmj] at hW2
          rw [hmj]
          clear HW hmj
          obtain ⟨Y, hY⟩ : ∃ Y, m[i]? = some Y := ⟨m[i]'(by have := HML.out; omega), List.getElem?_eq_getElem _⟩
          have hlast : okLast m X = decide (cmpW Y X < 0) := by
            unfold okLast
            rw [List.getLast?_eq_getElem?, HML.out, show j - 1 = i by omega, hY]
          obtain ⟨b, boff, bc', e, -, -, -, -, -⟩ := hW2.sl.form hm0
          injection e with e1 e2 e3
          clear e2
          subst e1 e3
          have HCL := Lib.hid (fun W (h : GwV eV W w.heap.size (.slice (some ⟨b, boff, none⟩) j d10) m) => last_cells h hm0 hY)
          have HW2 := Lib.hid hW2
          have w64 := ind_cut hij (by omega)
          have hil : i < j := by omega
          have hj0 : 0 < j := by omega
          have HLI := Lib.hid (show j ≤ 100000000 by omega)
          have d0 : decide ((0 : Int) < (j : Int)) = true := decide_eq_true (by omega)
          clear hW2 hY hij
          go_wp2_with (first
            | (go_at_call 68; refine (HAt.out _ HRD.out).mono ?_; rintro e w1 ⟨rfl, hz⟩; subst hz)
            | (go_at_call 69; refine (HRC.out _ HRD.out).mono ?_; rintro e w2 ⟨rfl, r2, g2⟩; have R2 := Lib.hid r2; have hsz2 := Nat.le_trans HSZ.out g2.size; have B2r := Lib.hid ((Below.refl base _).grown g2 (Nat.le_trans HB.out HSZ.out) (fun j h => by injection h with h; subst h; exact HGE.out)); have B2 := Lib.hid (HBB.out.trans B2r.out); have W2 := Lib.hid (HW2.out.kept g2 (fun j h e => by injection e with e; subst e; have := (HW2.out.lt _ h).1; have := HGL.out; omega)); have S2 := Lib.hid hsz2; clear r2 g2 hsz2))
          obtain ⟨U, hU⟩ : ∃ U, U = w2.alloc (.cells #[.int .u8 X.k, .int .i64 X.n, .string X.s] 38) := ⟨_, rfl⟩
          have W3 := Lib.hid (show GwV eV U w.heap.size _ _ by rw [hU]; exact (W2.out.alloc (.cells #[.int .u8 X.k, .int .i64 X.n, .string X.s] 38)))
          have R3 := Lib.hid (show Rd U base g v l q false by rw [hU]; exact (R2.out.alloc (.cells #[.int .u8 X.k, .int .i64 X.n, .string X.s] 38)))
          have B3 := Lib.hid (show Below base w U by rw [hU]; exact (B2.out.alloc (Nat.le_trans HB.out S2.out) (.cells #[.int .u8 X.k, .int .i64 X.n, .string X.s] 38)))
          have S3 := Lib.hid (show w.heap.size ≤ U.heap.size by rw [hU]; show _ ≤ (w2.heap.push _).size; simp; exact Nat.le_succ_of_le S2.out)
          have bx := Lib.hid (show Row U w2.heap.size 38 #[.int .u8 X.k, .int .i64 X.n, .string X.s] by rw [hU]; exact Row.new w2 _ _)
          rw [← hU]
          clear hU
          have HCQ := Lib.hid (HCL.out U W3.out)
          have q0 := fun x : Inw U => (x.b.cell (p := ⟨b, _, none⟩) HCQ.out.1).trans HCQ.out.2.1
          have q1 := fun x : Inw U => (x.b.cell (p := ⟨b, _, none⟩) HCQ.out.1).trans HCQ.out.2.2.1
          have q2 := fun x : Inw U => (x.b.cell (p := ⟨b, _, none⟩) HCQ.out.1).trans HCQ.out.2.2.2
          have a0 := fun x : Inw U => (bx.out.below x.b bx.out.lt).cell 0
          have a1 := fun x : Inw U => (bx.out.below x.b bx.out.lt).cell 1
          have a2 := fun x : Inw U => (bx.out.below x.b bx.out.lt).cell 2
          have HC := Lib.hid (fun x : Inw U => Calls.in_of x (compareV_any Y.k Y.n Y.s X.k X.n X.s x.W))
          obtain ⟨C, hC⟩ : ∃ C, cmpV Y.k Y.n (bls Y.s) X.k X.n (bls X.s) = C := ⟨_, rfl⟩
          rw [hC] at HC
          have hCC : cmpW Y X = C := hC
          rw [hCC] at hlast
          clear hC
          refine wp_region_in (by kernel_rfl) (by kernel_rfl) ?_
          repeat (quiet_step (first | (go_at_call 23; exact HC.out _)))
          refine wpQuiet_nil ?_
          rintro _ ⟨x9, rfl⟩
          obtain ⟨V, hV9⟩ : ∃ V, V = x9.W := ⟨_, rfl⟩
          have B9 := Lib.hid (show Below U.heap.size U V by rw [hV9]; exact x9.b)
          have W4 := Lib.hid (W3.out.below B9.out (Nat.le_refl _))
          have R4 := Lib.hid (R3.out.grown (grown_of_below B9.out) (fun k e => by cases e))
          have B4 := Lib.hid (B3.out.trans (B9.out.mono (Nat.le_trans HB.out S3.out)))
          have S4 := Lib.hid (Nat.le_trans S3.out B9.out.size)
          have c0 := (bx.out.below B9.out bx.out.lt).cell 0
          have c1 := (bx.out.below B9.out bx.out.lt).cell 1
          have c2 := (bx.out.below B9.out bx.out.lt).cell 2
          rw [← hV9]
          clear hV9 x9 q0 q1 q2 a0 a1 a2
          by_cases hcmp : C < 0
          · have ho : okLast m X = true := by rw [hlast]; exact decide_eq_true hcmp
            have HIN := Lib.hid (hnext ho)
            have HGN := Lib.hid (show rdG k l n' q (m ++ [X]) = R by rw [← hg, ho]; simp)
            have dC : decide (0 ≤ C) = false := decide_eq_false (by omega)
            have dD : decide (C ≥ 0) = false := dC
            clear hg hnext ho hlast
            go_wp2_with (at_builtin; refine wpList_gappv1 eV _ rfl _ _ _ rfl w.heap.size sliV infV _ m rfl W4.out _ X (by rfl) rfl (by have := HML.out; have := HLI.out; omega) S4.out ?_; intro v4 w4 o4 g4 _; have O4 := Lib.hid o4; have G4 := Lib.hid g4; clear o4 g4)
            go_roundw
            case rel => exact ⟨j + 1, by first | rfl | rw [w32] | go_num, by omega, Lib.hid ⟨q, m ++ [X], by rw [List.length_append, HML.out]; rfl, rd_after R4.out G4.out HGL.out HOV.out (fun z h => (W4.out.lt z h).1), O4.out, B4.out.grown G4.out (Nat.le_trans HB.out S4.out) (fun z h => Nat.le_trans HB.out (W4.out.lt z h).1), Nat.le_trans S4.out G4.out.size, HIN.out, by rw [show N - (j + 1) = n' by omega]; exact HGN.out⟩⟩
            case measure => simp [intOf]; omega
          · have hnone : R = none := by rw [← hg, if_neg (by rw [hlast]; simp; omega)]
            have HNO := Lib.hid hnone
            have dC : decide (0 ≤ C) = true := decide_eq_true (by omega)
            have dD : decide (C ≥ 0) = true := dC
            clear hg hnone hlast hnext
            go_wp2
            go_ret2
            exact ⟨.inr ⟨HNO.out, 5, rfl, by omega⟩, B4.out⟩
    · have ej : j = N := by omega
      have d1 : decide ((j : Int) < (N : Int)) = false := decide_eq_false (by omega)
      have hend : R = some (m, p) := by rw [ej, Nat.sub_self, rdG] at hg; exact hg.symm
      have HEND := Lib.hid hend
      obtain ⟨ml, hmq⟩ : ∃ ml, m.length = ml := ⟨_, rfl⟩
      have HMQ := Lib.hid hmq
      rw [hmq]
      clear hml hr hw hbb hsz hi hg hend hmq ej
      go_wp2
      go_ret2
      exact ⟨.inl ⟨m, p, A10, d10, HEND.out, by rw [HMQ.out]; rfl, HW.out.sl.more (Nat.zero_le _) (Nat.le_refl _), HRD.out⟩, HBB.out⟩
end Go.Proofs.Ytjojhoaienjjeaa
/- Walks: dict's Read. -/
namespace Go.Proofs.Ytjojhoaienjjeaa
open Go.RowKit
set_option linter.unusedVariables false

theorem head_yes {l : List UInt8} {base g : Nat} {v : Value} {e : Ending} {w' : World} (hh : rdHd l = true) (h : HeadAns l base g v e w') : e = .returned (.tuple #[.int .u8 (rdK l), .int .u32 (rdN l), .int .i64 0]) ∧ Rd w' base g v l 5 false := by
  rcases h with ⟨-, h1, h2⟩ | ⟨h0, -⟩
  · exact ⟨h1, h2⟩
  · rw [hh] at h0; cases h0
theorem head_no {l : List UInt8} {base g : Nat} {v : Value} {e : Ending} {w' : World} (hh : rdHd l = false) (h : HeadAns l base g v e w') : ∃ E : Int, e = .returned (.tuple #[.int .u8 0, .int .u32 0, .int .i64 E]) ∧ E ≠ 0 := by
  rcases h with ⟨h0, -⟩ | ⟨-, h⟩
  · rw [hh] at h0; cases h0
  · exact h
theorem vals_some {m : List VV} {q : Nat} {l : List UInt8} {base g : Nat} {v : Value} {e : Ending} {w' : World} (h : ValsAns (some (m, q)) l base g v e w') : ∃ A' d', e = .returned (.tuple #[.slice A' m.length d', .int .i64 0]) ∧ GsV eV w' 0 w'.heap.size (.slice A' m.length d') m ∧ Rd w' base g v l q false := by
  rcases h with ⟨m', q', A', d', h0, h1, h2, h3⟩ | ⟨h0, -⟩
  · injection h0 with h0
    injection h0 with h4 h5
    subst h4 h5
    exact ⟨A', d', h1, h2, h3⟩
  · cases h0
theorem vals_none {l : List UInt8} {base g : Nat} {v : Value} {e : Ending} {w' : World} (h : ValsAns none l base g v e w') : ∃ E : Int, e = .returned (.tuple #[.slice none 0 0, .int .i64 E]) ∧ E ≠ 0 := by
  rcases h with ⟨m', q', A', d', h0, -⟩ | ⟨-, h⟩
  · cases h0
  · exact h
/-- What Read tells. -/
def ReadAns (l : List UInt8) (e : Ending) (w' : World) : Prop :=
  ∃ (p : Value) (E : Int), e = .returned (.tuple #[p, .int .i64 E]) ∧ ((rdC l).1 = 0 → E = 0 ∧ Dc w' p (rdK l) (rdC l).2) ∧ ((rdC l).1 ≠ 0 → p = .pointer none ∧ E ≠ 0) ∧ ((rdC l).1 = 1 → E = 5)
theorem ans_two {l : List UInt8} {w' : World} {E : Int} (h : rdC l = (2, [])) (hE : E ≠ 0) : ReadAns l (.returned (.tuple #[.pointer none, .int .i64 E])) w' :=
  ⟨_, E, rfl, fun h0 => by (rw [h] at h0; cases h0), fun _ => ⟨rfl, hE⟩, fun h0 => by (rw [h] at h0; cases h0)⟩
set_option maxHeartbeats 4000000 in
set_option maxRecDepth 100000 in
theorem read_any (l : List UInt8) (A : Option Addr) (c : Nat) (w : World) (hG : Gs e8 w 0 w.heap.size (.slice A l.length c) l) (hl : l.length ≤ 1000000) :
    Calls Try.prog 24 #[.slice A l.length c] w fun e w' => ReadAns l e w' ∧ Below w.heap.size w w' := by
  have HG := Lib.hid hG
  have HL := Lib.hid hl
  have HN := Lib.hid (new_any _ l 0 w hG (by omega))
  cases hh : rdHd l with
  | false =>
    have HC := Lib.hid (show rdC l = (2, []) by unfold rdC; rw [hh]; rfl)
    have HH := Lib.hid hh
    clear hG hl hh
    go_enter Try.func24, Try.ntmps24
    go_wp2_with (first
      | (go_at_call 46; refine HN.out.mono ?_; rintro e w1 ⟨g, v1, rfl, r1, b1⟩; have R1 := Lib.hid r1; have B1 := Lib.hid b1; clear r1 b1)
      | (go_at_call 47; refine (head_any l _ g v1 _ R1.out B1.out.size).mono ?_; rintro e w2 ⟨h2, b2⟩; obtain ⟨E, rfl, hE⟩ := head_no HH.out h2; have HE := Lib.hid hE; have dE : (E == 0) = false := by simpa using hE
         have B2 := Lib.hid (B1.out.trans b2); clear h2 b2))
    go_ret2
    exact ⟨ans_two HC.out HE.out, B2.out⟩
  | true =>
    have hh2 := hh
    unfold rdHd at hh2
    rw [Bool.and_eq_true, Bool.and_eq_true, decide_eq_true_eq, decide_eq_true_eq] at hh2
    obtain ⟨⟨g1, g2⟩, g3⟩ := hh2
    have hk : rdK l = 1 ∨ rdK l = 2 := of_decide_eq_true g2
    have HH := Lib.hid (fun g v e w' (h : HeadAns l w.heap.size g v e w') => head_yes hh h)
    have HK := Lib.hid hk
    have H5 := Lib.hid g1
    have H3 := Lib.hid g3
    obtain ⟨R, hR⟩ : ∃ R, rdG (rdK l) l (rdN l) 5 [] = R := ⟨_, rfl⟩
    have HR := Lib.hid hR
    have HV := Lib.hid (fun g1 v1 W (hb : Below w.heap.size w W) (hr : Rd W w.heap.size g1 v1 l 5 false) => by
      have := values_any l w.heap.size g1 v1 A c (rdK l) (rdN l) W hr hb.size (HG.out.below hb) HK.out H3.out HL.out H5.out
      rw [hR] at this
      exact this)
    cases R with
    | none =>
      have HC := Lib.hid (show rdC l = (2, []) by unfold rdC; rw [hh, if_pos rfl, hR])
      clear hG hl hh g1 g2 g3 hk hR
      generalize rdK l = K at *
      generalize rdN l = NN at *
      go_enter Try.func24, Try.ntmps24
      go_wp2_with (first
        | (go_at_call 46; refine HN.out.mono ?_; rintro e w1 ⟨g, v1, rfl, r1, b1⟩; have R1 := Lib.hid r1; have B1 := Lib.hid b1; clear r1 b1)
        | (go_at_call 47; refine (head_any l _ g v1 _ R1.out B1.out.size).mono ?_; rintro e w2 ⟨h2, b2⟩; obtain ⟨rfl, r2⟩ := HH.out _ _ _ _ h2; have R2 := Lib.hid r2; have B2 := Lib.hid (B1.out.trans b2); clear h2 b2 r2)
        | (go_at_call 48; refine (HV.out g v1 _ B2.out R2.out).mono ?_; rintro e w3 ⟨h3, b3⟩; obtain ⟨E, rfl, hE⟩ := vals_none h3; have HE := Lib.hid hE; have dE : (E == 0) = false := by simpa using hE
           have B3 := Lib.hid (B2.out.trans b3); clear h3 b3))
      go_ret2
      exact ⟨ans_two HC.out HE.out, B3.out⟩
    | some t =>
      obtain ⟨m, q⟩ := t
      obtain ⟨i1, i2, -⟩ := rdG_ok (H := l.take 5) hk (rdN l) 5 [] m q ⟨g1, List.Pairwise.nil, by simp, by simp [catV]⟩ hR
      have HI := Lib.hid i1
      have HML := Lib.hid (show m.length ≤ 1000000000 by rw [i2]; simp; omega)
      by_cases hq : q < l.length
      · skip
        have HLF := Lib.hid (fun g v W (h : Rd W w.heap.size g v l q false) => Left_any W h)
        have HC := Lib.hid (show rdC l = (1, []) by unfold rdC; rw [hh, if_pos rfl, hR]; simp only [if_pos hq])
        have dl : decide ((0 : Int) < (lf l q false : Int)) = true := decide_eq_true (by unfold lf; simp; omega)
        have dl2 : 0 < lf l q false := by unfold lf; simp; omega
        clear hG hl hh g1 g2 g3 hk hR i1 i2
        generalize rdK l = K at *
        generalize rdN l = NN at *
        generalize lf l q false = F at *
        go_enter Try.func24, Try.ntmps24
        go_wp2_with (first
          | (go_at_call 46; refine HN.out.mono ?_; rintro e w1 ⟨g, v1, rfl, r1, b1⟩; have R1 := Lib.hid r1; have B1 := Lib.hid b1; clear r1 b1)
          | (go_at_call 47; refine (head_any l _ g v1 _ R1.out B1.out.size).mono ?_; rintro e w2 ⟨h2, b2⟩; obtain ⟨rfl, r2⟩ := HH.out _ _ _ _ h2; have R2 := Lib.hid r2; have B2 := Lib.hid (B1.out.trans b2); clear h2 b2 r2)
          | (go_at_call 48; refine (HV.out g v1 _ B2.out R2.out).mono ?_; rintro e w3 ⟨h3, b3⟩; obtain ⟨A3, d3, rfl, g3, r3⟩ := vals_some h3; have G3 := Lib.hid g3; have HF := Lib.hid (HLF.out _ _ w3 r3)
             have B3 := Lib.hid (B2.out.trans b3); clear h3 b3 g3 r3)
          | (go_at_call 49; refine HF.out.mono ?_; rintro e w4 ⟨rfl, k4, rfl⟩; have B4 := Lib.hid (below_drewN B3.out k4)))
        go_ret2
        exact ⟨⟨_, 5, rfl, fun h0 => by (rw [HC.out] at h0; cases h0), fun _ => ⟨rfl, by omega⟩, fun _ => rfl⟩, B4.out⟩

      · skip
        have HLF := Lib.hid (fun g v W (h : Rd W w.heap.size g v l q false) => Left_any W h)
        have HC := Lib.hid (show rdC l = (0, m) by unfold rdC; rw [hh, if_pos rfl, hR]; simp only [if_neg hq])
        have hle := i1.hp
        have l0 : lf l q false = 0 := by unfold lf; simp; omega
        clear hG hl hh g1 g2 g3 hk hR i1 i2
        rw [l0] at HLF
        go_enter Try.func24, Try.ntmps24
        go_wp2_with (first
          | (go_at_call 46; refine HN.out.mono ?_; rintro e w1 ⟨g, v1, rfl, r1, b1⟩; have R1 := Lib.hid r1; have B1 := Lib.hid b1; clear r1 b1)
          | (go_at_call 47; refine (head_any l _ g v1 _ R1.out B1.out.size).mono ?_; rintro e w2 ⟨h2, b2⟩; obtain ⟨rfl, r2⟩ := HH.out _ _ _ _ h2; have R2 := Lib.hid r2; have B2 := Lib.hid (B1.out.trans b2); clear h2 b2 r2)
          | (go_at_call 48; refine (HV.out g v1 _ B2.out R2.out).mono ?_; rintro e w3 ⟨h3, b3⟩; obtain ⟨A3, d3, rfl, g3, r3⟩ := vals_some h3; have G3 := Lib.hid g3; have HF := Lib.hid (HLF.out _ _ w3 r3)
             have B3 := Lib.hid (B2.out.trans b3); clear h3 b3 g3 r3)
          | (go_at_call 49; refine HF.out.mono ?_; rintro e w4 ⟨rfl, k4, rfl⟩; have B4 := Lib.hid (below_drewN B3.out k4)))
        go_ret2
        exact ⟨⟨_, 0, rfl, fun _ => ⟨rfl, by rw [HC.out]; exact ⟨_, A3, d3, rfl, show DcM _ _ A3 d3 _ m from ⟨Row.new _ _ _, ((G3.out.drewN k4).alloc (Nat.le_refl _) (.cells #[.int .u8 (rdK l), .slice A3 m.length d3] 46)).more (Nat.zero_le _) (by show _ ≤ (w3.heap.push _).size; simp), HI.out.up, HML.out, HK.out, HI.out.may⟩⟩⟩, fun h0 => absurd (by rw [HC.out]) h0, fun h0 => by (rw [HC.out] at h0; cases h0)⟩, B4.out.alloc B4.out.size _⟩

end Go.Proofs.Ytjojhoaienjjeaa
namespace Go.Proofs.Ytjojhoaienjjeaa
open Go.RowKit
set_option linter.unusedVariables false

attribute [local go_sem] Oper.semAt_some

theorem catV_le (K : UInt8) (m : List VV) : (catV m).length ≤ (dB K m).length := by
  unfold dB
  simp
  omega
theorem by_pos {x : VV} (h : x.k = 1 ∨ x.k = 2) : 1 ≤ x.by.length := by
  unfold VV.by
  rcases h with h | h <;> rw [h]
  · rw [bytes_one, le_length]; omega
  · rw [bytes_two, List.length_append]
    have := short_length_pos (bls x.s).length
    omega
theorem catV_ge : ∀ (m : List VV), (∀ x ∈ m, x.k = 1 ∨ x.k = 2) → m.length ≤ (catV m).length
  | [], _ => Nat.zero_le _
  | x :: r, h => by
    have h1 := by_pos (h x (by simp))
    have h2 := catV_ge r (fun y hy => h y (by simp [hy]))
    have h3 : catV (x :: r) = x.by ++ catV r := by simp [catV]
    rw [h3, List.length_append, List.length_cons]
    omega
/-- Bytes that are read whole. -/
theorem read_yes (l : List UInt8) (A : Option Addr) (c : Nat) (w : World) (hG : Gs e8 w 0 w.heap.size (.slice A l.length c) l) (hl : l.length ≤ 1000000) (hc : (rdC l).1 = 0) :
    Calls Try.prog 24 #[.slice A l.length c] w fun e w' => ∃ g A1 d1, e = .returned (.tuple #[.pointer (some ⟨g, 0, none⟩), .int .i64 0]) ∧ DcM w' g A1 d1 (rdK l) (rdC l).2 ∧ Below w.heap.size w w' :=
  (read_any l A c w hG hl).mono fun e w' ⟨⟨p, E, he, q0, _, _⟩, b⟩ => by
    obtain ⟨hE, g, A1, d1, hp, m1⟩ := q0 hc
    subst hE hp
    exact ⟨g, A1, d1, he, m1, b⟩
theorem read_more (l : List UInt8) (A : Option Addr) (c : Nat) (w : World) (hG : Gs e8 w 0 w.heap.size (.slice A l.length c) l) (hl : l.length ≤ 1000000) (hc : (rdC l).1 = 1) :
    Calls Try.prog 24 #[.slice A l.length c] w fun e w' => e = .returned (.tuple #[.pointer none, .int .i64 5]) ∧ Below w.heap.size w w' :=
  (read_any l A c w hG hl).mono fun e w' ⟨⟨p, E, he, _, q1, q2⟩, b⟩ => by
    obtain ⟨hp, -⟩ := q1 (by omega)
    have hE := q2 hc
    subst hE hp
    exact ⟨he, b⟩
theorem read_no (l : List UInt8) (A : Option Addr) (c : Nat) (w : World) (hG : Gs e8 w 0 w.heap.size (.slice A l.length c) l) (hl : l.length ≤ 1000000) (hc : (rdC l).1 ≠ 0) :
    Calls Try.prog 24 #[.slice A l.length c] w fun e w' => ∃ E : Int, e = .returned (.tuple #[.pointer none, .int .i64 E]) ∧ E ≠ 0 ∧ Below w.heap.size w w' :=
  (read_any l A c w hG hl).mono fun e w' ⟨⟨p, E, he, _, q1, _⟩, b⟩ => by
    obtain ⟨hp, hE⟩ := q1 hc
    subst hp
    exact ⟨E, he, hE, b⟩
set_option maxHeartbeats 8000000 in
set_option maxRecDepth 100000 in
theorem only_any (l : List UInt8) (A : Option Addr) (c : Nat) (y : UInt8) (w : World) (hG : Gs e8 w 0 w.heap.size (.slice A l.length c) l) :
    Calls Try.prog 8 #[.slice A l.length c, .int .u8 (y.toNat : Int)] w fun e w' => e = .returned (.bool true) ∧ Below w.heap.size w w' := by
  have HG := Lib.hid hG
  by_cases hb : 3000 < l.length
  · have d0 : decide ((l.length : Int) > 3000) = true := decide_eq_true (by omega)
    clear hG
    go_enter Try.func8, Try.ntmps8
    go_wp2_with (go_at_call 10; refine (known11_any _).mono ?_; rintro e w9 ⟨rfl, b9⟩; have B9 := Lib.hid b9; clear b9)
    go_ret
    exact ⟨rfl, B9.out⟩
  · have d0 : decide ((l.length : Int) > 3000) = false := decide_eq_false (by omega)
    have HN := Lib.hid (show l.length ≤ 3000 by omega)
    have hl : l.length ≤ 1000000 := by omega
    clear hb
    by_cases hc : (rdC l).1 = 0
    · obtain ⟨h1, h2, h3, h4, h5, h6⟩ := rdC_ok hc
      have hr := read_yes l A c w hG hl hc
      have hr2 := fun W A2 c2 (h : Gs e8 W 0 W.heap.size (.slice A2 (l ++ [y]).length c2) (l ++ [y])) => read_more (l ++ [y]) A2 c2 W h (by have := HN.out; simp; omega) (h6 y)
      have hbt := fun g A d W (h : DcM W g A d (rdK l) (rdC l).2) => bytes_at (l.getD 0 0) (rdK l) rfl g A d (rdC l).2 W h (by have := catV_le (l.getD 0 0) (rdC l).2; have h7 := HN.out; rw [h5] at this; have h8 := catV_ge (rdC l).2 (fun x hx => by rw [(h4 x hx).2]; exact h1); omega) (by have := catV_le (l.getD 0 0) (rdC l).2; rw [h5] at this; have h7 := HN.out; omega)
      rw [h5] at hbt
      generalize (rdC l).2 = m at *
      generalize rdK l = K at *
      have HR := Lib.hid hr
      have hlen : (l ++ [y]).length = l.length + 1 := by simp
      rw [hlen] at hr2
      have HLE := Lib.hid hlen
      have HR2 := Lib.hid hr2
      have HBT := Lib.hid hbt
      have HML := Lib.hid h3
      clear hG hl hr hr2 hbt h1 h2 h3 h4 h5 h6 hc hlen
      go_enter Try.func8, Try.ntmps8
      go_wp2_with (first
        | (go_at_call 24; refine HR.out.mono ?_; clear HR; rintro e w1 ⟨g1, A1, d1, rfl, m1, b1⟩; have M1 := Lib.hid m1; have B1 := Lib.hid b1; clear b1 m1)
        | (at_builtin; refine wpList_gapp1 e8 _ rfl _ _ _ rfl w1.heap.size sli8 inf8 _ l rfl O2.out _ y rfl rfl (by have := HN.out; omega) B2.out.size ?_; intro v3 w3 o3 g3 hh; clear hh; have O3 := Lib.hid o3; have B3 := Lib.hid (B2.out.grown g3 B2.out.size (fun k h => (O2.out.lt k h).1)); clear o3 g3; obtain ⟨A3, c3, hv3, -⟩ := O3.out.sl; rw [HLE.out] at hv3; subst hv3)
        | (at_builtin; refine wpList_gapp e8 _ rfl _ _ _ rfl w1.heap.size sli8 inf8 _ [] rfl (Gw.empty_ _ _ (Nat.le_refl _)) 0 w.heap.size _ l rfl ((HG.out.below B1.out).alloc B1.out.size _) (by have := HN.out; simp; omega) (by simp) ?_; intro v2 w2 o2 g2 hh; clear hh; rw [List.nil_append] at o2; have O2 := Lib.hid o2; have B2 := Lib.hid (((Below.refl w1.heap.size w1).alloc (Nat.le_refl _) _).grown g2 (by simp) (fun i hi => by injection hi with hi; subst hi; exact Nat.le_refl _)); clear o2 g2)
        | (go_at_call 24; refine (HR2.out _ _ _ (O3.out.sl.more (Nat.zero_le _) (Nat.le_refl _))).mono ?_; rintro e w4 ⟨rfl, b4⟩; have B4 := Lib.hid (B3.out.trans (b4.mono B3.out.size)); clear b4))
      have M4 := Lib.hid (M1.out.step B4.out)
      have BW := Lib.hid (B1.out.trans (B4.out.mono B1.out.size))
      have G4 := Lib.hid ((HG.out.below BW.out).more (Nat.zero_le _) BW.out.size)
      refine wp_only ?_
      have hSc := (Below.refl w4.heap.size w4).drew
      refine wp_region_all (S := fun W => Below w4.heap.size w4 W) (by kernel_rfl) hSc (fun W0 hSc => ?_)
      refine held_take 0 ?_ rfl (by kernel_rfl) (by kernel_rfl) (by kernel_rfl) (fun _ _ _ h => h) (by rfl) ?_ hSc ?_
      rotate_left
      · (intro W hSW; go_simp; try rfl)
      try simp only [Act.put, List.setIfInBounds_toArray, List.set_cons_zero, List.set_cons_succ]
      refine held_take 1 ?_ rfl (by kernel_rfl) (by kernel_rfl) (by kernel_rfl) (fun _ _ _ h => h) (by rfl) ?_ hSc ?_
      rotate_left
      · (intro W hSW; go_simp; try rfl)
      try simp only [Act.put, List.setIfInBounds_toArray, List.set_cons_zero, List.set_cons_succ]
      refine held_take 2 ?_ rfl (by kernel_rfl) (by kernel_rfl) (by kernel_rfl) (fun _ _ _ h => h) (by rfl) ?_ hSc ?_
      rotate_left
      · (intro W hSW; go_simp; try rfl)
      try simp only [Act.put, List.setIfInBounds_toArray, List.set_cons_zero, List.set_cons_succ]
      refine held_take 3 ?_ rfl (by kernel_rfl) (by kernel_rfl) (by kernel_rfl) (fun _ _ _ h => h) (by rfl) ?_ hSc ?_
      rotate_left
      · (intro W hSW; go_simp; try rfl)
      try simp only [Act.put, List.setIfInBounds_toArray, List.set_cons_zero, List.set_cons_succ]
      refine held_take 6 ?_ rfl (by kernel_rfl) (by kernel_rfl) (by kernel_rfl) (fun _ _ _ h => h) (by rfl) ?_ hSc ?_
      rotate_left
      · (intro W hSW; go_simp; try rfl)
      try simp only [Act.put, List.setIfInBounds_toArray, List.set_cons_zero, List.set_cons_succ]
      refine held_take 7 ?_ rfl (by kernel_rfl) (by kernel_rfl) (by kernel_rfl) (fun _ _ _ h => h) (by rfl) ?_ hSc ?_
      rotate_left
      · (intro W hSW; have s1 := str8 (G4.out.below hSW); go_simp; try rfl)
      try simp only [Act.put, List.setIfInBounds_toArray, List.set_cons_zero, List.set_cons_succ]
      refine held_next 4 rfl (by kernel_rfl) (by rfl) ?_
      go_simp
      refine (HBT.out _ _ _ _ (M4.out.step hSc)).mono ?_
      rintro e x1 ⟨v1, rfl, o1, b1⟩
      have G1 := Lib.hid (o1.sl.more (Nat.zero_le _) (Nat.le_refl _))
      have U1 := Lib.hid (hSc.trans (b1.mono hSc.size))
      refine ⟨fun W => Below x1.heap.size x1 W, fun W hW => U1.out.trans (hW.mono U1.out.size), Below.refl _ _, ?_⟩
      obtain ⟨A1x, d1x, rfl, -⟩ := o1.sl
      clear o1 b1
      have hSc := Below.refl x1.heap.size x1
      try simp only [Act.put, List.setIfInBounds_toArray, List.set_cons_zero, List.set_cons_succ]
      refine held_take 5 ?_ rfl (by kernel_rfl) (by kernel_rfl) (by kernel_rfl) (fun _ _ _ h => h) (by rfl) ?_ hSc ?_
      rotate_left
      · (intro W hSW; have s1 := str8 (G1.out.below hSW); go_simp; try rfl)
      try simp only [Act.put, List.setIfInBounds_toArray, List.set_cons_zero, List.set_cons_succ]
      refine held_take 8 ?_ rfl (by kernel_rfl) (by kernel_rfl) (by kernel_rfl) (fun _ _ _ h => h) (by rfl) ?_ hSc ?_
      rotate_left
      · (intro W hSW; go_simp; try rfl)
      try simp only [Act.put, List.setIfInBounds_toArray, List.set_cons_zero, List.set_cons_succ]
      refine held_take 9 ?_ rfl (by kernel_rfl) (by kernel_rfl) (by kernel_rfl) (fun _ _ _ h => h) (by rfl) ?_ hSc ?_
      rotate_left
      · (intro W hSW; go_simp; try rfl)
      try simp only [Act.put, List.setIfInBounds_toArray, List.set_cons_zero, List.set_cons_succ]
      refine held_take 10 ?_ rfl (by kernel_rfl) (by kernel_rfl) (by kernel_rfl) (fun _ _ _ h => h) (by rfl) ?_ hSc ?_
      rotate_left
      · (intro W hSW; go_simp; try rfl)
      try simp only [Act.put, List.setIfInBounds_toArray, List.set_cons_zero, List.set_cons_succ]
      refine held_take 11 ?_ rfl (by kernel_rfl) (by kernel_rfl) (by kernel_rfl) (fun _ _ _ h => h) (by rfl) ?_ hSc ?_
      rotate_left
      · (intro W hSW; go_simp; try rfl)
      try simp only [Act.put, List.setIfInBounds_toArray, List.set_cons_zero, List.set_cons_succ]
      refine held_take 12 ?_ rfl (by kernel_rfl) (by kernel_rfl) (by kernel_rfl) (fun _ _ _ h => h) (by rfl) ?_ hSc ?_
      rotate_left
      · (intro W hSW; go_simp; try rfl)
      try simp only [Act.put, List.setIfInBounds_toArray, List.set_cons_zero, List.set_cons_succ]
      refine held_take 13 ?_ rfl (by kernel_rfl) (by kernel_rfl) (by kernel_rfl) (fun _ _ _ h => h) (by rfl) ?_ hSc ?_
      rotate_left
      · (intro W hSW; go_simp; try rfl)
      try simp only [Act.put, List.setIfInBounds_toArray, List.set_cons_zero, List.set_cons_succ]
      refine held_take 14 ?_ rfl (by kernel_rfl) (by kernel_rfl) (by kernel_rfl) (fun _ _ _ h => h) (by rfl) ?_ hSc ?_
      rotate_left
      · (intro W hSW; go_simp; try rfl)
      try simp only [Act.put, List.setIfInBounds_toArray, List.set_cons_zero, List.set_cons_succ]
      refine held_next 15 rfl (by kernel_rfl) (by rfl) ?_
      go_simp
      refine (known11_any _).mono ?_
      rintro e x2 ⟨rfl, b2⟩
      have b2h := Lib.hid b2
      have U2 := Lib.hid (U1.out.trans (b2.mono U1.out.size))
      refine ⟨fun W => Below x2.heap.size x2 W, fun W hW => b2h.out.trans (hW.mono b2h.out.size), Below.refl _ _, ?_⟩
      clear b2
      have hSc := Below.refl x2.heap.size x2
      try simp only [Act.put, List.setIfInBounds_toArray, List.set_cons_zero, List.set_cons_succ]
      refine held_take 16 ?_ rfl (by kernel_rfl) (by kernel_rfl) (by kernel_rfl) (fun _ _ _ h => h) (by rfl) ?_ hSc ?_
      rotate_left
      · (intro W hSW; go_simp; try rfl)
      try simp only [Act.put, List.setIfInBounds_toArray, List.set_cons_zero, List.set_cons_succ]
      refine held_next 17 rfl (by kernel_rfl) (by rfl) ?_
      go_simp
      refine ⟨fun W => Below x2.heap.size x2 W, fun W hW => hW, hSc, ?_⟩
      refine wpAnyH_done (by kernel_rfl) ?_ _
      unfold onlyN
      have UE := Lib.hid (BW.out.trans (U2.out.mono BW.out.size))
      go_wp2
      go_ret
      exact ⟨rfl, UE.out⟩
    · have HR := Lib.hid (read_no l A c w hG hl hc)
      clear hG hl hc
      go_enter Try.func8, Try.ntmps8
      go_wp2_with (first
        | (go_at_call 24; refine HR.out.mono ?_; rintro e w1 ⟨E, rfl, hE, b1⟩; have B1 := Lib.hid b1; have dE : (E != 0) = true := by simpa using hE
           clear b1)
        | (go_at_call 10; refine (known11_any _).mono ?_; rintro e w9 ⟨rfl, b9⟩; have B9 := Lib.hid (B1.out.trans (b9.mono B1.out.size)); clear b9))
      go_ret
      exact ⟨rfl, B9.out⟩
end Go.Proofs.Ytjojhoaienjjeaa
