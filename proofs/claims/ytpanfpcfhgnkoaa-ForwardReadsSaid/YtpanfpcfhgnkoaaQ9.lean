/- Walks, said in one way for all arguments: the program's calls and the document's have the same answers. -/
import Derived.Test.YtpanfpcfhgnkoaaQ8
namespace Go.Proofs.Ytpanfpcfhgnkoaa
open Go.RowKit
set_option linter.unusedVariables false

def pkOk (l : List UInt64) (wI : Int) : Bool := decide (1 ≤ wI ∧ wI ≤ 64) && fitB l wI.toNat
def pkE (l : List UInt64) (wI : Int) : Int := if pkOk l wI = true then 0 else 2
def pkR (l : List UInt64) (wI : Int) : List UInt8 := if pkOk l wI = true then pk l wI.toNat else []
theorem pkOk_iff (l : List UInt64) (w : Nat) : pkOk l w = true ↔ 1 ≤ w ∧ w ≤ 64 ∧ fits l w := by
  unfold pkOk
  rw [Bool.and_eq_true, fitB_iff, decide_eq_true_eq, Int.toNat_natCast]
  constructor
  · rintro ⟨⟨a, b⟩, c⟩
    exact ⟨by omega, by omega, c⟩
  · rintro ⟨a, b, c⟩
    exact ⟨⟨by omega, by omega⟩, c⟩
theorem pkOk_range {l : List UInt64} {wI : Int} (h : pkOk l wI = true) : 1 ≤ wI ∧ wI ≤ 64 := by
  unfold pkOk at h
  rw [Bool.and_eq_true, decide_eq_true_eq] at h
  exact h.1
theorem pack_any (v : Value) (l : List UInt64) (lo : Nat) (wI : Int) (W : World) (hv : Gs e64 W lo W.heap.size v l) (hl : l.length ≤ 100000) :
    Calls Try.prog 27 #[v, .int .i64 wI] W fun e w' => ∃ v', e = .returned (.tuple #[v', .int .i64 (pkE l wI)]) ∧ Gw e8 w' W.heap.size v' (pkR l wI) ∧ Below W.heap.size W w' := by
  by_cases hr : 1 ≤ wI ∧ wI ≤ 64
  · obtain ⟨w, rfl⟩ := Int.eq_ofNat_of_zero_le (show 0 ≤ wI by omega)
    by_cases hf : fits l w
    · have ho := (pkOk_iff l w).2 ⟨by omega, by omega, hf⟩
      unfold pkE pkR
      rw [if_pos ho, if_pos ho]
      exact pack_yes v l lo w W hv (by omega) (by omega) hf hl
    · have ho : ¬ pkOk l w = true := fun h => hf ((pkOk_iff l w).1 h).2.2
      unfold pkE pkR
      rw [if_neg ho, if_neg ho]
      refine (pack_noFit v l lo _ w W hv (by omega) (by omega) hf).mono ?_
      rintro e w' ⟨rfl, rfl⟩
      exact ⟨_, rfl, Gw.nil_ _ _, Below.refl _ _⟩
  · have ho : ¬ pkOk l wI = true := fun h => hr (pkOk_range h)
    unfold pkE pkR
    rw [if_neg ho, if_neg ho]
    refine (pack_noWidth v wI W (by omega)).mono ?_
    rintro e w' ⟨rfl, rfl⟩
    exact ⟨_, rfl, Gw.nil_ _ _, Below.refl _ _⟩
theorem refPack_any (v : Value) (l : List UInt64) (lo : Nat) (wI : Int) (W : World) (hv : Gs e64 W lo W.heap.size v l) (hl : l.length ≤ 20000) :
    Calls Try.prog 50 #[v, .int .i64 wI] W fun e w' => ∃ v', e = .returned (.tuple #[v', .int .i64 (pkE l wI)]) ∧ Gw e8 w' W.heap.size v' (pkR l wI) ∧ Below W.heap.size W w' := by
  by_cases hr : 1 ≤ wI ∧ wI ≤ 64
  · obtain ⟨w, rfl⟩ := Int.eq_ofNat_of_zero_le (show 0 ≤ wI by omega)
    by_cases hf : fits l w
    · have ho := (pkOk_iff l w).2 ⟨by omega, by omega, hf⟩
      unfold pkE pkR
      rw [if_pos ho, if_pos ho]
      exact refPack_yes v l lo w W hv (by omega) (by omega) hf hl
    · have ho : ¬ pkOk l w = true := fun h => hf ((pkOk_iff l w).1 h).2.2
      unfold pkE pkR
      rw [if_neg ho, if_neg ho]
      refine (refPack_noFit v l lo w W hv (by omega) (by omega) hf hl).mono ?_
      rintro e w' ⟨rfl, hb⟩
      exact ⟨_, rfl, Gw.nil_ _ _, hb⟩
  · have ho : ¬ pkOk l wI = true := fun h => hr (pkOk_range h)
    unfold pkE pkR
    rw [if_neg ho, if_neg ho]
    refine (refPack_noWidth v wI W (by omega)).mono ?_
    rintro e w' ⟨rfl, rfl⟩
    exact ⟨_, rfl, Gw.nil_ _ _, Below.refl _ _⟩

def argOk (n wI : Int) : Prop := 0 ≤ n ∧ n ≤ 1099511627776 ∧ 1 ≤ wI ∧ wI ≤ 64
instance (n wI : Int) : Decidable (argOk n wI) := inferInstanceAs (Decidable (_ ∧ _))
theorem argOk_no {n wI : Int} (h : ¬ argOk n wI) : n < 0 ∨ 1099511627776 < n ∨ wI < 1 ∨ 64 < wI := by unfold argOk at h; omega
def szR (n wI : Int) : Int := if argOk n wI then (sz n.toNat wI.toNat : Nat) else 0
theorem size_any (n wI : Int) (W : World) : Calls Try.prog 46 #[.int .i64 n, .int .i64 wI] W fun e w' => e = .returned (.int .i64 (szR n wI)) ∧ W = w' := by
  unfold szR
  by_cases h : argOk n wI
  · rw [if_pos h]
    obtain ⟨h0, h1, h2, h3⟩ := h
    obtain ⟨n, rfl⟩ := Int.eq_ofNat_of_zero_le h0
    obtain ⟨w, rfl⟩ := Int.eq_ofNat_of_zero_le (show 0 ≤ wI by omega)
    exact size_yes n w W (by omega) (by omega) (by omega)
  · rw [if_neg h]
    exact size_no n wI W (argOk_no h)
theorem refSize_any (n wI : Int) (W : World) : Calls Try.prog 38 #[.int .i64 n, .int .i64 wI] W fun e w' => e = .returned (.int .i64 (szR n wI)) ∧ W = w' := by
  unfold szR
  by_cases h : argOk n wI
  · rw [if_pos h]
    obtain ⟨h0, h1, h2, h3⟩ := h
    obtain ⟨n, rfl⟩ := Int.eq_ofNat_of_zero_le h0
    obtain ⟨w, rfl⟩ := Int.eq_ofNat_of_zero_le (show 0 ≤ wI by omega)
    exact refSize_yes n w W (by omega) (by omega) (by omega)
  · rw [if_neg h]
    exact refSize_no n wI W (argOk_no h)
def gtR (b : List UInt8) (i wI : Int) : Nat := if argOk i wI then tk b (i.toNat * wI.toNat) wI.toNat else 0
theorem get_any (v : Value) (b : List UInt8) (lo hi : Nat) (i wI : Int) (W : World) (hv : Gs e8 W lo hi v b) (hb : b.length ≤ 1000000) :
    Calls Try.prog 48 #[v, .int .i64 i, .int .i64 wI] W fun e w' => e = .returned (.int .u64 (gtR b i wI : Nat)) ∧ W = w' := by
  unfold gtR
  by_cases h : argOk i wI
  · rw [if_pos h]
    obtain ⟨h0, h1, h2, h3⟩ := h
    obtain ⟨i, rfl⟩ := Int.eq_ofNat_of_zero_le h0
    obtain ⟨w, rfl⟩ := Int.eq_ofNat_of_zero_le (show 0 ≤ wI by omega)
    exact get_yes v b lo hi i w W hv (by omega) (by omega) (by omega) (by omega)
  · rw [if_neg h]
    exact get_no v i wI W (argOk_no h)
theorem refGet_any (v : Value) (b : List UInt8) (lo hi : Nat) (i wI : Int) (W : World) (hv : Gs e8 W lo hi v b) (hb : b.length ≤ 1000000) :
    Calls Try.prog 60 #[v, .int .i64 i, .int .i64 wI] W fun e w' => e = .returned (.int .u64 (gtR b i wI : Nat)) ∧ W = w' := by
  unfold gtR
  by_cases h : argOk i wI
  · rw [if_pos h]
    obtain ⟨h0, h1, h2, h3⟩ := h
    obtain ⟨i, rfl⟩ := Int.eq_ofNat_of_zero_le h0
    obtain ⟨w, rfl⟩ := Int.eq_ofNat_of_zero_le (show 0 ≤ wI by omega)
    exact refGet_yes v b lo hi i w W hv (by omega) (by omega) (by omega) (by omega)
  · rw [if_neg h]
    exact refGet_no v i wI W (argOk_no h)
def upE (b : List UInt8) (n wI : Int) : Int :=
  if argOk n wI then if b.length < sz n.toNat wI.toNat then 4 else if sz n.toNat wI.toNat < b.length then 5
    else if tk b (n.toNat * wI.toNat) (8 * b.length - n.toNat * wI.toNat) = 0 then 0 else 5 else 2
def upR (b : List UInt8) (n wI : Int) : List UInt64 := if upE b n wI = 0 then up b n.toNat wI.toNat else []
theorem upE_ok {b : List UInt8} {n wI : Int} (h : upE b n wI = 0) : argOk n wI ∧ b.length = sz n.toNat wI.toNat ∧ tk b (n.toNat * wI.toNat) (8 * b.length - n.toNat * wI.toNat) = 0 := by
  unfold upE at h
  split at h
  · rename_i ha
    split at h
    · omega
    · split at h
      · omega
      · split at h
        · rename_i ht
          exact ⟨ha, by omega, ht⟩
        · omega
  · omega
theorem unpack_all (f : Nat) (v : Value) (b : List UInt8) (lo : Nat) (n wI : Int) (W : World) (hb : b.length ≤ 100000)
    (cArg : (n < 0 ∨ 1099511627776 < n ∨ wI < 1 ∨ 64 < wI) → Calls Try.prog f #[v, .int .i64 n, .int .i64 wI] W fun e w' => e = .returned (.tuple #[.slice none 0 0, .int .i64 2]) ∧ W = w')
    (cShort : ∀ n w : Nat, n ≤ 1099511627776 → 1 ≤ w → w ≤ 64 → b.length < sz n w → Calls Try.prog f #[v, .int .i64 n, .int .i64 w] W fun e w' => e = .returned (.tuple #[.slice none 0 0, .int .i64 4]) ∧ W = w')
    (cLong : ∀ n w : Nat, n ≤ 1099511627776 → 1 ≤ w → w ≤ 64 → sz n w < b.length → Calls Try.prog f #[v, .int .i64 n, .int .i64 w] W fun e w' => e = .returned (.tuple #[.slice none 0 0, .int .i64 5]) ∧ W = w')
    (cRest : ∀ n w : Nat, n ≤ 1099511627776 → 1 ≤ w → w ≤ 64 → b.length = sz n w → tk b (n * w) (8 * b.length - n * w) ≠ 0 → b.length ≤ 1000000 → Calls Try.prog f #[v, .int .i64 n, .int .i64 w] W fun e w' => e = .returned (.tuple #[.slice none 0 0, .int .i64 5]) ∧ W = w')
    (cYes : ∀ n w : Nat, 1 ≤ w → w ≤ 64 → b.length = sz n w → tk b (n * w) (8 * b.length - n * w) = 0 → b.length ≤ 100000 → Calls Try.prog f #[v, .int .i64 n, .int .i64 w] W fun e w' => ∃ v', e = .returned (.tuple #[v', .int .i64 0]) ∧ Gw e64 w' W.heap.size v' (up b n w) ∧ Below W.heap.size W w') :
    Calls Try.prog f #[v, .int .i64 n, .int .i64 wI] W fun e w' => ∃ v', e = .returned (.tuple #[v', .int .i64 (upE b n wI)]) ∧ Gw e64 w' W.heap.size v' (upR b n wI) ∧ Below W.heap.size W w' := by
  have bad : ∀ (E : Int), upE b n wI = E → E ≠ 0 → (Calls Try.prog f #[v, .int .i64 n, .int .i64 wI] W fun e w' => e = .returned (.tuple #[.slice none 0 0, .int .i64 E]) ∧ W = w') →
      Calls Try.prog f #[v, .int .i64 n, .int .i64 wI] W fun e w' => ∃ v', e = .returned (.tuple #[v', .int .i64 (upE b n wI)]) ∧ Gw e64 w' W.heap.size v' (upR b n wI) ∧ Below W.heap.size W w' := by
    intro E h1 h2 hc
    refine hc.mono ?_
    rintro e w' ⟨rfl, rfl⟩
    unfold upR
    rw [h1, if_neg h2]
    exact ⟨_, rfl, Gw.nil_ _ _, Below.refl _ _⟩
  by_cases h : argOk n wI
  · have ha := h
    obtain ⟨h0, h1, h2, h3⟩ := h
    obtain ⟨n, rfl⟩ := Int.eq_ofNat_of_zero_le h0
    obtain ⟨w, rfl⟩ := Int.eq_ofNat_of_zero_le (show 0 ≤ wI by omega)
    by_cases hs : b.length < sz n w
    · exact bad 4 (by unfold upE; rw [if_pos ha]; exact if_pos hs) (by omega) (cShort n w (by omega) (by omega) (by omega) hs)
    · by_cases hl : sz n w < b.length
      · exact bad 5 (by unfold upE; rw [if_pos ha]; exact (if_neg hs).trans (if_pos hl)) (by omega) (cLong n w (by omega) (by omega) (by omega) hl)
      · by_cases ht : tk b (n * w) (8 * b.length - n * w) = 0
        · have e0 : upE b n w = 0 := by unfold upE; rw [if_pos ha]; exact (if_neg hs).trans ((if_neg hl).trans (if_pos ht))
          unfold upR
          rw [e0, if_pos rfl]
          exact cYes n w (by omega) (by omega) (by omega) ht hb
        · exact bad 5 (by unfold upE; rw [if_pos ha]; exact (if_neg hs).trans ((if_neg hl).trans (if_neg ht))) (by omega) (cRest n w (by omega) (by omega) (by omega) (by omega) ht (by omega))
  · exact bad 2 (by unfold upE; rw [if_neg h]) (by omega) (cArg (argOk_no h))
theorem unpack_any (v : Value) (b : List UInt8) (lo : Nat) (n wI : Int) (W : World) (hv : Gs e8 W lo W.heap.size v b) (hb : b.length ≤ 100000) :
    Calls Try.prog 55 #[v, .int .i64 n, .int .i64 wI] W fun e w' => ∃ v', e = .returned (.tuple #[v', .int .i64 (upE b n wI)]) ∧ Gw e64 w' W.heap.size v' (upR b n wI) ∧ Below W.heap.size W w' :=
  unpack_all _ v b lo n wI W hb (unpack_noArg v n wI W) (fun n w h1 h2 h3 h4 => unpack_short v b lo _ n w W hv h1 h2 h3 h4) (fun n w h1 h2 h3 h4 => unpack_long v b lo _ n w W hv h1 h2 h3 h4)
    (fun n w h1 h2 h3 h4 h5 h6 => unpack_rest v b lo _ n w W hv h1 h2 h3 h4 h5 h6) (fun n w h2 h3 h4 h5 h6 => unpack_yes v b lo n w W hv h2 h3 h4 h5 h6)
theorem refUnpack_any (v : Value) (b : List UInt8) (lo : Nat) (n wI : Int) (W : World) (hv : Gs e8 W lo W.heap.size v b) (hb : b.length ≤ 100000) :
    Calls Try.prog 39 #[v, .int .i64 n, .int .i64 wI] W fun e w' => ∃ v', e = .returned (.tuple #[v', .int .i64 (upE b n wI)]) ∧ Gw e64 w' W.heap.size v' (upR b n wI) ∧ Below W.heap.size W w' :=
  unpack_all _ v b lo n wI W hb (refUnpack_noArg v n wI W) (fun n w h1 h2 h3 h4 => refUnpack_short v b lo _ n w W hv h1 h2 h3 h4) (fun n w h1 h2 h3 h4 => refUnpack_long v b lo _ n w W hv h1 h2 h3 h4)
    (fun n w h1 h2 h3 h4 h5 h6 => refUnpack_rest v b lo _ n w W hv h1 h2 h3 h4 h5 h6) (fun n w h2 h3 h4 h5 h6 => refUnpack_yes v b lo n w W hv h2 h3 h4 h5 h6)
end Go.Proofs.Ytpanfpcfhgnkoaa
