/- Walks: numbers of one key. -/
import Derived.Test.YtponcpneflhpfaaGreatDoorSa5
import Derived.Test.YtponcpneflhpfaaGreatDoorSb4
import Derived.BigQuiet
import Derived.BigRegion
import Derived.Deep.QuietTactic
import Derived.Test.YtponcpneflhpfaaGreatDoorSc2
namespace Go.Proofs.YtponcpneflhpfaaGreatDoor
set_option linter.unusedVariables false

/-- The number at a place. -/
def at32 (l : List UInt32) (p : Nat) : Nat := (l.getD p 0).toNat
def swp (l : List UInt32) (i j : Nat) : List UInt32 := (l.set i (l.getD j 0)).set j (l.getD i 0)
theorem at32_get {l : List UInt32} {p : Nat} {x : UInt32} (h : l[p]? = some x) : at32 l p = x.toNat := by
  unfold at32; rw [List.getD_eq_getElem?_getD, h]; rfl
theorem get32 {l : List UInt32} {p : Nat} (h : p < l.length) : l[p]? = some (l.getD p 0) := by
  rw [List.getD_eq_getElem?_getD, List.getElem?_eq_getElem h]; rfl
theorem swp_len (l : List UInt32) (i j : Nat) : (swp l i j).length = l.length := by simp [swp]
theorem swp_perm {l : List UInt32} {i j : Nat} (hi : i < l.length) (hj : j < l.length) : (swp l i j).Perm l := by
  have h := Array.swap_perm (xs := l.toArray) (i := i) (j := j) (by simpa using hi) (by simpa using hj)
  have e : (l.toArray.swap i j (by simpa using hi) (by simpa using hj)).toList = swp l i j := by
    simp [swp, List.getD_eq_getElem?_getD, hi, hj]
  have h2 := h.toList
  rw [e] at h2
  exact h2
theorem swp_get {l : List UInt32} {i j : Nat} (hi : i < l.length) (hj : j < l.length) (p : Nat) : (swp l i j)[p]? = if p = j then l[i]? else if p = i then l[j]? else l[p]? := by
  unfold swp
  rw [List.getElem?_set]
  by_cases h1 : j = p
  · subst h1
    rw [if_pos rfl, if_pos (by rw [List.length_set]; exact hj), if_pos rfl, get32 hi]
  · rw [if_neg h1, if_neg (fun e => h1 e.symm), List.getElem?_set]
    by_cases h2 : i = p
    · subst h2
      rw [if_pos rfl, if_pos hi, if_pos rfl, get32 hj]
    · rw [if_neg h2, if_neg (fun e => h2 e.symm)]
theorem swp_at {l : List UInt32} {i j : Nat} (hi : i < l.length) (hj : j < l.length) (p : Nat) : at32 (swp l i j) p = if p = j then at32 l i else if p = i then at32 l j else at32 l p := by
  unfold at32
  rw [List.getD_eq_getElem?_getD, swp_get hi hj]
  split
  · rw [← List.getD_eq_getElem?_getD]
  · split
    · rw [← List.getD_eq_getElem?_getD]
    · rw [← List.getD_eq_getElem?_getD]
/-- Between a and i numbers rise; .. but for the one at j, of which only those behind it are known. -/
def SO (a i : Nat) (l : List UInt32) : Prop := ∀ p q, a ≤ p → p < q → q < i → at32 l p ≤ at32 l q
def SI (a i j : Nat) (l : List UInt32) : Prop := ∀ p q, a ≤ p → p < q → q ≤ i → q ≠ j → at32 l p ≤ at32 l q
theorem si_start {a i : Nat} {l : List UInt32} (h : SO a i l) : SI a i i l := fun p q h1 h2 h3 h4 => h p q h1 h2 (by omega)
theorem si_swap {a i m : Nat} {l : List UInt32} (h : SI a i (m + 1) l) (hm : a ≤ m) (hi : m + 1 ≤ i) (hl : i < l.length) (lt : at32 l (m + 1) < at32 l m) : SI a i m (swp l (m + 1) m) := fun p q h1 h2 h3 h4 => by
  rw [swp_at (by omega) (by omega), swp_at (by omega) (by omega)]
  rw [if_neg h4]
  by_cases hq : q = m + 1
  · subst hq
    rw [if_pos rfl]
    by_cases hp : p = m
    · subst hp; rw [if_pos rfl]; omega
    · rw [if_neg hp, if_neg (by omega)]
      exact h p m h1 (by omega) (by omega) (by omega)
  · rw [if_neg hq]
    by_cases hp : p = m
    · subst hp; rw [if_pos rfl]; exact h (p + 1) q (by omega) (by omega) h3 hq
    · rw [if_neg hp]
      by_cases hp1 : p = m + 1
      · subst hp1; rw [if_pos rfl]; exact h m q (by omega) (by omega) h3 hq
      · rw [if_neg hp1]; exact h p q h1 h2 h3 hq
theorem si_end {a i j : Nat} {l : List UInt32} (h : SI a i j l) (haj : a ≤ j) (hji : j ≤ i) (stop : j = a ∨ at32 l (j - 1) ≤ at32 l j) : SO a (i + 1) l := fun p q h1 h2 h3 => by
  by_cases hq : q = j
  · subst hq
    rcases stop with e | e
    · omega
    · by_cases hp : p = q - 1
      · subst hp; exact e
      · exact Nat.le_trans (h p (q - 1) h1 (by omega) (by omega) (by omega)) e
  · exact h p q h1 h2 (by omega) hq
/-- What has been permuted between a and b. -/
def Pm (a b : Nat) (l l' : List UInt32) : Prop := l'.length = l.length ∧ (∀ p, p < a ∨ b ≤ p → l'[p]? = l[p]?) ∧ l'.Perm l
theorem Pm.refl (a b : Nat) (l : List UInt32) : Pm a b l l := ⟨rfl, fun _ _ => rfl, List.Perm.refl _⟩
theorem Pm.swap {a b i j : Nat} {l l' : List UInt32} (h : Pm a b l l') (hi : a ≤ i ∧ i < b) (hj : a ≤ j ∧ j < b) (hb : b ≤ l.length) : Pm a b l (swp l' i j) := by
  obtain ⟨h1, h2, h3⟩ := h
  refine ⟨(swp_len _ _ _).trans h1, fun p hp => ?_, (swp_perm (by omega) (by omega)).trans h3⟩
  rw [swp_get (by omega) (by omega), if_neg (by omega), if_neg (by omega)]
  exact h2 p hp
theorem so_rsu {l : List UInt32} (h : SO 0 l.length l) (hd : l.Nodup) : rsu l := by
  unfold rsu
  rw [List.pairwise_iff_getElem]
  intro i j hi hj hij
  have h1 := h i j (Nat.zero_le _) hij hj
  rw [at32_get (List.getElem?_eq_getElem hi), at32_get (List.getElem?_eq_getElem hj)] at h1
  have h2 : l[i] ≠ l[j] := fun e => by
    have := (List.getElem_inj (h₀ := hi) (h₁ := hj) hd).1 e
    omega
  rcases Nat.lt_or_ge l[i].toNat l[j].toNat with h | h
  · exact h
  · exact absurd (UInt32.toNat_inj.1 (by omega)) h2
end Go.Proofs.YtponcpneflhpfaaGreatDoor
namespace Go.Proofs.YtponcpneflhpfaaGreatDoor
open Go.RowKit
set_option linter.unusedVariables false

set_option maxHeartbeats 400000 in
theorem clone32_any (v : Value) (l : List UInt32) (lo : Nat) (w : World) (hv : Gs e32 w lo w.heap.size v l) (hb : l.length ≤ 100000000) :
    Calls Tryz.prog 162 #[v] w fun e w' => ∃ v', e = .returned v' ∧ Gw e32 w' w.heap.size v' l ∧ Below w.heap.size w w' := by
  have hv0 := hv
  obtain ⟨A, c, rfl, hc0, -, -, hbt⟩ := hv
  cases A with
  | none =>
    obtain rfl := hc0 rfl
    have hl : l = [] := by
      by_cases h : l = []
      · exact h
      · obtain ⟨b, off, e, _⟩ := hbt h
        cases e
    subst hl
    clear hc0 hbt hv0
    have hq := fun W n c => Lib.run_eql_slice_nil (P := Tryz.prog) W 40 28 none n c 0 0 Tryz.underlying40
    simp only [Option.isNone_none] at hq
    go_enter Tryz.func162, Tryz.ntmps162
    go_wp2
    go_ret
    exact ⟨_, rfl, Gw.nil_ _ _, Below.refl _ _⟩
  | some ad =>
    clear hc0 hbt
    have hq := fun W n c => Lib.run_eql_slice_nil (P := Tryz.prog) W 40 28 (some ad) n c 0 0 Tryz.underlying40
    simp only [Option.isNone_some] at hq
    go_enter Tryz.func162, Tryz.ntmps162
    go_wp2_with (at_builtin; refine wpList_gapp e32 _ rfl _ _ _ rfl w.heap.size sli32 inf32 _ [] rfl (Gw.empty_ _ _ (Nat.le_refl _)) lo w.heap.size _ l rfl (hv0.alloc (Nat.le_refl _) _) (by simp; omega) (by simp) ?_; intro v2 w2 o2 g2 _)
    go_ret
    exact ⟨v2, rfl, by simpa using o2, ((Below.refl _ _).alloc (Nat.le_refl _) _).grown g2 (by simp) (fun k h => by injection h with h; subst h; exact Nat.le_refl _)⟩

theorem quiet_left_ {P : Program} {f : FuncId} {args : Array Value} {w : World} {n : Nat} {v : Value}
    (h : Calls P f args (w.drewN n) fun e w' => e = .returned v ∧ w' = w.drewN n) : Calls P f args (w.drewN n) fun e w'' => e = .returned v ∧ ∃ m, w'' = w.drewN m :=
  h.mono fun _ _ ⟨he, hm⟩ => ⟨he, n, hm⟩
theorem nan32_any (x : Int) (w : World) :
    Calls Tryz.prog 320 #[.int .u32 x] w fun e w' => e = .returned (.bool false) ∧ w' = w := by
  go_enter Tryz.func320, Tryz.ntmps320
  go_wp2
  go_ret
  exact ⟨by simp, rfl⟩
set_option maxHeartbeats 1000000 in
theorem less32_any (x y : Nat) (w : World) :
    Calls Tryz.prog 285 #[.int .u32 x, .int .u32 y] w fun e w' => e = .returned (.bool (decide (x < y))) ∧ w' = w := by
  by_cases h : x < y
  · have h' : (x : Int) < y := by omega
    rw [decide_eq_true h]
    go_enter Tryz.func285, Tryz.ntmps285
    go_wp2_with (go_at_call 320; refine (nan32_any _ _).mono ?_; rintro e w1 ⟨rfl, hz⟩; have hz := hz.symm; subst hz)
    go_ret
    exact ⟨rfl, rfl⟩
  · have h' : decide ((x : Int) < y) = false := decide_eq_false (by omega)
    rw [decide_eq_false h]
    go_enter Tryz.func285, Tryz.ntmps285
    go_wp2_with (go_at_call 320; refine (nan32_any _ _).mono ?_; rintro e w1 ⟨rfl, hz⟩; have hz := hz.symm; subst hz)
    go_ret
    exact ⟨by first | rfl | (simp; omega), rfl⟩
theorem gw_at {w : World} {base g n c : Nat} {l : List UInt32} (h : Gw e32 w base (.slice (some ⟨g, 0, none⟩) n c) l) {p : Nat} (hp : p < l.length) :
    w.cell? ⟨g, p, none⟩ = some (.int .u32 (at32 l p : Nat)) ∧ w.frozen? ⟨g, p, none⟩ = false ∧ n = l.length := by
  obtain ⟨b, c', e, -, -, -, -, hc, hf⟩ := h.form (by rintro rfl; simp at hp)
  injection e with e1 e2 e3
  injection e1 with e1
  injection e1 with e1
  subst e1
  refine ⟨?_, hf p, e2⟩
  rw [hc p _ (get32 hp)]
  rfl
/-- Two places exchanged, where they lie. -/
theorem gw_swp {w : World} {base g n c i j : Nat} {l : List UInt32} (h : Gw e32 w base (.slice (some ⟨g, 0, none⟩) n c) l) (hi : i < l.length) (hj : j < l.length) :
    Gw e32 ((w.setCell ⟨g, i, none⟩ (.int .u32 (at32 l j : Nat))).setCell ⟨g, j, none⟩ (.int .u32 (at32 l i : Nat))) base (.slice (some ⟨g, 0, none⟩) n c) (swp l i j) := by
  have h1 := h.stored i (l.getD j 0)
  have h2 := h1.stored j (l.getD i 0)
  exact h2
theorem grown_set2 (w : World) (g i j : Nat) (u v : Value) : w.grownBy ((w.setCell ⟨g, i, none⟩ u).setCell ⟨g, j, none⟩ v) (some g) := by
  have a := grown_set w g i u
  have c := grown_set (w.setCell ⟨g, i, none⟩ u) g j v
  exact ⟨c.os.trans a.os, c.tape.trans a.tape, c.output.trans a.output, Nat.le_trans a.size c.size, fun k hk hne => (c.block k (Nat.lt_of_lt_of_le hk a.size) hne).trans (a.block k hk hne)⟩
/-- The row as it is while it is sorted between a and b: permuted there, where it lies. -/
structure Srt (w0 : World) (base g n c a b : Nat) (L : List UInt32) (wr : World) (L' : List UInt32) : Prop where
  gw : Gw e32 wr base (.slice (some ⟨g, 0, none⟩) n c) L'
  pm : Pm a b L L'
  gr : w0.grownBy wr (some g)
theorem Srt.drew {w0 wr : World} {base g n c a b : Nat} {L L' : List UInt32} (h : Srt w0 base g n c a b L wr L') (k : Nat) : Srt w0 base g n c a b L (wr.drewN k) L' := ⟨h.gw.drewN k, h.pm, grown_drewN h.gr k⟩
theorem Srt.swap {w0 wr : World} {base g n c a b i j : Nat} {L L' : List UInt32} (h : Srt w0 base g n c a b L wr L') (hi : a ≤ i ∧ i < b) (hj : a ≤ j ∧ j < b) (hb : b ≤ L.length) :
    Srt w0 base g n c a b L ((wr.setCell ⟨g, i, none⟩ (.int .u32 (at32 L' j : Nat))).setCell ⟨g, j, none⟩ (.int .u32 (at32 L' i : Nat))) (swp L' i j) := by
  have hl := h.pm.1
  have g2 := grown_set2 wr g i j (.int .u32 (at32 L' j : Nat)) (.int .u32 (at32 L' i : Nat))
  exact ⟨gw_swp h.gw (by omega) (by omega), h.pm.swap hi hj hb, ⟨g2.os.trans h.gr.os, g2.tape.trans h.gr.tape, g2.output.trans h.gr.output, Nat.le_trans h.gr.size g2.size, fun k hk hne => (g2.block k (Nat.lt_of_lt_of_le hk h.gr.size) hne).trans (h.gr.block k hk hne)⟩⟩
set_option maxHeartbeats 8000000 in
theorem insertion_c (L : List UInt32) (base g n c a b : Nat) (w : World) (hv : Gw e32 w base (.slice (some ⟨g, 0, none⟩) n c) L) (hb : b ≤ L.length) (hab : a ≤ b) (hl : L.length ≤ 1000000000) :
    Calls Tryz.prog 279 #[.slice (some ⟨g, 0, none⟩) n c, .int .i64 a, .int .i64 b] w fun e w' => e = .returned (.tuple #[]) ∧ ∃ L', Srt w base g n c a b L w' L' ∧ SO a b L' := by
  have HV := Lib.hid hv
  have HB := Lib.hid hb
  have HL := Lib.hid hl
  have ws : IntKind.i64.wrap ((a : Int) + 1) = (a : Int) + 1 := by rw [IntKind.wrap_i64]; omega
  clear hv hl
  go_enter Tryz.func279, Tryz.ntmps279
  go_wp2
  go_loopw [6] (fun s6 wr => ∃ i : Nat, a < i ∧ (i ≤ b ∨ i = a + 1) ∧ s6 = .int .i64 i ∧ Hid (∃ L', Srt w base g n c a b L wr L' ∧ SO a i L')) (fun s6 _ => b + 1 - (intOf s6).toNat)
  case atStart => exact ⟨a + 1, by omega, .inr rfl, by go_num, Lib.hid ⟨L, ⟨HV.out, Pm.refl _ _ _, World.grownBy.refl w _⟩, fun p q h1 h2 h3 => by omega⟩⟩
  case round =>
    obtain ⟨i, hai, hib, rfl, hI⟩ := hrel
    by_cases hlt : i < b
    · have hlti : (i : Int) < b := by omega
      obtain ⟨L1, T1, O1⟩ := hI.out
      have IN : Hid (∃ L', Srt w base g n c a b L wr L' ∧ SI a i i L') := Lib.hid ⟨L1, T1, si_start O1⟩
      clear hI T1 O1
      go_upto_region 4 with fail
      obtain ⟨i0, hi0⟩ : ∃ i0, i0 = i := ⟨_, rfl⟩
      go_loopw [7] (fun s7 wi => ∃ j : Nat, a ≤ j ∧ j ≤ i ∧ s7 = .int .i64 j ∧ Hid (∃ L', Srt w base g n c a b L wi L' ∧ SI a i j L')) (fun s7 _ => (intOf s7).toNat)
      case atStart => exact ⟨i, by omega, Nat.le_refl _, rfl, IN⟩
      case round =>
        obtain ⟨j, haj, hji, rfl, hJ⟩ := hrel
        obtain ⟨L2, T2, S2⟩ := hJ.out
        have TT := Lib.hid T2
        have SS := Lib.hid S2
        have hlen := T2.pm.1
        have HLEN := Lib.hid hlen
        clear hJ T2 S2 IN
        by_cases hj : a < j
        · obtain ⟨m, rfl⟩ : ∃ m, j = m + 1 := ⟨j - 1, by omega⟩
          obtain ⟨c0, f0, en⟩ := gw_at TT.out.gw (p := m + 1) (by have := HB.out; omega)
          obtain ⟨c1, f1, -⟩ := gw_at TT.out.gw (p := m) (by have := HB.out; omega)
          obtain ⟨p, hp⟩ : ∃ p : Nat, p = at32 L2 (m + 1) := ⟨_, rfl⟩
          obtain ⟨q, hq⟩ : ∃ q : Nat, q = at32 L2 m := ⟨_, rfl⟩
          rw [← hp] at c0
          rw [← hq] at c1
          have HP := Lib.hid hp
          have HQ := Lib.hid hq
          have hmn : ((m + 1 : Nat) : Int) < n := by have := HB.out; omega
          have hmn0 : (m : Int) < n := by omega
          have hja : ((m + 1 : Nat) : Int) > a := by omega
          have hja2 : (a : Int) < (m : Int) + 1 := by omega
          have hja3 : decide ((a : Int) < (m : Int) + 1) = true := decide_eq_true hja2
          have hmn1 : (m : Int) + 1 < n := by omega
          have w1 : IntKind.i64.wrap (((m + 1 : Nat) : Int) - 1) = m := by rw [IntKind.wrap_i64]; have := HL.out; have := HB.out; omega
          have w2 : IntKind.i64.wrap (m : Int) = m := by rw [IntKind.wrap_i64]; have := HL.out; have := HB.out; omega
          have hcall := fun W => less32_any p q W
          obtain ⟨bb, hbb⟩ : ∃ bb, decide (p < q) = bb := ⟨_, rfl⟩
          rw [hbb] at hcall
          have HBB := Lib.hid hbb
          clear hp hq hbb en hlen
          cases bb with
          | true =>
            go_wp2_with fail
            go_quiet ((first | (go_at_call 285; exact quiet_left_ (hcall _))))
            have T3 := Lib.hid (TT.out.drew nq)
            have d0 : (wr.drewN nq).cell? ⟨g, m + 1, none⟩ = some (.int .u32 (p : Int)) := c0
            have d1 : (wr.drewN nq).cell? ⟨g, m, none⟩ = some (.int .u32 (q : Int)) := c1
            have e0 : (wr.drewN nq).frozen? ⟨g, m + 1, none⟩ = false := f0
            have e1 : (wr.drewN nq).frozen? ⟨g, m, none⟩ = false := f1
            generalize wr.drewN nq = w3 at *
            clear c0 c1 f0 f1 hcall
            have SW := T3.out.swap (i := m + 1) (j := m) ⟨by omega, by omega⟩ ⟨by omega, by omega⟩ HB.out
            rw [← HP.out, ← HQ.out] at SW
            have NS := si_swap SS.out (by omega) hji (by have := HB.out; have := HLEN.out; omega) (by rw [← HP.out, ← HQ.out]; exact of_decide_eq_true HBB.out)
            have SWH := Lib.hid SW
            have NSH := Lib.hid NS
            clear SW NS
            go_wp2_with fail
            go_region
            have NX : Hid (∃ L', Srt w base g n c a b L ((w3.setCell ⟨g, m + 1, none⟩ (.int .u32 (q : Int))).setCell ⟨g, m, none⟩ (.int .u32 (p : Int))).drew L' ∧ SI a i m L') := Lib.hid ⟨_, SWH.out.drew 1, NSH.out⟩
            have hl := HL.out
            have hbl := HB.out
            go_wp2
            refine ⟨⟨m, by omega, by omega, by go_num, NX⟩, by simp [intOf]⟩
          | false =>
            have EN : Hid (∃ L', Srt w base g n c a b L wr L' ∧ SO a (i + 1) L') := Lib.hid ⟨L2, TT.out, si_end SS.out haj hji (.inr (by
              have := of_decide_eq_false HBB.out
              rw [HP.out, HQ.out] at this
              show at32 L2 (m + 1 - 1) ≤ _
              rw [Nat.add_sub_cancel]; omega))⟩
            have hl := HL.out
            have hbl := HB.out
            clear TT SS
            go_wp2_with fail
            go_quiet ((first | (go_at_call 285; exact quiet_left_ (hcall _))))
            have EN2 : Hid (∃ L', Srt w base g n c a b L (wr.drewN nq) L' ∧ SO a (i + 1) L') := Lib.hid (by obtain ⟨L3, x, y⟩ := EN.out; exact ⟨L3, x.drew nq, y⟩)
            generalize wr.drewN nq = w3 at *
            clear c0 c1 f0 f1 hcall
            go_wp2
            refine ⟨⟨i + 1, by omega, by omega, by go_num, EN2⟩, by simp [intOf]; omega⟩
        · obtain rfl : j = a := by omega
          have EN : Hid (∃ L', Srt w base g n c j b L wr L' ∧ SO j (i + 1) L') := Lib.hid ⟨L2, TT.out, si_end SS.out haj hji (.inl rfl)⟩
          have hl := HL.out
          have hbl := HB.out
          have hj1 : decide ((j : Int) > j) = false := decide_eq_false (by omega)
          have hj2 : decide ((j : Int) < j) = false := decide_eq_false (by omega)
          clear TT SS
          go_wp2_with fail
          go_quiet (fail)
          have EN2 : Hid (∃ L', Srt w base g n c j b L (wr.drewN nq) L' ∧ SO j (i + 1) L') := Lib.hid (by obtain ⟨L3, x, y⟩ := EN.out; exact ⟨L3, x.drew nq, y⟩)
          generalize wr.drewN nq = w3 at *
          go_wp2
          refine ⟨⟨i + 1, by omega, by omega, by go_num, EN2⟩, by simp [intOf]; omega⟩
    · have HX : Hid (∃ L', Srt w base g n c a b L wr L' ∧ SO a b L') := Lib.hid (by
        obtain ⟨L3, x, y⟩ := hI.out
        exact ⟨L3, x, fun p q h1 h2 h3 => y p q h1 h2 (by omega)⟩)
      clear hI
      go_wp2
      go_end0
      exact ⟨rfl, HX.out⟩
end Go.Proofs.YtponcpneflhpfaaGreatDoor
namespace Go.Proofs.YtponcpneflhpfaaGreatDoor
open Go.RowKit
set_option linter.unusedVariables false

set_option maxHeartbeats 2000000 in
theorem pdq_small (L : List UInt32) (base g n c : Nat) (lim : Int) (w : World) (hv : Gw e32 w base (.slice (some ⟨g, 0, none⟩) n c) L) (hn : n = L.length) (hl : L.length ≤ 12) :
    Calls Tryz.prog 231 #[.slice (some ⟨g, 0, none⟩) n c, .int .i64 0, .int .i64 n, .int .i64 lim] w fun e w' => e = .returned (.tuple #[]) ∧ ∃ L', Srt w base g n c 0 n L w' L' ∧ SO 0 n L' := by
  have HI := Lib.hid (fun W (h : W = w) => insertion_c L base g n c 0 n W (h ▸ hv) (by omega) (Nat.zero_le _) (by omega))
  have w1 : IntKind.i64.wrap (n : Int) = n := by rw [IntKind.wrap_i64]; omega
  have h12 : (n : Int) ≤ 12 := by omega
  clear hv hn hl
  have h12b : decide ((n : Int) ≤ 12) = true := decide_eq_true h12
  have w2 : IntKind.i64.wrap ((n : Int) - 0) = n := by rw [IntKind.wrap_i64]; omega
  have w3 : IntKind.i64.wrap ((n : Int) - ((0 : Nat) : Int)) = n := by rw [IntKind.wrap_i64]; omega
  go_enter Tryz.func231, Tryz.ntmps231
  go_wp2
  go_loopw [1, 2] (fun s1 s2 wr => s1 = .int .i64 ((0 : Nat) : Int) ∧ s2 = .int .i64 (n : Int) ∧ wr = w) (fun _ _ _ => 0)
  case atStart => exact ⟨by go_num, rfl, rfl⟩
  case round =>
    obtain ⟨rfl, rfl, hz⟩ := hrel
    have hz := hz.symm
    subst hz
    go_wp2_with fail
    refine (HI.out _ rfl).mono ?_
    rintro e w2 ⟨rfl, hh⟩
    have HH := Lib.hid hh
    clear hh
    go_wp2
    exact bodyPost_ret (results_none rfl _ _ _) rfl ⟨rfl, HH.out⟩
set_option maxHeartbeats 2000000 in
theorem sort_small (L : List UInt32) (base g n c : Nat) (w : World) (hv : Gw e32 w base (.slice (some ⟨g, 0, none⟩) n c) L) (hn : n = L.length) (hl : L.length ≤ 12) :
    Calls Tryz.prog 163 #[.slice (some ⟨g, 0, none⟩) n c] w fun e w' => e = .returned (.tuple #[]) ∧ ∃ L', Srt w base g n c 0 n L w' L' ∧ SO 0 n L' := by
  have HI := Lib.hid (fun lim => pdq_small L base g n c lim w hv hn hl)
  have hlen : Calls Tryz.prog 206 #[.int .u64 (n : Int)] w fun e w' => (∃ l : Int, e = .returned (.int .i64 l)) ∧ w' = w :=
    (Go.Proofs.Any.bits_Len (Go.Proofs.SlLaysF0.n15.bits (P := Tryz.prog) (ρ := sortSp_ren) { sortSp with }) (n : Int) w (by omega) (by omega)).mono fun _ _ ⟨he, hw⟩ => ⟨⟨_, he⟩, hw⟩
  have w1 : IntKind.u64.wrap (n : Int) = n := by rw [IntKind.wrap_u64]; omega
  clear hv hn hl
  go_enter Tryz.func163, Tryz.ntmps163
  go_wp2_with fail
  refine hlen.mono ?_
  rintro e w1 ⟨⟨lim, rfl⟩, hz⟩
  have hz := hz.symm
  subst hz
  clear hlen
  go_wp2_with fail
  refine (HI.out lim).mono ?_
  rintro e w2 ⟨rfl, hh⟩
  have HH := Lib.hid hh
  clear hh
  go_wp2
  go_end0
  exact ⟨rfl, HH.out⟩
set_option maxHeartbeats 4000000 in
theorem compact_rising (L : List UInt32) (base g n c : Nat) (w : World) (hv : Gw e32 w base (.slice (some ⟨g, 0, none⟩) n c) L) (hn : n = L.length) (hl : L.length ≤ 1000000000) (hr : rsu L) :
    Calls Tryz.prog 164 #[.slice (some ⟨g, 0, none⟩) n c] w fun e w' => e = .returned (.slice (some ⟨g, 0, none⟩) n c) ∧ ∃ k, w' = w.drewN k := by
  have HV := Lib.hid hv
  have HN := Lib.hid hn
  have hnb : n ≤ 1000000000 := by omega
  have HR : Hid (∀ i, i + 1 < n → at32 L i < at32 L (i + 1)) := Lib.hid (fun i hi => by
    have h1 : i < L.length := by omega
    have h2 : i + 1 < L.length := by omega
    have := (List.pairwise_iff_getElem.1 hr) i (i + 1) h1 h2 (by omega)
    rw [at32_get (List.getElem?_eq_getElem h1), at32_get (List.getElem?_eq_getElem h2)]
    exact this)
  clear hv hn hl hr
  by_cases h2 : n < 2
  · have h2i : (n : Int) < 2 := by omega
    go_enter Tryz.func164, Tryz.ntmps164
    go_wp2
    go_ret
    exact ⟨rfl, 0, rfl⟩
  · have h2i : decide ((n : Int) < 2) = false := decide_eq_false (by omega)
    go_enter Tryz.func164, Tryz.ntmps164
    go_wp2
    go_loopw [3] (fun s3 wr => ∃ k m : Nat, k + 1 ≤ n ∧ s3 = .int .i64 ((k : Int) + 1) ∧ wr = w.drewN m) (fun s3 _ => n + 1 - (intOf s3).toNat)
    case atStart => exact ⟨0, 0, by omega, by go_num, rfl⟩
    case round =>
      obtain ⟨k, m, hk, rfl, rfl⟩ := hrel
      by_cases hlt : k + 1 < n
      · obtain ⟨c0, -, -⟩ := gw_at HV.out (p := k + 1) (by have := HN.out; omega)
        obtain ⟨c1, -, -⟩ := gw_at HV.out (p := k) (by have := HN.out; omega)
        obtain ⟨p, hp⟩ : ∃ p : Nat, p = at32 L (k + 1) := ⟨_, rfl⟩
        obtain ⟨q, hq⟩ : ∃ q : Nat, q = at32 L k := ⟨_, rfl⟩
        have hpq : q < p := by rw [hp, hq]; exact HR.out k hlt
        rw [← hp] at c0
        rw [← hq] at c1
        have hne : decide ((p : Int) = q) = false := decide_eq_false (by omega)
        have hne2 : ((p : Int) == q) = false := beq_false_of_ne (by omega)
        have hki : (k : Int) + 1 < n := by omega
        have hk0 : (k : Int) < n := by omega
        have hk2 : (0 : Int) ≤ (k : Int) + 1 := by omega
        have w2 : IntKind.i64.wrap (k : Int) = k := by rw [IntKind.wrap_i64]; omega
        have w3 : IntKind.i64.wrap ((k : Int) + 1 - 1) = k := by rw [IntKind.wrap_i64]; omega
        clear hp hq hpq
        go_wp2_with fail
        go_quiet (fail)
        go_wp2
        refine ⟨⟨k + 1, _, by omega, by go_num, rfl⟩, by simp [intOf]; omega⟩
      · have hki : ¬ (k : Int) + 1 < n := by omega
        go_wp2
        go_ret
        exact ⟨rfl, m, rfl⟩
set_option maxHeartbeats 2000000 in
theorem rising_small (v : Value) (l : List UInt32) (w : World) (hv : Gs e32 w 0 w.heap.size v l) (hl : l.length ≤ 12) (hne : l ≠ []) (hd : l.Nodup) :
    Calls Tryz.prog 91 #[v] w fun e w' => ∃ v' l', e = .returned v' ∧ Gw e32 w' w.heap.size v' l' ∧ rsu l' ∧ l'.Perm l ∧ Below w.heap.size w w' := by
  have HV := Lib.hid hv
  have HL := Lib.hid hl
  have HNE := Lib.hid hne
  have HD := Lib.hid hd
  clear hv hl hne hd
  go_enter Tryz.func91, Tryz.ntmps91
  go_wp2_with fail
  refine (clone32_any v l 0 w HV.out (by have := HL.out; omega)).mono ?_
  rintro e w1 ⟨v1, rfl, g1, b1⟩
  obtain ⟨g, c, rfl, -, -, hb1, hb2, -, -⟩ := g1.form HNE.out
  have G1 := Lib.hid g1
  have B1 := Lib.hid b1
  have HB1 := Lib.hid hb1
  obtain ⟨n, hn⟩ : ∃ n, n = l.length := ⟨_, rfl⟩
  rw [← hn] at G1
  have HN := Lib.hid hn
  clear g1 b1 hb1 hb2
  try rw [← hn]
  clear hn
  go_wp2_with fail
  refine (sort_small l w.heap.size g n c w1 G1.out HN.out HL.out).mono ?_
  rintro e w2 ⟨rfl, l', S, O⟩
  have HS := Lib.hid S
  have HO : Hid (rsu l') := Lib.hid (so_rsu (by rw [S.pm.1, ← HN.out]; exact O) (S.pm.2.2.nodup_iff.2 HD.out))
  have B2 : Hid (Below w.heap.size w w2) := Lib.hid (B1.out.trans ⟨S.gr.os, S.gr.tape, S.gr.output, S.gr.size, fun k hk => S.gr.block k (Nat.lt_of_lt_of_le hk B1.out.size) (fun e => by injection e with e; have := HB1.out; omega)⟩)
  clear S O
  go_wp2_with fail
  refine (compact_rising l' w.heap.size g n c w2 HS.out.gw (by rw [HS.out.pm.1]; exact HN.out) (by rw [HS.out.pm.1]; have := HL.out; omega) HO.out).mono ?_
  rintro e w3 ⟨rfl, k, rfl⟩
  go_wp2
  go_ret
  exact ⟨_, l', rfl, HS.out.gw.drewN k, HO.out, HS.out.pm.2.2, below_drewN B2.out k⟩
end Go.Proofs.YtponcpneflhpfaaGreatDoor
namespace Go.Proofs.YtponcpneflhpfaaGreatDoor
open Go.RowKit
set_option linter.unusedVariables false

theorem gs32_at {w : World} {lo hi : Nat} {A : Option Addr} {n c : Nat} {l : List UInt32} (h : Gs e32 w lo hi (.slice A n c) l) {k : Nat} (hk : k < l.length) :
    ∃ b off r, A = some ⟨b, off, none⟩ ∧ n = l.length ∧ lo ≤ b ∧ b < hi ∧ l[k]? = some r ∧ w.cell? ⟨b, off + k, none⟩ = some (.int .u32 (r.toNat : Nat)) := by
  obtain ⟨b, off, c', e, -, -, hl, hb, hc⟩ := h.form (by rintro rfl; simp at hk)
  injection e with e1 e2 e3
  have h1 := List.getElem?_eq_getElem hk
  exact ⟨b, off, _, e1, e2, hl, hb, h1, hc k _ h1⟩
theorem map_take_set16 {l : List UInt32} {k : Nat} {s : UInt32} (h : l[k]? = some s) (hk : k < l.length) :
    ((l.take k).map ulow ++ List.replicate (l.length - k) (0 : UInt16)).set k (ulow s) = (l.take (k + 1)).map ulow ++ List.replicate (l.length - (k + 1)) (0 : UInt16) := by
  have e1 : l.length - k = (l.length - (k + 1)) + 1 := by omega
  have e2 : ((l.take k).map ulow).length = k := by rw [List.length_map, List.length_take]; omega
  rw [e1, List.replicate_succ, List.set_append_right _ _ (by omega), e2, Nat.sub_self, List.set_cons_zero, take_snoc h, List.map_append, List.append_assoc]
  rfl
set_option maxHeartbeats 8000000 in
theorem ofNumbers_c {N : Nat → Prop} (v : Value) (l : List UInt32) (k0 : Nat) (w : World) (hT : Tb w) (hN : ∀ b, w.heap.size ≤ b → N b) (hv : Gs e32 w 0 w.heap.size v l) (hr : rsu l) (hk : ∀ y ∈ l, ukey y = k0) :
    Calls Tryz.prog 93 #[v] w fun e w' => ∃ v', e = .returned v' ∧ Cn N w' v' (fun x => mk32 l (65536 * k0 + x)) (ck (fun x => mk32 l (65536 * k0 + x))) ∧ Below w.heap.size w w' := by
  obtain ⟨hr1, hr2⟩ := part_lows (k := k0) l hr hk
  have hls : ls (fun x => mk32 l (65536 * k0 + x)) 65536 = l.map ulow := by
    rw [← ls_ext (p := mk (l.map ulow)) (q := fun x => mk32 l (65536 * k0 + x)) (n := 65536) (fun x hx => hr2 x hx)]
    exact ls_mk hr1
  have hlen : l.length ≤ 65536 := by rw [← List.length_map (f := ulow), ← hls]; exact ls_len _ _
  obtain ⟨p0, hp0⟩ : ∃ p0, p0 = (fun x => mk32 l (65536 * k0 + x)) := ⟨_, rfl⟩
  rw [← hp0] at hls ⊢
  have HLS := Lib.hid hls
  have HR1 := Lib.hid hr1
  have HV := Lib.hid hv
  have TT := Lib.hid hT
  have NN := Lib.hid hN
  have HLEN := Lib.hid hlen
  obtain ⟨A, c, rfl, -⟩ := hv
  have bz := bx w (.cells #[.int .u8 0, .slice none 0 0, .slice none 0 0, .slice none 0 0] 65)
  have rz := Row.new w 65 #[.int .u8 0, .slice none 0 0, .slice none 0 0, .slice none 0 0]
  clear hr1 hr2 hls hk hp0 hT hN hr
  go_enter Tryz.func93, Tryz.ntmps93
  go_upto_region 1 with fail
  generalize w.alloc (.cells #[.int .u8 0, .slice none 0 0, .slice none 0 0, .slice none 0 0] 65) = w1 at *
  have B1 := Lib.hid bz
  have R1 := Lib.hid rz
  clear bz rz
  have hln : l.length ≤ 1000000000 := by omega
  clear hlen
  go_wp2_with (at_make; refine wpList_gfull e16 _ rfl _ _ _ rfl sli16 inf16 _ _ _ _ l.length rfl rfl rfl rfl hln ?_; intro w2 o2 g2; have O2 := Lib.hid o2; have G2 := Lib.hid g2; clear o2 g2)
  have R2 := Lib.hid (R1.out.grown G2.out (by simp))
  have B2 : Hid (Below w1.heap.size w1 w2) := Lib.hid (below_of_grown G2.out (fun k e => by cases e))
  clear hln
  go_loopw [13] (fun s13 wr => ∃ k : Nat, k ≤ l.length ∧ s13 = .int .i64 k ∧ Hid (Gw e16 wr w1.heap.size (.slice (some ⟨w1.heap.size, 0, none⟩) l.length l.length) ((l.take k).map ulow ++ List.replicate (l.length - k) (0 : UInt16)) ∧ Below w1.heap.size w1 wr)) (fun s13 _ => l.length - (intOf s13).toNat)
  case atStart => exact ⟨0, Nat.zero_le _, rfl, Lib.hid ⟨by have h := O2.out; rw [show e16.zero = (0 : UInt16) from rfl] at h; simpa using h, B2.out⟩⟩
  case round =>
    obtain ⟨k, hk, rfl, hj⟩ := hrel
    have HJ := Lib.hid hj.out
    by_cases hlt : k < l.length
    · obtain ⟨b, off, s, e1, -, -, hb, hg', c0⟩ := gs32_at HV.out hlt
      subst e1
      have hbl : Below w.heap.size w wr := B1.out.trans (hj.out.2.mono B1.out.size)
      rw [← hbl.cell (p := ⟨b, off + k, none⟩) hb] at c0
      have hs32 := u32_lt s
      obtain ⟨p, hp⟩ : ∃ p : Nat, p = s.toNat := ⟨_, rfl⟩
      rw [← hp] at c0 hs32
      have HVAL : Hid (e16.val (ulow s) = .int .u16 ((p % 65536 : Nat) : Int)) := Lib.hid (by show Value.int .u16 ((ulow s).toNat : Int) = _; rw [ulow_nat, hp])
      have HG := Lib.hid hg'
      have HP32 := Lib.hid hs32
      have hkl : (k : Int) < l.length := by omega
      obtain ⟨_, _, e0, -, -, -, -, hcl, hfz⟩ := hj.out.1.form (by intro e; have := congrArg List.length e; simp at this; omega)
      injection e0 with e0 e01 e02
      clear e01
      subst e02
      injection e0 with e0
      injection e0 with e0
      subst e0
      have hx : ((l.take k).map ulow ++ List.replicate (l.length - k) (0 : UInt16))[k]? = some 0 := by
        rw [List.getElem?_append_right (by rw [List.length_map, List.length_take]; omega), List.getElem?_replicate, if_pos (by rw [List.length_map, List.length_take]; omega)]
      have d0 := hcl k _ hx
      have d0 : wr.cell? ⟨w1.heap.size, k, none⟩ = some (.int .u16 0) := d0
      have f0 := hfz k
      have ST := HJ.out.1.stored k (ulow s)
      rw [map_take_set16 HG.out hlt, HVAL.out] at ST
      have NX : Hid (Gw e16 (wr.setCell ⟨w1.heap.size, k, none⟩ (.int .u16 ((p % 65536 : Nat) : Int))) w1.heap.size (.slice (some ⟨w1.heap.size, 0, none⟩) l.length l.length) ((l.take (k + 1)).map ulow ++ List.replicate (l.length - (k + 1)) (0 : UInt16)) ∧ Below w1.heap.size w1 (wr.setCell ⟨w1.heap.size, k, none⟩ (.int .u16 ((p % 65536 : Nat) : Int)))) := Lib.hid
        ⟨ST, HJ.out.2.grown (grown_set wr w1.heap.size k _) HJ.out.2.size (fun j e => by injection e with e; omega)⟩
      obtain ⟨r, hr⟩ : ∃ r : Nat, p % 65536 = r := ⟨_, rfl⟩
      have hc := fun W => low_c p W HP32.out
      rw [hr] at NX hc
      clear hcl hfz hx ST hg' hbl hj hp hs32 hr hb
      have hlen := HLEN.out
      go_wp2_with (go_at_call 69; refine (hc _).mono ?_; rintro e wq ⟨rfl, hz⟩; have hz := hz.symm; subst hz)
      refine ⟨⟨k + 1, by omega, by go_num, NX⟩, by simp [intOf]; omega⟩
    · obtain rfl : k = l.length := by omega
      have hj2 := hj.out
      rw [List.take_length, Nat.sub_self, List.replicate_zero, List.append_nil] at hj2
      have HG : Hid (Gs e16 wr 0 wr.heap.size (.slice (some ⟨w1.heap.size, 0, none⟩) l.length l.length) (l.map ulow)) := Lib.hid (hj2.1.sl.more (Nat.zero_le _) (Nat.le_refl _))
      have HB : Hid (Below w1.heap.size w1 wr) := Lib.hid hj2.2
      have HBW : Hid (Below w.heap.size w wr) := Lib.hid (B1.out.trans (hj2.2.mono B1.out.size))
      clear hj hj2 HJ
      go_wp2_with fail
      refine (ofArray_yes (N := fun x => N x ∧ x ≠ w.heap.size) _ _ p0 _ (fun x hx => ⟨NN.out x (Nat.le_trans HBW.out.size hx), by have := R1.out.lt; have := HB.out.size; omega⟩) HG.out HR1.out (by rw [List.length_map]; exact HLEN.out) HLS.out).mono ?_
      rintro e w3 ⟨v3, rfl, g3, b3⟩
      obtain ⟨κv, Av, nv, cv, Bv, mv, dv, Dv, qv, ev, rfl⟩ := g3.form
      have G3 := Lib.hid g3
      have B3 := Lib.hid (below_both HBW.out b3)
      have R3 := Lib.hid ((R1.out.below HB.out R1.out.lt).below b3 (Nat.lt_of_lt_of_le R1.out.lt HB.out.size))
      clear g3 b3
      go_wp2_with fail
      have bz := bx w3 (.cells #[.int .u8 κv, .slice Av nv cv, .slice Bv mv dv, .slice Dv qv ev] 65)
      generalize w3.alloc (.cells #[.int .u8 κv, .slice Av nv cv, .slice Bv mv dv, .slice Dv qv ev] 65) = w4 at *
      have G4 := Lib.hid (G3.out.step bz)
      have B4 := Lib.hid (below_both B3.out bz)
      have R4 := Lib.hid (R3.out.below bz R3.out.lt)
      clear bz
      refine (canonical_c (N := fun x => N x ∧ x ≠ w.heap.size) _ p0 1 _ (TT.out.step B4.out) (fun x hx => ⟨NN.out x (Nat.le_trans B4.out.size hx), by have := R4.out.lt; omega⟩) G4.out).mono ?_
      rintro e w5 ⟨v5, rfl, g5, b5⟩
      obtain ⟨κu, Au, nu, cu, Bu, mu, du, Du, qu, eu, rfl⟩ := g5.form
      have G5 := Lib.hid g5
      have B5 := Lib.hid (below_both B4.out b5)
      have R5 := Lib.hid (R4.out.below b5 R4.out.lt)
      clear g5 b5
      have d0 : w5.cell? ⟨w.heap.size, 0, none⟩ = some (.int .u8 0) := R5.out.cell 0
      have f0 := R5.out.frozen 0
      have d1 : w5.cell? ⟨w.heap.size, 1, none⟩ = some (.slice none 0 0) := R5.out.cell 1
      have f1 := R5.out.frozen 1
      have d2 : w5.cell? ⟨w.heap.size, 2, none⟩ = some (.slice none 0 0) := R5.out.cell 2
      have f2 := R5.out.frozen 2
      have d3 : w5.cell? ⟨w.heap.size, 3, none⟩ = some (.slice none 0 0) := R5.out.cell 3
      have f3 := R5.out.frozen 3
      go_wp2
      have S4 := set4 (a' := .int .u8 κu) (b' := .slice Au nu cu) (c' := .slice Bu mu du) (d' := .slice Du qu eu) R5.out
      have B6 := Lib.hid (B5.out.grown S4.2 B5.out.size (fun j e => by injection e with e; subst e; omega))
      refine bodyPost_ret (ret_row rfl rfl S4.1) rfl ⟨_, rfl, (G5.out.grown S4.2 (fun h => h.2 rfl)).mono (fun x _ h => h.1), B6.out⟩
end Go.Proofs.YtponcpneflhpfaaGreatDoor
