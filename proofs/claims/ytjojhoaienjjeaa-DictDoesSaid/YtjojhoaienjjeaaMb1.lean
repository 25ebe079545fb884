/- Walks: the law DictDoes. -/
import Derived.Test.YtjojhoaienjjeaaMb0
namespace Go.Proofs.Ytjojhoaienjjeaa
open Go.RowKit Go.Shelf
set_option linter.unusedVariables false

attribute [local go_sem] Oper.semAt_some

/-- A range over ids and values that are not asked for. -/
theorem range_plain {g : Operand} {s1 s2 : Nat} {assign body : Code} {Q : Exit → Act → World → Prop} {ts : Array Value} {w : World} {gf : Nat} {lb : Array Value} {n₀ : Nat} (hn₀ : n₀ ≤ w.heap.size)
    (hg : (Act.mk ts []).eval g = .func (.func gf) #[] lb) (eg : ∀ args w, (callFunc gf args).run Try.prog w = .ok (.enter gf args) w)
    {S Sp : List (Nat × VV) → Prop} {N : Nat} {w0 : World} (hseq : SeqStopsK Fence.wide (3 - 1) Try.prog gf lb encP (Below n₀) S Sp N w0) (hb0 : Below w0.heap.size w0 w)
    (I : List (Nat × VV) → World → Prop) (Ix : Code → List (Nat × VV) → World → Prop) (hI : OwnFrom w.heap.size I) (hIx : ∀ c, OwnFrom w.heap.size (Ix c)) (h0 : I [] w)
    (hassign : ∀ (l : Nat) (x : Nat × VV) (W : World) (K : Act → World → Prop),
      K { tmps := (ts.setIfInBounds s1 (.int .i64 (x.1 : Int))).setIfInBounds s2 (vV x.2.k x.2.n x.2.s), defers := [] } W →
      assign.wpIn (Fence.wide.inRound l) (3 - 1 - 1) Try.prog (Exit.then K (fun _ _ _ => False)) { tmps := (ts.setIfInBounds s1 (.int .i64 (x.1 : Int))).setIfInBounds s2 (vV x.2.k x.2.n x.2.s), defers := [] } W)
    (hbody : ∀ (l : Nat) (pre : List (Nat × VV)) (x : Nat × VV) (W : World), I pre W → pre.length < N → body.wpIn (Fence.wide.inRound l) (3 - 1 - 1) Try.prog (ownPostG w.heap.size (Below n₀) I Ix (pre ++ [x]) W) { tmps := (ts.setIfInBounds s1 (.int .i64 (x.1 : Int))).setIfInBounds s2 (vV x.2.k x.2.n x.2.s), defers := [] } W)
    (hdone : ∀ (D : Nat) (xs : List (Nat × VV)) (W : World), w.heap.size ≤ D → S xs → I xs W → W.heap[D]? = some (.deferred (some [])) → Q .normal { tmps := ts, defers := [{ target := .collected D, args := #[] }] } W)
    (hstop : ∀ (D : Nat) (c : Code) (pre : List (Nat × VV)) (W : World), w.heap.size ≤ D → Sp pre → Ix c pre W → W.heap[D]? = some (.deferred (some [])) → c.wpIn Fence.wide 3 Try.prog Q { tmps := ts, defers := [{ target := .collected D, args := #[] }] } W) :
    (Code.rangeFunc g #[s1, s2] assign body).wpIn Fence.wide 3 Try.prog Q { tmps := ts, defers := [] } w := by
  refine wpIn_rangeFunc_ownH (F := Fence.wide) (n := 3) (a := { tmps := ts, defers := [] }) rfl (by omega) hg trivial eg hseq belowK_t (belowK_b hn₀) hb0 (fun _ => rfl) I Ix hI hIx h0
    (fun x a' _ => a' = { tmps := (ts.setIfInBounds s1 (.int .i64 (x.1 : Int))).setIfInBounds s2 (vV x.2.k x.2.n x.2.s), defers := [] }) (fun x a' s X Y row hs _ _ => hs)
    (fun l pre x W K hi hK => (zip_two ts s1 s2 x) ▸ hassign l x W K (hK _ _ (KeepsFrom.refl _ _) (Below.refl _ W) hi rfl))
    (fun l pre x a' W hl _ hi hx hlt => by subst hx; exact hbody l pre x W hi hlt) hdone hstop
set_option maxHeartbeats 8000000 in
set_option maxRecDepth 100000 in
theorem does_great (kind : Int) (A : Option Addr) (d : Nat) (l : List VV) (stop : Int) (w : World) (hG : GsV eV w 0 w.heap.size (.slice A l.length d) l) (hg : grtV l 200 = true) :
    Calls Try.prog 3 #[.int .u8 kind, .slice A l.length d, .int .i64 stop] w fun e w' => e = .returned (.bool true) ∧ Below w.heap.size w w' := by
  have HG := Lib.hid hG
  obtain ⟨W0, hW0⟩ : ∃ W0, W0 = w.alloc (.cells #[.int .i64 stop] 3) := ⟨_, rfl⟩
  have X0 := Lib.hid (show Row W0 w.heap.size 3 #[.int .i64 stop] by rw [hW0]; exact Row.new _ _ _)
  have B0 := Lib.hid (show Below w.heap.size w W0 by rw [hW0]; exact (Below.refl _ _).alloc (Nat.le_refl _) _)
  have G0 := Lib.hid (hG.step B0.out)
  have hgc := fun W h => great_v A d l 200 W h
  clear hG
  rw [hg] at hgc
  refine (callsIn_wide (n := 3)).1 ?_
  refine callsIn_of_wp_marks Try.func3 rfl trivial ?_ rfl
  refine wpIn_wide.2 ?_
  simp only [Try.ntmps3, List.size_toArray, List.length_cons, List.length_nil, Nat.reduceAdd, Nat.reduceSub, Array.replicate_succ, Array.replicate_zero, List.push_toArray, List.append_toArray, List.nil_append, List.cons_append]
  go_wp2_with fail
  rw [← hW0]
  clear hW0
  go_wp2_with (first | (go_at_call 9; refine (hgc _ G0.out).mono ?_; rintro e w1 ⟨rfl, hz⟩; have hz := hz.symm; subst hz) | (go_at_call 10; refine (known11_any _).mono ?_; rintro e w9 ⟨rfl, b9⟩; have B9 := Lib.hid (B0.out.trans (b9.mono B0.out.size)); clear b9))
  refine leaves_ret (results_tmp rfl _ _ _) rfl ⟨rfl, B9.out⟩
set_option maxHeartbeats 8000000 in
set_option maxRecDepth 100000 in
theorem does_any (kind : Int) (A : Option Addr) (d : Nat) (l : List VV) (stop : Int) (w : World) (hG : GsV eV w 0 w.heap.size (.slice A l.length d) l) :
    Calls Try.prog 3 #[.int .u8 kind, .slice A l.length d, .int .i64 stop] w fun e w' => e = .returned (.bool true) ∧ Below w.heap.size w w' := by
  cases hg : grtV l 200 with
  | true => exact does_great kind A d l stop w hG hg
  | false =>
    have HN := Lib.hid (show l.length ≤ 200 by have := grtV_len hg; omega)
    have HG := Lib.hid hG
    obtain ⟨W0, hW0⟩ : ∃ W0, W0 = w.alloc (.cells #[.int .i64 stop] 3) := ⟨_, rfl⟩
    have X0 := Lib.hid (show Row W0 w.heap.size 3 #[.int .i64 stop] by rw [hW0]; exact Row.new _ _ _)
    have B0 := Lib.hid (show Below w.heap.size w W0 by rw [hW0]; exact (Below.refl _ _).alloc (Nat.le_refl _) _)
    have G0 := Lib.hid (hG.step B0.out)
    have hgc := fun W h => great_v A d l 200 W h
    clear hG
    rw [hg] at hgc
    have hof := fun W A7 d7 h => of_any kind A7 d7 l W h (by have := HN.out; omega)
    have hrf := fun W h => refof_c kind A d l W h (by have := HN.out; omega)
    have HML := Lib.hid (Nat.le_trans (dicV_len l) HN.out)
    obtain ⟨E, hE⟩ : ∃ E, ofE kind l = E := ⟨_, rfl⟩
    have hL : E = 0 → ofL kind l = dicV l := fun h => by unfold ofL; rw [if_pos (hE.trans h)]
    rw [hE] at hof hrf
    generalize ofL kind l = r at hrf hL
    generalize dicV l = m at hof hL HML
    by_cases h0 : E = 0
    · obtain rfl := hL h0
      subst h0
      clear hL
      have HO := Lib.hid (fun W A7 d7 h => (hof W A7 d7 h).mono (R' := fun e w' => ∃ p, e = .returned (.tuple #[p, .int .i64 0]) ∧ Dc w' p kind r ∧ Below W.heap.size W w') fun e w' ⟨p, h1, h2, _, h4⟩ => ⟨p, h1, h2 rfl, h4⟩)
      have HR := Lib.hid hrf
      clear hof hrf hE
      refine (callsIn_wide (n := 3)).1 ?_
      refine callsIn_of_wp_marks Try.func3 rfl trivial ?_ rfl
      refine wpIn_wide.2 ?_
      simp only [Try.ntmps3, List.size_toArray, List.length_cons, List.length_nil, Nat.reduceAdd, Nat.reduceSub, Array.replicate_succ, Array.replicate_zero, List.push_toArray, List.append_toArray, List.nil_append, List.cons_append]
      go_wp2_with fail
      rw [← hW0]
      clear hW0
      go_wp2_with (first
        | (go_at_call 9; refine (hgc _ G0.out).mono ?_; rintro e w1 ⟨rfl, hz⟩; have hz := hz.symm; subst hz)
        | (at_builtin; refine wpList_gappv eV _ rfl _ _ _ rfl W0.heap.size sliV infV _ [] rfl (GwV.empty_ _ _ (Nat.le_refl _)) 0 W0.heap.size _ l rfl (G0.out.alloc (Nat.le_refl _) _) (by have := HN.out; simp; omega) (by simp) ?_; intro v2 w2 o2 g2 _; have B2 := Lib.hid (show Below W0.heap.size W0 w2 from ((Below.refl _ _).alloc (Nat.le_refl _) _).grown g2 (by simp) (fun k h => by injection h with h; subst h; exact Nat.le_refl _)); have O2 := Lib.hid (show GwV eV w2 W0.heap.size v2 l by simpa using o2); clear o2 g2; obtain ⟨A7, d7, hv7, -⟩ := O2.out.sl; subst hv7; have G2 := Lib.hid (G0.out.step B2.out); have H2 := Lib.hid (O2.out.sl.more (Nat.zero_le _) (Nat.le_refl _)))
        | (go_at_call 11; refine (HO.out _ A7 d7 H2.out).mono ?_; rintro e w3 ⟨p, rfl, hd, b3⟩; have B3 := Lib.hid b3; have D3 := Lib.hid hd; have G3 := Lib.hid (G2.out.step b3); have H3 := Lib.hid (H2.out.step b3); clear b3 hd)
        | (go_at_call 12; refine (HR.out _ G3.out).mono ?_; rintro e w4 ⟨A4, d4, rfl, o4, b4⟩; have B4 := Lib.hid (B3.out.trans (b4.mono B3.out.size)); have D4 := Lib.hid (D3.out.step b4); have G4 := Lib.hid (G3.out.step b4); have H4 := Lib.hid (H3.out.step b4); have O4 := Lib.hid o4; clear b4 o4)
        | (go_at_call 13; refine (same_cv A7 A d7 d l l true (by simp) _ H4.out G4.out).mono ?_; rintro e w5 ⟨rfl, nz, hz⟩; have U5 := Lib.hid (show Below w4.heap.size w4 w5 by rw [hz]; exact below_drewN (Below.refl _ _) nz); clear hz))
      have U9 := Lib.hid (B0.out.trans ((B2.out.trans ((B4.out.trans (U5.out.mono B4.out.size)).mono B2.out.size)).mono B0.out.size))
      have W05 := Lib.hid (B2.out.trans ((B4.out.trans (U5.out.mono B4.out.size)).mono B2.out.size))
      have X9 := Lib.hid (X0.out.below W05.out X0.out.lt)
      have D9 := Lib.hid (D4.out.step U5.out)
      have O9 := Lib.hid (O4.out.step U5.out)
      obtain ⟨g, Ad, dd, hp, hm9⟩ := D9.out
      subst hp
      have M9 := Lib.hid hm9
      have hqn := fun W f a b => run_eql_func_nil (P := Try.prog) W 33 _ _ _ f a b Try.underlying33
      clear hm9 O4 D4 G2 G3 G4 H2 H3 H4 O2 D3
      go_wp2_with (go_at_call 14; refine (all_any _ kind Ad r.length dd _ (M9.out.step ((Below.refl _ _).alloc (Nat.le_refl _) _)).at_).mono ?_; rintro e w6 ⟨rfl, hz⟩; have L6 := Lib.hid (show Row w6 w5.heap.size 3 #[.int .i64 0] by rw [hz]; exact (Row.new _ _ _).alloc _); have U6 := Lib.hid (show Below w5.heap.size w5 w6 by rw [hz]; exact ((Below.refl _ _).alloc (Nat.le_refl _) _).alloc (by simp) _); clear hz; go_wp2_with (go_at_call 14; refine (all_any _ kind Ad r.length dd _ (M9.out.step U6.out).at_).mono ?_; rintro e w7 ⟨rfl, hz⟩; have L7 := Lib.hid (show Row w7 w5.heap.size 3 #[.int .i64 0] by rw [hz]; exact L6.out.alloc _); have U7 := Lib.hid (show Below w5.heap.size w5 w7 by rw [hz]; exact U6.out.alloc U6.out.size _); have S7 := Lib.hid (show Row w7 w6.heap.size 22 #[.slice Ad r.length dd] by rw [hz]; exact Row.new _ _ _); clear hz))
      have HSEQ := all_stops w6.heap.size Ad dd r w7 w5.heap.size (M9.out.small) U7.out.size S7.out.lt (S7.out.cell 0) (M9.out.vals.below U7.out)
      refine (wpIn_wide (n := 3)).1 ?_
      refine range_plain (n₀ := w5.heap.size) U7.out.size rfl (enters_of Try.func34 (by kernel_rfl) rfl) HSEQ (Below.refl _ _)
        (fun xs W => Row W w5.heap.size 3 #[.int .i64 (xs.length : Int)] ∧ Below w5.heap.size w5 W)
        (fun c xs W => c = Code.exit 0 ∧ Below w5.heap.size w5 W)
        (fun s X Y row hs hg hr => ⟨row_own (β := Unit) hs.1 hg (fun r e => (hr r e).2), (ownFrom_below (β := List (Nat × VV)) (Nat.le_refl _) U7.out.size) s X Y row hs.2 hg hr⟩)
        (fun c s X Y row hs hg hr => ⟨hs.1, (ownFrom_below (β := List (Nat × VV)) (Nat.le_refl _) U7.out.size) s X Y row hs.2 hg hr⟩) ⟨L7.out, U7.out⟩ ?assign ?body ?done ?stop
      case assign =>
        intro l x W K hK
        gi_wp2
        exact hK
      case body =>
        rintro y pre x W ⟨hL, hB⟩ hpl
        have HL := Lib.hid hL
        have HB := Lib.hid hB
        obtain ⟨p0, hp0⟩ : ∃ p0, pre.length = p0 := ⟨_, rfl⟩
        have HP0 := Lib.hid hp0
        rw [hp0] at hL hpl
        have XB := Lib.hid (X9.out.below hB X9.out.lt)
        have a0 := hL.cell 0
        have f0 := hL.frozen 0
        have c5 := XB.out.cell 0
        have hpn : p0 < 200 := by have := HML.out; omega
        have ha := add1 (a := p0) (n := 200) (by omega) (by omega)
        have hb1 : ¬ w5.heap.size = w.heap.size := by have := X9.out.lt; omega
        have hb2 : ¬ w.heap.size = w5.heap.size := by have := X9.out.lt; omega
        have keep : KeepsFrom w7.heap.size W (W.setCell ⟨w5.heap.size, 0, none⟩ (.int .i64 ((p0 : Int) + 1))) := KeepsFrom.of_grownBy (grown_set W w5.heap.size 0 _) (fun j e => by injection e with e; have := L7.out.lt; omega)
        have KEEP := Lib.hid keep
        have hrow : Row (W.setCell ⟨w5.heap.size, 0, none⟩ (.int .i64 ((p0 : Int) + 1))) w5.heap.size 3 #[.int .i64 ((pre ++ [x]).length : Int)] := by
          have hs := HL.out.set_ 0 (.int .i64 ((p0 : Int) + 1))
          rw [List.length_append, List.length_cons, List.length_nil, HP0.out]
          exact hs
        have HROW := Lib.hid hrow
        clear hL hB hp0 hpl keep hrow
        try simp only [List.setIfInBounds_toArray, List.set_cons_zero, List.set_cons_succ]
        by_cases hst : stop ≤ (p0 : Int) + 1
        · have d1 : decide (stop ≤ (p0 : Int) + 1) = true := decide_eq_true hst
          clear hst
          gi_wp2
          exact ⟨KEEP.out, rfl, HB.out.setCell (p := ⟨w5.heap.size, 0, none⟩) (Nat.le_refl _) _⟩
        · have d1 : decide (stop ≤ (p0 : Int) + 1) = false := decide_eq_false hst
          clear hst
          gi_wp2
          exact ⟨KEEP.out, (Below.refl w5.heap.size W).setCell (p := ⟨w5.heap.size, 0, none⟩) (Nat.le_refl _) _, HROW.out, HB.out.setCell (p := ⟨w5.heap.size, 0, none⟩) (Nat.le_refl _) _⟩
      case done =>
        rintro D xs u7 hD - ⟨-, hB⟩ hK
        have HK7 := Lib.hid hK
        have HD7 := Lib.hid (show w.heap.size < D by have := X9.out.lt; have := U7.out.size; omega)
        have B7 := Lib.hid (U9.out.trans (hB.mono U9.out.size))
        have D7 := Lib.hid (D9.out.step hB)
        have O7 := Lib.hid (O9.out.step hB)
        clear hK hB hD HSEQ
        go_wp2_with (first
          | (go_at_call 15; refine (told_any _ kind A4 d4 r u7 D7.out O7.out (by have := HML.out; omega)).mono ?_; rintro e u8 ⟨rfl, b8⟩; have K8 := Lib.hid (keepD HK7.out b8); have B8 := Lib.hid (B7.out.trans (b8.mono B7.out.size)); clear b8)
          | (go_at_call 10; refine (known11_any _).mono ?_; rintro e u9 ⟨rfl, b9⟩; have K9 := Lib.hid (keepD K8.out b9); have B9 := Lib.hid (B8.out.trans (b9.mono B8.out.size)); clear b9))
        have hD0 := HD7.out
        have BF : Below w.heap.size w (u9.putObj D (.deferred none)) := B9.out.trans (belowK_b (w := w) (Nat.le_refl _) _ D _ _ (by omega) K9.out rfl rfl)
        exact leaves_mark (D := D) rfl K9.out (results_tmp rfl _ _ _) ⟨rfl, BF⟩
      case stop =>
        rintro D c xs u7 hD - ⟨rfl, hB⟩ hK
        gi_wp2
        have HK7 := Lib.hid hK
        have HD7 := Lib.hid (show w.heap.size < D by have := X9.out.lt; have := U7.out.size; omega)
        have B7 := Lib.hid (U9.out.trans (hB.mono U9.out.size))
        have D7 := Lib.hid (D9.out.step hB)
        have O7 := Lib.hid (O9.out.step hB)
        clear hK hB hD HSEQ
        go_wp2_with (first
          | (go_at_call 15; refine (told_any _ kind A4 d4 r u7 D7.out O7.out (by have := HML.out; omega)).mono ?_; rintro e u8 ⟨rfl, b8⟩; have K8 := Lib.hid (keepD HK7.out b8); have B8 := Lib.hid (B7.out.trans (b8.mono B7.out.size)); clear b8)
          | (go_at_call 10; refine (known11_any _).mono ?_; rintro e u9 ⟨rfl, b9⟩; have K9 := Lib.hid (keepD K8.out b9); have B9 := Lib.hid (B8.out.trans (b9.mono B8.out.size)); clear b9))
        have hD0 := HD7.out
        have BF : Below w.heap.size w (u9.putObj D (.deferred none)) := B9.out.trans (belowK_b (w := w) (Nat.le_refl _) _ D _ _ (by omega) K9.out rfl rfl)
        exact leaves_mark (D := D) rfl K9.out (results_tmp rfl _ _ _) ⟨rfl, BF⟩
    · have HO := Lib.hid (fun W A7 d7 h => (hof W A7 d7 h).mono (R' := fun e w' => ∃ p, e = .returned (.tuple #[p, .int .i64 E]) ∧ p = .pointer none ∧ Below W.heap.size W w') fun e w' ⟨p, h1, _, h3, h4⟩ => ⟨p, h1, h3 h0, h4⟩)
      have HR := Lib.hid hrf
      have e2 : (E != 0) = true := by simp [h0]
      clear hof hrf hE hL h0
      refine (callsIn_wide (n := 3)).1 ?_
      refine callsIn_of_wp_marks Try.func3 rfl trivial ?_ rfl
      refine wpIn_wide.2 ?_
      simp only [Try.ntmps3, List.size_toArray, List.length_cons, List.length_nil, Nat.reduceAdd, Nat.reduceSub, Array.replicate_succ, Array.replicate_zero, List.push_toArray, List.append_toArray, List.nil_append, List.cons_append]
      go_wp2_with fail
      rw [← hW0]
      clear hW0
      go_wp2_with (first
        | (go_at_call 9; refine (hgc _ G0.out).mono ?_; rintro e w1 ⟨rfl, hz⟩; have hz := hz.symm; subst hz)
        | (at_builtin; refine wpList_gappv eV _ rfl _ _ _ rfl W0.heap.size sliV infV _ [] rfl (GwV.empty_ _ _ (Nat.le_refl _)) 0 W0.heap.size _ l rfl (G0.out.alloc (Nat.le_refl _) _) (by have := HN.out; simp; omega) (by simp) ?_; intro v2 w2 o2 g2 _; have B2 := Lib.hid (show Below W0.heap.size W0 w2 from ((Below.refl _ _).alloc (Nat.le_refl _) _).grown g2 (by simp) (fun k h => by injection h with h; subst h; exact Nat.le_refl _)); have O2 := Lib.hid (show GwV eV w2 W0.heap.size v2 l by simpa using o2); clear o2 g2; obtain ⟨A7, d7, hv7, -⟩ := O2.out.sl; subst hv7; have G2 := Lib.hid (G0.out.step B2.out); have H2 := Lib.hid (O2.out.sl.more (Nat.zero_le _) (Nat.le_refl _)))
        | (go_at_call 11; refine (HO.out _ A7 d7 H2.out).mono ?_; rintro e w3 ⟨p, rfl, hd, b3⟩; have B3 := Lib.hid b3; subst hd; have G3 := Lib.hid (G2.out.step b3); have H3 := Lib.hid (H2.out.step b3); clear b3)
        | (go_at_call 12; refine (HR.out _ G3.out).mono ?_; rintro e w4 ⟨A4, d4, rfl, o4, b4⟩; have B4 := Lib.hid (B3.out.trans (b4.mono B3.out.size)); have G4 := Lib.hid (G3.out.step b4); have H4 := Lib.hid (H3.out.step b4); have O4 := Lib.hid o4; clear b4 o4)
        | (go_at_call 13; refine (same_cv A7 A d7 d l l true (by simp) _ H4.out G4.out).mono ?_; rintro e w5 ⟨rfl, nz, hz⟩; have U5 := Lib.hid (show Below w4.heap.size w4 w5 by rw [hz]; exact below_drewN (Below.refl _ _) nz); clear hz)
        | (go_at_call 10; refine (known11_any _).mono ?_; rintro e w9 ⟨rfl, b9⟩; have B9 := Lib.hid (B0.out.trans ((B2.out.trans ((B4.out.trans ((U5.out.trans (b9.mono U5.out.size)).mono B4.out.size)).mono B2.out.size)).mono B0.out.size)); clear b9))
      refine leaves_ret (results_tmp rfl _ _ _) rfl ⟨rfl, B9.out⟩
end Go.Proofs.Ytjojhoaienjjeaa
