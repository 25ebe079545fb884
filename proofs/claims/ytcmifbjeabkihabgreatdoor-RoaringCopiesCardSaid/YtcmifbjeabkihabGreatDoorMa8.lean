/- Words: Flip (cut from stages 4 to 6) -/
import Derived.Test.YtcmifbjeabkihabGreatDoorMa4
import Derived.Lib.AppendZeros
import Derived.Deep.RegionWith
import Derived.Test.YtcmifbjeabkihabGreatDoorProg
import Derived.Deep.WholeRow
import Derived.Deep.MidRow
import Derived.Deep.LoopGhost
import Derived.Test.YtcmifbjeabkihabGreatDoorMa7
/- Walks: May of arrays (cut from stages 4 to 6) -/
namespace Go.Proofs.YtcmifbjeabkihabGreatDoor
open Go.RowKit
set_option linter.unusedVariables false

theorem ris_short {l : List UInt16} (h : l.length ≤ 1) : ris l = true := by
  match l, h with
  | [], _ => rfl
  | [_], _ => rfl
  | _ :: _ :: _, h => simp at h
theorem ris_drop {l : List UInt16} {k : Nat} (h : k + 1 < l.length) : ris (l.drop k) = (decide ((at16 l k).toNat < (at16 l (k + 1)).toNat) && ris (l.drop (k + 1))) := by
  rw [drop_at (Nat.lt_of_succ_lt h), drop_at h, ris]
set_option maxHeartbeats 400000 in
theorem may_any (v : Value) (l : List UInt16) (lo hi : Nat) (W : World) (hv : Gs e16 W lo hi v l) :
    Calls Tryz.prog 124 #[v] W fun e w' => e = .returned (.bool (ris l)) ∧ ∃ n, w' = W.drewN n := by
  have hlen := hv.len
  have hv0 := hv
  obtain ⟨A, c, rfl, -⟩ := hv
  have HV := Lib.hid hv0
  clear hv0
  go_enter Tryz.func124, Tryz.ntmps124
  go_wp2
  go_loopw [3] (fun i wr => ∃ k m : Nat, (k + 1 ≤ l.length ∨ k = 0) ∧ i = .int .i64 ((k : Int) + 1) ∧ wr = W.drewN m ∧ ris l = ris (l.drop k)) (fun i _ => l.length + 1 - (intOf i).toNat)
  case atStart => exact ⟨0, 0, .inr rfl, rfl, rfl, rfl⟩
  case round =>
    obtain ⟨k, m, hk, rfl, rfl, hr⟩ := hrel
    by_cases hlt : k + 1 < l.length
    · obtain ⟨b, o, c, e1, -, -, -, -, hc⟩ := HV.out.form (by rintro rfl; simp at hlt)
      injection e1 with e1 _ e2
      subst e1 e2
      have k1 := hc k _ (at16_get (by omega))
      have k2 := hc (k + 1) _ (at16_get hlt)
      have hd := ris_drop hlt
      simp only [e16, b16] at k1 k2
      obtain ⟨x, hx⟩ : ∃ x : Int, x = ((at16 l k).toNat : Int) := ⟨_, rfl⟩
      obtain ⟨y, hy⟩ : ∃ y : Int, y = ((at16 l (k + 1)).toNat : Int) := ⟨_, rfl⟩
      have hxy : ((at16 l k).toNat < (at16 l (k + 1)).toNat) ↔ x < y := by omega
      rw [← hx] at k1
      rw [← hy] at k2
      clear hc hx hy
      have w1 : IntKind.i64.wrap ((k : Int) + 1 - 1) = (k : Int) := by rw [IntKind.wrap_i64]; omega
      have hlti : (k : Int) + 1 < (l.length : Int) := by omega
      by_cases hle : y ≤ x
      · have hF : ris l = false := by
          rw [hr, hd, decide_eq_false (by rw [hxy]; omega), Bool.false_and]
        have HF := Lib.hid hF
        clear hF hd hxy hr hk
        go_wp2
        go_quiet (fail)
        go_wp2
        go_ret
        exact ⟨by rw [HF.out]; rfl, _, World.drewN_drewN ..⟩
      · have hT : ris l = ris (l.drop (k + 1)) := by
          rw [hr, hd, decide_eq_true (by rw [hxy]; omega), Bool.true_and]
        have HT := Lib.hid hT
        clear hT hd hxy hr hk
        go_wp2
        go_quiet (fail)
        go_wp2
        go_roundw
        case rel => exact ⟨k + 1, _, .inl (by omega), by go_num, rfl, HT.out⟩
        case measure => simp [intOf]; omega
    · have hT : ris l = true := by
        rw [hr]
        exact ris_short (by simp; omega)
      have HT := Lib.hid hT
      have hge : decide ((k : Int) + 1 < (l.length : Int)) = false := decide_eq_false (by omega)
      clear hT hr hk
      go_wp2
      go_ret
      exact ⟨by rw [HT.out]; rfl, _, rfl⟩
end Go.Proofs.YtcmifbjeabkihabGreatDoor
/- Walks: Find (cut from stages 4 to 6) -/
namespace Go.Proofs.YtcmifbjeabkihabGreatDoor
open Go.RowKit
set_option linter.unusedVariables false

set_option maxHeartbeats 400000 in
theorem less_any (x y : Int) (w : World) :
    Calls Tryz.prog 198 #[.int .u16 x, .int .u16 y] w fun e w' => e = .returned (.bool (decide (x < y))) ∧ w' = w := by
  go_enter Tryz.func198, Tryz.ntmps198
  go_wp2_with (go_in)
  go_ret
  exact ⟨rfl, rfl⟩
theorem bsr_stop (l : List UInt16) (x : UInt16) (f i j : Nat) (h : ¬ i < j) : bsr l x f i j = i := by
  cases f with
  | zero => rfl
  | succ f => rw [bsr, if_neg h]
set_option maxHeartbeats 1000000 in
theorem bsearch_any (v : Value) (l : List UInt16) (lo hi : Nat) (X : Int) (x : UInt16) (hx : X = x.toNat) (W : World) (hv : Gs e16 W lo hi v l) (hb : l.length ≤ 100000000) :
    Calls Tryz.prog 156 #[v, .int .u16 X] W fun e w' => e = .returned (.tuple #[.int .i64 (bs l x), .bool (fd l x)]) ∧ w' = W := by
  have hv0 := hv
  obtain ⟨A, c, rfl, -⟩ := hv
  have HV := Lib.hid hv0
  clear hv0
  go_enter Tryz.func156, Tryz.ntmps156
  go_wp2
  go_loop [7, 8] (fun s7 s8 => ∃ i j f : Nat, i ≤ j ∧ j ≤ l.length ∧ j - i ≤ f ∧ s7 = .int .i64 i ∧ s8 = .int .i64 j ∧ bs l x = bsr l x f i j) (fun s7 s8 => (intOf s8).toNat - (intOf s7).toNat)
  case atStart => exact ⟨0, l.length, l.length, Nat.zero_le _, Nat.le_refl _, by omega, rfl, rfl, rfl⟩
  case round =>
    obtain ⟨i, j, f, hij, hj, hf, rfl, rfl, hr⟩ := hrel
    by_cases hlt : i < j
    · obtain ⟨f, rfl⟩ : ∃ g, f = g + 1 := ⟨f - 1, by omega⟩
      obtain ⟨b, o, c, e1, -, -, -, -, hc⟩ := HV.out.form (by rintro rfl; simp at hj; omega)
      injection e1 with e1 _ e2
      subst e1 e2
      obtain ⟨m, hm⟩ : ∃ m, m = (i + j) / 2 := ⟨_, rfl⟩
      have hml : m < l.length := by omega
      have k1 := hc m _ (at16_get hml)
      simp only [e16, b16] at k1
      rw [bsr, if_pos hlt, ← hm] at hr
      obtain ⟨y, hy⟩ : ∃ y : Int, y = ((at16 l m).toNat : Int) := ⟨_, rfl⟩
      rw [← hy] at k1
      have hyx : ((at16 l m).toNat < x.toNat) ↔ y < X := by omega
      have hm1 : ((i : Int) + j) / 2 = m := by omega
      have hi1 : m < j := by omega
      have hi2 : i ≤ m := by omega
      clear hc hy hm
      clear hx
      have w0 : IntKind.i64.wrap ((i : Int) + j) = (i : Int) + j := by rw [IntKind.wrap_i64]; omega
      have w1 : IntKind.u64.wrap ((i : Int) + j) = (i : Int) + j := by rw [IntKind.wrap_u64]; omega
      have w2 : IntKind.i64.wrap (m : Int) = m := by rw [IntKind.wrap_i64]; omega
      have hlti : (i : Int) < j := by omega
      have hmli : (m : Int) < l.length := by omega
      by_cases hyc : y < X
      · have hr' : bs l x = bsr l x f (m + 1) j := by rw [hr, if_pos (hyx.2 hyc)]
        have HR := Lib.hid hr'
        clear hr hr' hyx
        go_wp2_with (go_at_call 198; refine (less_any y X _).mono ?_; rintro e w1 ⟨rfl, rfl⟩)
        go_round
        case rel => exact ⟨m + 1, j, f, by omega, hj, by omega, by go_num, rfl, HR.out⟩
        case measure => simp [intOf]; omega
      · have hr' : bs l x = bsr l x f i m := by rw [hr, if_neg (fun h => hyc (hyx.1 h))]
        have HR := Lib.hid hr'
        clear hr hr' hyx
        go_wp2_with (go_at_call 198; refine (less_any y X _).mono ?_; rintro e w1 ⟨rfl, rfl⟩)
        go_round
        case rel => exact ⟨i, m, f, by omega, by omega, by omega, rfl, by go_num, HR.out⟩
        case measure => simp [intOf]; omega
    · have hs : bs l x = i := by rw [hr, bsr_stop _ _ _ _ _ hlt]
      clear hr
      by_cases hi : i < l.length
      · obtain ⟨b, o, c, e1, -, -, -, -, hc⟩ := HV.out.form (by rintro rfl; simp at hi)
        injection e1 with e1 _ e2
        subst e1 e2
        have k1 := hc i _ (at16_get hi)
        simp only [e16, b16] at k1
        obtain ⟨y, hy⟩ : ∃ y : Int, y = ((at16 l i).toNat : Int) := ⟨_, rfl⟩
        rw [← hy] at k1
        have hF : fd l x = decide (y = X) := by
          unfold fd
          rw [hs, decide_eq_true hi, Bool.true_and, Bool.eq_iff_iff, decide_eq_true_eq, decide_eq_true_eq]
          omega
        clear hx
        have HF := Lib.hid hF
        have HS := Lib.hid hs
        have hii : (i : Int) < l.length := by omega
        clear hc hy hF hs
        by_cases hyx : y = X
        · go_wp2_with (go_in)
          go_ret2
          exact ⟨by rw [HF.out, HS.out]; simp [hyx], rfl⟩
        · go_wp2_with (go_in)
          go_ret2
          exact ⟨by rw [HF.out, HS.out]; simp [hyx], rfl⟩
      · have hF : fd l x = false := by
          unfold fd
          rw [hs, decide_eq_false hi, Bool.false_and]
        have HF := Lib.hid hF
        have HS := Lib.hid hs
        have hq : decide ((i : Int) < (l.length : Int)) = false := decide_eq_false (by omega)
        clear hF hs
        go_wp2
        go_ret2
        exact ⟨by rw [HF.out, HS.out]; rfl, rfl⟩
set_option maxHeartbeats 400000 in
theorem find_any (v : Value) (l : List UInt16) (lo hi : Nat) (X : Int) (x : UInt16) (hx : X = x.toNat) (W : World) (hv : Gs e16 W lo hi v l) (hb : l.length ≤ 100000000) :
    Calls Tryz.prog 109 #[v, .int .u16 X] W fun e w' => e = .returned (.tuple #[.int .i64 (bs l x), .bool (fd l x)]) ∧ w' = W := by
  have HX := Lib.hid hx
  clear hx
  go_enter Tryz.func109, Tryz.ntmps109
  go_wp2_with (go_at_call 156; refine (bsearch_any v l lo hi X x HX.out _ hv hb).mono ?_; rintro e w1 ⟨rfl, rfl⟩)
  go_ret2
  exact ⟨rfl, rfl⟩
end Go.Proofs.YtcmifbjeabkihabGreatDoor
/- Walks: Grow, Clone, Concat of numbers (cut from stages 4 to 6) -/
namespace Go.Proofs.YtcmifbjeabkihabGreatDoor
open Go.RowKit
set_option linter.unusedVariables false

/-- Slices of bytes as elements: address, length, capacity. -/
def sv (t : Option Addr × Nat × Nat) : Value := .slice t.1 t.2.1 t.2.2
def eS : Elem (Option Addr × Nat × Nat) := ⟨41, sv, (none, 0, 0), 24, fun _ => rfl, fun _ => rfl, by omega⟩
theorem zeros_size (z : Value) (hz : z.cells.size = 1) (n : Nat) : (Builtin.zeroCells z.cells n).size = n := by simp [Builtin.zeroCells, hz]
set_option maxHeartbeats 1000000 in
theorem grow_nil (n : Nat) (w : World) (hn : n ≤ 1000000000) :
    Calls Tryz.prog 200 #[.slice none 0 0, .int .i64 n] w fun e w' => ∃ A c, e = .returned (.slice A 0 c) ∧ Gw e16 w' w.heap.size (.slice A 0 c) [] ∧ Below w.heap.size w w' := by
  by_cases h0 : n = 0
  · subst h0
    go_enter Tryz.func200, Tryz.ntmps200
    go_wp2
    go_ret
    exact ⟨none, 0, rfl, Gw.nil_ _ _, Below.refl _ _⟩
  · obtain ⟨i, hi, hz, hsz, hby⟩ := info_parts inf16
    have hi' : Tryz.prog.info? 45 = some i := hi
    have hrun := fun ty => Lib.run_append_nil_zeros (P := Tryz.prog) w 41 3 ty 45 i (e16.val e16.zero) .i64 .i64 Tryz.underlying41 Tryz.underlying3 hi' hz n (by omega) (by omega) (by omega) (by rw [hby]; show n * 2 ≤ _; omega)
    have hge := grownCap_ge w n 0 45
    have hle := grownCap_le_maxLen w n 0 45 (by unfold maxLen; omega)
    generalize hG : grownCap w n 0 45 = G at *
    have hown : Gw e16 (w.drew.alloc (.cells (Builtin.zeroCells (e16.val e16.zero).cells n ++ Builtin.zeroCells (e16.val e16.zero).cells (G - n)) 45)) w.heap.size (.slice (some ⟨w.heap.size, 0, none⟩) 0 G) [] := by
      refine ⟨rfl, .inr ⟨w.heap.size, G, _, rfl, Nat.le_refl _, Row.new w.drew 45 _, Nat.zero_le _, hle, ?_, rfl⟩⟩
      rw [Array.size_append, zeros_size _ rfl, zeros_size _ rfl]
      omega
    have HO := Lib.hid hown
    have hG63 : G ≤ 9223372036854775807 := by unfold maxLen at hle; omega
    have hpos : 0 < n := by omega
    clear hown hi hi' hz hsz hby hG hle h0
    go_enter Tryz.func200, Tryz.ntmps200
    go_wp2_with (at_builtin; refine Lib.wpList_append_run _ rfl _ _ _ _ rfl _ _ rfl rfl _ _ (hrun _) ?_)
    go_ret
    exact ⟨_, _, rfl, HO.out, (Below.refl _ _).drew.alloc (Nat.le_refl _) _⟩
set_option maxHeartbeats 400000 in
theorem clone16_any (v : Value) (l : List UInt16) (lo : Nat) (w : World) (hv : Gs e16 w lo w.heap.size v l) (hb : l.length ≤ 100000000) :
    Calls Tryz.prog 125 #[v] w fun e w' => ∃ v', e = .returned v' ∧ Gw e16 w' w.heap.size v' l ∧ Below w.heap.size w w' := by
  have hv0 := hv
  obtain ⟨A, c, rfl, hc0, -, -, hbt⟩ := hv
  cases A with
  | none =>
    obtain rfl := hc0 rfl
    have hl : l = [] := by
      by_cases h : l = []
      · exact h
      · obtain ⟨b, off, e, _⟩ := hbt h
        cases e
    subst hl
    clear hc0 hbt hv0
    have hq := fun W n c => Lib.run_eql_slice_nil (P := Tryz.prog) W 41 45 none n c 0 0 Tryz.underlying41
    simp only [Option.isNone_none] at hq
    go_enter Tryz.func125, Tryz.ntmps125
    go_wp2
    go_ret
    exact ⟨_, rfl, Gw.nil_ _ _, Below.refl _ _⟩
  | some ad =>
    clear hc0 hbt
    have hq := fun W n c => Lib.run_eql_slice_nil (P := Tryz.prog) W 41 45 (some ad) n c 0 0 Tryz.underlying41
    simp only [Option.isNone_some] at hq
    go_enter Tryz.func125, Tryz.ntmps125
    go_wp2_with (at_builtin; refine wpList_gapp e16 _ rfl _ _ _ rfl w.heap.size sli16 inf16 _ [] rfl (Gw.empty_ _ _ (Nat.le_refl _)) lo w.heap.size _ l rfl (hv0.alloc (Nat.le_refl _) _) (by simp; omega) (by simp) ?_; intro v2 w2 o2 g2 _)
    go_ret
    exact ⟨v2, rfl, by simpa using o2, ((Below.refl _ _).alloc (Nat.le_refl _) _).grown g2 (by simp) (fun k h => by injection h with h; subst h; exact Nat.le_refl _)⟩
theorem flat_take (ls : List (List UInt16)) (k : Nat) (m : List UInt16) (h : ls[k]? = some m) : (ls.take (k + 1)).flatten = (ls.take k).flatten ++ m := by
  rw [List.take_add_one, h, Option.toList_some, List.flatten_append]
  simp
theorem flat_le (ls : List (List UInt16)) (k : Nat) : (ls.take k).flatten.length ≤ ls.flatten.length := by
  have h := congrArg (fun l => (List.flatten l).length) (List.take_append_drop k ls)
  simp only [List.flatten_append, List.length_append] at h
  omega
/-- How many the first k rows have. -/
def fl (ls : List (List UInt16)) (k : Nat) : Nat := (ls.take k).flatten.length
theorem fl_zero (ls : List (List UInt16)) : fl ls 0 = 0 := by simp [fl]
theorem fl_succ (ls : List (List UInt16)) (k : Nat) (m : List UInt16) (h : ls[k]? = some m) : fl ls (k + 1) = fl ls k + m.length := by unfold fl; rw [flat_take ls k m h, List.length_append]
theorem fl_le (ls : List (List UInt16)) (k : Nat) : fl ls k ≤ ls.flatten.length := flat_le ls k
set_option maxHeartbeats 1000000 in
set_option maxRecDepth 100000 in
theorem concat_any (v : Value) (ts : List (Option Addr × Nat × Nat)) (ls : List (List UInt16)) (lo : Nat) (w : World) (hv : Gs eS w lo w.heap.size v ts) (hl : ls.length = ts.length)
    (he : ∀ (i : Nat) t m, ts[i]? = some t → ls[i]? = some m → Gs e16 w 0 w.heap.size (sv t) m) (hb : ls.flatten.length ≤ 100000000) :
    Calls Tryz.prog 161 #[v] w fun e w' => ∃ v', e = .returned v' ∧ Gw e16 w' w.heap.size v' ls.flatten ∧ Below w.heap.size w w' := by
  have hlen := hv.len
  have HV := Lib.hid hv
  have HE := Lib.hid he
  have HL := Lib.hid hl
  obtain ⟨A, c, rfl, -, -, -, hcell⟩ := hv
  have HC := Lib.hid hcell
  clear hcell he hl
  have HB := Lib.hid hb
  clear hb
  go_enter Tryz.func161, Tryz.ntmps161
  go_wp2
  go_loop [3, 11] (fun n i => ∃ k : Nat, k ≤ ts.length ∧ i = .int .i64 k ∧ n = .int .i64 (fl ls k)) (fun _ i => ts.length - (intOf i).toNat)
  case atStart => exact ⟨0, by omega, rfl, by rw [fl_zero]; rfl⟩
  case round =>
    obtain ⟨k, hk, rfl, rfl⟩ := hrel
    by_cases hlt : k < ts.length
    · obtain ⟨b, off, rfl, -, -, hc⟩ := HC.out (by rintro rfl; simp at hlt)
      obtain ⟨t, ht⟩ : ∃ t, ts[k]? = some t := ⟨_, List.getElem?_eq_getElem hlt⟩
      obtain ⟨m, hm⟩ : ∃ m, ls[k]? = some m := ⟨_, List.getElem?_eq_getElem (by have := HL.out; omega)⟩
      have hck := hc k t ht
      obtain ⟨A1, n1, c1⟩ := t
      simp only [eS, sv] at hck
      obtain ⟨_, _, e, -, -, -, -⟩ := HE.out k _ m ht hm
      unfold sv at e
      injection e with _ e2 _
      simp only at e2
      have hs := fl_succ ls k m hm
      have hs2 := fl_le ls (k + 1)
      have hs3 := HB.out
      rw [← e2] at hs
      have hsum : (fl ls k : Int) + n1 ≤ 100000000 := by omega
      have HS := Lib.hid hs
      clear hc e2 hs2 hs3 hs ht hm
      go_wp2
      go_round
      case rel => exact ⟨k + 1, hlt, by go_num, by rw [HS.out]; go_num⟩
      case measure => simp [intOf]; omega
    · obtain rfl : k = ts.length := by omega
      have hT : fl ls ts.length ≤ 1000000000 := by have := fl_le ls ts.length; have := HB.out; omega
      go_wp2_with (go_at_call 200; refine (grow_nil (fl ls ts.length) _ hT).mono ?_; rintro e w1 ⟨A1, c1, rfl, o1, b1⟩; have O1 := Lib.hid o1; have B1 := Lib.hid b1; clear o1 b1)
      go_loopw [6, 27] (fun u i wr => ∃ k : Nat, k ≤ ts.length ∧ i = .int .i64 k ∧ Gw e16 wr w.heap.size u (ls.take k).flatten ∧ Below w.heap.size w wr) (fun _ i _ => ts.length - (intOf i).toNat)
      case atStart => exact ⟨0, by omega, rfl, by simpa using O1.out, B1.out⟩
      case round =>
        obtain ⟨k, hk, rfl, ok, bk⟩ := hrel
        have OK := Lib.hid ok
        have BK := Lib.hid bk
        clear ok bk
        by_cases hlt : k < ts.length
        · obtain ⟨b, off, rfl, -, h2, hc⟩ := HC.out (by rintro rfl; simp at hlt)
          obtain ⟨t, ht⟩ : ∃ t, ts[k]? = some t := ⟨_, List.getElem?_eq_getElem hlt⟩
          obtain ⟨m, hm⟩ : ∃ m, ls[k]? = some m := ⟨_, List.getElem?_eq_getElem (by have := HL.out; omega)⟩
          have hck : wr.cell? ⟨b, off + k, none⟩ = some (eS.val t) := (BK.out.cell (by exact h2)).trans (hc k t ht)
          have HM := Lib.hid (HE.out k _ m ht hm)
          obtain ⟨A2, n2, c2⟩ := t
          simp only [eS, sv] at hck
          have hs1 := flat_take ls k m hm
          have hs2 := flat_le ls (k + 1)
          have hl2 : (ls.take k).flatten.length + m.length ≤ 1000000000 := by have := HB.out; rw [hs1, List.length_append] at hs2; omega
          have HS := Lib.hid hs1
          clear hc hs1 hs2 ht hm
          go_wp2_with (at_builtin; refine wpList_gapp e16 _ rfl _ _ _ rfl w.heap.size sli16 inf16 _ _ rfl OK.out 0 w.heap.size _ m rfl (HM.out.below BK.out) hl2 BK.out.size ?_; intro v4 w4 o4 g4 hh; clear hh; have O4 := Lib.hid o4; have B4 := Lib.hid (BK.out.grown g4 BK.out.size (fun j hj => (OK.out.lt j hj).1)); clear o4 g4)
          go_roundw
          case rel => exact ⟨k + 1, hlt, by go_num, by rw [HS.out]; exact O4.out, B4.out⟩
          case measure => simp [intOf]; omega
        · obtain rfl : k = ts.length := by omega
          go_wp2
          go_ret
          exact ⟨_, rfl, by have := OK.out; rwa [← HL.out, List.take_length] at this, BK.out⟩
end Go.Proofs.YtcmifbjeabkihabGreatDoor
/- Walks: With (cut from stages 4 to 6) -/
namespace Go.Proofs.YtcmifbjeabkihabGreatDoor
open Go.RowKit
set_option linter.unusedVariables false

set_option maxHeartbeats 1000000 in
/-- The three parts that With joins. -/
theorem join_any (l : List UInt16) (lo : Nat) (X : Int) (x : UInt16) (hx : X = x.toNat) (w : World) (A1 A3 : Option Addr) (n1 c1 n3 c3 : Nat) (l1 l3 : List UInt16) (h1 : Gs e16 w lo w.heap.size (.slice A1 n1 c1) l1) (h3 : Gs e16 w lo w.heap.size (.slice A3 n3 c3) l3)
    (hw : wi l x = l1 ++ x :: l3) (hb : (wi l x).length ≤ 100000000) :
    Calls Tryz.prog 161 #[.slice (some ⟨w.heap.size + 1, 0, none⟩) 3 3] ((w.alloc (.cells #[.int .u16 X] 45)).alloc (.cells #[.slice A1 n1 c1, .slice (some ⟨w.heap.size, 0, none⟩) 1 1, .slice A3 n3 c3] 41)).drew
      fun e w' => ∃ v', e = .returned v' ∧ Gw e16 w' w.heap.size v' (wi l x) ∧ Below w.heap.size w w' := by
  subst hx
  have B0 := (Below.refl w.heap.size w).alloc (Nat.le_refl _) (.cells #[.int .u16 (x.toNat : Int)] 45)
  have B1 := B0.alloc B0.size (.cells #[.slice A1 n1 c1, .slice (some ⟨w.heap.size, 0, none⟩) 1 1, .slice A3 n3 c3] 41)
  have X2 := ((Gw.lit (k := e16) w w.heap.size (Nat.le_refl _) [x] #[.int .u16 (x.toNat : Int)] 1 (by rfl) rfl (by omega)).alloc (.cells #[.slice A1 n1 c1, .slice (some ⟨w.heap.size, 0, none⟩) 1 1, .slice A3 n3 c3] 41)).sl
  have G := (Gw.lit (k := eS) (w.alloc (.cells #[.int .u16 (x.toNat : Int)] 45)) (w.heap.size + 1) (by simp) [(A1, n1, c1), (some ⟨w.heap.size, 0, none⟩, 1, 1), (A3, n3, c3)] #[.slice A1 n1 c1, .slice (some ⟨w.heap.size, 0, none⟩) 1 1, .slice A3 n3 c3] 3 (by rfl) rfl (by omega)).sl
  have hfl : wi l x = [l1, [x], l3].flatten := by rw [hw]; simp
  rw [hfl] at hb ⊢
  have hs1 : (w.alloc (.cells #[.int .u16 (x.toNat : Int)] 45)).heap.size = w.heap.size + 1 := by simp
  rw [hs1] at G
  refine (concat_any _ [(A1, n1, c1), (some ⟨w.heap.size, 0, none⟩, 1, 1), (A3, n3, c3)] [l1, [x], l3] _ _ (by exact G) rfl ?_ hb).mono ?_
  · intro i t m g1 g2
    match i with
    | 0 => simp only [List.getElem?_cons_zero, Option.some.injEq] at g1 g2; subst g1 g2; exact (h1.below B1).more (Nat.zero_le _) (by simp; omega)
    | 1 => simp only [List.getElem?_cons_zero, List.getElem?_cons_succ, Option.some.injEq] at g1 g2; subst g1 g2; exact X2.more (Nat.zero_le _) (by simp)
    | 2 => simp only [List.getElem?_cons_zero, List.getElem?_cons_succ, Option.some.injEq] at g1 g2; subst g1 g2; exact (h3.below B1).more (Nat.zero_le _) (by simp; omega)
    | j + 3 => simp at g1
  rintro e w4 ⟨v4, rfl, o4, b4⟩
  exact ⟨v4, rfl, o4.more (by simp; omega), B1.drew.trans (b4.mono (by simp; omega))⟩
set_option maxHeartbeats 1000000 in
theorem with_any (v : Value) (l : List UInt16) (lo : Nat) (X : Int) (x : UInt16) (hx : X = x.toNat) (w : World) (hv : Gs e16 w lo w.heap.size v l) (hb : l.length ≤ 1000000) :
    Calls Tryz.prog 114 #[v, .int .u16 X] w fun e w' => ∃ v', e = .returned v' ∧ Gw e16 w' w.heap.size v' (wi l x) ∧ Below w.heap.size w w' := by
  have HX := Lib.hid hx
  clear hx
  have HV := Lib.hid hv
  have hcap : ∀ {A c}, v = .slice A l.length c → l.length ≤ c ∧ c ≤ 9223372036854775807 := fun e => Gs.cap_le (e ▸ hv)
  have hle := bs_le l x
  cases hF : fd l x with
  | true =>
    clear hv hcap
    go_enter Tryz.func114, Tryz.ntmps114
    go_wp2_with (first | (go_at_call 109; refine (find_any v l lo _ X x HX.out _ HV.out (by omega)).mono ?_; rintro e w1 ⟨rfl, rfl⟩) | (go_at_call 125; refine (clone16_any v l lo _ HV.out (by omega)).mono ?_; rintro e w2 ⟨v2, rfl, o2, b2⟩))
    go_ret
    exact ⟨_, rfl, by unfold wi; rw [if_pos hF]; exact o2, b2⟩
  | false =>
    obtain ⟨A, c, rfl, -⟩ := hv
    obtain ⟨hc1, hc2⟩ := hcap rfl
    obtain ⟨n, hn⟩ : ∃ n, n = bs l x := ⟨_, rfl⟩
    have HN := Lib.hid hn
    rw [← hn] at hle
    have hni : (n : Int) ≤ l.length := by omega
    have hci : (l.length : Int) ≤ c := by omega
    have hbi : (l.length : Int) ≤ 1000000 := by omega
    clear hn
    have hwi : wi l x = l.take n ++ x :: l.drop n := by unfold wi; rw [if_neg (by simp [hF]), HN.out]
    have hwl : (wi l x).length ≤ 100000000 := by rw [wi_len, hF]; simp; omega
    have h1 := HV.out.take hle
    have w1 : IntKind.i64.wrap ((l.length : Int) - n) = (l.length : Int) - n := by rw [IntKind.wrap_i64]; omega
    by_cases hcn : c = n
    · obtain rfl : n = l.length := by omega
      obtain rfl := hcn
      have h3 := HV.out.gone (Nat.le_refl _) rfl
      rw [Nat.sub_self] at h3
      have J := Lib.hid (join_any l lo X x HX.out w _ _ _ _ _ _ _ _ h1 h3 hwi hwl)
      clear hwi hwl h1 h3 hcap hni hci hle w1 hc1
      go_enter Tryz.func114, Tryz.ntmps114
      go_wp2_with (go_at_call 109; refine (find_any _ l lo _ X x HX.out _ HV.out (by omega)).mono ?_; rintro e wz ⟨rfl, hz⟩; have hz := hz.symm; subst hz; rw [← HN.out])
      go_region_with (first | (go_at_call 161; refine J.out.mono ?_; rintro e w9 ⟨v9, rfl, o9, b9⟩; clear J; obtain ⟨A5, c5, rfl, -⟩ := o9.sl; have O9 := Lib.hid o9; have B9 := Lib.hid b9; clear o9 b9))
      all_goals
        go_wp2
        go_ret
        exact ⟨_, rfl, O9.out, B9.out⟩
    · have J := Lib.hid (join_any l lo X x HX.out w _ _ _ _ _ _ _ _ h1 (HV.out.tail hle hcn) hwi hwl)
      clear hwi hwl h1 hcap
      go_enter Tryz.func114, Tryz.ntmps114
      go_wp2_with (go_at_call 109; refine (find_any _ l lo _ X x HX.out _ HV.out (by omega)).mono ?_; rintro e wz ⟨rfl, hz⟩; have hz := hz.symm; subst hz; rw [← HN.out])
      go_region_with (first | (go_at_call 161; refine J.out.mono ?_; rintro e w9 ⟨v9, rfl, o9, b9⟩; clear J; obtain ⟨A5, c5, rfl, -⟩ := o9.sl; have O9 := Lib.hid o9; have B9 := Lib.hid b9; clear o9 b9))
      all_goals
        go_wp2
        go_ret
        exact ⟨_, rfl, O9.out, B9.out⟩
end Go.Proofs.YtcmifbjeabkihabGreatDoor
/- Walks: Runs of arrays (cut from stages 4 to 6) -/
namespace Go.Proofs.YtcmifbjeabkihabGreatDoor
open Go.RowKit
set_option linter.unusedVariables false

theorem rn_some_drop {l : List UInt16} {k : Nat} (h : k + 1 < l.length) : rn (some (at16 l k)) (l.drop (k + 1)) = (if (at16 l (k + 1) - at16 l k).toNat = 1 then 0 else 1) + rn (some (at16 l (k + 1))) (l.drop (k + 1 + 1)) := by
  rw [drop_at h, rn]
theorem sub16 (x p : UInt16) : (((x - p).toNat : Nat) : Int) = IntKind.u16.wrap ((x.toNat : Int) - (p.toNat : Int)) := by
  have := x.toNat_lt
  have := p.toNat_lt
  rw [UInt16.toNat_sub]
  simp [IntKind.wrap, IntKind.bits, IntKind.signed]
  omega
set_option maxHeartbeats 1000000 in
theorem runs_any (v : Value) (l : List UInt16) (lo hi : Nat) (W : World) (hv : Gs e16 W lo hi v l) (hb : l.length ≤ 100000000) :
    Calls Tryz.prog 190 #[v] W fun e w' => e = .returned (.int .i64 (rn none l)) ∧ ∃ n, w' = W.drewN n := by
  have hv0 := hv
  obtain ⟨A, c, rfl, -⟩ := hv
  have HV := Lib.hid hv0
  clear hv0
  go_enter Tryz.func190, Tryz.ntmps190
  go_wp2
  go_loopw [3, 8] (fun s3 s8 wr => ∃ k n m : Nat, k ≤ l.length ∧ n ≤ k ∧ s8 = .int .i64 k ∧ s3 = .int .i64 n ∧ wr = W.drewN m ∧ n + rn (if k = 0 then none else some (at16 l (k - 1))) (l.drop k) = rn none l) (fun _ s8 _ => l.length - (intOf s8).toNat)
  case atStart => exact ⟨0, 0, 0, Nat.zero_le _, Nat.le_refl _, rfl, rfl, rfl, by simp⟩
  case round =>
    obtain ⟨k, n, m, hk, hnk, rfl, rfl, rfl, hr⟩ := hrel
    by_cases hlt : k < l.length
    · obtain ⟨b, o, c, e1, -, -, -, -, hc⟩ := HV.out.form (by rintro rfl; simp at hlt)
      injection e1 with e1 _ e2
      subst e1 e2
      have hn0 : (n : Int) ≤ 100000000 := by omega
      have k2 := hc k _ (at16_get hlt)
      simp only [e16, b16] at k2
      cases k with
      | zero =>
        have hr2 : n + 1 + rn (some (at16 l 0)) (l.drop 1) = rn none l := by rw [if_pos rfl, drop_at hlt, rn, Nat.zero_add] at hr; omega
        have HR := Lib.hid hr2
        obtain ⟨y, hy⟩ : ∃ y : Int, y = ((at16 l 0).toNat : Int) := ⟨_, rfl⟩
        rw [← hy] at k2
        rw [Nat.add_zero] at k2
        clear hc hr hr2 hy
        go_wp2
        go_roundw
        case rel => exact ⟨1, n + 1, _, hlt, by omega, by go_num, by go_num, rfl, by simpa using HR.out⟩
        case measure => simp [intOf]; omega
      | succ k =>
        have k1 := hc k _ (at16_get (by omega))
        simp only [e16, b16] at k1
        rw [if_neg (by omega), Nat.add_sub_cancel, rn_some_drop hlt] at hr
        have hs := sub16 (at16 l (k + 1)) (at16 l k)
        obtain ⟨y, hy⟩ : ∃ y : Int, y = ((at16 l (k + 1)).toNat : Int) := ⟨_, rfl⟩
        obtain ⟨x, hx⟩ : ∃ x : Int, x = ((at16 l k).toNat : Int) := ⟨_, rfl⟩
        rw [← hy] at k2
        rw [← hx] at k1
        rw [← hy, ← hx] at hs
        obtain ⟨z, hz⟩ : ∃ z : Int, z = IntKind.u16.wrap (y - x) := ⟨_, rfl⟩
        rw [← hz] at hs
        have q1 : (((k + 1 : Nat) : Int) == 0) = false := by simp; omega
        have q2 : (((k : Int) + 1) == 0) = false := by simp; omega
        have w1 : IntKind.i64.wrap ((k : Int) + 1 - 1) = (k : Int) := by rw [IntKind.wrap_i64]; omega
        have hz' := hz.symm
        clear hc hx hy hz
        by_cases h1 : z = 1
        · rw [if_pos (by omega)] at hr
          have HR := Lib.hid hr
          have q3 : (z == 1) = true := by simp [h1]
          have q4 : (z != 1) = false := by simp [h1]
          clear hr hs h1
          go_wp2
          go_roundw
          case rel => exact ⟨k + 1 + 1, n, _, hlt, by omega, by go_num, rfl, rfl, by have := HR.out; rw [if_neg (by omega), Nat.add_sub_cancel]; omega⟩
          case measure => simp [intOf]; omega
        · rw [if_neg (by omega)] at hr
          have HR := Lib.hid hr
          have q3 : (z == 1) = false := by simp [h1]
          have q4 : (z != 1) = true := by simp [h1]
          clear hr hs h1
          go_wp2
          go_roundw
          case rel => exact ⟨k + 1 + 1, n + 1, _, hlt, by omega, by go_num, by go_num, rfl, by have := HR.out; rw [if_neg (by omega), Nat.add_sub_cancel]; omega⟩
          case measure => simp [intOf]; omega
    · obtain rfl : k = l.length := by omega
      have hr2 : rn none l = n := by
        rw [List.drop_of_length_le (Nat.le_refl _)] at hr
        rw [← hr]
        cases (if l.length = 0 then none else some (at16 l (l.length - 1))) <;> rfl
      have HR := Lib.hid hr2
      clear hr hr2
      go_wp2
      go_ret
      exact ⟨by rw [HR.out]; rfl, _, rfl⟩
end Go.Proofs.YtcmifbjeabkihabGreatDoor
/- The marks: Of (cut from stages 4 to 6) -/
namespace Go.Proofs.YtcmifbjeabkihabGreatDoor
open Go.RowKit
set_option linter.unusedVariables false

/-- 64, and twice as many with each step. -/
def pw : Nat → Nat
  | 0 => 64
  | k + 1 => pw k + pw k
theorem rep_app {α : Type} {x : α} {k : Nat} {a b : List α} (ha : a = List.replicate (pw k) x) (hb : b = List.replicate (pw k) x) : List.append a b = List.replicate (pw (k + 1)) x := by
  subst ha hb
  exact List.replicate_append_replicate
/-- No mark. -/
def noMark : Value := .bool false
theorem rep_64 : [noMark, noMark, noMark, noMark, noMark, noMark, noMark, noMark, noMark, noMark, noMark, noMark, noMark, noMark, noMark, noMark, noMark, noMark, noMark, noMark, noMark, noMark, noMark, noMark, noMark, noMark, noMark, noMark, noMark, noMark, noMark, noMark, noMark, noMark, noMark, noMark, noMark, noMark, noMark, noMark, noMark, noMark, noMark, noMark, noMark, noMark, noMark, noMark, noMark, noMark, noMark, noMark, noMark, noMark, noMark, noMark, noMark, noMark, noMark, noMark, noMark, noMark, noMark, noMark] = List.replicate (pw 0) noMark := rfl
/-- The cells of the marks p. -/
def mA (n : Nat) (p : Nat → Bool) : Array Value := Array.ofFn (n := n) fun j => Value.bool (p j.val)
theorem mA_size (n : Nat) (p : Nat → Bool) : (mA n p).size = n := by simp [mA]
theorem mA_one (n : Nat) (p : Nat → Bool) : (mA n p).all (·.oneCell') = true := by
  rw [Array.all_eq_true]
  intro i h
  simp [mA, Value.oneCell']
theorem mA_at (n : Nat) (p : Nat → Bool) (x : Nat) (h : x < n) : (mA n p)[x]? = some (.bool (p x)) := by
  rw [Array.getElem?_eq_getElem (by simpa [mA] using h)]
  simp [mA]
theorem mA_set (n : Nat) (p : Nat → Bool) (x : Nat) (b : Bool) : (mA n p).setIfInBounds x (.bool b) = mA n (fun i => if i = x then b else p i) := by
  apply Array.ext
  · simp [mA]
  · intro i h1 h2
    rw [Array.getElem_setIfInBounds (by simpa using h1)]
    simp only [mA, Array.getElem_ofFn]
    by_cases h : x = i
    · subst h
      simp
    · rw [if_neg h, if_neg (fun e => h e.symm)]
theorem mA_rep (n : Nat) : (List.replicate n noMark).toArray = mA n fun _ => false := by
  apply Array.ext
  · simp only [List.size_toArray, List.length_replicate, mA_size]
  · intro i h1 h2
    simp only [mA, Array.getElem_ofFn, List.getElem_toArray, List.getElem_replicate]
    rfl
theorem pw10 : pw 10 = 65536 := by simp [pw]
end Go.Proofs.YtcmifbjeabkihabGreatDoor
/- The marks: List (cut from stages 4 to 6) -/
namespace Go.Proofs.YtcmifbjeabkihabGreatDoor
open Go.RowKit
set_option linter.unusedVariables false

/-- The marks when k of them are made. -/
def up (f : Bool → Bool → Bool) (p q : Nat → Bool) (k : Nat) (i : Nat) : Bool := if i < k then f (p i) (q i) else false
theorem up_zero (f : Bool → Bool → Bool) (p q : Nat → Bool) : up f p q 0 = fun _ => false := by funext i; simp [up]
theorem up_full (n : Nat) (f : Bool → Bool → Bool) (p q : Nat → Bool) : mA n (up f p q n) = mA n fun i => f (p i) (q i) := by
  unfold mA
  congr 1
  funext j
  simp [up]
theorem up_succ (n : Nat) (f : Bool → Bool → Bool) (p q : Nat → Bool) (k : Nat) (b : Bool) (h : f (p k) (q k) = b) : mA n (up f p q (k + 1)) = (mA n (up f p q k)).setIfInBounds k (.bool b) := by
  rw [mA_set]
  unfold mA
  congr 1
  funext j
  congr 1
  show (if j.val < k + 1 then f (p j.val) (q j.val) else false) = (if j.val = k then b else if j.val < k then f (p j.val) (q j.val) else false)
  by_cases hj : j.val = k
  · rw [if_pos (by omega), if_pos hj, hj, h]
  · rw [if_neg hj]
    have : (j.val < k + 1 ↔ j.val < k) := by omega
    simp only [this]
theorem below_set {w wr : World} {B g i : Nat} {u : Value} (h : Below B w wr) (hB : B ≤ wr.heap.size) (hg : B ≤ g) : Below B w (wr.setCell ⟨g, i, none⟩ u) :=
  h.grown (grown_set _ _ _ _) hB (fun j e => by injection e with e; subst e; exact hg)
end Go.Proofs.YtcmifbjeabkihabGreatDoor
/- Whether two rows are the same; calls that keep what is below (cut from stages 4 to 6) -/
namespace Go.Proofs.YtcmifbjeabkihabGreatDoor
open Go.RowKit
set_option linter.unusedVariables false

theorem take_succ_eq {l m : List UInt16} {k : Nat} (hl : k < l.length) (hm : k < m.length) (h : l.take k = m.take k) (he : at16 l k = at16 m k) : l.take (k + 1) = m.take (k + 1) := by
  rw [List.take_add_one, List.take_add_one, h, at16_get hl, at16_get hm, he]
theorem below_drew {W : World} (n : Nat) : Below W.heap.size W (W.drewN n) := below_drewN (Below.refl _ _) n
theorem runs_b (v : Value) (l : List UInt16) (lo hi : Nat) (W : World) (hv : Gs e16 W lo hi v l) (hb : l.length ≤ 100000000) :
    Calls Tryz.prog 190 #[v] W fun e w' => e = .returned (.int .i64 (rn none l)) ∧ Below W.heap.size W w' :=
  (runs_any v l lo hi W hv hb).mono fun e w' ⟨h1, n, h2⟩ => ⟨h1, h2 ▸ below_drew n⟩
theorem u16_wf {a : Int} (h : (Lit.int .u16 a).wf = true) : ∃ x : UInt16, a = x.toNat := by
  simp [Lit.wf, IntKind.min, IntKind.max, IntKind.bits, IntKind.signed] at h
  exact ⟨UInt16.ofNat a.toNat, by rw [u16_of _ (by omega)]; omega⟩
theorem lit16 (w : World) (l : List UInt16) (cs : Array Value) (n : Nat) (hcs : cs = (l.map e16.val).toArray) (hn : l.length = n) (hs : n ≤ 1000) :
    Gs e16 (w.alloc (.cells cs 45)) 0 (w.alloc (.cells cs 45)).heap.size (.slice (some ⟨w.heap.size, 0, none⟩) n n) l :=
  (Gw.lit (k := e16) w w.heap.size (Nat.le_refl _) l cs n hcs hn hs).sl.more (Nat.zero_le _) (Nat.le_refl _)
end Go.Proofs.YtcmifbjeabkihabGreatDoor
namespace Go.Proofs.YtcmifbjeabkihabGreatDoor
open Go.RowKit
set_option linter.unusedVariables false

theorem xor_lt {a b : Nat} (ha : a < 18446744073709551616) (hb : b < 18446744073709551616) : a ^^^ b < 18446744073709551616 := Nat.xor_lt_two_pow (n := 64) ha hb
/-- A set, but that each number from lo on, below hi, is there just if it was not. -/
def flp (p : Nat → Bool) (lo hi : Int) (x : Nat) : Bool := p x != (decide (lo ≤ (x : Int)) && decide ((x : Int) < hi))
theorem flip_bit (l : List UInt64) (lo hi : Int) (i a j : Nat) (hi1 : i < 1024) (ha : a = (l.getD i 0).toNat) (hj : j < 64) :
    (a ^^^ (bl2 (cl hi) i &&& (bl2 (cl hi) i ^^^ bl2 (cl lo) i))).testBit j = flp (wb l) lo hi (64 * i + j) := by
  rw [Nat.testBit_xor, Nat.testBit_and, Nat.testBit_xor, bl2_bit _ _ _ hj, bl2_bit _ _ _ hj, ha, wb_at _ _ _ hj]
  unfold flp cl
  have e1 : decide (64 * i + j < (min (max hi 0) 65536).toNat) = decide (((64 * i + j : Nat) : Int) < hi) := decide_eq_decide.2 (by omega)
  have e2 : decide (64 * i + j < (min (max lo 0) 65536).toNat) = !decide (lo ≤ ((64 * i + j : Nat) : Int)) := by
    rw [← decide_not]
    exact decide_eq_decide.2 (by omega)
  rw [e1, e2]
  cases wb l (64 * i + j) <;> cases decide (lo ≤ ((64 * i + j : Nat) : Int)) <;> cases decide (((64 * i + j : Nat) : Int) < hi) <;> rfl
set_option maxHeartbeats 4000000 in
set_option maxRecDepth 100000 in
theorem wflip_any (v : Value) (l : List UInt64) (blo : Nat) (lo hi : Int) (w : World) (hv : Gs e64 w blo w.heap.size v l) :
    Calls Tryz.prog 202 #[v, .int .i64 lo, .int .i64 hi] w fun e w' => ∃ v', e = .returned v' ∧ Gw e64 w' w.heap.size v' (wm (flp (wb l) lo hi)) ∧ Below w.heap.size w w' := by
  have HV := Lib.hid hv
  obtain ⟨A1, c1, rfl, -⟩ := hv
  obtain ⟨L, hL⟩ : ∃ L, L = cl lo := ⟨_, rfl⟩
  obtain ⟨H, hH⟩ : ∃ H, H = cl hi := ⟨_, rfl⟩
  have HL := Lib.hid hL
  have HH := Lib.hid hH
  clear hL hH
  go_enter Tryz.func202, Tryz.ntmps202
  go_wp2_with fail
  go_at_call 181
  refine (within_any lo _).mono ?_
  rw [← HL.out]
  rintro e w1 ⟨rfl, hz⟩
  have hz := hz.symm
  subst hz
  go_wp2_with fail
  go_at_call 181
  refine (within_any hi _).mono ?_
  rw [← HH.out]
  rintro e w1 ⟨rfl, hz⟩
  have hz := hz.symm
  subst hz
  go_wp2_with (at_make; refine wpList_gfull e64 _ rfl _ _ _ rfl sli64 inf64 _ _ _ _ 1024 rfl rfl rfl rfl (by omega) ?_; intro w1 o1 g1; have O1 := Lib.hid o1; have B1 := Lib.hid (below_of_grown g1 (fun k h => by cases h)); clear o1 g1)
  go_loopw [14] (fun i wr => ∃ k : Nat, k ≤ 1024 ∧ i = .int .i64 k ∧ Gw e64 wr w.heap.size (.slice (some ⟨w.heap.size, 0, none⟩) 1024 1024) (wm (pp (flp (wb l) lo hi) k)) ∧ Below w.heap.size w wr) (fun i _ => ((1024 : Int) - intOf i).toNat)
  case atStart => exact ⟨0, Nat.zero_le _, rfl, by have := O1.out; rw [show e64.zero = (0 : UInt64) from rfl, wm_none, pp_none (flp (wb l) lo hi)] at this; exact this, B1.out⟩
  case round =>
    obtain ⟨k, hk, rfl, ok, hbl⟩ := hrel
    have OK := Lib.hid ok
    have HB := Lib.hid hbl
    by_cases hlt : k < 1024
    · obtain ⟨a, ha⟩ : ∃ a, a = (l.getD k 0).toNat := ⟨_, rfl⟩
      have ha1 : a < 18446744073709551616 := by rw [ha]; exact u64_lt _
      obtain ⟨z, hz⟩ : ∃ z : Nat, z = ((wm (pp (flp (wb l) lo hi) k)).getD k 0).toNat := ⟨_, rfl⟩
      obtain ⟨k1, k2⟩ := wm_cell ok rfl k z hlt hz
      have hq := pp_step (flp (wb l) lo hi) k (a ^^^ (bl2 H k &&& (bl2 H k ^^^ bl2 L k))) (fun j hj => by rw [HH.out, HL.out]; exact flip_bit l lo hi k a j hlt ha hj)
      have hn1 := not_lt' (b := bl2 H k ^^^ bl2 L k) (bl2_lt H k)
      have hy1 := xor_lt ha1 hn1
      have HP0 : bits .xor .u64 (a : Int) (bits .andNot .u64 (bl2 H k : Int) (bl2 L k : Int)) = ((a ^^^ (bl2 H k &&& (bl2 H k ^^^ bl2 L k)) : Nat) : Int) := by
        rw [bits_andNot_u64 _ _ (bl2_lt H k) (bl2_lt L k)]
        exact bits_xor_u64 _ _ ha1 hn1
      have hki : (k : Int) < 1024 := by omega
      have HP := Lib.hid HP0
      have HQ := Lib.hid hq
      have HY := Lib.hid hy1
      have HA := Lib.hid ha
      have HI := Lib.hid hlt
      have HI1 := Lib.hid (show k ≤ 1023 by omega)
      have HL1 : L ≤ 65536 := by rw [HL.out]; exact cl_le _
      have HH1 : H ≤ 65536 := by rw [HH.out]; exact cl_le _
      have HL2 := Lib.hid HL1
      have HH2 := Lib.hid HH1
      clear ha ha1 hz hq hn1 hy1 HP0 ok hbl hlt hk HL1 HH1
      go_wp2_with fail
      go_at_call 157
      refine (at_of (.slice A1 l.length c1) l blo w.heap.size k k a rfl HA.out _ (HV.out.below HB.out)).mono ?_
      rintro e w1 ⟨rfl, hz⟩
      have hz := hz.symm
      subst hz
      go_wp2_with fail
      go_at_call 183
      refine (below_any H k _ HH2.out HI1.out).mono ?_
      rintro e w1 ⟨rfl, hz⟩
      have hz := hz.symm
      subst hz
      go_wp2_with fail
      go_at_call 183
      refine (below_any L k _ HL2.out HI1.out).mono ?_
      rintro e w1 ⟨rfl, hz⟩
      have hz := hz.symm
      subst hz
      go_wp2
      rw [HP.out]
      refine ⟨⟨k + 1, HI.out, by go_num, wm_stored OK.out k _ HY.out HI.out HQ.out, HB.out.grown (grown_set _ _ _ _) HB.out.size (fun j h => by injection h with h; subst h; exact Nat.le_refl _)⟩, by simp [intOf]; omega⟩
    · obtain rfl : k = 1024 := by omega
      rw [pp_all] at ok
      have OK := Lib.hid ok
      clear ok hbl
      go_wp2
      go_ret
      exact ⟨_, rfl, OK.out, HB.out⟩
end Go.Proofs.YtcmifbjeabkihabGreatDoor
