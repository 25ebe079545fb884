/- Walks: Grow, Clone, Concat of numbers (cut from stages 4 to 6) -/
import Derived.Test.YtfefmlnlicilbaaDoorU3
import Derived.Lib.AppendZeros
namespace Go.Proofs.YtfefmlnlicilbaaDoor
open Go.RowKit
set_option linter.unusedVariables false

/-- Slices of bytes as elements: address, length, capacity. -/
def sv (t : Option Addr × Nat × Nat) : Value := .slice t.1 t.2.1 t.2.2
def eS : Elem (Option Addr × Nat × Nat) := ⟨22, sv, (none, 0, 0), 24, fun _ => rfl, fun _ => rfl, by omega⟩
theorem zeros_size (z : Value) (hz : z.cells.size = 1) (n : Nat) : (Builtin.zeroCells z.cells n).size = n := by simp [Builtin.zeroCells, hz]
set_option maxHeartbeats 1000000 in
theorem grow_nil (n : Nat) (w : World) (hn : n ≤ 1000000000) :
    Calls Tryd.prog 75 #[.slice none 0 0, .int .i64 n] w fun e w' => ∃ A c, e = .returned (.slice A 0 c) ∧ Gw e16 w' w.heap.size (.slice A 0 c) [] ∧ Below w.heap.size w w' := by
  by_cases h0 : n = 0
  · subst h0
    go_enter Tryd.func75, Tryd.ntmps75
    go_wp2
    go_ret
    exact ⟨none, 0, rfl, Gw.nil_ _ _, Below.refl _ _⟩
  · obtain ⟨i, hi, hz, hsz, hby⟩ := info_parts inf16
    have hi' : Tryd.prog.info? 29 = some i := hi
    have hrun := fun ty => Lib.run_append_nil_zeros (P := Tryd.prog) w 22 3 ty 29 i (e16.val e16.zero) .i64 .i64 Tryd.underlying22 Tryd.underlying3 hi' hz n (by omega) (by omega) (by omega) (by rw [hby]; show n * 2 ≤ _; omega)
    have hge := grownCap_ge w n 0 29
    have hle := grownCap_le_maxLen w n 0 29 (by unfold maxLen; omega)
    generalize hG : grownCap w n 0 29 = G at *
    have hown : Gw e16 (w.drew.alloc (.cells (Builtin.zeroCells (e16.val e16.zero).cells n ++ Builtin.zeroCells (e16.val e16.zero).cells (G - n)) 29)) w.heap.size (.slice (some ⟨w.heap.size, 0, none⟩) 0 G) [] := by
      refine ⟨rfl, .inr ⟨w.heap.size, G, _, rfl, Nat.le_refl _, Row.new w.drew 29 _, Nat.zero_le _, hle, ?_, rfl⟩⟩
      rw [Array.size_append, zeros_size _ rfl, zeros_size _ rfl]
      omega
    have HO := Lib.hid hown
    have hG63 : G ≤ 9223372036854775807 := by unfold maxLen at hle; omega
    have hpos : 0 < n := by omega
    clear hown hi hi' hz hsz hby hG hle h0
    go_enter Tryd.func75, Tryd.ntmps75
    go_wp2_with (at_builtin; refine Lib.wpList_append_run _ rfl _ _ _ _ rfl _ _ rfl rfl _ _ (hrun _) ?_)
    go_ret
    exact ⟨_, _, rfl, HO.out, (Below.refl _ _).drew.alloc (Nat.le_refl _) _⟩
set_option maxHeartbeats 400000 in
theorem clone16_any (v : Value) (l : List UInt16) (lo : Nat) (w : World) (hv : Gs e16 w lo w.heap.size v l) (hb : l.length ≤ 100000000) :
    Calls Tryd.prog 20 #[v] w fun e w' => ∃ v', e = .returned v' ∧ Gw e16 w' w.heap.size v' l ∧ Below w.heap.size w w' := by
  have hv0 := hv
  obtain ⟨A, c, rfl, hc0, -, -, hbt⟩ := hv
  cases A with
  | none =>
    obtain rfl := hc0 rfl
    have hl : l = [] := by
      by_cases h : l = []
      · exact h
      · obtain ⟨b, off, e, _⟩ := hbt h
        cases e
    subst hl
    clear hc0 hbt hv0
    have hq := fun W n c => Lib.run_eql_slice_nil (P := Tryd.prog) W 22 29 none n c 0 0 Tryd.underlying22
    simp only [Option.isNone_none] at hq
    go_enter Tryd.func20, Tryd.ntmps20
    go_wp2
    go_ret
    exact ⟨_, rfl, Gw.nil_ _ _, Below.refl _ _⟩
  | some ad =>
    clear hc0 hbt
    have hq := fun W n c => Lib.run_eql_slice_nil (P := Tryd.prog) W 22 29 (some ad) n c 0 0 Tryd.underlying22
    simp only [Option.isNone_some] at hq
    go_enter Tryd.func20, Tryd.ntmps20
    go_wp2_with (at_builtin; refine wpList_gapp e16 _ rfl _ _ _ rfl w.heap.size sli16 inf16 _ [] rfl (Gw.empty_ _ _ (Nat.le_refl _)) lo w.heap.size _ l rfl (hv0.alloc (Nat.le_refl _) _) (by simp; omega) (by simp) ?_; intro v2 w2 o2 g2 _)
    go_ret
    exact ⟨v2, rfl, by simpa using o2, ((Below.refl _ _).alloc (Nat.le_refl _) _).grown g2 (by simp) (fun k h => by injection h with h; subst h; exact Nat.le_refl _)⟩
theorem flat_take (ls : List (List UInt16)) (k : Nat) (m : List UInt16) (h : ls[k]? = some m) : (ls.take (k + 1)).flatten = (ls.take k).flatten ++ m := by
  rw [List.take_add_one, h, Option.toList_some, List.flatten_append]
  simp
theorem flat_le (ls : List (List UInt16)) (k : Nat) : (ls.take k).flatten.length ≤ ls.flatten.length := by
  have h := congrArg (fun l => (List.flatten l).length) (List.take_append_drop k ls)
  simp only [List.flatten_append, List.length_append] at h
  omega
/-- How many the first k rows have. -/
def fl (ls : List (List UInt16)) (k : Nat) : Nat := (ls.take k).flatten.length
theorem fl_zero (ls : List (List UInt16)) : fl ls 0 = 0 := by simp [fl]
theorem fl_succ (ls : List (List UInt16)) (k : Nat) (m : List UInt16) (h : ls[k]? = some m) : fl ls (k + 1) = fl ls k + m.length := by unfold fl; rw [flat_take ls k m h, List.length_append]
theorem fl_le (ls : List (List UInt16)) (k : Nat) : fl ls k ≤ ls.flatten.length := flat_le ls k
set_option maxHeartbeats 1000000 in
set_option maxRecDepth 100000 in
theorem concat_any (v : Value) (ts : List (Option Addr × Nat × Nat)) (ls : List (List UInt16)) (lo : Nat) (w : World) (hv : Gs eS w lo w.heap.size v ts) (hl : ls.length = ts.length)
    (he : ∀ (i : Nat) t m, ts[i]? = some t → ls[i]? = some m → Gs e16 w 0 w.heap.size (sv t) m) (hb : ls.flatten.length ≤ 100000000) :
    Calls Tryd.prog 51 #[v] w fun e w' => ∃ v', e = .returned v' ∧ Gw e16 w' w.heap.size v' ls.flatten ∧ Below w.heap.size w w' := by
  have hlen := hv.len
  have HV := Lib.hid hv
  have HE := Lib.hid he
  have HL := Lib.hid hl
  obtain ⟨A, c, rfl, -, -, -, hcell⟩ := hv
  have HC := Lib.hid hcell
  clear hcell he hl
  have HB := Lib.hid hb
  clear hb
  go_enter Tryd.func51, Tryd.ntmps51
  go_wp2
  go_loop [3, 11] (fun n i => ∃ k : Nat, k ≤ ts.length ∧ i = .int .i64 k ∧ n = .int .i64 (fl ls k)) (fun _ i => ts.length - (intOf i).toNat)
  case atStart => exact ⟨0, by omega, rfl, by rw [fl_zero]; rfl⟩
  case round =>
    obtain ⟨k, hk, rfl, rfl⟩ := hrel
    by_cases hlt : k < ts.length
    · obtain ⟨b, off, rfl, -, -, hc⟩ := HC.out (by rintro rfl; simp at hlt)
      obtain ⟨t, ht⟩ : ∃ t, ts[k]? = some t := ⟨_, List.getElem?_eq_getElem hlt⟩
      obtain ⟨m, hm⟩ : ∃ m, ls[k]? = some m := ⟨_, List.getElem?_eq_getElem (by have := HL.out; omega)⟩
      have hck := hc k t ht
      obtain ⟨A1, n1, c1⟩ := t
      simp only [eS, sv] at hck
      obtain ⟨_, _, e, -, -, -, -⟩ := HE.out k _ m ht hm
      unfold sv at e
      injection e with _ e2 _
      simp only at e2
      have hs := fl_succ ls k m hm
      have hs2 := fl_le ls (k + 1)
      have hs3 := HB.out
      rw [← e2] at hs
      have hsum : (fl ls k : Int) + n1 ≤ 100000000 := by omega
      have HS := Lib.hid hs
      clear hc e2 hs2 hs3 hs ht hm
      go_wp2
      go_round
      case rel => exact ⟨k + 1, hlt, by go_num, by rw [HS.out]; go_num⟩
      case measure => simp [intOf]; omega
    · obtain rfl : k = ts.length := by omega
      have hT : fl ls ts.length ≤ 1000000000 := by have := fl_le ls ts.length; have := HB.out; omega
      go_wp2_with (go_at_call 75; refine (grow_nil (fl ls ts.length) _ hT).mono ?_; rintro e w1 ⟨A1, c1, rfl, o1, b1⟩; have O1 := Lib.hid o1; have B1 := Lib.hid b1; clear o1 b1)
      go_loopw [6, 27] (fun u i wr => ∃ k : Nat, k ≤ ts.length ∧ i = .int .i64 k ∧ Gw e16 wr w.heap.size u (ls.take k).flatten ∧ Below w.heap.size w wr) (fun _ i _ => ts.length - (intOf i).toNat)
      case atStart => exact ⟨0, by omega, rfl, by simpa using O1.out, B1.out⟩
      case round =>
        obtain ⟨k, hk, rfl, ok, bk⟩ := hrel
        have OK := Lib.hid ok
        have BK := Lib.hid bk
        clear ok bk
        by_cases hlt : k < ts.length
        · obtain ⟨b, off, rfl, -, h2, hc⟩ := HC.out (by rintro rfl; simp at hlt)
          obtain ⟨t, ht⟩ : ∃ t, ts[k]? = some t := ⟨_, List.getElem?_eq_getElem hlt⟩
          obtain ⟨m, hm⟩ : ∃ m, ls[k]? = some m := ⟨_, List.getElem?_eq_getElem (by have := HL.out; omega)⟩
          have hck : wr.cell? ⟨b, off + k, none⟩ = some (eS.val t) := (BK.out.cell (by exact h2)).trans (hc k t ht)
          have HM := Lib.hid (HE.out k _ m ht hm)
          obtain ⟨A2, n2, c2⟩ := t
          simp only [eS, sv] at hck
          have hs1 := flat_take ls k m hm
          have hs2 := flat_le ls (k + 1)
          have hl2 : (ls.take k).flatten.length + m.length ≤ 1000000000 := by have := HB.out; rw [hs1, List.length_append] at hs2; omega
          have HS := Lib.hid hs1
          clear hc hs1 hs2 ht hm
          go_wp2_with (at_builtin; refine wpList_gapp e16 _ rfl _ _ _ rfl w.heap.size sli16 inf16 _ _ rfl OK.out 0 w.heap.size _ m rfl (HM.out.below BK.out) hl2 BK.out.size ?_; intro v4 w4 o4 g4 hh; clear hh; have O4 := Lib.hid o4; have B4 := Lib.hid (BK.out.grown g4 BK.out.size (fun j hj => (OK.out.lt j hj).1)); clear o4 g4)
          go_roundw
          case rel => exact ⟨k + 1, hlt, by go_num, by rw [HS.out]; exact O4.out, B4.out⟩
          case measure => simp [intOf]; omega
        · obtain rfl : k = ts.length := by omega
          go_wp2
          go_ret
          exact ⟨_, rfl, by have := OK.out; rwa [← HL.out, List.take_length] at this, BK.out⟩
end Go.Proofs.YtfefmlnlicilbaaDoor
