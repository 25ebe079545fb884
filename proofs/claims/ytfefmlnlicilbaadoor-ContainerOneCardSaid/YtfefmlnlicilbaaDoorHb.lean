/- Calls of arrays, words, runs and slices.Clone on a set: what is told lies in memory of its own. -/
import Derived.Test.YtfefmlnlicilbaaDoorH0
import Derived.Test.YtfefmlnlicilbaaDoorHa
namespace Go.Proofs.YtfefmlnlicilbaaDoor
open Go.RowKit
set_option linter.unusedVariables false

theorem bx (w : World) (o : Obj) : Below w.heap.size w (w.alloc o) := (Below.refl _ _).alloc (Nat.le_refl _) o
theorem ls_small (p : Nat → Bool) : (ls p 65536).length ≤ 65536 := ls_len p 65536

set_option maxHeartbeats 400000 in
theorem clone64_any (v : Value) (l : List UInt64) (lo : Nat) (w : World) (hv : Gs e64 w lo w.heap.size v l) (hb : l.length ≤ 100000000) :
    Calls Tryd.prog 80 #[v] w fun e w' => ∃ v', e = .returned v' ∧ Gw e64 w' w.heap.size v' l ∧ Below w.heap.size w w' := by
  have hv0 := hv
  obtain ⟨A, c, rfl, hc0, -, -, hbt⟩ := hv
  cases A with
  | none =>
    obtain rfl := hc0 rfl
    have hl : l = [] := by
      by_cases h : l = []
      · exact h
      · obtain ⟨b, off, e, _⟩ := hbt h
        cases e
    subst hl
    clear hc0 hbt hv0
    have hq := fun W n c => Lib.run_eql_slice_nil (P := Tryd.prog) W 24 80 none n c 0 0 Tryd.underlying24
    simp only [Option.isNone_none] at hq
    go_enter Tryd.func80, Tryd.ntmps80
    go_wp2
    go_ret
    exact ⟨_, rfl, Gw.nil_ _ _, Below.refl _ _⟩
  | some ad =>
    clear hc0 hbt
    have hq := fun W n c => Lib.run_eql_slice_nil (P := Tryd.prog) W 24 80 (some ad) n c 0 0 Tryd.underlying24
    simp only [Option.isNone_some] at hq
    go_enter Tryd.func80, Tryd.ntmps80
    go_wp2_with (at_builtin; refine wpList_gapp e64 _ rfl _ _ _ rfl w.heap.size sli64 inf64 _ [] rfl (Gw.empty_ _ _ (Nat.le_refl _)) lo w.heap.size _ l rfl (hv0.alloc (Nat.le_refl _) _) (by simp; omega) (by simp) ?_; intro v2 w2 o2 g2 _)
    go_ret
    exact ⟨v2, rfl, by simpa using o2, ((Below.refl _ _).alloc (Nat.le_refl _) _).grown g2 (by simp) (fun k h => by injection h with h; subst h; exact Nat.le_refl _)⟩
set_option maxHeartbeats 400000 in
theorem cloneR_any (v : Value) (l : List Rn) (lo : Nat) (w : World) (hv : Gs2 eR w lo w.heap.size v l) (hb : l.length ≤ 100000000) :
    Calls Tryd.prog 82 #[v] w fun e w' => ∃ v', e = .returned v' ∧ Gw2 eR w' w.heap.size v' l ∧ Below w.heap.size w w' := by
  have hv0 := hv
  obtain ⟨A, c, rfl, hc0, -, -, hbt⟩ := hv
  cases A with
  | none =>
    obtain rfl := hc0 rfl
    have hl : l = [] := by
      by_cases h : l = []
      · exact h
      · obtain ⟨b, off, e, _⟩ := hbt h
        cases e
    subst hl
    clear hc0 hbt hv0
    have hq := fun W n c => Lib.run_eql_slice_nil (P := Tryd.prog) W 25 85 none n c 0 0 Tryd.underlying25
    simp only [Option.isNone_none] at hq
    go_enter Tryd.func82, Tryd.ntmps82
    go_wp2
    go_ret
    exact ⟨_, rfl, Gw2.nil_ _ _, Below.refl _ _⟩
  | some ad =>
    clear hc0 hbt
    have hq := fun W n c => Lib.run_eql_slice_nil (P := Tryd.prog) W 25 85 (some ad) n c 0 0 Tryd.underlying25
    simp only [Option.isNone_some] at hq
    go_enter Tryd.func82, Tryd.ntmps82
    go_wp2_with (at_builtin; refine wpList_gapp2 eR _ rfl _ _ _ rfl w.heap.size sliR infR _ [] rfl (Gw2.empty_ _ _ (Nat.le_refl _)) lo w.heap.size _ l rfl (hv0.alloc (Nat.le_refl _) _) (by simp; omega) (by simp) ?_; intro v2 w2 o2 g2 _)
    go_ret
    exact ⟨v2, rfl, by simpa using o2, ((Below.refl _ _).alloc (Nat.le_refl _) _).grown g2 (by simp) (fun k h => by injection h with h; subst h; exact Nat.le_refl _)⟩

theorem sclone16 (v : Value) (p : Nat → Bool) (n : Nat) (lo : Nat) (w : World) (hv : Gs e16 w lo w.heap.size v (ls p 65536)) (hn : ct p 65536 = n) :
    Calls Tryd.prog 20 #[v] w fun e w' => ∃ A c, e = .returned (.slice A n c) ∧ Gs e16 w' w.heap.size w'.heap.size (.slice A n c) (ls p 65536) ∧ Below w.heap.size w w' := by
  refine (clone16_any v _ lo w hv (Nat.le_trans (ls_small p) (by omega))).mono ?_
  rintro e w' ⟨v', rfl, o, b⟩
  have s := o.sl
  obtain ⟨A, c, rfl, -⟩ := o.sl
  rw [ls_ct, hn] at s ⊢
  exact ⟨A, c, rfl, s, b⟩

theorem sclone64 (v : Value) (p : Nat → Bool) (lo : Nat) (w : World) (hv : Gs e64 w lo w.heap.size v (wm p)) :
    Calls Tryd.prog 80 #[v] w fun e w' => ∃ A c, e = .returned (.slice A 1024 c) ∧ Gs e64 w' w.heap.size w'.heap.size (.slice A 1024 c) (wm p) ∧ Below w.heap.size w w' := by
  refine (clone64_any v _ lo w hv (by rw [wm_length]; omega)).mono ?_
  rintro e w' ⟨v', rfl, o, b⟩
  obtain ⟨A, c, rfl⟩ := gw_wm o
  exact ⟨A, c, rfl, o.sl, b⟩

theorem scloneR (v : Value) (p : Nat → Bool) (n : Nat) (lo : Nat) (w : World) (hv : Gs2 eR w lo w.heap.size v (rs p 65536)) (hn : ct (hm p) 65536 = n) :
    Calls Tryd.prog 82 #[v] w fun e w' => ∃ A c, e = .returned (.slice A n c) ∧ Gs2 eR w' w.heap.size w'.heap.size (.slice A n c) (rs p 65536) ∧ Below w.heap.size w w' := by
  refine (cloneR_any v _ lo w hv (Nat.le_trans (rs_short p) (by omega))).mono ?_
  rintro e w' ⟨v', rfl, o, b⟩
  have s := o.sl
  obtain ⟨A, c, rfl, -⟩ := o.sl
  rw [rs_len, hn] at s ⊢
  exact ⟨A, c, rfl, s, b⟩

theorem swof (v : Value) (p : Nat → Bool) (lo : Nat) (w : World) (hv : Gs e16 w lo w.heap.size v (ls p 65536)) :
    Calls Tryd.prog 79 #[v] w fun e w' => ∃ A c, e = .returned (.slice A 1024 c) ∧ Gs e64 w' w.heap.size w'.heap.size (.slice A 1024 c) (wm p) ∧ Below w.heap.size w w' := by
  refine (wof_any v _ lo w hv).mono ?_
  rintro e w' ⟨v', rfl, o, b⟩
  rw [mk_words] at o
  obtain ⟨A, c, rfl⟩ := gw_wm o
  exact ⟨A, c, rfl, o.sl, b⟩

theorem srof (v : Value) (p : Nat → Bool) (n : Nat) (lo : Nat) (w : World) (hv : Gs e16 w lo w.heap.size v (ls p 65536)) (hn : ct (hm p) 65536 = n) :
    Calls Tryd.prog 81 #[v] w fun e w' => ∃ A c, e = .returned (.slice A n c) ∧ Gs2 eR w' w.heap.size w'.heap.size (.slice A n c) (rs p 65536) ∧ Below w.heap.size w w' := by
  refine (rof_any v _ w (hv.more (Nat.zero_le _) (Nat.le_refl _)) (Nat.le_trans (ls_small p) (by omega))).mono ?_
  rintro e w' ⟨v', rfl, o, b⟩
  rw [ofp_ls] at o
  have s := o.sl
  obtain ⟨A, c, rfl, -⟩ := o.sl
  rw [rs_len, hn] at s ⊢
  exact ⟨A, c, rfl, s, b⟩

theorem swlist (v : Value) (p : Nat → Bool) (n : Nat) (lo : Nat) (w : World) (hv : Gs e64 w lo w.heap.size v (wm p)) (hT : Tb w) (hn : ct p 65536 = n) :
    Calls Tryd.prog 44 #[v] w fun e w' => ∃ A c, e = .returned (.slice A n c) ∧ Gs e16 w' w.heap.size w'.heap.size (.slice A n c) (ls p 65536) ∧ Below w.heap.size w w' := by
  refine (wlist_any v _ lo w hv hT).mono ?_
  rintro e w' ⟨v', rfl, o, b⟩
  rw [ls_wb p (Nat.le_refl _)] at o
  have s := o.sl
  obtain ⟨A, c, rfl, -⟩ := o.sl
  rw [ls_ct, hn] at s ⊢
  exact ⟨A, c, rfl, s, b⟩

theorem srlist (v : Value) (p : Nat → Bool) (n : Nat) (lo : Nat) (w : World) (hv : Gs2 eR w lo w.heap.size v (rs p 65536)) (hn : ct p 65536 = n) :
    Calls Tryd.prog 45 #[v] w fun e w' => ∃ A c, e = .returned (.slice A n c) ∧ Gs e16 w' w.heap.size w'.heap.size (.slice A n c) (ls p 65536) ∧ Below w.heap.size w w' := by
  refine (rlist_any v _ w (hv.more (Nat.zero_le _) (Nat.le_refl _)) (mayr_rs p)).mono ?_
  rintro e w' ⟨v', rfl, o, b⟩
  rw [lists_rs] at o
  have s := o.sl
  obtain ⟨A, c, rfl, -⟩ := o.sl
  rw [ls_ct, hn] at s ⊢
  exact ⟨A, c, rfl, s, b⟩

theorem swflip (v : Value) (p : Nat → Bool) (x y : Int) (lo : Nat) (w : World) (hv : Gs e64 w lo w.heap.size v (wm p)) :
    Calls Tryd.prog 47 #[v, .int .i64 x, .int .i64 y] w fun e w' => ∃ A c, e = .returned (.slice A 1024 c) ∧ Gs e64 w' w.heap.size w'.heap.size (.slice A 1024 c) (wm (flp p x y)) ∧ Below w.heap.size w w' := by
  refine (wflip_any v _ lo x y w hv).mono ?_
  rintro e w' ⟨v', rfl, o, b⟩
  rw [flp_wb] at o
  obtain ⟨A, c, rfl⟩ := gw_wm o
  exact ⟨A, c, rfl, o.sl, b⟩

theorem srflip (v : Value) (p : Nat → Bool) (n : Nat) (x y : Int) (lo : Nat) (w : World) (hv : Gs2 eR w lo w.heap.size v (rs p 65536)) (hn : ct (hm (flp p x y)) 65536 = n) :
    Calls Tryd.prog 46 #[v, .int .i64 x, .int .i64 y] w fun e w' => ∃ A c, e = .returned (.slice A n c) ∧ Gs2 eR w' w.heap.size w'.heap.size (.slice A n c) (rs (flp p x y) 65536) ∧ Below w.heap.size w w' := by
  refine (rflip_any v _ x y w (hv.more (Nat.zero_le _) (Nat.le_refl _)) (Nat.le_trans (rs_short p) (by omega))).mono ?_
  rintro e w' ⟨v', rfl, o, b⟩
  rw [flr_rs] at o
  have s := o.sl
  obtain ⟨A, c, rfl, -⟩ := o.sl
  rw [rs_len, hn] at s ⊢
  exact ⟨A, c, rfl, s, b⟩

theorem swith (v : Value) (p : Nat → Bool) (n : Nat) (x : Nat) (lo : Nat) (w : World) (hv : Gs e16 w lo w.heap.size v (ls p 65536)) (hx : x < 65536) (hn : ct (pls p x) 65536 = n) :
    Calls Tryd.prog 35 #[v, .int .u16 x] w fun e w' => ∃ A c, e = .returned (.slice A n c) ∧ Gs e16 w' w.heap.size w'.heap.size (.slice A n c) (ls (pls p x) 65536) ∧ Below w.heap.size w w' := by
  refine (with_any v _ lo x (UInt16.ofNat x) (by rw [u16_of x hx]) w hv (Nat.le_trans (ls_small p) (by omega))).mono ?_
  rintro e w' ⟨v', rfl, o, b⟩
  rw [wi_pls (ris_ls p 65536 (Nat.le_refl _)) _ p rfl, u16_of x hx] at o
  have s := o.sl
  obtain ⟨A, c, rfl, -⟩ := o.sl
  rw [ls_ct, hn] at s ⊢
  exact ⟨A, c, rfl, s, b⟩

theorem sruns (v : Value) (p : Nat → Bool) (n lo : Nat) (w : World) (hv : Gs e16 w lo w.heap.size v (ls p 65536)) (hn : ct (hm p) 65536 = n) :
    Calls Tryd.prog 55 #[v] w fun e w' => e = .returned (.int .i64 n) ∧ Below w.heap.size w w' := aruns_p v p n w (hv.more (Nat.zero_le _) (Nat.le_refl _)) hn
theorem sfind (v : Value) (p : Nat → Bool) (x lo : Nat) (w : World) (hv : Gs e16 w lo w.heap.size v (ls p 65536)) (hx : x < 65536) :
    Calls Tryd.prog 50 #[v, .int .u16 x] w fun e w' => (∃ n : Nat, e = .returned (.tuple #[.int .i64 n, .bool (p x)])) ∧ Below w.heap.size w w' := by
  refine (find_any v _ lo _ x (UInt16.ofNat x) (by rw [u16_of x hx]) w hv (Nat.le_trans (ls_small p) (by omega))).mono ?_
  rintro e w' ⟨rfl, rfl⟩
  have e1 : fd (ls p 65536) (UInt16.ofNat x) = p x := by
    rw [fd_mem (ris_ls p 65536 (Nat.le_refl _)), Bool.eq_iff_iff, decide_eq_true_eq, ls_mem p 65536 (Nat.le_refl _), u16_of x hx]
    exact ⟨fun h => h.2, fun h => ⟨hx, h⟩⟩
  rw [e1]
  exact ⟨⟨_, rfl⟩, Below.refl _ _⟩
theorem swlen (v : Value) (p : Nat → Bool) (n lo : Nat) (w : World) (hv : Gs e64 w lo w.heap.size v (wm p)) (hn : ct p 65536 = n) :
    Calls Tryd.prog 48 #[v] w fun e w' => e = .returned (.int .i64 n) ∧ Below w.heap.size w w' := (wlen_p v p n w (hv.more (Nat.zero_le _) (Nat.le_refl _)) hn).mono fun e w' ⟨h1, h2⟩ => ⟨h1, h2 ▸ Below.refl _ _⟩
theorem swruns (v : Value) (p : Nat → Bool) (n lo : Nat) (w : World) (hv : Gs e64 w lo w.heap.size v (wm p)) (hn : ct (hm p) 65536 = n) :
    Calls Tryd.prog 56 #[v] w fun e w' => e = .returned (.int .i64 n) ∧ Below w.heap.size w w' := (wruns_p v p n w (hv.more (Nat.zero_le _) (Nat.le_refl _)) hn).mono fun e w' ⟨h1, h2⟩ => ⟨h1, h2 ▸ Below.refl _ _⟩
theorem swhas (v : Value) (p : Nat → Bool) (x lo : Nat) (w : World) (hv : Gs e64 w lo w.heap.size v (wm p)) (hx : x < 65536) :
    Calls Tryd.prog 76 #[v, .int .u16 x] w fun e w' => e = .returned (.bool (p x)) ∧ Below w.heap.size w w' := (whas_p v p x x w (hv.more (Nat.zero_le _) (Nat.le_refl _)) rfl hx).mono fun e w' ⟨h1, h2⟩ => ⟨h1, h2 ▸ Below.refl _ _⟩
theorem srlen (v : Value) (p : Nat → Bool) (n lo : Nat) (w : World) (hv : Gs2 eR w lo w.heap.size v (rs p 65536)) (hn : ct p 65536 = n) :
    Calls Tryd.prog 49 #[v] w fun e w' => e = .returned (.int .i64 n) ∧ Below w.heap.size w w' := rlen_any v _ n w (hv.more (Nat.zero_le _) (Nat.le_refl _)) (mayr_rs p) (by rw [count_rs]; exact hn)
theorem srhas (v : Value) (p : Nat → Bool) (x lo : Nat) (w : World) (hv : Gs2 eR w lo w.heap.size v (rs p 65536)) (hx : x < 65536) :
    Calls Tryd.prog 77 #[v, .int .u16 x] w fun e w' => e = .returned (.bool (p x)) ∧ Below w.heap.size w w' := by
  have h := rhas_any v _ x w (hv.more (Nat.zero_le _) (Nat.le_refl _)) (mayr_rs p) (Nat.le_trans (rs_short p) (by omega)) hx
  rw [mr_rs p hx] at h
  exact h
end Go.Proofs.YtfefmlnlicilbaaDoor
