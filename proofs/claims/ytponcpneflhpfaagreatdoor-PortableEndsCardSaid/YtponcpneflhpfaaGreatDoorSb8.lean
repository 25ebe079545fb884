/- Walks: a container as one of another kind; flipped by words and by runs; an array with a number more; the size. -/
import Derived.Test.YtponcpneflhpfaaGreatDoorSb0
import Derived.Test.YtponcpneflhpfaaGreatDoorSb7
import Derived.Test.YtponcpneflhpfaaGreatDoorSa8
import Derived.Test.YtponcpneflhpfaaGreatDoorSb1
import Derived.Test.YtponcpneflhpfaaGreatDoorSb2
import Derived.Test.YtponcpneflhpfaaGreatDoorSb3
namespace Go.Proofs.YtponcpneflhpfaaGreatDoor
open Go.RowKit
set_option linter.unusedVariables false

end Go.Proofs.YtponcpneflhpfaaGreatDoor
namespace Go.Proofs.YtponcpneflhpfaaGreatDoor
open Go.RowKit
set_option linter.unusedVariables false

end Go.Proofs.YtponcpneflhpfaaGreatDoor
namespace Go.Proofs.YtponcpneflhpfaaGreatDoor
open Go.RowKit
set_option linter.unusedVariables false

set_option maxHeartbeats 1000000 in
theorem rmay_any (v : Value) (A : List Rn) (w : World) (hv : Gs2 eR w 0 w.heap.size v A) :
    Calls Tryz.prog 105 #[v] w fun e w' => e = .returned (.bool (mayr 0 A)) ∧ Below w.heap.size w w' := by
  have hlen := hv.len
  have HV := Lib.hid hv
  obtain ⟨A1, c1, rfl, -⟩ := hv
  obtain ⟨R, hR⟩ : ∃ R, R = mayr 0 A := ⟨_, rfl⟩
  rw [← hR]
  have HR := Lib.hid hR
  clear hR
  go_enter Tryz.func105, Tryz.ntmps105
  go_wp2
  go_loopw [3, 8] (fun n i wr => ∃ k m : Nat, k ≤ A.length ∧ m ≤ 65538 ∧ n = .int .i64 m ∧ i = .int .i64 k ∧ Hid (mayr m (A.drop k) = R) ∧ Below w.heap.size w wr) (fun _ i _ => A.length - (intOf i).toNat)
  case atStart => exact ⟨0, 0, Nat.zero_le _, by omega, rfl, rfl, HR.out.symm, Below.refl _ _⟩
  case round =>
    obtain ⟨k, m, hk, hmb, rfl, rfl, hmr, hbl⟩ := hrel
    have HB := Lib.hid hbl
    by_cases hlt : k < A.length
    · obtain ⟨b, off, r, e1, -, hb, hdr, hg, c0, c2⟩ := gs2_at HV.out hlt
      subst e1
      rw [← hbl.cell (p := ⟨b, off + k * 2, none⟩) hb] at c0
      rw [← hbl.cell (p := ⟨b, off + k * 2 + 1, none⟩) hb] at c2
      have hmr2 := hmr.out
      rw [hdr] at hmr2
      have hf := u16_lt r.1
      have hm := u16_lt r.2
      obtain ⟨f, hfe⟩ : ∃ f, f = r.1.toNat := ⟨_, rfl⟩
      obtain ⟨q, hqe⟩ : ∃ q, q = r.2.toNat := ⟨_, rfl⟩
      rw [← hfe] at c0 hf
      rw [← hqe] at c2 hm
      have HF := Lib.hid hf
      have HQ := Lib.hid hm
      have hlr : lst r = f + q := by unfold lst; rw [← hfe, ← hqe]
      have hbw : Below w.heap.size w (wr.alloc (.cells #[.int .u16 (f : Int), .int .u16 (q : Int)] 130)) := hbl.alloc hbl.size _
      have HBW := Lib.hid hbw
      have hsz := hbl.size
      by_cases h1 : f < m
      · have hR : R = false := by
          rw [← hmr2]
          unfold mayr
          rw [decide_eq_false (by rw [← hfe]; omega), Bool.false_and]
        have HRF := Lib.hid hR
        have h1' : (f : Int) < m := by omega
        clear hbl hmr hdr hg hmr2 hR hfe hqe hlr hbw h1
        go_wp2
        go_ret
        exact ⟨by rw [HRF.out]; rfl, HBW.out⟩
      · have h1' : decide ((f : Int) < m) = false := decide_eq_false (by omega)
        have h1n : ¬ ((f : Int) < m) := by omega
        by_cases h2 : 65536 < f + (q + 1)
        · have hR : R = false := by
            rw [← hmr2]
            unfold mayr
            rw [decide_eq_false (p := lst r ≤ 65535) (by omega), Bool.false_and, Bool.and_false]
          have HRF := Lib.hid hR
          have h2' : (65536 : Int) < (f : Int) + ((q : Int) + 1) := by omega
          clear hbl hmr hdr hg hmr2 hR hfe hqe hlr hbw h1 h2
          go_wp2_with (go_at_call 173; refine (end_any f q HF.out HQ.out _).mono ?_; rintro e w9 ⟨rfl, b9⟩; have k0 := (b9.cell (p := ⟨wr.heap.size, 0, none⟩) (by simp)).trans (show _ = some (.int .u16 (f : Int)) by simp); have k1 := (b9.cell (p := ⟨wr.heap.size, 1, none⟩) (by simp)).trans (show _ = some (.int .u16 (q : Int)) by simp); have B9 := Lib.hid b9; clear b9)
          go_ret
          exact ⟨by rw [HRF.out]; rfl, below_both HBW.out B9.out⟩
        · have hR : mayr (f + q + 2) (A.drop (k + 1)) = R := by
            rw [← hmr2, ← hlr]
            rw [mayr_eq, decide_eq_true (p := m ≤ r.1.toNat) (by rw [← hfe]; omega), decide_eq_true (p := lst r ≤ 65535) (by omega), Bool.true_and, Bool.true_and]
          have HRF := Lib.hid hR
          have h2' : decide ((65536 : Int) < (f : Int) + ((q : Int) + 1)) = false := decide_eq_false (by omega)
          have h2i : (f : Int) + ((q : Int) + 1) ≤ 65536 := by omega
          have h2n : ¬ ((65536 : Int) < (f : Int) + ((q : Int) + 1)) := by omega
          clear hbl hmr hdr hg hmr2 hR hfe hqe hlr hbw h1 h2
          go_wp2_with fail
          go_at_call 173
          refine (end_any f q HF.out HQ.out _).mono ?_
          rintro e w9 ⟨rfl, b9⟩
          have k0 := (b9.cell (p := ⟨wr.heap.size, 0, none⟩) (by simp)).trans (show _ = some (.int .u16 (f : Int)) by simp)
          have k1 := (b9.cell (p := ⟨wr.heap.size, 1, none⟩) (by simp)).trans (show _ = some (.int .u16 (q : Int)) by simp)
          have B9 := Lib.hid b9
          clear b9
          go_wp2_with fail
          go_at_call 173
          refine (end_any f q HF.out HQ.out _).mono ?_
          rintro e w8 ⟨rfl, b8⟩
          have B8 := Lib.hid b8
          clear b8
          go_wp2
          refine ⟨⟨k + 1, f + q + 2, by omega, by omega, by go_num, by go_num, HRF.out, below_both (below_both HBW.out B9.out) B8.out⟩, by simp [intOf]; omega⟩
    · obtain rfl : k = A.length := by omega
      have hR := hmr.out
      rw [List.drop_length] at hR
      have HRF := Lib.hid (show R = true from hR.symm)
      clear hbl hmr hR
      go_wp2
      go_ret
      exact ⟨by rw [HRF.out]; rfl, HB.out⟩
end Go.Proofs.YtponcpneflhpfaaGreatDoor
namespace Go.Proofs.YtponcpneflhpfaaGreatDoor
open Go.RowKit
set_option linter.unusedVariables false

theorem lmay (v : Value) (A : List Rn) (w : World) (hv : Gs2 eR w 0 w.heap.size v A) (b : Bool) (h : mayr 0 A = b) :
    Calls Tryz.prog 105 #[v] w fun e w' => e = .returned (.bool b) ∧ Below w.heap.size w w' := by
  rw [← h]
  exact rmay_any v A w hv
end Go.Proofs.YtponcpneflhpfaaGreatDoor
namespace Go.Proofs.YtponcpneflhpfaaGreatDoor
open Go.RowKit
set_option linter.unusedVariables false

theorem sa_xor (v u : Value) (p q : Nat → Bool) (n : Nat) (w : World) (hv : Gs e16 w 0 w.heap.size v (ls p 65536)) (hu : Gs e16 w 0 w.heap.size u (ls q 65536)) (hn : ct (fun x => fXor (p x) (q x)) 65536 = n) :
    Calls Tryz.prog 153 #[v, u] w fun e w' => ∃ A c, e = .returned (.slice A n c) ∧ Gs e16 w' w.heap.size w'.heap.size (.slice A n c) (ls (fun x => fXor (p x) (q x)) 65536) ∧ Below w.heap.size w w' := by
  refine (xor_any v u _ _ 0 w hv hu (Nat.le_trans (ls_small p) (by omega)) (Nat.le_trans (ls_small q) (by omega))).mono ?_
  rintro e w' ⟨v', rfl, o, b⟩
  rw [ls_mg fXor rfl (ris_ls p 65536 (Nat.le_refl _)) (ris_ls q 65536 (Nat.le_refl _))] at o
  have e1 : ls (fun i => fXor (mk (ls p 65536) i) (mk (ls q 65536) i)) 65536 = ls (fun x => fXor (p x) (q x)) 65536 := ls_ext fun j hj => by rw [mk_ls p hj, mk_ls q hj]
  rw [e1] at o
  have s := o.sl
  obtain ⟨A, c, rfl, -⟩ := o.sl
  rw [ls_ct, hn] at s ⊢
  exact ⟨A, c, rfl, s, b⟩
theorem sw_xor (v u : Value) (p q : Nat → Bool) (w : World) (hv : Gs e64 w 0 w.heap.size v (wm p)) (hu : Gs e64 w 0 w.heap.size u (wm q)) :
    Calls Tryz.prog 154 #[v, u] w fun e w' => ∃ A c, e = .returned (.slice A 1024 c) ∧ Gs e64 w' w.heap.size w'.heap.size (.slice A 1024 c) (wm fun x => fXor (p x) (q x)) ∧ Below w.heap.size w w' := by
  refine (wxor_any v u _ _ 0 w hv hu).mono ?_
  rintro e w' ⟨v', rfl, o, b⟩
  rw [mix_wb fXor p q] at o
  obtain ⟨A, c, rfl⟩ := gw_wm o
  exact ⟨A, c, rfl, o.sl, b⟩
theorem sr_xor (v u : Value) (p q : Nat → Bool) (n : Nat) (w : World) (hv : Gs2 eR w 0 w.heap.size v (rs p 65536)) (hu : Gs2 eR w 0 w.heap.size u (rs q 65536)) (hn : ct (hm (fun x => fXor (p x) (q x))) 65536 = n) :
    Calls Tryz.prog 155 #[v, u] w fun e w' => ∃ A c, e = .returned (.slice A n c) ∧ Gs2 eR w' w.heap.size w'.heap.size (.slice A n c) (rs (fun x => fXor (p x) (q x)) 65536) ∧ Below w.heap.size w w' := by
  refine (rxor_any v u _ _ w hv hu (Nat.le_trans (rs_short p) (by omega)) (Nat.le_trans (rs_short q) (by omega))).mono ?_
  rintro e w' ⟨v', rfl, o, b⟩
  rw [pd_rs (t := fXor) rfl p q] at o
  have s := o.sl
  obtain ⟨A, c, rfl, -⟩ := o.sl
  rw [rs_len, hn] at s ⊢
  exact ⟨A, c, rfl, s, b⟩
end Go.Proofs.YtponcpneflhpfaaGreatDoor
namespace Go.Proofs.YtponcpneflhpfaaGreatDoor
open Go.RowKit
set_option linter.unusedVariables false

theorem szC : (Tryz.prog.info? 65).map (·.size) = some 4 := by kernel_rfl
theorem ret_row {fn : Func} {p : Tmp} (hf : fn.results = #[.cell p 65]) {tmps : Array Value} {w : World} {g : Nat} {a b c d : Value} (hp : tmps.getD p undef = .pointer (some ⟨g, 0, none⟩)) (R : Row w g 65 #[a, b, c, d]) :
    (results fn tmps).run Tryz.prog w = .ok (.agg #[a, b, c, d]) w :=
  results_cell_row hf _ w g _ _ (0, 0) _ hp R Tryz.underlying65 rfl szC
theorem set4 {w : World} {g : Nat} {t : TypeId} {a b c d a' b' c' d' : Value} (R : Row w g t #[a, b, c, d]) :
    Row ((((w.setCell ⟨g, 0, none⟩ a').setCell ⟨g, 1, none⟩ b').setCell ⟨g, 2, none⟩ c').setCell ⟨g, 3, none⟩ d') g t #[a', b', c', d'] ∧ w.grownBy ((((w.setCell ⟨g, 0, none⟩ a').setCell ⟨g, 1, none⟩ b').setCell ⟨g, 2, none⟩ c').setCell ⟨g, 3, none⟩ d') (some g) := by
  refine ⟨by simpa using (((R.set_ 0 a').set_ 1 b').set_ 2 c').set_ 3 d', ⟨rfl, rfl, rfl, by simp [World.setCell], fun k hk hne => ?_⟩⟩
  have h : ∀ (w : World) (i : Nat) (u : Value), (w.setCell ⟨g, i, none⟩ u).heap[k]? = w.heap[k]? := fun w i u => Below.heap_setCell w _ u k (fun e => hne (by rw [e]))
  rw [h, h, h, h]

theorem ofArray_v (A : Option Addr) (n c : Nat) (w : World) :
    Calls Tryz.prog 98 #[.slice A n c] w fun e w' => e = .returned (.agg #[.int .u8 1, .slice A n c, .slice none 0 0, .slice none 0 0]) ∧ Below w.heap.size w w' := by
  have R := Row.new w 65 #[.int .u8 1, .slice A n c, .slice none 0 0, .slice none 0 0]
  have B := bx w (.cells #[.int .u8 1, .slice A n c, .slice none 0 0, .slice none 0 0] 65)
  go_enter Tryz.func98, Tryz.ntmps98
  go_wp2
  exact bodyPost_ret (ret_row rfl rfl R) rfl ⟨rfl, B⟩

theorem ofWords_v (A : Option Addr) (n c : Nat) (w : World) :
    Calls Tryz.prog 100 #[.slice A n c] w fun e w' => e = .returned (.agg #[.int .u8 2, .slice none 0 0, .slice A n c, .slice none 0 0]) ∧ Below w.heap.size w w' := by
  have R := Row.new w 65 #[.int .u8 2, .slice none 0 0, .slice A n c, .slice none 0 0]
  have B := bx w (.cells #[.int .u8 2, .slice none 0 0, .slice A n c, .slice none 0 0] 65)
  go_enter Tryz.func100, Tryz.ntmps100
  go_wp2
  exact bodyPost_ret (ret_row rfl rfl R) rfl ⟨rfl, B⟩

theorem ofRuns_v (A : Option Addr) (n c : Nat) (w : World) :
    Calls Tryz.prog 106 #[.slice A n c] w fun e w' => e = .returned (.agg #[.int .u8 3, .slice none 0 0, .slice none 0 0, .slice A n c]) ∧ Below w.heap.size w w' := by
  have R := Row.new w 65 #[.int .u8 3, .slice none 0 0, .slice none 0 0, .slice A n c]
  have B := bx w (.cells #[.int .u8 3, .slice none 0 0, .slice none 0 0, .slice A n c] 65)
  go_enter Tryz.func106, Tryz.ntmps106
  go_wp2
  exact bodyPost_ret (ret_row rfl rfl R) rfl ⟨rfl, B⟩

theorem size_1 (c r : Nat) (w : World) (hc : c ≤ 65536) (hr : r ≤ 65536) :
    Calls Tryz.prog 195 #[.int .u8 1, .int .i64 c, .int .i64 r] w fun e w' => e = .returned (.int .i64 (2 * (c : Int))) ∧ w' = w := by
  have h1 : wrap64 (2 * (c : Int)) = 2 * (c : Int) := by unfold wrap64; omega
  have h2 : wrap64 (4 * (r : Int)) = 4 * (r : Int) := by unfold wrap64; omega
  have h3 : wrap64 (2 + 4 * (r : Int)) = 2 + 4 * (r : Int) := by unfold wrap64; omega
  go_enter Tryz.func195, Tryz.ntmps195
  go_wp2
  go_ret
  exact ⟨rfl, rfl⟩

theorem size_2 (c r : Nat) (w : World) (hc : c ≤ 65536) (hr : r ≤ 65536) :
    Calls Tryz.prog 195 #[.int .u8 2, .int .i64 c, .int .i64 r] w fun e w' => e = .returned (.int .i64 (8192)) ∧ w' = w := by
  have h1 : wrap64 (2 * (c : Int)) = 2 * (c : Int) := by unfold wrap64; omega
  have h2 : wrap64 (4 * (r : Int)) = 4 * (r : Int) := by unfold wrap64; omega
  have h3 : wrap64 (2 + 4 * (r : Int)) = 2 + 4 * (r : Int) := by unfold wrap64; omega
  go_enter Tryz.func195, Tryz.ntmps195
  go_wp2
  go_ret
  exact ⟨rfl, rfl⟩

theorem size_3 (c r : Nat) (w : World) (hc : c ≤ 65536) (hr : r ≤ 65536) :
    Calls Tryz.prog 195 #[.int .u8 3, .int .i64 c, .int .i64 r] w fun e w' => e = .returned (.int .i64 (2 + 4 * (r : Int))) ∧ w' = w := by
  have h1 : wrap64 (2 * (c : Int)) = 2 * (c : Int) := by unfold wrap64; omega
  have h2 : wrap64 (4 * (r : Int)) = 4 * (r : Int) := by unfold wrap64; omega
  have h3 : wrap64 (2 + 4 * (r : Int)) = 2 + 4 * (r : Int) := by unfold wrap64; omega
  go_enter Tryz.func195, Tryz.ntmps195
  go_wp2
  go_ret
  exact ⟨rfl, rfl⟩

theorem ck_11 (c r : Nat) (w : World) (hc : c ≤ 65536) (hr : r ≤ 65536) (h : c ≤ 4096) (h2 : ¬ 2 + 4 * r < 2 * c) :
    Calls Tryz.prog 179 #[.int .i64 c, .int .i64 r] w fun e w' => e = .returned (.int .u8 1) ∧ w' = w := by
  have S1 := Lib.hid (fun W => size_3 c r W hc hr)
  have S2 := Lib.hid (fun W => size_1 c r W hc hr)
  have g1 : decide ((c : Int) > 4096) = false := decide_eq_false (by omega)
  have g2 : decide (2 + 4 * (r : Int) < 2 * (c : Int)) = false := decide_eq_false (by omega)
  have g3 : ¬ (c : Int) > 4096 := by omega
  go_enter Tryz.func179, Tryz.ntmps179
  go_wp2_with fail
  refine (S1.out _).mono ?_
  rintro e w1 ⟨rfl, hz⟩
  have hz := hz.symm
  subst hz
  go_wp2_with fail
  refine (S2.out _).mono ?_
  rintro e w1 ⟨rfl, hz⟩
  have hz := hz.symm
  subst hz
  go_wp2
  go_ret
  exact ⟨rfl, rfl⟩

theorem ck_13 (c r : Nat) (w : World) (hc : c ≤ 65536) (hr : r ≤ 65536) (h : c ≤ 4096) (h2 : 2 + 4 * r < 2 * c) :
    Calls Tryz.prog 179 #[.int .i64 c, .int .i64 r] w fun e w' => e = .returned (.int .u8 3) ∧ w' = w := by
  have S1 := Lib.hid (fun W => size_3 c r W hc hr)
  have S2 := Lib.hid (fun W => size_1 c r W hc hr)
  have g1 : decide ((c : Int) > 4096) = false := decide_eq_false (by omega)
  have g2 : decide (2 + 4 * (r : Int) < 2 * (c : Int)) = true := decide_eq_true (by omega)
  have g3 : ¬ (c : Int) > 4096 := by omega
  go_enter Tryz.func179, Tryz.ntmps179
  go_wp2_with fail
  refine (S1.out _).mono ?_
  rintro e w1 ⟨rfl, hz⟩
  have hz := hz.symm
  subst hz
  go_wp2_with fail
  refine (S2.out _).mono ?_
  rintro e w1 ⟨rfl, hz⟩
  have hz := hz.symm
  subst hz
  go_wp2
  go_ret
  exact ⟨rfl, rfl⟩

theorem ck_22 (c r : Nat) (w : World) (hc : c ≤ 65536) (hr : r ≤ 65536) (h : ¬ c ≤ 4096) (h2 : ¬ 2 + 4 * r < 8192) :
    Calls Tryz.prog 179 #[.int .i64 c, .int .i64 r] w fun e w' => e = .returned (.int .u8 2) ∧ w' = w := by
  have S1 := Lib.hid (fun W => size_3 c r W hc hr)
  have S2 := Lib.hid (fun W => size_2 c r W hc hr)
  have g1 : decide ((c : Int) > 4096) = true := decide_eq_true (by omega)
  have g2 : decide (2 + 4 * (r : Int) < 8192) = false := decide_eq_false (by omega)
  have g3 : (c : Int) > 4096 := by omega
  go_enter Tryz.func179, Tryz.ntmps179
  go_wp2_with fail
  refine (S1.out _).mono ?_
  rintro e w1 ⟨rfl, hz⟩
  have hz := hz.symm
  subst hz
  go_wp2_with fail
  refine (S2.out _).mono ?_
  rintro e w1 ⟨rfl, hz⟩
  have hz := hz.symm
  subst hz
  go_wp2
  go_ret
  exact ⟨rfl, rfl⟩

theorem ck_23 (c r : Nat) (w : World) (hc : c ≤ 65536) (hr : r ≤ 65536) (h : ¬ c ≤ 4096) (h2 : 2 + 4 * r < 8192) :
    Calls Tryz.prog 179 #[.int .i64 c, .int .i64 r] w fun e w' => e = .returned (.int .u8 3) ∧ w' = w := by
  have S1 := Lib.hid (fun W => size_3 c r W hc hr)
  have S2 := Lib.hid (fun W => size_2 c r W hc hr)
  have g1 : decide ((c : Int) > 4096) = true := decide_eq_true (by omega)
  have g2 : decide (2 + 4 * (r : Int) < 8192) = true := decide_eq_true (by omega)
  have g3 : (c : Int) > 4096 := by omega
  go_enter Tryz.func179, Tryz.ntmps179
  go_wp2_with fail
  refine (S1.out _).mono ?_
  rintro e w1 ⟨rfl, hz⟩
  have hz := hz.symm
  subst hz
  go_wp2_with fail
  refine (S2.out _).mono ?_
  rintro e w1 ⟨rfl, hz⟩
  have hz := hz.symm
  subst hz
  go_wp2
  go_ret
  exact ⟨rfl, rfl⟩

theorem canonicalKind_c (c r : Nat) (w : World) (hc : c ≤ 65536) (hr : r ≤ 65536) :
    Calls Tryz.prog 179 #[.int .i64 c, .int .i64 r] w fun e w' => e = .returned (.int .u8 (ckn c r : Nat)) ∧ w' = w := by
  unfold ckn
  by_cases h : c ≤ 4096
  · rw [if_pos h, if_pos h]
    by_cases h2 : 2 + 4 * r < 2 * c
    · rw [if_pos h2]; exact ck_13 c r w hc hr h h2
    · rw [if_neg h2]; exact ck_11 c r w hc hr h h2
  · rw [if_neg h, if_neg h]
    by_cases h2 : 2 + 4 * r < 8192
    · rw [if_pos h2]; exact ck_23 c r w hc hr h h2
    · rw [if_neg h2]; exact ck_22 c r w hc hr h h2
theorem size_c (k c r : Nat) (w : World) (hk : 1 ≤ k ∧ k ≤ 3) (hc : c ≤ 65536) (hr : r ≤ 65536) :
    Calls Tryz.prog 195 #[.int .u8 k, .int .i64 c, .int .i64 r] w fun e w' => e = .returned (.int .i64 (szn k c r : Nat)) ∧ w' = w := by
  have hk2 : k = 1 ∨ k = 2 ∨ k = 3 := by omega
  rcases hk2 with rfl | rfl | rfl
  · have e : ((szn 1 c r : Nat) : Int) = 2 * (c : Int) := by simp [szn]
    rw [e]; exact size_1 c r w hc hr
  · exact size_2 c r w hc hr
  · have e : ((szn 3 c r : Nat) : Int) = 2 + 4 * (r : Int) := by simp [szn]
    rw [e]; exact size_3 c r w hc hr
end Go.Proofs.YtponcpneflhpfaaGreatDoor
namespace Go.Proofs.YtponcpneflhpfaaGreatDoor
open Go.RowKit
set_option linter.unusedVariables false

set_option maxHeartbeats 1000000 in
theorem toArrays_c {N : Nat → Prop} (v : Value) (p : Nat → Bool) (k : Nat) (w : World) (hT : Tb w) (hN : ∀ b, w.heap.size ≤ b → N b) (h : Cn N w v p k) :
    Calls Tryz.prog 181 #[v] w fun e w' => ∃ v', e = .returned v' ∧ Cn N w' v' p 1 ∧ Below w.heap.size w w' := by
  obtain ⟨κ, A, n, c, A2, n2, c2, A3, n3, c3, rfl⟩ := h.form
  have H := Lib.hid h
  have TT := Lib.hid hT
  have NN := Lib.hid hN
  have T := two_blocks w #[.int .u8 κ, .slice A n c, .slice A2 n2 c2, .slice A3 n3 c3] #[.int .u8 0, .slice none 0 0, .slice none 0 0, .slice none 0 0] 65 65
  clear h hT hN
  go_enter Tryz.func181, Tryz.ntmps181
  go_wp2_with fail
  generalize (w.alloc (.cells #[.int .u8 κ, .slice A n c, .slice A2 n2 c2, .slice A3 n3 c3] 65)).alloc (.cells #[.int .u8 0, .slice none 0 0, .slice none 0 0, .slice none 0 0] 65) = W0 at *
  obtain ⟨b0, r0, r1⟩ := T
  have lg := r1.lt
  have RR := Lib.hid r1
  have BB := Lib.hid b0
  clear b0 r0 r1
  refine (array_c _ p k _ _ (TT.out.step BB.out) rfl (H.out.step BB.out)).mono ?_
  rintro e u1 ⟨X1, x1, rfl, g, b⟩
  have G1 := Lib.hid g
  have L := Lib.hid (Nat.le_refl _ : W0.heap.size ≤ W0.heap.size)
  have RR := Lib.hid (RR.out.below b RR.out.lt)
  have BB := Lib.hid (below_both BB.out b)
  have hs1 := b.size
  clear b g
  go_wp2_with fail
  refine (ofArray_v _ _ _ _).mono ?_
  rintro e u2 ⟨rfl, b⟩
  have G2 := Lib.hid (G1.out.stp b)
  have RR := Lib.hid (RR.out.below b RR.out.lt)
  have BB := Lib.hid (below_both BB.out b)
  clear b
  have d0 : u2.cell? ⟨w.heap.size + 1, 0, none⟩ = some (.int .u8 0) := RR.out.cell 0
  have d1 : u2.cell? ⟨w.heap.size + 1, 1, none⟩ = some (.slice none 0 0) := RR.out.cell 1
  have d2 : u2.cell? ⟨w.heap.size + 1, 2, none⟩ = some (.slice none 0 0) := RR.out.cell 2
  have d3 : u2.cell? ⟨w.heap.size + 1, 3, none⟩ = some (.slice none 0 0) := RR.out.cell 3
  have e0 := RR.out.frozen 0
  have e1 := RR.out.frozen 1
  have e2 := RR.out.frozen 2
  have e3 := RR.out.frozen 3
  go_wp2
  have S4 := set4 (a' := .int .u8 1) (b' := .slice X1 (ct p 65536) x1) (c' := .slice none 0 0) (d' := .slice none 0 0) RR.out
  have B5 := Lib.hid (BB.out.grown S4.2 BB.out.size (fun j e => by injection e with e; subst e; omega))
  exact bodyPost_ret (ret_row rfl rfl S4.1) rfl ⟨_, rfl, Cn.arr 1 _ _ _ (.inr rfl) rfl (Gp.of (G2.out.grown S4.2 (Nat.le_refl _) (fun j e => by injection e with e; subst e; exact .inl (by omega))) S4.2.size (fun b hb _ => NN.out b (by omega))), B5.out⟩

set_option maxHeartbeats 1000000 in
theorem toWords_c {N : Nat → Prop} (v : Value) (p : Nat → Bool) (k : Nat) (w : World) (hT : Tb w) (hN : ∀ b, w.heap.size ≤ b → N b) (h : Cn N w v p k) :
    Calls Tryz.prog 182 #[v] w fun e w' => ∃ v', e = .returned v' ∧ Cn N w' v' p 2 ∧ Below w.heap.size w w' := by
  obtain ⟨κ, A, n, c, A2, n2, c2, A3, n3, c3, rfl⟩ := h.form
  have H := Lib.hid h
  have TT := Lib.hid hT
  have NN := Lib.hid hN
  have T := two_blocks w #[.int .u8 κ, .slice A n c, .slice A2 n2 c2, .slice A3 n3 c3] #[.int .u8 0, .slice none 0 0, .slice none 0 0, .slice none 0 0] 65 65
  clear h hT hN
  go_enter Tryz.func182, Tryz.ntmps182
  go_wp2_with fail
  generalize (w.alloc (.cells #[.int .u8 κ, .slice A n c, .slice A2 n2 c2, .slice A3 n3 c3] 65)).alloc (.cells #[.int .u8 0, .slice none 0 0, .slice none 0 0, .slice none 0 0] 65) = W0 at *
  obtain ⟨b0, r0, r1⟩ := T
  have lg := r1.lt
  have RR := Lib.hid r1
  have BB := Lib.hid b0
  clear b0 r0 r1
  refine (words_c _ p k _ (H.out.step BB.out)).mono ?_
  rintro e u1 ⟨X1, x1, rfl, g, b⟩
  have G1 := Lib.hid g
  have L := Lib.hid (Nat.le_refl _ : W0.heap.size ≤ W0.heap.size)
  have RR := Lib.hid (RR.out.below b RR.out.lt)
  have BB := Lib.hid (below_both BB.out b)
  have hs1 := b.size
  clear b g
  go_wp2_with fail
  refine (ofWords_v _ _ _ _).mono ?_
  rintro e u2 ⟨rfl, b⟩
  have G2 := Lib.hid (G1.out.stp b)
  have RR := Lib.hid (RR.out.below b RR.out.lt)
  have BB := Lib.hid (below_both BB.out b)
  clear b
  have d0 : u2.cell? ⟨w.heap.size + 1, 0, none⟩ = some (.int .u8 0) := RR.out.cell 0
  have d1 : u2.cell? ⟨w.heap.size + 1, 1, none⟩ = some (.slice none 0 0) := RR.out.cell 1
  have d2 : u2.cell? ⟨w.heap.size + 1, 2, none⟩ = some (.slice none 0 0) := RR.out.cell 2
  have d3 : u2.cell? ⟨w.heap.size + 1, 3, none⟩ = some (.slice none 0 0) := RR.out.cell 3
  have e0 := RR.out.frozen 0
  have e1 := RR.out.frozen 1
  have e2 := RR.out.frozen 2
  have e3 := RR.out.frozen 3
  go_wp2
  have S4 := set4 (a' := .int .u8 2) (b' := .slice none 0 0) (c' := .slice X1 1024 x1) (d' := .slice none 0 0) RR.out
  have B5 := Lib.hid (BB.out.grown S4.2 BB.out.size (fun j e => by injection e with e; subst e; omega))
  exact bodyPost_ret (ret_row rfl rfl S4.1) rfl ⟨_, rfl, Cn.wrd _ _ (Gp.of (G2.out.grown S4.2 (Nat.le_refl _) (fun j e => by injection e with e; subst e; exact .inl (by omega))) S4.2.size (fun b hb _ => NN.out b (by omega))), B5.out⟩

set_option maxHeartbeats 1000000 in
theorem toRuns_c {N : Nat → Prop} (v : Value) (p : Nat → Bool) (k : Nat) (w : World) (hT : Tb w) (hN : ∀ b, w.heap.size ≤ b → N b) (h : Cn N w v p k) :
    Calls Tryz.prog 183 #[v] w fun e w' => ∃ v', e = .returned v' ∧ Cn N w' v' p 3 ∧ Below w.heap.size w w' := by
  obtain ⟨κ, A, n, c, A2, n2, c2, A3, n3, c3, rfl⟩ := h.form
  have H := Lib.hid h
  have TT := Lib.hid hT
  have NN := Lib.hid hN
  have T := two_blocks w #[.int .u8 κ, .slice A n c, .slice A2 n2 c2, .slice A3 n3 c3] #[.int .u8 0, .slice none 0 0, .slice none 0 0, .slice none 0 0] 65 65
  clear h hT hN
  go_enter Tryz.func183, Tryz.ntmps183
  go_wp2_with fail
  generalize (w.alloc (.cells #[.int .u8 κ, .slice A n c, .slice A2 n2 c2, .slice A3 n3 c3] 65)).alloc (.cells #[.int .u8 0, .slice none 0 0, .slice none 0 0, .slice none 0 0] 65) = W0 at *
  obtain ⟨b0, r0, r1⟩ := T
  have lg := r1.lt
  have RR := Lib.hid r1
  have BB := Lib.hid b0
  clear b0 r0 r1
  refine (runs_c _ p k _ _ (TT.out.step BB.out) rfl (H.out.step BB.out)).mono ?_
  rintro e u1 ⟨X1, x1, rfl, g, b⟩
  have G1 := Lib.hid g
  have L := Lib.hid (Nat.le_refl _ : W0.heap.size ≤ W0.heap.size)
  have RR := Lib.hid (RR.out.below b RR.out.lt)
  have BB := Lib.hid (below_both BB.out b)
  have hs1 := b.size
  clear b g
  go_wp2_with fail
  refine (ofRuns_v _ _ _ _).mono ?_
  rintro e u2 ⟨rfl, b⟩
  have G2 := Lib.hid (G1.out.stp b)
  have RR := Lib.hid (RR.out.below b RR.out.lt)
  have BB := Lib.hid (below_both BB.out b)
  clear b
  have d0 : u2.cell? ⟨w.heap.size + 1, 0, none⟩ = some (.int .u8 0) := RR.out.cell 0
  have d1 : u2.cell? ⟨w.heap.size + 1, 1, none⟩ = some (.slice none 0 0) := RR.out.cell 1
  have d2 : u2.cell? ⟨w.heap.size + 1, 2, none⟩ = some (.slice none 0 0) := RR.out.cell 2
  have d3 : u2.cell? ⟨w.heap.size + 1, 3, none⟩ = some (.slice none 0 0) := RR.out.cell 3
  have e0 := RR.out.frozen 0
  have e1 := RR.out.frozen 1
  have e2 := RR.out.frozen 2
  have e3 := RR.out.frozen 3
  go_wp2
  have S4 := set4 (a' := .int .u8 3) (b' := .slice none 0 0) (c' := .slice none 0 0) (d' := .slice X1 (ct (hm p) 65536) x1) RR.out
  have B5 := Lib.hid (BB.out.grown S4.2 BB.out.size (fun j e => by injection e with e; subst e; omega))
  exact bodyPost_ret (ret_row rfl rfl S4.1) rfl ⟨_, rfl, Cn.run _ _ _ rfl (Gp2.of (G2.out.grown S4.2 (Nat.le_refl _) (fun j e => by injection e with e; subst e; exact .inl (by omega))) S4.2.size (fun b hb _ => NN.out b (by omega))), B5.out⟩

set_option maxHeartbeats 1000000 in
theorem sizeOf_c {N : Nat → Prop} (v : Value) (p : Nat → Bool) (k m : Nat) (w : World) (h : Cn N w v p k) (hm2 : szn k (ct p 65536) (ct (hm p) 65536) = m) :
    Calls Tryz.prog 120 #[v] w fun e w' => e = .returned (.int .i64 m) ∧ Below w.heap.size w w' := by
  obtain ⟨κ, A, n, c, A2, n2, c2, A3, n3, c3, rfl⟩ := h.form
  have H := Lib.hid h
  have KK := Lib.hid h.kind
  obtain ⟨cc, hcc⟩ : ∃ x, ct p 65536 = x := ⟨_, rfl⟩
  obtain ⟨rr, hrr⟩ : ∃ x, ct (hm p) 65536 = x := ⟨_, rfl⟩
  have CC := Lib.hid (show cc ≤ 65536 from hcc ▸ ct_le _ _)
  have CR := Lib.hid (show rr ≤ 65536 from hrr ▸ ct_le _ _)
  rw [hcc, hrr] at hm2
  have EC := Lib.hid hcc
  have ER := Lib.hid hrr
  have EM := Lib.hid hm2
  have r0 := Row.new w 65 #[.int .u8 κ, .slice A n c, .slice A2 n2 c2, .slice A3 n3 c3]
  have b0 := bx w (.cells #[.int .u8 κ, .slice A n c, .slice A2 n2 c2, .slice A3 n3 c3] 65)
  clear h hcc hrr hm2
  go_enter Tryz.func120, Tryz.ntmps120
  go_wp2_with fail
  generalize w.alloc (.cells #[.int .u8 κ, .slice A n c, .slice A2 n2 c2, .slice A3 n3 c3] 65) = W0 at *
  have K0 : Hid (∀ W, Below W0.heap.size W0 W → W.cell? ⟨w.heap.size, 0, none⟩ = some (.int .u8 κ) ∧ W.cell? ⟨w.heap.size, 1, none⟩ = some (.slice A n c) ∧ W.cell? ⟨w.heap.size, 2, none⟩ = some (.slice A2 n2 c2) ∧ W.cell? ⟨w.heap.size, 3, none⟩ = some (.slice A3 n3 c3)) := Lib.hid fun W hW => by
    have r := r0.below hW r0.lt
    exact ⟨r.cell 0, r.cell 1, r.cell 2, r.cell 3⟩
  have B0 := Lib.hid b0
  have hSc : Below W0.heap.size W0 W0.drew := (Below.refl W0.heap.size W0).drew
  clear b0 r0
  refine wp_region_held_drew (S := fun W => Below W0.heap.size W0 W) (by kernel_rfl) hSc (fun _ => ?_)
  refine held_take 0 ?_ rfl (by kernel_rfl) (by kernel_rfl) (by kernel_rfl) (fun _ _ _ h => h) (by rfl) ?_ hSc ?_
  rotate_left
  · (intro W hSW; obtain ⟨k0, k1, k2, k3⟩ := K0.out W hSW; go_simp; try rfl)
  try simp only [Act.put, List.setIfInBounds_toArray, List.set_cons_zero, List.set_cons_succ]
  refine held_take 2 ?_ rfl (by kernel_rfl) (by kernel_rfl) (by kernel_rfl) (fun _ _ _ h => h) (by rfl) ?_ hSc ?_
  rotate_left
  · (intro W hSW; obtain ⟨k0, k1, k2, k3⟩ := K0.out W hSW; go_simp; try rfl)
  try simp only [Act.put, List.setIfInBounds_toArray, List.set_cons_zero, List.set_cons_succ]
  refine held_take 4 ?_ rfl (by kernel_rfl) (by kernel_rfl) (by kernel_rfl) (fun _ _ _ h => h) (by rfl) ?_ hSc ?_
  rotate_left
  · (intro W hSW; obtain ⟨k0, k1, k2, k3⟩ := K0.out W hSW; go_simp; try rfl)
  try simp only [Act.put, List.setIfInBounds_toArray, List.set_cons_zero, List.set_cons_succ]
  refine held_next 1 rfl (by kernel_rfl) (by rfl) ?_
  go_simp
  refine (kind_c _ p k _ ((H.out.step B0.out).step hSc)).mono ?_
  rintro e wq1 ⟨rfl, bq⟩
  have hbq : Below W0.heap.size W0 wq1 := hSc.trans (bq.mono hSc.size)
  refine ⟨fun W => Below W0.heap.size W0 W, fun W hW => hW, hbq, ?_⟩
  clear hSc bq
  have hSc : Below W0.heap.size W0 wq1 := hbq
  clear hbq
  try simp only [Act.put, List.setIfInBounds_toArray, List.set_cons_zero, List.set_cons_succ]
  refine held_next 3 rfl (by kernel_rfl) (by rfl) ?_
  go_simp
  refine (len_c _ p k cc _ EC.out ((H.out.step B0.out).step hSc)).mono ?_
  rintro e wq2 ⟨rfl, bq⟩
  have hbq : Below W0.heap.size W0 wq2 := hSc.trans (bq.mono hSc.size)
  refine ⟨fun W => Below W0.heap.size W0 W, fun W hW => hW, hbq, ?_⟩
  clear hSc bq
  have hSc : Below W0.heap.size W0 wq2 := hbq
  clear hbq
  try simp only [Act.put, List.setIfInBounds_toArray, List.set_cons_zero, List.set_cons_succ]
  refine held_next 5 rfl (by kernel_rfl) (by rfl) ?_
  go_simp
  refine (runCount_c _ p k rr _ ER.out ((H.out.step B0.out).step hSc)).mono ?_
  rintro e wq3 ⟨rfl, bq⟩
  have hbq : Below W0.heap.size W0 wq3 := hSc.trans (bq.mono hSc.size)
  refine ⟨fun W => Below W0.heap.size W0 W, fun W hW => hW, hbq, ?_⟩
  clear hSc bq
  have hSc : Below W0.heap.size W0 wq3 := hbq
  clear hbq
  try simp only [Act.put, List.setIfInBounds_toArray, List.set_cons_zero, List.set_cons_succ]
  refine held_next 6 rfl (by kernel_rfl) (by rfl) ?_
  go_simp
  refine (size_c k cc rr _ KK.out CC.out CR.out).mono ?_
  rw [EM.out]
  rintro e wq ⟨rfl, hz⟩
  have hz := hz.symm
  subst hz
  refine ⟨fun W => Below W0.heap.size W0 W, fun W hW => hW, hSc, ?_⟩
  try simp only [Act.put, List.setIfInBounds_toArray, List.set_cons_zero, List.set_cons_succ]
  refine held_next 7 rfl (by kernel_rfl) (by rfl) ?_
  go_simp
  refine ⟨fun W => Below W0.heap.size W0 W, fun W hW => hW, hSc, ?_⟩
  refine wpAnyH_done (by kernel_rfl) ?_ _
  have BB := Lib.hid (B0.out.trans (hSc.mono B0.out.size))
  go_wp2
  go_ret
  exact ⟨rfl, BB.out⟩
end Go.Proofs.YtponcpneflhpfaaGreatDoor
