/- Walks: check, Read. -/
import Derived.Test.YtpanfpcfhgnkoaaSn
import Derived.Test.YtpanfpcfhgnkoaaSl
import Derived.Test.YtpanfpcfhgnkoaaBy
namespace Go.Proofs.Ytpanfpcfhgnkoaa
open Go.RowKit
set_option linter.unusedVariables false

theorem quiet_eq {P : Program} {f : FuncId} {args : Array Value} {w : World} {n : Nat} {v : Value}
    (h : Calls P f args (w.drewN n) fun e w' => e = .returned v ∧ w' = w.drewN n) : Calls P f args (w.drewN n) fun e w'' => e = .returned v ∧ ∃ m, w'' = w.drewN m :=
  h.mono fun _ _ ⟨he, hw⟩ => ⟨he, n, hw⟩
/-- What is wrong with packed ids. -/
def chE (P : List UInt8) (n m wI : Int) : Int := if upE P n wI ≠ 0 then upE P n wI else if (upR P n wI).any (fun x => decide (m ≤ (x.toNat : Int))) = true then 5 else 0
set_option maxHeartbeats 1000000 in
theorem check_any (A : Option Addr) (k c : Nat) (P : List UInt8) (n m wI : Int) (Ao : Option Addr) (no co : Nat) (w : World) (hG : Gs e8 w 0 w.heap.size (.slice A k c) P) (hl : P.length ≤ 100000) (h0 : 0 ≤ m) (h1 : m ≤ 9223372036854775807) :
    Calls Try.prog 35 #[.slice A k c, .agg #[.int .i64 n, .int .i64 m, .int .i64 wI, .slice Ao no co]] w fun e w' => e = .returned (.int .i64 (chE P n m wI)) ∧ Below w.heap.size w w' := by
  obtain ⟨W0, hW0⟩ : ∃ W0, W0 = w.alloc (.cells #[.int .i64 n, .int .i64 m, .int .i64 wI, .slice Ao no co] 41) := ⟨_, rfl⟩
  have R0 := Lib.hid (show Row W0 w.heap.size 41 #[.int .i64 n, .int .i64 m, .int .i64 wI, .slice Ao no co] by rw [hW0]; exact Row.new _ _ _)
  have B0 := Lib.hid (show Below w.heap.size w W0 by rw [hW0]; exact (Below.refl _ _).alloc (Nat.le_refl _) _)
  have HUN := Lib.hid (unpack_any (.slice A k c) P 0 n wI W0 (hG.step B0.out) hl)
  have HCK := Lib.hid (fun (l : List UInt64) (A7 : Option Addr) (d7 : Nat) (W : World) (b : Below W0.heap.size W0 W) (h : Gs e64 W 0 W.heap.size (.slice A7 l.length d7) l) =>
    anyU_any 57 #[.pointer (some ⟨w.heap.size, 0, none⟩)] (fun x => decide (m ≤ (x.toNat : Int))) A7 d7 l W h (enters_of Try.func57 (by kernel_rfl) rfl)
      (fun W2 X b2 => (chk_any X w.heap.size n m wI Ao no co W2 ((R0.out.below b R0.out.lt).below b2 (R0.out.below b R0.out.lt).lt) h0 h1).mono fun e w' ⟨q1, q2⟩ => ⟨q1, q2 ▸ Below.refl _ _⟩))
  obtain ⟨E, hE⟩ : ∃ E, upE P n wI = E := ⟨_, rfl⟩
  rw [hE] at HUN
  have HCH := Lib.hid (show chE P n m wI = if E ≠ 0 then E else if (upR P n wI).any (fun x => decide (m ≤ (x.toNat : Int))) = true then 5 else 0 by unfold chE; rw [hE])
  rw [HCH.out]
  generalize upR P n wI = l at HUN ⊢
  clear HCH hE hG
  by_cases hE0 : E = 0
  · subst hE0
    rw [if_neg (by simp)]
    obtain ⟨Q, hQ⟩ : ∃ Q, l.any (fun x => decide (m ≤ (x.toNat : Int))) = Q := ⟨_, rfl⟩
    have HCK2 := Lib.hid (HCK.out l)
    rw [hQ] at HCK2 ⊢
    clear HCK hQ
    cases Q with
    | true =>
      rw [if_pos rfl]
      go_enter Try.func35, Try.ntmps35
      go_wp2_with (first
        | (go_at_call 55; rw [← hW0]; clear hW0; refine HUN.out.mono ?_; rintro e w2 ⟨v2, rfl, o2, b2⟩; have B2 := Lib.hid b2; have O2 := Lib.hid (o2.sl.more (Nat.zero_le _) (Nat.le_refl _)); obtain ⟨A2, d2, rfl, -⟩ := o2.sl; clear o2 b2)
        | (go_at_call 56; refine (HCK2.out A2 d2 _ B2.out O2.out).mono ?_; rintro e w3 ⟨rfl, b3⟩; have B3 := Lib.hid (B2.out.trans (b3.mono B2.out.size)); clear b3))
      go_ret
      exact ⟨rfl, B0.out.trans (B3.out.mono B0.out.size)⟩
    | false =>
      rw [if_neg (by simp)]
      go_enter Try.func35, Try.ntmps35
      go_wp2_with (first
        | (go_at_call 55; rw [← hW0]; clear hW0; refine HUN.out.mono ?_; rintro e w2 ⟨v2, rfl, o2, b2⟩; have B2 := Lib.hid b2; have O2 := Lib.hid (o2.sl.more (Nat.zero_le _) (Nat.le_refl _)); obtain ⟨A2, d2, rfl, -⟩ := o2.sl; clear o2 b2)
        | (go_at_call 56; refine (HCK2.out A2 d2 _ B2.out O2.out).mono ?_; rintro e w3 ⟨rfl, b3⟩; have B3 := Lib.hid (B2.out.trans (b3.mono B2.out.size)); clear b3))
      go_ret
      exact ⟨rfl, B0.out.trans (B3.out.mono B0.out.size)⟩
  · rw [if_pos hE0]
    have e2 : (E != 0) = true := by simp [hE0]
    clear hE0
    go_enter Try.func35, Try.ntmps35
    go_wp2_with (go_at_call 55; rw [← hW0]; clear hW0; refine HUN.out.mono ?_; rintro e w2 ⟨v2, rfl, o2, b2⟩; have B2 := Lib.hid b2; clear o2 b2)
    go_ret
    exact ⟨rfl, B0.out.trans (B2.out.mono B0.out.size)⟩
set_option maxHeartbeats 2000000 in
set_option maxRecDepth 100000 in
theorem read_short (A : Option Addr) (c : Nat) (b : List UInt8) (rows many : Int) (w : World) (hG : Gs e8 w 0 w.heap.size (.slice A b.length c) b) (h9 : b.length < 9) :
    Calls Try.prog 14 #[.slice A b.length c, .int .i64 rows, .int .i64 many] w fun e w' => e = .returned (.tuple #[.pointer none, .int .i64 4]) ∧ Below w.heap.size w w' := by
  have HHD := Lib.hid (head_short A c b w hG h9)
  clear hG
  go_enter Try.func14, Try.ntmps14
  go_wp2_with (go_at_call 34; refine HHD.out.mono ?_; rintro e w1 ⟨rfl, b1⟩; have B1 := Lib.hid b1; clear b1)
  go_ret2
  exact ⟨rfl, B1.out.alloc B1.out.size _⟩
set_option maxHeartbeats 2000000 in
set_option maxRecDepth 100000 in
theorem read_long (A : Option Addr) (c : Nat) (b : List UInt8) (rows many : Int) (w : World) (hG : Gs e8 w 0 w.heap.size (.slice A b.length c) b) (h9 : 9 ≤ b.length) (hx : 16777216 < rN b) :
    Calls Try.prog 14 #[.slice A b.length c, .int .i64 rows, .int .i64 many] w fun e w' => e = .returned (.tuple #[.pointer none, .int .i64 3]) ∧ Below w.heap.size w w' := by
  obtain ⟨n, hn⟩ : ∃ n, rN b = n := ⟨_, rfl⟩
  obtain ⟨m, hm⟩ : ∃ m, rM b = m := ⟨_, rfl⟩
  obtain ⟨k, hk⟩ : ∃ k, rW b = k := ⟨_, rfl⟩
  have HHD := Lib.hid (head_yes A c b w hG h9)
  rw [hn, hm, hk] at HHD
  rw [hn] at hx
  have d1 : decide ((16777216 : Int) < (n : Int)) = true := decide_eq_true (by omega)
  clear hG
  go_enter Try.func14, Try.ntmps14
  go_wp2_with (go_at_call 34; refine HHD.out.mono ?_; rintro e w1 ⟨rfl, b1⟩; have B1 := Lib.hid b1; have hr1 := Row.new w1 41 #[.int .i64 (n : Int), .int .i64 (m : Int), .int .i64 (k : Int), .slice none 0 0]; have R1 := Lib.hid hr1; have B2 := Lib.hid (b1.alloc b1.size (.cells #[.int .i64 (n : Int), .int .i64 (m : Int), .int .i64 (k : Int), .slice none 0 0] 41)); clear b1 hr1)
  go_ret2
  exact ⟨rfl, B2.out⟩
set_option maxHeartbeats 2000000 in
set_option maxRecDepth 100000 in
theorem read_rows (A : Option Addr) (c : Nat) (b : List UInt8) (rows many : Int) (w : World) (hG : Gs e8 w 0 w.heap.size (.slice A b.length c) b) (h9 : 9 ≤ b.length) (hx : ¬ 16777216 < rN b) (h1 : (rN b : Int) ≠ rows) :
    Calls Try.prog 14 #[.slice A b.length c, .int .i64 rows, .int .i64 many] w fun e w' => e = .returned (.tuple #[.pointer none, .int .i64 5]) ∧ Below w.heap.size w w' := by
  obtain ⟨n, hn⟩ : ∃ n, rN b = n := ⟨_, rfl⟩
  obtain ⟨m, hm⟩ : ∃ m, rM b = m := ⟨_, rfl⟩
  obtain ⟨k, hk⟩ : ∃ k, rW b = k := ⟨_, rfl⟩
  have HHD := Lib.hid (head_yes A c b w hG h9)
  rw [hn, hm, hk] at HHD
  rw [hn] at hx
  have d1 : decide ((16777216 : Int) < (n : Int)) = false := decide_eq_false (by omega)
  rw [hn] at h1
  have d2 : ((n : Int) != rows) = true := by simpa using h1
  clear hG
  go_enter Try.func14, Try.ntmps14
  go_wp2_with (go_at_call 34; refine HHD.out.mono ?_; rintro e w1 ⟨rfl, b1⟩; have B1 := Lib.hid b1; have hr1 := Row.new w1 41 #[.int .i64 (n : Int), .int .i64 (m : Int), .int .i64 (k : Int), .slice none 0 0]; have R1 := Lib.hid hr1; have B2 := Lib.hid (b1.alloc b1.size (.cells #[.int .i64 (n : Int), .int .i64 (m : Int), .int .i64 (k : Int), .slice none 0 0] 41)); clear b1 hr1)
  go_ret2
  exact ⟨rfl, B2.out⟩
set_option maxHeartbeats 2000000 in
set_option maxRecDepth 100000 in
theorem read_many (A : Option Addr) (c : Nat) (b : List UInt8) (rows many : Int) (w : World) (hG : Gs e8 w 0 w.heap.size (.slice A b.length c) b) (h9 : 9 ≤ b.length) (hx : ¬ 16777216 < rN b) (h1 : (rN b : Int) = rows) (h2 : (rM b : Int) ≠ many) :
    Calls Try.prog 14 #[.slice A b.length c, .int .i64 rows, .int .i64 many] w fun e w' => e = .returned (.tuple #[.pointer none, .int .i64 5]) ∧ Below w.heap.size w w' := by
  obtain ⟨n, hn⟩ : ∃ n, rN b = n := ⟨_, rfl⟩
  obtain ⟨m, hm⟩ : ∃ m, rM b = m := ⟨_, rfl⟩
  obtain ⟨k, hk⟩ : ∃ k, rW b = k := ⟨_, rfl⟩
  have HHD := Lib.hid (head_yes A c b w hG h9)
  rw [hn, hm, hk] at HHD
  rw [hn] at hx
  have d1 : decide ((16777216 : Int) < (n : Int)) = false := decide_eq_false (by omega)
  rw [hn] at h1
  rw [hm] at h2
  subst h1
  have d3 : ((m : Int) != many) = true := by simpa using h2
  clear hG
  go_enter Try.func14, Try.ntmps14
  go_wp2_with (go_at_call 34; refine HHD.out.mono ?_; rintro e w1 ⟨rfl, b1⟩; have B1 := Lib.hid b1; have hr1 := Row.new w1 41 #[.int .i64 (n : Int), .int .i64 (m : Int), .int .i64 (k : Int), .slice none 0 0]; have R1 := Lib.hid hr1; have B2 := Lib.hid (b1.alloc b1.size (.cells #[.int .i64 (n : Int), .int .i64 (m : Int), .int .i64 (k : Int), .slice none 0 0] 41)); clear b1 hr1)
  go_ret2
  exact ⟨rfl, B2.out⟩
set_option maxHeartbeats 2000000 in
set_option maxRecDepth 100000 in
theorem read_may (A : Option Addr) (c : Nat) (b : List UInt8) (rows many : Int) (w : World) (hG : Gs e8 w 0 w.heap.size (.slice A b.length c) b) (h9 : 9 ≤ b.length) (hx : ¬ 16777216 < rN b) (h1 : (rN b : Int) = rows) (h2 : (rM b : Int) = many) (h3 : mayM rows many = false) :
    Calls Try.prog 14 #[.slice A b.length c, .int .i64 rows, .int .i64 many] w fun e w' => e = .returned (.tuple #[.pointer none, .int .i64 5]) ∧ Below w.heap.size w w' := by
  obtain ⟨n, hn⟩ : ∃ n, rN b = n := ⟨_, rfl⟩
  obtain ⟨m, hm⟩ : ∃ m, rM b = m := ⟨_, rfl⟩
  obtain ⟨k, hk⟩ : ∃ k, rW b = k := ⟨_, rfl⟩
  have HHD := Lib.hid (head_yes A c b w hG h9)
  rw [hn, hm, hk] at HHD
  have hm32 := rM_lt b
  rw [hm] at hm32
  rw [hn] at hx
  have d1 : decide ((16777216 : Int) < (n : Int)) = false := decide_eq_false (by omega)
  rw [hn] at h1
  rw [hm] at h2
  subst h1 h2
  have HMY := Lib.hid (fun W => isMany_any (m : Int) (n : Int) W)
  rw [h3] at HMY
  have HWO := Lib.hid (fun W => widthOf_any (m : Int) W (by omega))
  clear hG
  go_enter Try.func14, Try.ntmps14
  go_wp2_with (go_at_call 34; refine HHD.out.mono ?_; rintro e w1 ⟨rfl, b1⟩; have B1 := Lib.hid b1; have hr1 := Row.new w1 41 #[.int .i64 (n : Int), .int .i64 (m : Int), .int .i64 (k : Int), .slice none 0 0]; have R1 := Lib.hid hr1; have B2 := Lib.hid (b1.alloc b1.size (.cells #[.int .i64 (n : Int), .int .i64 (m : Int), .int .i64 (k : Int), .slice none 0 0] 41)); clear b1 hr1)
  have c0 := R1.out.cell 0
  have c1 := R1.out.cell 1
  have c2 := R1.out.cell 2
  have H2 := Lib.hid (B2.out)
  go_quiet ((first | (go_at_call 24; exact quiet_eq (HMY.out _)) | (go_at_call 26; exact quiet_eq (HWO.out _))))
  go_wp2
  go_ret2
  exact ⟨rfl, below_drewN B2.out nq⟩
set_option maxHeartbeats 2000000 in
set_option maxRecDepth 100000 in
theorem read_width (A : Option Addr) (c : Nat) (b : List UInt8) (rows many : Int) (w : World) (hG : Gs e8 w 0 w.heap.size (.slice A b.length c) b) (h9 : 9 ≤ b.length) (hx : ¬ 16777216 < rN b) (h1 : (rN b : Int) = rows) (h2 : (rM b : Int) = many) (h3 : mayM rows many = true) (h4 : rW b ≠ wdm many) :
    Calls Try.prog 14 #[.slice A b.length c, .int .i64 rows, .int .i64 many] w fun e w' => e = .returned (.tuple #[.pointer none, .int .i64 5]) ∧ Below w.heap.size w w' := by
  obtain ⟨n, hn⟩ : ∃ n, rN b = n := ⟨_, rfl⟩
  obtain ⟨m, hm⟩ : ∃ m, rM b = m := ⟨_, rfl⟩
  obtain ⟨k, hk⟩ : ∃ k, rW b = k := ⟨_, rfl⟩
  have HHD := Lib.hid (head_yes A c b w hG h9)
  rw [hn, hm, hk] at HHD
  have hm32 := rM_lt b
  rw [hm] at hm32
  rw [hn] at hx
  have d1 : decide ((16777216 : Int) < (n : Int)) = false := decide_eq_false (by omega)
  rw [hn] at h1
  rw [hm] at h2
  subst h1 h2
  have HMY := Lib.hid (fun W => isMany_any (m : Int) (n : Int) W)
  rw [h3] at HMY
  have HWO := Lib.hid (fun W => widthOf_any (m : Int) W (by omega))
  rw [hk] at h4
  generalize wdm (m : Int) = wd_ at HWO h4
  have d5 : ((k : Int) != (wd_ : Int)) = true := by simp; omega
  clear hG
  go_enter Try.func14, Try.ntmps14
  go_wp2_with (go_at_call 34; refine HHD.out.mono ?_; rintro e w1 ⟨rfl, b1⟩; have B1 := Lib.hid b1; have hr1 := Row.new w1 41 #[.int .i64 (n : Int), .int .i64 (m : Int), .int .i64 (k : Int), .slice none 0 0]; have R1 := Lib.hid hr1; have B2 := Lib.hid (b1.alloc b1.size (.cells #[.int .i64 (n : Int), .int .i64 (m : Int), .int .i64 (k : Int), .slice none 0 0] 41)); clear b1 hr1)
  have c0 := R1.out.cell 0
  have c1 := R1.out.cell 1
  have c2 := R1.out.cell 2
  have H2 := Lib.hid (B2.out)
  go_quiet ((first | (go_at_call 24; exact quiet_eq (HMY.out _)) | (go_at_call 26; exact quiet_eq (HWO.out _))))
  go_wp2
  go_ret2
  exact ⟨rfl, below_drewN B2.out nq⟩
end Go.Proofs.Ytpanfpcfhgnkoaa
