/- Walks: an index in memory; at, Get, All. -/
import Derived.Test.YtpanfpcfhgnkoaaSc
namespace Go.Proofs.Ytpanfpcfhgnkoaa
open Go.RowKit
set_option linter.unusedVariables false

/-- An index at a pointer: its ids, all below many. -/
structure IxM (W : World) (g : Nat) (A : Option Addr) (c : Nat) (zs : List Int) (many : Int) : Prop where
  row : Row W g 41 #[.int .i64 (zs.length : Int), .int .i64 many, .int .i64 (wdm many : Int), .slice A (iP zs many).length c]
  pkd : Gs e8 W 0 W.heap.size (.slice A (iP zs many).length c) (iP zs many)
  may : mayM zs.length many = true
  all : zs.all (inr many) = true
  small : zs.length ≤ 100000
theorem IxM.step {W W' : World} {g : Nat} {A : Option Addr} {c : Nat} {zs : List Int} {many : Int} (h : IxM W g A c zs many) (b : Below W.heap.size W W') : IxM W' g A c zs many :=
  ⟨h.row.below b h.row.lt, h.pkd.step b, h.may, h.all, h.small⟩
theorem IxM.at_ {W : World} {g : Nat} {A : Option Addr} {c : Nat} {zs : List Int} {many : Int} (h : IxM W g A c zs many) : IxAt W (.pointer (some ⟨g, 0, none⟩)) zs.length many (wdm many : Nat) A (iP zs many).length c := .inr ⟨g, rfl, h.row⟩
theorem IxM.many_le {W : World} {g : Nat} {A : Option Addr} {c : Nat} {zs : List Int} {many : Int} (h : IxM W g A c zs many) : 0 ≤ many ∧ many ≤ 16777216 := by
  rcases mayM_iff.1 h.may with h | h <;> omega
def Ix (W : World) (p : Value) (zs : List Int) (many : Int) : Prop := ∃ g A c, p = .pointer (some ⟨g, 0, none⟩) ∧ IxM W g A c zs many
theorem Ix.step {W W' : World} {p : Value} {zs : List Int} {many : Int} (h : Ix W p zs many) (b : Below W.heap.size W W') : Ix W' p zs many := by
  obtain ⟨g, A, c, e, m⟩ := h
  exact ⟨g, A, c, e, m.step b⟩
/-- An index in a block, its bytes below hi. -/
structure IxH (W : World) (hi g : Nat) (A : Option Addr) (c : Nat) (zs : List Int) (many : Int) : Prop where
  row : Row W g 41 #[.int .i64 (zs.length : Int), .int .i64 many, .int .i64 (wdm many : Int), .slice A (iP zs many).length c]
  pkd : Gs e8 W 0 hi (.slice A (iP zs many).length c) (iP zs many)
  may : mayM zs.length many = true
  all : zs.all (inr many) = true
  small : zs.length ≤ 100000
theorem IxM.h {W : World} {g : Nat} {A : Option Addr} {c : Nat} {zs : List Int} {many : Int} (h : IxM W g A c zs many) : IxH W W.heap.size g A c zs many := ⟨h.row, h.pkd, h.may, h.all, h.small⟩
set_option maxHeartbeats 1000000 in
theorem at_h (g : Nat) (A : Option Addr) (c : Nat) (zs : List Int) (many : Int) (i : Nat) (z : Int) (w : World) (hi : Nat) (h : IxH w hi g A c zs many) (hz : zs[i]? = some z) :
    Calls Try.prog 32 #[.pointer (some ⟨g, 0, none⟩), .int .i64 (i : Int)] w fun e w' => e = .returned (.int .i64 z) ∧ ∃ n, w' = w.drewN n := by
  have hm : 0 ≤ many ∧ many ≤ 16777216 := by rcases mayM_iff.1 h.may with h | h <;> omega
  have hil : i < zs.length := (List.getElem?_eq_some_iff.1 hz).1
  have hsm := h.small
  have hzr := all_inr h.all z (List.mem_of_getElem? hz)
  have hp1 := wdm_pos many
  have hp2 := wdm_le hm.2
  have htk := tk_at hm.2 h.all hz
  have hlen := iP_small (zs := zs) hm.2
  have hget := fun W (hG : Gs e8 W 0 hi (.slice A (iP zs many).length c) (iP zs many)) => get_yes _ (iP zs many) 0 hi i (wdm many) W hG (by omega) hp1 (by omega) (by omega)
  rw [htk] at hget
  have HG := Lib.hid (fun n => hget (w.drewN n) (h.pkd.drewN n))
  have c2 := h.row.cell 2
  have c3 := h.row.cell 3
  have w1 : wrap64 z = z := by unfold wrap64; omega
  have w2 : IntKind.i64.wrap z = z := by rw [IntKind.wrap_i64]; omega
  clear hget htk hp1 hp2 hlen h hz hsm hil
  generalize (iP zs many).length = L at *
  generalize ((wdm many : Nat) : Int) = wd_ at *
  go_enter Try.func32, Try.ntmps32
  go_wp2_with fail
  go_quiet ((first | (go_at_call 48; exact quiet_left_ (HG.out _))))
  go_wp2
  go_ret
  exact ⟨rfl, nq, rfl⟩

theorem at_c (g : Nat) (A : Option Addr) (c : Nat) (zs : List Int) (many : Int) (i : Nat) (z : Int) (w : World) (h : IxM w g A c zs many) (hz : zs[i]? = some z) :
    Calls Try.prog 32 #[.pointer (some ⟨g, 0, none⟩), .int .i64 (i : Int)] w fun e w' => e = .returned (.int .i64 z) ∧ ∃ n, w' = w.drewN n := at_h g A c zs many i z w _ h.h hz
set_option maxHeartbeats 1000000 in
theorem get_none (p : Value) (r m : Int) (A : Option Addr) (n c : Nat) (row : Int) (w : World) (h : IxAt w p r m 0 A n c) :
    Calls Try.prog 16 #[p, .int .i64 row] w fun e w' => e = .returned (.tuple #[.int .i64 0, .int .i64 1]) ∧ Below w.heap.size w w' := by
  have HC := Lib.hid (wid_any p r m 0 A n c w h)
  clear h
  go_enter Try.func16, Try.ntmps16
  go_wp2_with (go_at_call 19; refine HC.out.mono ?_; rintro e w1 ⟨rfl, b1⟩; have B1 := Lib.hid b1; clear b1)
  go_ret2
  exact ⟨rfl, B1.out⟩
set_option maxHeartbeats 1000000 in
theorem get_out (g : Nat) (A : Option Addr) (c : Nat) (zs : List Int) (many : Int) (row : Int) (w : World) (h : IxM w g A c zs many) (ho : row < 0 ∨ (zs.length : Int) ≤ row) :
    Calls Try.prog 16 #[.pointer (some ⟨g, 0, none⟩), .int .i64 row] w fun e w' => e = .returned (.tuple #[.int .i64 0, .int .i64 7]) ∧ Below w.heap.size w w' := by
  have HM := Lib.hid h
  have e0 : (((wdm many : Nat) : Int) == 0) = false := by have := wdm_pos many; simp; omega
  have HC := Lib.hid (wid_any _ _ _ _ A _ c w h.at_)
  clear h
  by_cases h1 : row < 0
  · have d1 : decide (row < 0) = true := decide_eq_true h1
    clear h1 ho
    go_enter Try.func16, Try.ntmps16
    go_wp2_with (go_at_call 19; refine HC.out.mono ?_; rintro e w1 ⟨rfl, b1⟩; have B1 := Lib.hid b1; clear b1)
    go_ret2
    exact ⟨rfl, B1.out⟩
  · have d1 : decide (row < 0) = false := decide_eq_false h1
    have d2 : decide ((zs.length : Int) ≤ row) = true := decide_eq_true (by omega)
    clear h1 ho
    go_enter Try.func16, Try.ntmps16
    go_wp2_with (first
      | (go_at_call 19; refine HC.out.mono ?_; rintro e w1 ⟨rfl, b1⟩; have B1 := Lib.hid b1; clear b1)
      | (go_at_call 17; refine (len_any _ _ _ _ A _ c _ (HM.out.step B1.out).at_).mono ?_; rintro e w2 ⟨rfl, b2⟩; have B2 := Lib.hid (B1.out.trans (b2.mono B1.out.size)); clear b2))
    go_ret2
    exact ⟨rfl, B2.out⟩
set_option maxHeartbeats 1000000 in
theorem get_in (g : Nat) (A : Option Addr) (c : Nat) (zs : List Int) (many : Int) (i : Nat) (z : Int) (w : World) (h : IxM w g A c zs many) (hz : zs[i]? = some z) :
    Calls Try.prog 16 #[.pointer (some ⟨g, 0, none⟩), .int .i64 (i : Int)] w fun e w' => e = .returned (.tuple #[.int .i64 z, .int .i64 0]) ∧ Below w.heap.size w w' := by
  have HM := Lib.hid h
  have e0 : (((wdm many : Nat) : Int) == 0) = false := by have := wdm_pos many; simp; omega
  have HC := Lib.hid (wid_any _ _ _ _ A _ c w h.at_)
  have hil : i < zs.length := (List.getElem?_eq_some_iff.1 hz).1
  have HZ := Lib.hid hz
  have d1 : decide ((i : Int) < 0) = false := decide_eq_false (by omega)
  have d2 : decide ((zs.length : Int) ≤ (i : Int)) = false := decide_eq_false (by omega)
  clear h hz
  go_enter Try.func16, Try.ntmps16
  go_wp2_with (first
    | (go_at_call 19; refine HC.out.mono ?_; rintro e w1 ⟨rfl, b1⟩; have B1 := Lib.hid b1; clear b1)
    | (go_at_call 17; refine (len_any _ _ _ _ A _ c _ (HM.out.step B1.out).at_).mono ?_; rintro e w2 ⟨rfl, b2⟩; have B2 := Lib.hid (B1.out.trans (b2.mono B1.out.size)); clear b2)
    | (go_at_call 32; refine (at_c g A c zs many i z _ (HM.out.step B2.out) HZ.out).mono ?_; rintro e w3 ⟨rfl, nq, hq⟩; have B3 := Lib.hid (show Below w.heap.size w w3 by rw [hq]; exact below_drewN B2.out nq); clear hq))
  go_ret2
  exact ⟨rfl, B3.out⟩
set_option maxHeartbeats 1000000 in
theorem all_any (p : Value) (r m wd : Int) (A : Option Addr) (n c : Nat) (w : World) (h : IxAt w p r m wd A n c) :
    Calls Try.prog 12 #[p] w fun e w' => ∃ Bs, e = .returned (.func (.func 31) #[] #[.pointer (some ⟨Bs, 0, none⟩)]) ∧ w.heap.size ≤ Bs ∧ Row w' Bs 41 #[.int .i64 r, .int .i64 m, .int .i64 wd, .slice A n c] ∧ Below w.heap.size w w' := by
  have HC := Lib.hid (told_any p r m wd A n c w h)
  clear h
  go_enter Try.func12, Try.ntmps12
  go_wp2_with (go_at_call 30; refine HC.out.mono ?_; rintro e w1 ⟨rfl, b1⟩; have B1 := Lib.hid b1; clear b1)
  go_ret
  exact ⟨_, rfl, B1.out.size, Row.new _ _ _, B1.out.alloc B1.out.size _⟩
end Go.Proofs.Ytpanfpcfhgnkoaa
