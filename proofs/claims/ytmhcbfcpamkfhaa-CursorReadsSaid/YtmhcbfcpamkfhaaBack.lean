/- Walks: the law CursorBack. -/
import Derived.Test.YtmhcbfcpamkfhaaPb
namespace Go.Proofs.Ytmhcbfcpamkfhaa
open Go.RowKit
set_option linter.unusedVariables false

/-- Too many bytes: 'known' alone is asked. -/
theorem back_long (a0 a1 a2 a3 : Int) (A B : Option Addr) (n c m d : Nat) (w : World) (hn : 1000 < n ∨ 1000 < m) (h1 : n ≤ 9223372036854775807) (h2 : m ≤ 9223372036854775807) :
    Calls Try.prog 6 #[.int .u16 a0, .int .u32 a1, .int .u64 a2, .int .u64 a3, .slice A n c, .slice B m d] w fun e w' => e = .returned (.bool true) ∧ Below w.heap.size w w' := by
  by_cases hn' : 1000 < n
  · clear hn
    go_enter Try.func6, Try.ntmps6
    go_wp2_with (go_at_call 8; refine (known_any _).mono ?_; rintro e w1 ⟨rfl, hb⟩)
    go_ret
    exact ⟨rfl, hb⟩
  · have hm : 1000 < m := by omega
    have hd : decide (1000 < n) = false := by simp; omega
    clear hn
    go_enter Try.func6, Try.ntmps6
    go_wp2_with (go_at_call 8; refine (known_any _).mono ?_; rintro e w1 ⟨rfl, hb⟩)
    go_ret
    exact ⟨rfl, hb⟩

theorem Rd.drew {w : World} {base g : Nat} {v : Value} {l : List UInt8} {p : Nat} {x : Bool} (h : Rd w base g v l p x) : Rd w.drew base g v l p x := ⟨h.row, h.own, h.ge, h.le, h.small⟩
theorem U32_spec {base g : Nat} {v : Value} {l : List UInt8} {p : Nat} {x : Bool} {n q : Nat} {y : Bool} (h : rd l p x 4 = (n, q, y)) (w : World) (hr : Rd w base g v l p x) :
    Calls Try.prog 19 #[.pointer (some ⟨g, 0, none⟩)] w fun e w' => e = .returned (.int .u32 n) ∧ Rd w' base g v l q y ∧ w.grownBy w' (some g) := by
  have hc := U32_any w hr
  rw [h] at hc
  exact hc
theorem U64_spec {base g : Nat} {v : Value} {l : List UInt8} {p : Nat} {x : Bool} {n q : Nat} {y : Bool} (h : rd l p x 8 = (n, q, y)) (w : World) (hr : Rd w base g v l p x) :
    Calls Try.prog 20 #[.pointer (some ⟨g, 0, none⟩)] w fun e w' => e = .returned (.int .u64 n) ∧ Rd w' base g v l q y ∧ w.grownBy w' (some g) := by
  have hc := U64_any w hr
  rw [h] at hc
  exact hc
theorem Bytes_spec {base g : Nat} {v : Value} {l : List UInt8} {p : Nat} {x : Bool} {n : Int} {q : Nat} {y : Bool} {s : List UInt8} (h : rb l p x n = (s, q, y)) (S : ByteArray) (hS : S = ⟨s.toArray⟩) (w : World) (hr : Rd w base g v l p x) :
    Calls Try.prog 23 #[.pointer (some ⟨g, 0, none⟩), .int .i64 n] w fun e w' => ∃ A m c, e = .returned (.slice A m c) ∧ (convert 22 9 (.slice A m c)).run Try.prog w' = .ok (.string S) w' ∧ Rd w' base g v l q y ∧ w.grownBy w' (some g) := by
  refine (Bytes_any n w hr).mono ?_
  rintro e w' ⟨v', rfl, o, hr', hg⟩
  rw [h] at o hr'
  obtain ⟨A, m, c, rfl, hk⟩ := str_own o
  exact ⟨A, m, c, rfl, by rw [hS]; exact hk w' o, hr', hg⟩

/-- All that the law asks of its reader. -/
structure BackSpec (a b c d : Nat) (x more F L : List UInt8) (p1 p2 p3 p4 p5 p6 : Nat) : Prop where
  u16 : rd F 0 false 2 = (a, p1, false)
  u32 : rd F p1 false 4 = (b, p2, false)
  u64 : rd F p2 false 8 = (c, p3, false)
  ui : rd F p3 false 0 = (d, p4, false)
  ln : rd F p4 false 0 = (x.length, p5, false)
  by_ : rb F p5 false (x.length : Int) = (x, p6, false)
  at_ : p6 = L.length
  left : lf F p6 false = more.length
theorem backSpec (a b c d : Nat) (x more : List UInt8) (ha : a < 65536) (hb : b < 4294967296) (hc : c < 18446744073709551616) (hd : d < 18446744073709551616) (hx : x.length ≤ 1000) :
    ∃ p1 p2 p3 p4 p5 p6, BackSpec a b c d x more (le 2 a ++ le 4 b ++ le 8 c ++ short d ++ short x.length ++ x ++ more) (le 2 a ++ le 4 b ++ le 8 c ++ short d ++ short x.length ++ x) p1 p2 p3 p4 p5 p6 := by
  refine ⟨2, 2 + 4, 2 + 4 + 8, 2 + 4 + 8 + (short d).length, 2 + 4 + 8 + (short d).length + (short x.length).length, 2 + 4 + 8 + (short d).length + (short x.length).length + x.length, ?_, ?_, ?_, ?_, ?_, ?_, ?_, ?_⟩
  · have := rd_le_ [] (le 4 b ++ le 8 c ++ short d ++ short x.length ++ x ++ more) 2 a (by omega) (by omega)
    simpa only [List.append_assoc, List.nil_append, List.length_nil, Nat.zero_add] using this
  · have := rd_le_ (le 2 a) (le 8 c ++ short d ++ short x.length ++ x ++ more) 4 b (by omega) (by omega)
    simpa only [List.append_assoc, le_length] using this
  · have := rd_le_ (le 2 a ++ le 4 b) (short d ++ short x.length ++ x ++ more) 8 c (by omega) (by omega)
    simpa only [List.append_assoc, le_length, List.length_append, Nat.add_assoc] using this
  · have := rd_short_ (le 2 a ++ le 4 b ++ le 8 c) (short x.length ++ x ++ more) d hd
    simpa only [List.append_assoc, le_length, List.length_append, Nat.add_assoc] using this
  · have := rd_short_ (le 2 a ++ le 4 b ++ le 8 c ++ short d) (x ++ more) x.length (by omega)
    simpa only [List.append_assoc, le_length, List.length_append, Nat.add_assoc] using this
  · have := rb_mid_ (le 2 a ++ le 4 b ++ le 8 c ++ short d ++ short x.length) x more
    simpa only [List.append_assoc, le_length, List.length_append, Nat.add_assoc] using this
  · simp [le_length]; omega
  · simp [lf, le_length]; omega

end Go.Proofs.Ytmhcbfcpamkfhaa
