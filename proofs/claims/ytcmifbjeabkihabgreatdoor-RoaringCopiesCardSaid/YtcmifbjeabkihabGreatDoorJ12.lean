/- Walks: slices.Insert of one entry: at the end, in place, into a new row. -/
import Derived.Test.YtcmifbjeabkihabGreatDoorJ11
namespace Go.Proofs.YtcmifbjeabkihabGreatDoor
open Go.RowKit
set_option linter.unusedVariables false

set_option maxHeartbeats 1000000 in
theorem insert_end (base : Nat) (s u : Value) (es : List En) (e : En) (lo hi n : Nat) (w : World) (hn : es.length = n) (hs : GwV eN w base s es) (hl : n ≤ 100000) (hu : GsV eN w lo hi u [e]) (hbase : base ≤ w.heap.size) :
    Calls Tryz.prog 37 #[s, .int .i64 (n : Int), u] w fun r w' => ∃ s', r = .returned s' ∧ GwV eN w' base s' (es ++ [e]) ∧ w.grownBy w' s.ownBlock ∧ (s'.ownBlock = s.ownBlock ∨ s'.ownBlock = some w.heap.size) := by
  have HU := Lib.hid hu
  have HS := Lib.hid hs
  have HN := Lib.hid hn
  obtain ⟨A, c, rfl, -⟩ := hu
  obtain ⟨A1, n1, c1, rfl⟩ := hs.slice
  have hn1 : n1 = n := by
    rw [← hn]
    obtain ⟨_, _, e1, _⟩ := hs.sl
    injection e1
  subst hn1
  have hc1 : n1 ≤ c1 := by
    obtain ⟨_, _, e1, _, h2, _⟩ := hs.sl
    injection e1 with _ e2 e3
    omega
  clear hs hn
  by_cases hcn : c1 = n1
  · subst hcn
    go_enter Tryz.func37, Tryz.ntmps37
    go_wp2_with (at_builtin; refine wpList_gappv eN _ rfl _ _ _ rfl base sliN infN (.slice A1 c1 c1) es rfl HS.out lo hi (.slice A 1 c) [e] rfl HU.out (by have := HN.out; simp; omega) hbase ?_; intro v2 w2 o2 g2 g3; have O2 := Lib.hid o2; have G2 := Lib.hid g2; have G3 := Lib.hid g3; clear o2 g2 g3)
    go_ret
    exact ⟨_, rfl, O2.out, G2.out, G3.out⟩
  · go_enter Tryz.func37, Tryz.ntmps37
    go_wp2_with (at_builtin; refine wpList_gappv eN _ rfl _ _ _ rfl base sliN infN (.slice A1 n1 c1) es rfl HS.out lo hi (.slice A 1 c) [e] rfl HU.out (by have := HN.out; simp; omega) hbase ?_; intro v2 w2 o2 g2 g3; have O2 := Lib.hid o2; have G2 := Lib.hid g2; have G3 := Lib.hid g3; clear o2 g2 g3)
    go_ret
    exact ⟨_, rfl, O2.out, G2.out, G3.out⟩
end Go.Proofs.YtcmifbjeabkihabGreatDoor
