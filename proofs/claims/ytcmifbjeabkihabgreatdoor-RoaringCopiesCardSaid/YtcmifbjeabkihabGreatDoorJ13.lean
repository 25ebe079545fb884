/- Walks: slices.Insert of one entry; Copy of a set. -/
import Derived.Test.YtcmifbjeabkihabGreatDoorJ12
import Derived.Test.YtcmifbjeabkihabGreatDoorJ12b
import Derived.Test.YtcmifbjeabkihabGreatDoorJ12c
import Derived.Test.YtcmifbjeabkihabGreatDoorMd0
namespace Go.Proofs.YtcmifbjeabkihabGreatDoor
open Go.RowKit
set_option linter.unusedVariables false

theorem row_one {w : World} {g : Nat} {e : En} (h : Row w g eN.E (eN.cs e).toArray) : GsV eN w 0 w.heap.size (.slice (some ⟨g, 0, none⟩) 1 1) [e] := by
  refine ⟨some ⟨g, 0, none⟩, 1, rfl, fun e => (by cases e), by simp, by unfold maxLen; omega, fun _ => ⟨g, 0, rfl, Nat.zero_le _, h.lt, fun j y hj i u hu => ?_⟩⟩
  match j, hj with
  | 0, hj =>
    simp at hj
    subst hj
    rw [Nat.mul_zero, Nat.zero_add, Nat.zero_add, h.cell, List.getElem?_toArray, hu]
  | j + 1, hj => simp at hj
theorem insert_c (base : Nat) (s : Value) (es : List En) (i vb : Nat) (e : En) (w : World) (hs : GwV eN w base s es) (hi : i ≤ es.length) (hl : es.length ≤ 100000) (hv : Row w vb eN.E (eN.cs e).toArray) (hne : s.ownBlock ≠ some vb) (hbase : base ≤ w.heap.size) :
    Calls Tryz.prog 37 #[s, .int .i64 (i : Int), .slice (some ⟨vb, 0, none⟩) 1 1] w fun r w' => ∃ s', r = .returned s' ∧ GwV eN w' base s' (es.take i ++ [e] ++ es.drop i) ∧ w.grownBy w' s.ownBlock ∧ (s'.ownBlock = s.ownBlock ∨ ∃ g, s'.ownBlock = some g ∧ w.heap.size ≤ g) := by
  rcases Nat.lt_or_ge i es.length with h | h
  · rcases hs.2 with ⟨rfl, h0⟩ | ⟨g, cap, cur, rfl, hb, hgr, hn, hm, hs5, ht⟩
    · omega
    · have hvg : vb ≠ g := fun e => hne (by rw [e]; rfl)
      have hs5' : cur.size = cap * 5 := hs5
      have ht' : cur.toList.take (es.length * 5) = eN.row es := ht
      rcases Nat.lt_or_ge es.length cap with hc | hc
      · refine (insert_in g es.length cap i vb cur es e w rfl h hc hm hgr hs5' ht' hv hvg).mono ?_
        rintro r w' ⟨rfl, cur2, h1, h2, h3, h4⟩
        have hl2 : (es.take i ++ [e] ++ es.drop i).length = es.length + 1 := by simp; omega
        refine ⟨_, rfl, ⟨by rw [rowv_len], .inr ⟨g, cap, cur2, by rw [hl2], hb, h1, by rw [hl2]; exact hc, hm, h2, by rw [hl2]; exact h3⟩⟩, h4, .inl rfl⟩
      · have hcn : cap = es.length := by omega
        subst hcn
        refine (insert_new g es.length i vb cur es e w rfl h hl hgr hs5' ht' hv).mono ?_
        rintro r w' ⟨G, cur2, rfl, h1, h2, h3, h4, h5, h6⟩
        have hl2 : (es.take i ++ [e] ++ es.drop i).length = es.length + 1 := by simp; omega
        refine ⟨_, rfl, ⟨by rw [rowv_len], .inr ⟨w.heap.size, G, cur2, by rw [hl2], hbase, h1, by rw [hl2]; exact h2, h3, h4, by rw [hl2]; exact h5⟩⟩, ⟨h6.os, h6.tape, h6.output, h6.size, fun k hk _ => h6.block k hk⟩, .inr ⟨_, rfl, Nat.le_refl _⟩⟩
  · have hie : i = es.length := by omega
    subst hie
    refine (insert_end base s _ es e 0 w.heap.size es.length w rfl hs hl (row_one hv) hbase).mono ?_
    rintro r w' ⟨s', rfl, h1, h2, h3⟩
    refine ⟨s', rfl, by simpa using h1, h2, h3.elim .inl fun h => .inr ⟨_, h, Nat.le_refl _⟩⟩
set_option maxHeartbeats 1000000 in
theorem cloneE_c (v : Value) (es : List En) (w : World) (hv : GsV eN w 0 w.heap.size v es) (hn : es = [] → v = .slice none 0 0) (hl : es.length ≤ 100000) :
    Calls Tryz.prog 29 #[v] w fun e w' => ∃ v', e = .returned v' ∧ GwV eN w' w.heap.size v' es ∧ (es = [] → v' = .slice none 0 0) ∧ Below w.heap.size w w' := by
  cases es with
  | nil =>
    rw [hn rfl]
    refine (cloneE_nil w).mono ?_
    rintro e w' ⟨rfl, rfl⟩
    exact ⟨_, rfl, GwV.nil_ _ _, fun _ => rfl, Below.refl _ _⟩
  | cons e0 es =>
    have HV := Lib.hid hv
    obtain ⟨b, off, c, rfl, -⟩ := hv.form (by simp)
    have hq := fun W n c => Lib.run_eql_slice_nil (P := Tryz.prog) W 58 61 (some ⟨b, off, none⟩) n c 0 0 Tryz.underlying58
    simp only [Option.isNone_some] at hq
    clear hv hn
    go_enter Tryz.func29, Tryz.ntmps29
    go_wp2_with (at_builtin; refine wpList_gappv eN _ rfl _ _ _ rfl w.heap.size sliN infN _ [] rfl (GwV.empty_ _ _ (Nat.le_refl _)) 0 w.heap.size _ (e0 :: es) rfl (HV.out.alloc (Nat.le_refl _) _) (by simp at hl ⊢; omega) (by simp) ?_; intro v2 w2 o2 g2 _)
    go_ret
    exact ⟨v2, rfl, by simpa using o2, fun h => absurd h (by simp), ((Below.refl _ _).alloc (Nat.le_refl _) _).grown g2 (by simp) (fun k h => by injection h with h; subst h; exact Nat.le_refl _)⟩
theorem entriesn_c {N : Nat → Prop} (v : Value) (P : Nat → Bool) (w : World) (h : St N w v P) :
    Calls Tryz.prog 30 #[v] w fun e w' => ∃ s es, e = .returned s ∧ w' = w ∧ GsV eN w 0 w.heap.size s es ∧ (es = [] → s = .slice none 0 0) ∧ Dir N w P 0 65536 es := by
  cases h with
  | none h =>
    refine (entries_nil w).mono ?_
    rintro e w' ⟨rfl, rfl⟩
    exact ⟨_, [], rfl, rfl, GsV.nil_ _ _ _, fun _ => rfl, (Dir.nil_ (N := N) (w := w') (P := P) (lo := 0)).skip (by omega) fun k _ hk => nz_not.2 fun x hx => h _ (by omega)⟩
  | some b s es hb hs hn hd =>
    obtain ⟨A, c, rfl, -⟩ := id hs
    have HS := Lib.hid hs
    have HD := Lib.hid hd
    have HN := Lib.hid hn
    have c0' : w.cell? ⟨b, 0, none⟩ = some (.slice A es.length c) := hb.cell 0
    clear hb hn hd hs
    go_enter Tryz.func30, Tryz.ntmps30
    go_wp2
    go_ret
    exact ⟨_, es, rfl, rfl, HS.out, HN.out, HD.out⟩
set_option maxHeartbeats 1000000 in
theorem copy_c {N : Nat → Prop} (v : Value) (P : Nat → Bool) (w : World) (hN : ∀ x, w.heap.size ≤ x → N x) (h : St N w v P) :
    Calls Tryz.prog 7 #[v] w (Made N w P) := by
  have H := Lib.hid h
  have HN := Lib.hid hN
  have hnil : ∀ A n c es, (∃ w0 : World, GsV eN w0 0 w0.heap.size (.slice A n c) es) → True := fun _ _ _ _ _ => trivial
  clear h hN hnil
  go_enter Tryz.func7, Tryz.ntmps7
  go_wp2_with fail
  refine (entriesn_c v P _ H.out).mono ?_
  rintro e w0 ⟨s, es, rfl, hz, g, hnn, d⟩
  have hz := hz.symm
  subst hz
  obtain ⟨A, n, c, rfl⟩ : ∃ A n c, s = .slice A n c := by obtain ⟨A, c, e, -⟩ := g; exact ⟨_, _, _, e⟩
  have HD := Lib.hid d
  have hlen := d.len
  go_wp2_with fail
  refine (cloneE_c _ es w g hnn (by omega)).mono ?_
  rintro e w1 ⟨v1, rfl, g1, n1, b1⟩
  obtain ⟨A1, m1, c1, rfl⟩ := g1.slice
  have R := Row.new w1 64 #[.slice A1 m1 c1]
  have B := bx w1 (.cells #[.slice A1 m1 c1] 64)
  have hown : ∀ g, (Value.slice A1 m1 c1).ownBlock = some g → w.heap.size ≤ g ∧ g < w1.heap.size := fun k hk => g1.lt k hk
  have M : Hid (Made N w P (.returned (.pointer (some ⟨w1.heap.size, 0, none⟩))) (w1.alloc (.cells #[.slice A1 m1 c1] 64))) := Lib.hid
    ⟨w1.heap.size, fun x => N x ∧ x ≠ w1.heap.size ∧ (Value.slice A1 m1 c1).ownBlock ≠ some x, _, es, rfl,
      ⟨rfl, R, (g1.alloc _).more (Nat.zero_le _), n1, (((HD.out.mono (N' := fun x => N x ∧ x < w.heap.size) fun x hx hn => ⟨hn, hx⟩).step b1).step B).mono (fun x _ hn => ⟨hn.1, by have := b1.size; omega, fun hk => by have := (hown x hk).1; omega⟩), fun h => h.2.1 rfl, fun k hk hn => hn.2.2 hk, fun hk => by have := (hown _ hk).2; omega⟩,
      ⟨fun x hx hn => ⟨hn, by have := b1.size; omega, fun hk => by have := (hown x hk).1; omega⟩, fun x hx hn => ⟨hn, by simp at hx; omega, fun hk => by have := (hown x hk).2; simp at hx; omega⟩, fun x hn => hn.1⟩,
      b1.size, fun k hk => (hown k hk).1, below_both b1 B⟩
  clear g d g1 R B hown
  go_wp2
  go_ret
  exact M.out
end Go.Proofs.YtcmifbjeabkihabGreatDoor
