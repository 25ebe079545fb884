/- Walks: paired: the runs of what is taken of two rows. -/
import Derived.Test.YtfefmlnlicilbaaDoorF5
import Derived.Shelf.Abstract
import Derived.Deep.LoopGhost
namespace Go.Proofs.YtfefmlnlicilbaaDoor
open Go.RowKit
set_option linter.unusedVariables false

/-- What a round of the loops keeps: the runs told so far, the edges ahead. -/
structure Pg (w wr : World) (F g : Nat) (v : Value) (l : List Rn) (a b : List Rn × Bool) : Prop where
  ed : Ed wr w.heap.size w.heap.size a b
  own : Gw2 eR wr (w.heap.size + 1) v l
  bel : Below w.heap.size w wr
  big : w.heap.size + 1 ≤ wr.heap.size
  ka : sok a
  kb : sok b
  fuel : ahd a + ahd b ≤ g
  len : l.length + g ≤ F
theorem Pg.drewN {w wr : World} {F g : Nat} {v : Value} {l : List Rn} {a b : List Rn × Bool} (h : Pg w wr F g v l a b) (n : Nat) : Pg w (wr.drewN n) F g v l a b :=
  ⟨h.ed, h.own, below_drewN h.bel n, h.big, h.ka, h.kb, h.fuel, h.len⟩
theorem Pg.passed {w wr w' : World} {F g : Nat} {v : Value} {l : List Rn} {a b : List Rn × Bool} (h : Pg w wr F (g + 1) v l a b) (hn : ¬ (a.1 = [] ∧ b.1 = []))
    (hd : Ed w' w.heap.size w.heap.size (psf a (nxt a b)) (psf b (nxt a b))) (hg : wr.grownBy w' (some w.heap.size)) : Pg w w' F g v l (psf a (nxt a b)) (psf b (nxt a b)) := by
  have hl := nxt_lt hn
  have hm := ahd_nxt h.ka h.kb hn
  refine ⟨hd, h.own.kept hg (fun k hk e => ?_), h.bel.grown hg (by have := h.big; omega) (fun k hk => by injection hk with hk; omega), Nat.le_trans h.big hg.size, sok_psf h.ka hl.2, sok_psf h.kb hl.2, by have := h.fuel; omega, by have := h.len; omega⟩
  have := (h.own.lt k hk).1
  injection e with e
  omega
theorem Pg.c1 {w wr : World} {F g : Nat} {v : Value} {l : List Rn} {a b : List Rn × Bool} (h : Pg w wr F g v l a b) : wr.cell? ⟨w.heap.size, 1, none⟩ = some (.bool a.2) := by
  obtain ⟨-, va, vb, hr, -⟩ := h.ed
  rw [hr.cell]; rfl
theorem Pg.c3 {w wr : World} {F g : Nat} {v : Value} {l : List Rn} {a b : List Rn × Bool} (h : Pg w wr F g v l a b) : wr.cell? ⟨w.heap.size, 3, none⟩ = some (.bool b.2) := by
  obtain ⟨-, va, vb, hr, -⟩ := h.ed
  rw [hr.cell]; rfl
theorem Pg.start {w : World} {v u : Value} {A B : List Rn} (hv : Gs2 eR w 0 w.heap.size v A) (hu : Gs2 eR w 0 w.heap.size u B) :
    Pg w (w.alloc (.cells #[v, .bool false, u, .bool false] 113)) (2 * A.length + 2 * B.length) (2 * A.length + 2 * B.length) (.slice none 0 0) [] (A, false) (B, false) :=
  ⟨⟨Nat.le_refl _, v, u, Row.new w _ _, hv.alloc (Nat.le_refl _) _, hu.alloc (Nat.le_refl _) _⟩, Gw2.nil_ _ _, (Below.refl _ w).alloc (Nat.le_refl _) _, by simp, (fun h => by cases h), (fun h => by cases h), by simp [ahd], by simp⟩
theorem Pg.told {w wr w1 w2 : World} {F g : Nat} {v v2 : Value} {l m : List Rn} {a b : List Rn × Bool} (h : Pg w wr F g v l a b) (hm : m.length ≤ 1) (hF : l.length + m.length + g ≤ F)
    (b1 : Below wr.heap.size wr w1) (o2 : Gw2 eR w2 (w.heap.size + 1) v2 (l ++ m)) (g2 : w1.grownBy w2 v.ownBlock) : Pg w w2 F g v2 (l ++ m) a b := by
  have hlt := fun k hk => h.own.lt k hk
  have hbig := h.big
  have hs1 := b1.size
  refine ⟨(h.ed.below b1).grown g2 (fun e => ?_) (fun k hk => ?_), o2, (below_both h.bel b1).grown g2 (by omega) (fun k hk => ?_), by have := g2.size; omega, h.ka, h.kb, h.fuel, by rw [List.length_append]; omega⟩
  · have := (hlt _ e).1; omega
  · have := (hlt _ hk).1; omega
  · have := (hlt _ hk).1; omega

set_option maxHeartbeats 8000000 in
set_option maxRecDepth 100000 in
theorem rpaired_any (fn : FuncId) (hE : Enters Tryd.prog fn) (t : Bool → Bool → Bool) (hf : ∀ (x y : Bool) (W : World), Calls Tryd.prog fn #[.bool x, .bool y] W fun e w' => e = .returned (.bool (t x y)) ∧ w' = W)
    (v u : Value) (A B : List Rn) (w : World) (hv : Gs2 eR w 0 w.heap.size v A) (hu : Gs2 eR w 0 w.heap.size u B) (hA : A.length ≤ 100000) (hB : B.length ≤ 100000) :
    Calls Tryd.prog 85 #[v, u, .func (.func fn) #[] #[]] w fun e w' => ∃ v', e = .returned v' ∧ Gw2 eR w' w.heap.size v' (pd t A B) ∧ Below w.heap.size w w' := by
  have HE := hE
  unfold Enters at HE
  have S := Lib.hid (Pg.start hv hu)
  obtain ⟨F, hF⟩ : ∃ F, F = 2 * A.length + 2 * B.length := ⟨_, rfl⟩
  obtain ⟨R, hR⟩ : ∃ R, R = pd t A B := ⟨_, rfl⟩
  have hR2 : pr t F none (A, false) (B, false) = R := by rw [hR, hF]; rfl
  rw [← hF] at S
  have hFb : F ≤ 400000 := by omega
  rw [← hR]
  have HR := Lib.hid hR2
  have HF := Lib.hid hFb
  obtain ⟨A1, c1, rfl, -⟩ := hv
  obtain ⟨A2, c2, rfl, -⟩ := hu
  clear hE hF hR hR2 hFb hA hB
  go_enter Tryd.func85, Tryd.ntmps85
  go_wp2
  go_step3
  go_wp2
  go_step3
  go_wp2
  go_loopg [7] F (fun g s7 wr => ∃ (l : List Rn) (a b : List Rn × Bool), Pg w wr F g s7 l a b ∧ Hid (l ++ pr t g none a b = R))
  case atStart => exact ⟨[], _, _, S.out, HR.out⟩
  case round =>
    obtain ⟨l, a, b, hp, hpr⟩ := hrel
    have HP := Lib.hid hp
    by_cases hn : a.1 = [] ∧ b.1 = []
    · have hl : l = R := by have := hpr.out; rwa [pr_nil _ _ _ hn, List.append_nil] at this
      have L := Lib.hid (left_any _ _ a b wr hp.ed)
      rw [decide_eq_true hn] at L
      have HL := Lib.hid hl
      clear hp hpr hn hl
      go_wp2_with (go_at_call 92; refine L.out.mono ?_; rintro e w1 ⟨rfl, hz⟩; have hz := hz.symm; subst hz)
      try rw [Exit.noGoto_ret]
      go_ret
      rw [← HL.out]
      exact ⟨_, rfl, HP.out.own.more (by omega), HP.out.bel⟩
    · have hlt := ahd_nxt hp.ka hp.kb hn
      have hfu := hp.fuel
      obtain ⟨g, rfl⟩ : ∃ g, gk = g + 1 := ⟨gk - 1, by omega⟩
      have L := Lib.hid (left_any _ _ a b wr hp.ed)
      rw [decide_eq_false hn] at L
      have P := Lib.hid (pass_any _ _ a b wr hp.ed hn hp.ka hp.kb)
      have N := Lib.hid (nxt_lt hn)
      have HPS := Lib.hid (fun w1 d1 g1 => hp.passed (w' := w1) hn d1 g1)
      have HR0 := Lib.hid hpr.out
      have E := pr_none t g hn
      rw [E] at HR0
      obtain ⟨lo, hlo⟩ : ∃ lo, lo = nxt a b := ⟨_, rfl⟩
      obtain ⟨a1, ha1⟩ : ∃ a1, a1 = psf a (nxt a b) := ⟨_, rfl⟩
      obtain ⟨b1, hb1⟩ : ∃ b1, b1 = psf b (nxt a b) := ⟨_, rfl⟩
      rw [← ha1, ← hb1, ← hlo] at P HR0
      rw [← ha1, ← hb1] at HPS
      rw [← hlo] at N
      clear hp hpr hn hlt hfu E hlo ha1 hb1 HP
      go_wp2_with (go_at_call 92; refine L.out.mono ?_; rintro e w1 ⟨rfl, hz⟩; have hz := hz.symm; subst hz)
      go_at_call 93
      refine P.out.mono ?_
      rintro e w1 ⟨rfl, d1, g1⟩
      have P1 := Lib.hid (HPS.out w1 d1 g1)
      have k1 := P1.out.c1
      have k3 := P1.out.c3
      clear d1 g1 P HPS L
      go_wp2_with fail
      refine (hf a1.2 b1.2 _).mono ?_
      rintro e w2 ⟨rfl, hz⟩
      have hz := hz.symm
      subst hz
      cases ht : t a1.2 b1.2 with
      | false =>
        have HR1 := HR0.out
        rw [ht] at HR1
        simp only [Bool.false_eq_true, if_false] at HR1
        have HR2 := Lib.hid HR1
        clear HR1 HR0 k1 k3
        go_wp2
        go_roundg g
        case measure => omega
        case rel => exact ⟨l, a1, b1, P1.out, HR2.out⟩
      | true =>
        have HR1 := HR0.out
        rw [ht] at HR1
        simp only [if_true] at HR1
        have HR2 := Lib.hid HR1
        clear HR1 HR0 k1 k3 ht
        go_wp2
        rename_i v7
        go_loopg [7] g (fun k s7 wx => ∃ (a b : List Rn × Bool), k ≤ g ∧ Pg w wx F k s7 l a b ∧ Hid (l ++ pr t k (some lo) a b = R))
        case atStart => exact ⟨a1, b1, Nat.le_refl _, P1.out, HR2.out⟩
        case round =>
          obtain ⟨a, b, hkg, hp, hpr⟩ := hrel
          have HP := Lib.hid hp
          have HKG := Lib.hid hkg
          clear P1 HR2
          by_cases hn : a.1 = [] ∧ b.1 = []
          · have hl := hpr.out
            rw [pr_nil _ _ _ hn, ← pr_nil t gk none hn] at hl
            have L := Lib.hid (left_any _ _ a b wr hp.ed)
            rw [decide_eq_true hn] at L
            have HL := Lib.hid hl
            clear hp hpr hn hl hkg
            go_wp2_with (go_at_call 92; refine L.out.mono ?_; rintro e w1 ⟨rfl, hz⟩; have hz := hz.symm; subst hz)
            go_roundg gk
            case measure => have := HKG.out; omega
            case rel => exact ⟨l, a, b, HP.out, HL.out⟩
          · have hlt := ahd_nxt hp.ka hp.kb hn
            have hfu := hp.fuel
            obtain ⟨q, rfl⟩ : ∃ q, gk = q + 1 := ⟨gk - 1, by omega⟩
            have L := Lib.hid (left_any _ _ a b wr hp.ed)
            rw [decide_eq_false hn] at L
            have P := Lib.hid (pass_any _ _ a b wr hp.ed hn hp.ka hp.kb)
            have N2 := Lib.hid (nxt_lt hn)
            have HPS := Lib.hid (fun w1 d1 g1 => hp.passed (w' := w1) hn d1 g1)
            have HR0 := Lib.hid hpr.out
            have E := pr_some t q lo hn
            rw [E] at HR0
            have HLN := Lib.hid hp.len
            obtain ⟨hi, hhi⟩ : ∃ hi, hi = nxt a b := ⟨_, rfl⟩
            obtain ⟨a3, ha3⟩ : ∃ a3, a3 = psf a (nxt a b) := ⟨_, rfl⟩
            obtain ⟨b3, hb3⟩ : ∃ b3, b3 = psf b (nxt a b) := ⟨_, rfl⟩
            rw [← ha3, ← hb3, ← hhi] at P HR0
            rw [← ha3, ← hb3] at HPS
            rw [← hhi] at N2
            clear hp hpr hn hlt hfu E hhi ha3 hb3 HP hkg
            go_wp2_with (go_at_call 92; refine L.out.mono ?_; rintro e w1 ⟨rfl, hz⟩; have hz := hz.symm; subst hz)
            go_at_call 93
            refine P.out.mono ?_
            rintro e w1 ⟨rfl, d1, g1⟩
            have P1 := Lib.hid (HPS.out w1 d1 g1)
            have k1 := P1.out.c1
            have k3 := P1.out.c3
            clear d1 g1 P HPS L
            go_wp2_with fail
            refine (hf a3.2 b3.2 _).mono ?_
            rintro e w2 ⟨rfl, hz⟩
            have hz := hz.symm
            subst hz
            cases ht : t a3.2 b3.2 with
            | true =>
              have HR1 := HR0.out
              rw [ht] at HR1
              simp only [if_true] at HR1
              have HR2 := Lib.hid HR1
              clear HR1 HR0 k1 k3
              go_wp2
              go_roundg q
              case measure => omega
              case rel => exact ⟨a3, b3, by have := HKG.out; omega, P1.out, HR2.out⟩
            | false =>
              have HR1 := HR0.out
              rw [ht] at HR1
              simp only [Bool.false_eq_true, if_false] at HR1
              rw [← List.append_assoc] at HR1
              have HR2 := Lib.hid HR1
              have BT := Lib.hid (between_any lo hi (by have := N.out; omega) (by have := N2.out; omega))
              clear HR1 HR0 k1 k3 ht
              go_wp2_with fail
              go_at_call 68
              refine (BT.out _).mono ?_
              rintro e w4 ⟨v4, rfl, o4, b4⟩
              have O4 := Lib.hid o4
              have B4 := Lib.hid b4
              clear o4 b4
              go_wp2_with (at_builtin; refine wpList_gapp2 eR _ rfl _ _ _ rfl (w.heap.size + 1) sliR infR _ l rfl (P1.out.own.below B4.out (Nat.le_refl _)) _ _ _ (btw lo hi) rfl O4.out.sl (by have := btw_len lo hi; have := HLN.out; have := HF.out; omega) (by have := P1.out.big; have := B4.out.size; omega) ?_; intro v5 w5 o5 g5 _; have O5 := Lib.hid o5; have G5 := Lib.hid g5; clear o5 g5)
              have P5 := Lib.hid (P1.out.told (btw_len lo hi) (by have := btw_len lo hi; have := HLN.out; omega) B4.out O5.out G5.out)
              go_roundg q
              case measure => have := HKG.out; omega
              case rel => exact ⟨_, a3, b3, P5.out, HR2.out⟩
end Go.Proofs.YtfefmlnlicilbaaDoor
