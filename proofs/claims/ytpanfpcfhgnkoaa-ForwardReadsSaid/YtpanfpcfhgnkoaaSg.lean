/- Walks: numbers; check's closure; Of. -/
import Derived.Test.YtpanfpcfhgnkoaaSf
namespace Go.Proofs.Ytpanfpcfhgnkoaa
open Go.RowKit
set_option linter.unusedVariables false

def ns (zs : List Int) (k : Nat) : List UInt64 := nums (zs.take k) ++ List.replicate (zs.length - k) 0
theorem ns_zero (zs : List Int) : ns zs 0 = List.replicate zs.length 0 := by simp [ns, nums]
theorem ns_all (zs : List Int) : ns zs zs.length = nums zs := by simp [ns]
theorem ns_step (zs : List Int) (k : Nat) (z : Int) (hz : zs[k]? = some z) : (ns zs k).set k (UInt64.ofNat z.toNat) = ns zs (k + 1) := by
  have hk : k < zs.length := (List.getElem?_eq_some_iff.1 hz).1
  unfold ns
  obtain ⟨m, hm⟩ : ∃ m, zs.length - k = m + 1 := ⟨zs.length - k - 1, by omega⟩
  have hm' : zs.length - (k + 1) = m := by omega
  have hl : (nums (zs.take k)).length = k := by rw [nq_len, List.length_take]; omega
  have hs : nums (zs.take (k + 1)) = nums (zs.take k) ++ [UInt64.ofNat z.toNat] := by rw [List.take_add_one, hz]; simp [nums]
  rw [hm, hm', hs, List.replicate_succ, List.set_append_right _ _ (by rw [hl]; exact Nat.le_refl _), hl, Nat.sub_self, List.set_cons_zero, List.append_assoc]
  rfl
theorem ns_len (zs : List Int) (k : Nat) (h : k ≤ zs.length) : (ns zs k).length = zs.length := by simp [ns, nq_len]; omega
theorem inf64_ : (Try.prog.info? e64.E).map (fun i => (i.zero, i.size, i.bytes)) = some (some (e64.val e64.zero), 1, e64.bytes) := by kernel_rfl
set_option maxHeartbeats 1000000 in
theorem numbers_any (A : Option Addr) (d : Nat) (zs : List Int) (w : World) (hG : Gs eI w 0 w.heap.size (.slice A zs.length d) zs) (hr : ∀ z ∈ zs, 0 ≤ z ∧ z < 16777216) (hl : zs.length ≤ 100000) :
    Calls Try.prog 28 #[.slice A zs.length d] w fun e w' => ∃ v', e = .returned v' ∧ Gw e64 w' w.heap.size v' (nums zs) ∧ Below w.heap.size w w' := by
  have HG := Lib.hid hG
  have HR := Lib.hid hr
  have HN := Lib.hid hl
  clear hG hr
  obtain ⟨n, hn⟩ : ∃ n, zs.length = n := ⟨_, rfl⟩
  have HNN := Lib.hid hn
  rw [hn] at hl ⊢
  clear hn
  go_enter Try.func28, Try.ntmps28
  go_wp2_with (at_make; refine wpList_gfull e64 _ rfl _ _ _ rfl sli64 inf64 _ _ _ _ n rfl rfl rfl rfl (by omega) ?_; intro w1 o1 g1)
  have hb1 : Below w.heap.size w w1 := below_of_grown g1 (fun k h => by cases h)
  obtain ⟨g, hg⟩ : ∃ g, g = w.heap.size := ⟨_, rfl⟩
  have o2 : Gw e64 w1 w.heap.size (.slice (some ⟨g, 0, none⟩) n n) (ns zs 0) := by rw [hg, ns_zero, HNN.out]; exact o1
  rw [← hg]
  clear hg o1 g1
  go_loopw [11] (fun i wr => ∃ k : Nat, k ≤ n ∧ i = .int .i64 k ∧ Gw e64 wr w.heap.size (.slice (some ⟨g, 0, none⟩) n n) (ns zs k) ∧ Below w.heap.size w wr) (fun i _ => n - (intOf i).toNat)
  case atStart => exact ⟨0, Nat.zero_le _, rfl, o2, hb1⟩
  case round =>
    obtain ⟨k, hk, rfl, ok, bk⟩ := hrel
    by_cases hlt : k < n
    · obtain ⟨b', c', e', -, -, hge, hltb, hcl, hfr⟩ := ok.form (by intro h; have h2 := congrArg List.length h; have h3 := ns_len zs k (by rw [HNN.out]; omega); rw [HNN.out] at h3; simp only [List.length_nil] at h2; omega)
      injection e' with e1 e2 e3
      injection e1 with e1
      injection e1 with e1
      subst e1
      have hfz := hfr k
      obtain ⟨y, hy⟩ : ∃ y, (ns zs k)[k]? = some y := ⟨_, List.getElem?_eq_getElem (by rw [ns_len zs k (by rw [HNN.out]; omega), HNN.out]; omega)⟩
      obtain ⟨z, hz⟩ : ∃ z, zs[k]? = some z := ⟨_, List.getElem?_eq_getElem (by rw [HNN.out]; omega)⟩
      have hzr := HR.out z (List.mem_of_getElem? hz)
      have hck := hcl k y hy
      have hst := ok.stored k (UInt64.ofNat z.toNat)
      rw [ns_step zs k z hz] at hst
      have e8 : e64.val (UInt64.ofNat z.toNat) = .int .u64 z := by
        show Value.int .u64 ((UInt64.ofNat z.toNat).toNat : Int) = .int .u64 z
        rw [UInt64.toNat_ofNat', Nat.mod_eq_of_lt (by omega), Int.toNat_of_nonneg hzr.1]
      rw [e8] at hst
      have HST := Lib.hid hst
      have BK := Lib.hid bk
      have hG := HG.out.below bk
      obtain ⟨b, boff, bc', e, -, -, -, bw, hc⟩ := hG.form (fun e => by have h := congrArg List.length e; have := HNN.out; simp only [List.length_nil] at h; omega)
      injection e with e4 e5 e6
      subst e4 e6
      have q0 := hc k z hz
      simp only [eI] at q0
      have w1 : IntKind.u64.wrap z = z := by rw [IntKind.wrap_u64]; omega
      clear hcl hfr e2 e3 e5 hy hst e8 ok bk hG hc hz
      go_wp2
      go_roundw
      case rel => exact ⟨k + 1, hlt, by go_num, HST.out, BK.out.setCell (by simpa using hge) _⟩
      case measure => simp [intOf]; omega
    · obtain rfl : k = n := by omega
      have e9 : ns zs k = nums zs := by rw [← HNN.out]; exact ns_all zs
      rw [e9] at ok
      clear e9
      go_wp2
      go_ret
      exact ⟨_, rfl, ok, bk⟩
theorem any_not (zs : List Int) (many : Int) : zs.any (fun z => !inr many z) = !zs.all (inr many) := by
  induction zs with
  | nil => rfl
  | cons x r ih => rw [List.any_cons, List.all_cons, ih]; cases inr many x <;> simp
theorem of_many {zs : List Int} {many : Int} (h : mayM zs.length many = false) : ofE zs many = 2 := by unfold ofE; rw [if_neg (by rw [h]; simp)]
theorem of_in {zs : List Int} {many : Int} (h : zs.all (inr many) = false) : ofE zs many = 2 := by unfold ofE; rw [if_neg (by rw [h]; simp)]
theorem of_yes {zs : List Int} {many : Int} (h : mayM zs.length many = true) (h2 : zs.all (inr many) = true) : ofE zs many = 0 := by unfold ofE; rw [if_pos ⟨h, h2⟩]
/-- An index of which all lies from lo on. -/
structure IxN (W : World) (lo g : Nat) (A : Option Addr) (c : Nat) (zs : List Int) (many : Int) : Prop where
  m : IxM W g A c zs many
  ge : lo ≤ g
  pk : Gs e8 W lo W.heap.size (.slice A (iP zs many).length c) (iP zs many)
theorem IxN.step {W W' : World} {lo g : Nat} {A : Option Addr} {c : Nat} {zs : List Int} {many : Int} (h : IxN W lo g A c zs many) (b : Below W.heap.size W W') : IxN W' lo g A c zs many :=
  ⟨h.m.step b, h.ge, (h.pk.below b).more (Nat.le_refl _) b.size⟩
theorem IxN.grown {W W' : World} {lo g : Nat} {A : Option Addr} {c : Nat} {zs : List Int} {many : Int} {row : Option Nat} (h : IxN W lo g A c zs many) (hg : W.grownBy W' row) (hr : ∀ k, row = some k → k < lo) : IxN W' lo g A c zs many := by
  have hk := (h.pk.grown hg (Nat.le_refl _) (fun k e => .inl (hr k e))).more (Nat.le_refl lo) hg.size
  exact ⟨⟨h.m.row.grown hg (fun e => by have := hr g e; have := h.ge; omega), hk.more (Nat.zero_le _) (Nat.le_refl _), h.m.may, h.m.all, h.m.small⟩, h.ge, hk⟩
theorem IxN.ix {W : World} {lo g : Nat} {A : Option Addr} {c : Nat} {zs : List Int} {many : Int} (h : IxN W lo g A c zs many) : Ix W (.pointer (some ⟨g, 0, none⟩)) zs many := ⟨g, A, c, rfl, h.m⟩
set_option maxHeartbeats 2000000 in
set_option maxRecDepth 100000 in
theorem of_any (A : Option Addr) (d : Nat) (zs : List Int) (many : Int) (w : World) (hG : Gs eI w 0 w.heap.size (.slice A zs.length d) zs) (hl : zs.length ≤ 1000) :
    Calls Try.prog 9 #[.slice A zs.length d, .int .i64 many] w fun e w' => ∃ p, e = .returned (.tuple #[p, .int .i64 (ofE zs many)]) ∧ (ofE zs many = 0 → ∃ g A c, p = .pointer (some ⟨g, 0, none⟩) ∧ IxN w' w.heap.size g A c zs many) ∧ (ofE zs many ≠ 0 → p = .pointer none) ∧ Below w.heap.size w w' := by
  obtain ⟨W0, hW0⟩ : ∃ W0, W0 = w.alloc (.cells #[.int .i64 many] 3) := ⟨_, rfl⟩
  have R0 := Lib.hid (show Row W0 w.heap.size 3 #[.int .i64 many] by rw [hW0]; exact Row.new _ _ _)
  have B0 := Lib.hid (show Below w.heap.size w W0 by rw [hW0]; exact (Below.refl _ _).alloc (Nat.le_refl _) _)
  have G0 := Lib.hid (hG.step B0.out)
  have HN := Lib.hid hl
  have c0 := cell_row R0.out
  rw [hW0] at c0
  have HMY := Lib.hid (fun W => isMany_any many zs.length W)
  have HCF := Lib.hid (anyI_any 23 #[.pointer (some ⟨w.heap.size, 0, none⟩)] (fun z => !inr many z) A d zs W0 G0.out (enters_of Try.func23 (by kernel_rfl) rfl)
    (fun W X b => (mayNot_any X w.heap.size many W (cell_row (R0.out.below b R0.out.lt))).mono fun e w' ⟨h1, h2⟩ => ⟨h1, h2 ▸ Below.refl _ _⟩))
  rw [any_not] at HCF
  clear hG hl
  obtain ⟨M, hM⟩ : ∃ M, mayM zs.length many = M := ⟨_, rfl⟩
  obtain ⟨I, hI⟩ : ∃ I, zs.all (inr many) = I := ⟨_, rfl⟩
  rw [hM] at HMY
  rw [hI] at HCF
  cases M with
  | false =>
    have HE := Lib.hid (of_many hM)
    rw [HE.out]
    clear hM hI
    go_enter Try.func9, Try.ntmps9
    go_wp2_with (first
      | (go_at_call 24; rw [← hW0]; clear hW0; refine (HMY.out W0).mono ?_; rintro e w1 ⟨rfl, hz⟩; have hz := hz.symm; subst hz))
    go_ret2
    exact ⟨_, rfl, fun h => absurd h (by decide), fun _ => rfl, B0.out⟩
  | true =>
    cases I with
    | false =>
      have HE := Lib.hid (of_in hI)
      rw [HE.out]
      clear hM hI
      go_enter Try.func9, Try.ntmps9
      go_wp2_with (first
        | (go_at_call 24; rw [← hW0]; clear hW0; refine (HMY.out W0).mono ?_; rintro e w1 ⟨rfl, hz⟩; have hz := hz.symm; subst hz)
        | (go_at_call 25; refine HCF.out.mono ?_; rintro e w2 ⟨rfl, b2⟩; have B2 := Lib.hid b2; have c2 := cell_row (R0.out.below b2 R0.out.lt); clear b2))
      go_ret2
      exact ⟨_, rfl, fun h => absurd h (by decide), fun _ => rfl, B0.out.trans (B2.out.mono B0.out.size)⟩
    | true =>
      have HE := Lib.hid (of_yes hM hI)
      rw [HE.out]
      have hmb : 0 ≤ many ∧ many ≤ 16777216 := by rcases mayM_iff.1 hM with h | h <;> omega
      have HMB := Lib.hid hmb
      have HM := Lib.hid hM
      have HI := Lib.hid hI
      have gl : decide ((zs.length : Int) > 16777216) = false := decide_eq_false (by have := HN.out; omega)
      have HWO := Lib.hid (fun W => widthOf_any many W (by omega))
      have HNU := Lib.hid (fun W (b : Below W0.heap.size W0 W) => numbers_any A d zs W (G0.out.step b) (fun z hz => by have := all_inr hI z hz; omega) (by have := HN.out; omega))
      have HPK := Lib.hid (fun v lo W (hv : Gs e64 W lo W.heap.size v (nums zs)) => pack_yes v (nums zs) lo (wdm many) W hv (wdm_pos many) (by have := wdm_le HMB.out.2; omega) (fits_nq HMB.out.2 hI) (by rw [nq_len]; have := HN.out; omega))
      clear hM hI hmb
      go_enter Try.func9, Try.ntmps9
      go_wp2_with (first
        | (go_at_call 24; rw [← hW0]; clear hW0; refine (HMY.out W0).mono ?_; rintro e w1 ⟨rfl, hz⟩; have hz := hz.symm; subst hz)
        | (go_at_call 25; refine HCF.out.mono ?_; rintro e w2 ⟨rfl, b2⟩; have B2 := Lib.hid b2; have c2 := cell_row (R0.out.below b2 R0.out.lt); clear b2)
        | (go_at_call 26; refine (HWO.out _).mono ?_; rintro e w3 ⟨rfl, hz⟩; have hz := hz.symm; subst hz)
        | (go_at_call 28; refine (HNU.out _ B2.out).mono ?_; rintro e w4 ⟨v4, rfl, o4, b4⟩; have B4 := Lib.hid (B2.out.trans (b4.mono B2.out.size)); have O4 := Lib.hid o4; clear o4 b4)
        | (go_at_call 27; refine (HPK.out _ _ _ O4.out.sl).mono ?_; rintro e w5 ⟨v5, rfl, o5, b5⟩; have B5 := Lib.hid (B4.out.trans (b5.mono B4.out.size)); have O5 := Lib.hid (o5.sl.more (show w.heap.size ≤ _ from Nat.le_trans B0.out.size B4.out.size) (Nat.le_refl _)); obtain ⟨A5, d5, rfl, -⟩ := o5.sl; have c5 := cell_row (R0.out.below B5.out R0.out.lt); clear o5 b5))
      go_ret2
      have BW := B0.out.trans (B5.out.mono B0.out.size)
      exact ⟨_, rfl, fun _ => by
        have hk := (O5.out.alloc (Nat.le_refl _) (.cells #[.int .i64 (zs.length : Int), .int .i64 many, .int .i64 (wdm many : Int), .slice A5 (pk (nums zs) (wdm many)).length d5] 41)).more (Nat.le_refl _) (show _ ≤ (w5.alloc (.cells #[.int .i64 (zs.length : Int), .int .i64 many, .int .i64 (wdm many : Int), .slice A5 (pk (nums zs) (wdm many)).length d5] 41)).heap.size by simp)
        exact ⟨w5.heap.size, A5, d5, rfl, ⟨Row.new _ _ _, hk.more (Nat.zero_le _) (Nat.le_refl _), HM.out, HI.out, by have := HN.out; omega⟩, BW.size, hk⟩, fun h => absurd rfl h, BW.alloc BW.size _⟩
set_option maxHeartbeats 400000 in
theorem chk_any (X : UInt64) (g : Nat) (r m wd : Int) (A : Option Addr) (n c : Nat) (w : World) (hr : Row w g 41 #[.int .i64 r, .int .i64 m, .int .i64 wd, .slice A n c]) (h0 : 0 ≤ m) (h1 : m ≤ 9223372036854775807) :
    Calls Try.prog 57 #[.int .u64 (X.toNat : Int), .pointer (some ⟨g, 0, none⟩)] w fun e w' => e = .returned (.bool (decide (m ≤ (X.toNat : Int)))) ∧ w' = w := by
  have c1 := hr.cell 1
  have w1 : IntKind.u64.wrap m = m := by rw [IntKind.wrap_u64]; omega
  clear hr
  obtain ⟨x, hx⟩ : ∃ x : Int, x = (X.toNat : Int) := ⟨_, rfl⟩
  rw [← hx]
  clear hx
  go_enter Try.func57, Try.ntmps57
  go_wp2
  go_ret
  exact ⟨rfl, rfl⟩
end Go.Proofs.Ytpanfpcfhgnkoaa
