/- Walks: the law DictOrder. -/
import Derived.Test.YtjojhoaienjjeaaMa9
namespace Go.Proofs.Ytjojhoaienjjeaa
open Go.RowKit Go.Shelf
set_option linter.unusedVariables false

attribute [local go_sem] Oper.semAt_some

/-- The value of the last pair; of none nought. -/
def lastP (xs : List (Nat × VV)) : VV := match xs.getLast? with
  | none => ⟨0, 0, ⟨#[]⟩⟩
  | some x => x.2
theorem lastP_snoc (xs : List (Nat × VV)) (x : Nat × VV) : lastP (xs ++ [x]) = x.2 := by simp [lastP]
/-- A pair that does not rise has come. -/
def ordBad (c : Code) (xs : List (Nat × VV)) : Prop := c = .ret ∧ ∃ ini x, xs = ini ++ [x] ∧ 0 < x.1 ∧ ¬ cmpW (lastP ini) x.2 < 0
/-- A list turned round, so many times. -/
def rvq (q : Nat) (l : List VV) : List VV := (List.replicate q l.reverse).flatten
theorem rvq_succ (q : Nat) (l : List VV) : rvq (q + 1) l = rvq q l ++ l.reverse := by unfold rvq; rw [List.replicate_succ', List.flatten_append]; simp
theorem rvq_len (q : Nat) (l : List VV) : (rvq q l).length = q * l.length := by
  induction q with
  | zero => simp [rvq]
  | succ q ih => rw [rvq_succ, List.length_append, ih, List.length_reverse, Nat.add_mul]; omega
theorem rvq_mem (l : List VV) (x : VV) : x ∈ l ↔ x ∈ rvq 2 l := by rw [rvq_succ, rvq_succ]; simp [rvq]
theorem drop_rev {l : List VV} {j : Nat} {Y : VV} (h : l[j]? = some Y) : (l.drop (j + 1)).reverse ++ [Y] = (l.drop j).reverse := by
  obtain ⟨hj, he⟩ := List.getElem?_eq_some_iff.1 h
  rw [List.drop_eq_getElem_cons hj, List.reverse_cons, he]
theorem wrap_sub1 {j : Nat} (h : j ≤ 200) : IntKind.i64.wrap ((j : Int) - 1) = (j : Int) - 1 := by rw [IntKind.wrap_i64]; omega
set_option maxHeartbeats 8000000 in
set_option maxRecDepth 100000 in
theorem order_great (kind : Int) (A : Option Addr) (d : Nat) (l : List VV) (w : World) (hG : GsV eV w 0 w.heap.size (.slice A l.length d) l) (hg : grtV l 200 = true) :
    Calls Try.prog 6 #[.int .u8 kind, .slice A l.length d] w fun e w' => e = .returned (.bool true) ∧ Below w.heap.size w w' := by
  have HG := Lib.hid hG
  obtain ⟨W0, hW0⟩ : ∃ W0, W0 = w.alloc (.cells #[.bool false] 4) := ⟨_, rfl⟩
  have X0 := Lib.hid (show Row W0 w.heap.size 4 #[.bool false] by rw [hW0]; exact Row.new _ _ _)
  have B0 := Lib.hid (show Below w.heap.size w W0 by rw [hW0]; exact (Below.refl _ _).alloc (Nat.le_refl _) _)
  have G0 := Lib.hid (hG.step B0.out)
  have hgc := fun W h => great_v A d l 200 W h
  clear hG
  rw [hg] at hgc
  refine (callsIn_wide (n := 3)).1 ?_
  refine callsIn_of_wp_marks Try.func6 rfl trivial ?_ rfl
  refine wpIn_wide.2 ?_
  simp only [Try.ntmps6, List.size_toArray, List.length_cons, List.length_nil, Nat.reduceAdd, Nat.reduceSub, Array.replicate_succ, Array.replicate_zero, List.push_toArray, List.append_toArray, List.nil_append, List.cons_append]
  go_wp2_with fail
  rw [← hW0]
  clear hW0
  go_wp2_with (first | (go_at_call 9; refine (hgc _ G0.out).mono ?_; rintro e w1 ⟨rfl, hz⟩; have hz := hz.symm; subst hz) | (go_at_call 10; refine (known11_any _).mono ?_; rintro e w9 ⟨rfl, b9⟩; have X9 := Lib.hid (X0.out.below b9 X0.out.lt); have B9 := Lib.hid (B0.out.trans (b9.mono B0.out.size)); clear b9; have c0 := X9.out.cell 0; have f0 := X9.out.frozen 0))
  refine leaves_ret (v := .bool true) ?_ rfl ⟨rfl, B9.out.setCell (p := ⟨w.heap.size, 0, none⟩) (Nat.le_refl _) _⟩
  have hres : Try.f6.results = #[.cell 4 4] := by kernel_rfl
  have hc := World.cell?_setCell_same' w9 ⟨w.heap.size, 0, none⟩ (.bool true) (by rw [c0]; rfl)
  simp only [results, hres]
  go_simp
set_option maxHeartbeats 8000000 in
set_option maxRecDepth 100000 in
theorem order_any (kind : Int) (A : Option Addr) (d : Nat) (l : List VV) (w : World) (hG : GsV eV w 0 w.heap.size (.slice A l.length d) l) :
    Calls Try.prog 6 #[.int .u8 kind, .slice A l.length d] w fun e w' => e = .returned (.bool true) ∧ Below w.heap.size w w' := by
  cases hg : grtV l 200 with
  | true => exact order_great kind A d l w hG hg
  | false =>
    have HN := Lib.hid (show l.length ≤ 200 by have := grtV_len hg; omega)
    have HG := Lib.hid hG
    obtain ⟨W0, hW0⟩ : ∃ W0, W0 = w.alloc (.cells #[.bool false] 4) := ⟨_, rfl⟩
    have X0 := Lib.hid (show Row W0 w.heap.size 4 #[.bool false] by rw [hW0]; exact Row.new _ _ _)
    have B0 := Lib.hid (show Below w.heap.size w W0 by rw [hW0]; exact (Below.refl _ _).alloc (Nat.le_refl _) _)
    have G0 := Lib.hid (hG.step B0.out)
    have hgc := fun W h => great_v A d l 200 W h
    clear hG
    rw [hg] at hgc
    refine (callsIn_wide (n := 3)).1 ?_
    refine callsIn_of_wp_marks Try.func6 rfl trivial ?_ rfl
    refine wpIn_wide.2 ?_
    simp only [Try.ntmps6, List.size_toArray, List.length_cons, List.length_nil, Nat.reduceAdd, Nat.reduceSub, Array.replicate_succ, Array.replicate_zero, List.push_toArray, List.append_toArray, List.nil_append, List.cons_append]
    go_wp2_with fail
    rw [← hW0]
    clear hW0
    go_wp2_with (first | (go_at_call 9; refine (hgc _ G0.out).mono ?_; rintro e w1 ⟨rfl, hz⟩; have hz := hz.symm; subst hz))
    have hn2 : l.length ≤ 200 := HN.out
    have HGc := Lib.hid hgc
    clear hgc
    go_loopw [5, 6, 17] (fun v i r wr => ∃ q : Nat, q ≤ 2 ∧ r = .int .i64 q ∧ Hid (GwV eV wr W0.heap.size v (rvq q l) ∧ Below W0.heap.size W0 wr)) (fun _ _ r _ => (2 - intOf r).toNat)
    case atStart => exact ⟨0, by omega, rfl, Lib.hid ⟨GwV.nil_ _ _, Below.refl _ _⟩⟩
    case round =>
      obtain ⟨q, hq, rfl, hO⟩ := hrel
      have HO := Lib.hid hO.out
      clear hO
      by_cases hq2 : q < 2
      · have hql : (rvq q l).length ≤ 200 := by rw [rvq_len]; have : q = 0 ∨ q = 1 := by omega
                                                rcases this with rfl | rfl <;> omega
        have HQL := Lib.hid hql
        have dq : decide ((q : Int) < 2) = true := decide_eq_true (by omega)
        have sb : IntKind.i64.wrap ((l.length : Int) - 1) = (l.length : Int) - 1 := wrap_sub1 (by omega)
        clear hql
        go_wp2
        go_loopw [5, 6] (fun v i wr2 => ∃ m : Nat, m ≤ l.length ∧ i = .int .i64 ((m : Int) - 1) ∧ Hid (GwV eV wr2 W0.heap.size v (rvq q l ++ (l.drop m).reverse) ∧ Below W0.heap.size W0 wr2)) (fun _ i _ => (intOf i + 1).toNat)
        case atStart => exact ⟨l.length, Nat.le_refl _, by first | rfl | rw [sb], Lib.hid ⟨by rw [List.drop_length]; simpa using HO.out.1, HO.out.2⟩⟩
        case round =>
          obtain ⟨m, hm, rfl, hP⟩ := hrel
          have HP := Lib.hid hP.out
          clear hP sb
          cases m with
          | zero =>
            have d1 : decide (0 ≤ (((0 : Nat) : Int) - 1)) = false := by decide
            go_wp2
            go_roundw
            case rel => exact ⟨q + 1, by omega, by go_num, Lib.hid ⟨by rw [rvq_succ]; simpa using HP.out.1, HP.out.2⟩⟩
            case measure => simp [intOf]; omega
          | succ j =>
            have ej : (((j + 1 : Nat) : Int) - 1) = (j : Int) := by omega
            rw [ej]
            have sb : IntKind.i64.wrap ((j : Int) - 1) = (j : Int) - 1 := wrap_sub1 (by omega)
            have hG := G0.out.below HP.out.2
            obtain ⟨b, boff, bc', e, -, -, -, bw, hc⟩ := hG.form (fun e => by have h := congrArg List.length e; simp only [List.length_nil] at h; omega)
            injection e with e1 e2 e3
            clear e2
            subst e1 e3
            obtain ⟨Y, hY⟩ : ∃ Y, l[j]? = some Y := ⟨_, List.getElem?_eq_getElem (by omega)⟩
            have q0 := vcell0 (hc j Y hY)
            have q1 := vcell1 (hc j Y hY)
            have q2 := vcell2 (hc j Y hY)
            have HDR := Lib.hid (drop_rev hY)
            have hlen : (rvq q l ++ (l.drop (j + 1)).reverse).length + 1 ≤ 1000000000 := by
              have := HQL.out
              simp only [List.length_append, List.length_reverse, List.length_drop]
              omega
            have HLEN := Lib.hid hlen
            clear hc hG hY hlen
            go_wp2_with (at_builtin; refine wpList_gappv1 eV _ rfl _ _ _ rfl W0.heap.size sliV infV _ (rvq q l ++ (l.drop (j + 1)).reverse) rfl HP.out.1 _ Y (by rfl) rfl HLEN.out HP.out.2.size ?_; intro v4 w4 o4 g4 _; have O4 := Lib.hid o4; have B4 := Lib.hid (HP.out.2.grown g4 HP.out.2.size (fun k h => (HP.out.1.lt k h).1)); clear o4 g4)
            go_roundw
            case rel => exact ⟨j, by omega, by first | rfl | go_num, Lib.hid ⟨by have := O4.out; rw [List.append_assoc, HDR.out] at this; exact this, B4.out⟩⟩
            case measure => simp [intOf]
      · have eq2 : q = 2 := by omega
        subst eq2
        have dq : decide (((2 : Nat) : Int) < 2) = false := by decide
        have O2 := Lib.hid HO.out.1
        have B2 := Lib.hid HO.out.2
        clear HO
        obtain ⟨A5, d5, hv5, -⟩ := O2.out.sl
        subst hv5
        have hl2 := rvq_len 2 l
        have HL2 := Lib.hid hl2
        have XR := Lib.hid (X0.out.below B2.out X0.out.lt)
        have BR := Lib.hid (B0.out.trans (B2.out.mono B0.out.size))
        have GL := Lib.hid (G0.out.step B2.out)
        have G2 := Lib.hid (O2.out.sl.more (Nat.zero_le _) (Nat.le_refl _))
        have hof := fun W h => of_any kind A d l W h (by have := HN.out; omega)
        have hof2 := fun W h => of_any kind A5 d5 (rvq 2 l) W h (by have := HL2.out; have := HN.out; omega)
        rw [ofE_same (fun x => (rvq_mem l x).symm) kind, dicV_same (fun x => (rvq_mem l x).symm)] at hof2
        have HMM := Lib.hid (show ofE kind l = 0 → ∀ x ∈ dicV l, mayW x = true from fun h x hx => ofE_may h x ((dicV_mem l x).1 hx))
        have HML := Lib.hid (Nat.le_trans (dicV_len l) HN.out)
        obtain ⟨E, hE⟩ : ∃ E, ofE kind l = E := ⟨_, rfl⟩
        rw [hE] at hof hof2 HMM
        generalize dicV l = m at hof hof2 HMM HML
        clear hE hl2 O2 G0 HGc
        by_cases h0 : E = 0
        · subst h0
          have HMA := Lib.hid (HMM.out rfl)
          have HO1 := Lib.hid (fun W h => (hof W h).mono (R' := fun e w' => ∃ p, e = .returned (.tuple #[p, .int .i64 0]) ∧ Dc w' p kind m ∧ Below W.heap.size W w') fun e w' ⟨p, h1, h2, _, h4⟩ => ⟨p, h1, h2 rfl, h4⟩)
          have HO2 := Lib.hid (fun W h => (hof2 W h).mono (R' := fun e w' => ∃ p, e = .returned (.tuple #[p, .int .i64 0]) ∧ Dc w' p kind m ∧ Below W.heap.size W w') fun e w' ⟨p, h1, h2, _, h4⟩ => ⟨p, h1, h2 rfl, h4⟩)
          clear hof hof2 HMM
          go_wp2_with (first
            | (go_at_call 11; refine (HO1.out _ GL.out).mono ?_; clear HO1; rintro e w2 ⟨p2, rfl, hd2, b2⟩; have G2b := Lib.hid (G2.out.step b2); have U2a := Lib.hid b2; obtain ⟨g2, A2, d2, hp2, m2⟩ := hd2; subst hp2; have M2 := Lib.hid m2; clear b2 m2 G2)
            | (go_at_call 11; refine (HO2.out _ G2b.out).mono ?_; clear HO2; rintro e w3 ⟨p3, rfl, hd3, b3⟩; have U3a := Lib.hid (U2a.out.trans (b3.mono U2a.out.size)); have M3a := Lib.hid (M2.out.step b3); obtain ⟨g3, A3, d3, hp3, m3⟩ := hd3; subst hp3; have M3 := Lib.hid m3; clear b3 m3 G2b M2 U2a))
          have U3 := Lib.hid (BR.out.trans (U3a.out.mono BR.out.size))
          have X3 := Lib.hid (XR.out.below U3a.out XR.out.lt)
          obtain ⟨K, hK⟩ : ∃ K : UInt8, (K.toNat : Int) = kind := by
            rcases M3.out.kind with h | h
            · exact ⟨1, by rw [h]; rfl⟩
            · exact ⟨2, by rw [h]; rfl⟩
          have hcat : (catV m).length ≤ 500000000 := by
            have := cat_small m (fun x hx => HMA.out x hx)
            have := HML.out
            omega
          have hc1 := fun W (b : Below w3.heap.size w3 W) => bytes_at K kind hK g2 A2 d2 m W (M3a.out.step b) (by have := HML.out; omega) hcat
          have hc2 := fun W (b : Below w3.heap.size w3 W) => bytes_at K kind hK g3 A3 d3 m W (M3.out.step b) (by have := HML.out; omega) hcat
          generalize dB K m = bs at hc1 hc2
          have CB1 := Lib.hid hc1
          have CB2 := Lib.hid hc2
          clear hc1 hc2 hcat hK
          refine wp_only ?_
          have hSc := (Below.refl w3.heap.size w3).drew
          refine wp_region_all (S := fun W => Below w3.heap.size w3 W) (by kernel_rfl) hSc (fun W0 hSc => ?_)
          refine held_take 0 ?_ rfl (by kernel_rfl) (by kernel_rfl) (by kernel_rfl) (fun _ _ _ h => h) (by rfl) ?_ hSc ?_
          rotate_left
          · (intro W hSW; go_simp; try rfl)
          try simp only [Act.put, List.setIfInBounds_toArray, List.set_cons_zero, List.set_cons_succ]
          refine held_take 1 ?_ rfl (by kernel_rfl) (by kernel_rfl) (by kernel_rfl) (fun _ _ _ h => h) (by rfl) ?_ hSc ?_
          rotate_left
          · (intro W hSW; go_simp; try rfl)
          try simp only [Act.put, List.setIfInBounds_toArray, List.set_cons_zero, List.set_cons_succ]
          refine held_take 2 ?_ rfl (by kernel_rfl) (by kernel_rfl) (by kernel_rfl) (fun _ _ _ h => h) (by rfl) ?_ hSc ?_
          rotate_left
          · (intro W hSW; go_simp; try rfl)
          try simp only [Act.put, List.setIfInBounds_toArray, List.set_cons_zero, List.set_cons_succ]
          refine held_take 3 ?_ rfl (by kernel_rfl) (by kernel_rfl) (by kernel_rfl) (fun _ _ _ h => h) (by rfl) ?_ hSc ?_
          rotate_left
          · (intro W hSW; go_simp; try rfl)
          try simp only [Act.put, List.setIfInBounds_toArray, List.set_cons_zero, List.set_cons_succ]
          refine held_take 4 ?_ rfl (by kernel_rfl) (by kernel_rfl) (by kernel_rfl) (fun _ _ _ h => h) (by rfl) ?_ hSc ?_
          rotate_left
          · (intro W hSW; go_simp; try rfl)
          try simp only [Act.put, List.setIfInBounds_toArray, List.set_cons_zero, List.set_cons_succ]
          refine held_take 5 ?_ rfl (by kernel_rfl) (by kernel_rfl) (by kernel_rfl) (fun _ _ _ h => h) (by rfl) ?_ hSc ?_
          rotate_left
          · (intro W hSW; go_simp; try rfl)
          try simp only [Act.put, List.setIfInBounds_toArray, List.set_cons_zero, List.set_cons_succ]
          refine held_take 6 ?_ rfl (by kernel_rfl) (by kernel_rfl) (by kernel_rfl) (fun _ _ _ h => h) (by rfl) ?_ hSc ?_
          rotate_left
          · (intro W hSW; go_simp; try rfl)
          try simp only [Act.put, List.setIfInBounds_toArray, List.set_cons_zero, List.set_cons_succ]
          refine held_take 7 ?_ rfl (by kernel_rfl) (by kernel_rfl) (by kernel_rfl) (fun _ _ _ h => h) (by rfl) ?_ hSc ?_
          rotate_left
          · (intro W hSW; go_simp; try rfl)
          try simp only [Act.put, List.setIfInBounds_toArray, List.set_cons_zero, List.set_cons_succ]
          refine held_take 10 ?_ rfl (by kernel_rfl) (by kernel_rfl) (by kernel_rfl) (fun _ _ _ h => h) (by rfl) ?_ hSc ?_
          rotate_left
          · (intro W hSW; go_simp; try rfl)
          try simp only [Act.put, List.setIfInBounds_toArray, List.set_cons_zero, List.set_cons_succ]
          refine held_next 8 rfl (by kernel_rfl) (by rfl) ?_
          go_simp
          refine (CB1.out _ hSc).mono ?_
          rintro e x1 ⟨v1, rfl, o1, b1⟩
          have G1 := Lib.hid (o1.sl.more (Nat.zero_le _) (Nat.le_refl _))
          have hSd : Below w3.heap.size w3 x1 := hSc.trans (b1.mono hSc.size)
          have U1 := Lib.hid hSd
          refine ⟨fun W => Below x1.heap.size x1 W, fun W hW => U1.out.trans (hW.mono U1.out.size), Below.refl _ _, ?_⟩
          obtain ⟨A1x, d1x, rfl, -⟩ := o1.sl
          clear hSd o1 b1
          have hSc := Below.refl x1.heap.size x1
          try simp only [Act.put, List.setIfInBounds_toArray, List.set_cons_zero, List.set_cons_succ]
          refine held_take 9 ?_ rfl (by kernel_rfl) (by kernel_rfl) (by kernel_rfl) (fun _ _ _ h => h) (by rfl) ?_ hSc ?_
          rotate_left
          · (intro W hSW; have s1 := str8 (G1.out.below hSW); go_simp; try rfl)
          try simp only [Act.put, List.setIfInBounds_toArray, List.set_cons_zero, List.set_cons_succ]
          refine held_next 11 rfl (by kernel_rfl) (by rfl) ?_
          go_simp
          refine (CB2.out _ U1.out).mono ?_
          rintro e x2 ⟨v2, rfl, o2, b2⟩
          have G2 := Lib.hid (o2.sl.more (Nat.zero_le _) (Nat.le_refl _))
          have U2 := Lib.hid (U1.out.trans (b2.mono U1.out.size))
          have b2h := Lib.hid b2
          refine ⟨fun W => Below x2.heap.size x2 W, fun W hW => b2h.out.trans (hW.mono b2h.out.size), Below.refl _ _, ?_⟩
          obtain ⟨A2x, d2x, rfl, -⟩ := o2.sl
          clear o2 b2
          have hSc := Below.refl x2.heap.size x2
          try simp only [Act.put, List.setIfInBounds_toArray, List.set_cons_zero, List.set_cons_succ]
          refine held_take 12 ?_ rfl (by kernel_rfl) (by kernel_rfl) (by kernel_rfl) (fun _ _ _ h => h) (by rfl) ?_ hSc ?_
          rotate_left
          · (intro W hSW; have s1 := str8 (G2.out.below hSW); go_simp; try rfl)
          try simp only [Act.put, List.setIfInBounds_toArray, List.set_cons_zero, List.set_cons_succ]
          refine held_next 13 rfl (by kernel_rfl) (by rfl) ?_
          go_simp
          refine ⟨fun W => Below x2.heap.size x2 W, fun W hW => hW, hSc, ?_⟩
          try simp only [Act.put, List.setIfInBounds_toArray, List.set_cons_zero, List.set_cons_succ]
          refine held_next 14 rfl (by kernel_rfl) (by rfl) ?_
          go_simp
          refine ⟨fun W => Below x2.heap.size x2 W, fun W hW => hW, hSc, ?_⟩
          refine wpAnyH_done (by kernel_rfl) ?_ _
          unfold onlyN
          have U9 := Lib.hid (U3.out.trans (U2.out.mono U3.out.size))
          have M9 := Lib.hid (M3a.out.step U2.out)
          have X9 := Lib.hid (X3.out.below U2.out X3.out.lt)
          obtain ⟨u, hu⟩ : ∃ u, u = x2 := ⟨_, rfl⟩
          subst hu
          have hqn := fun W f a b => run_eql_func_nil (P := Try.prog) W 33 _ _ _ f a b Try.underlying33
          clear G1 G2 b2h U1
          go_wp2_with (go_at_call 14; refine (all_any _ kind A2 m.length d2 _ (M9.out.step ((Below.refl _ _).alloc (Nat.le_refl _) _)).at_).mono ?_; rintro e w5 ⟨rfl, hz⟩; have L5 := Lib.hid (show Row w5 u.heap.size 38 #[.int .u8 0, .int .i64 0, .string ⟨#[]⟩] by rw [hz]; exact (Row.new _ _ _).alloc _); have U5 := Lib.hid (show Below u.heap.size u w5 by rw [hz]; exact ((Below.refl _ _).alloc (Nat.le_refl _) _).alloc (by simp) _); clear hz; go_wp2_with (go_at_call 14; refine (all_any _ kind A2 m.length d2 _ (M9.out.step U5.out).at_).mono ?_; rintro e w6 ⟨rfl, hz⟩; have L6 := Lib.hid (show Row w6 u.heap.size 38 #[.int .u8 0, .int .i64 0, .string ⟨#[]⟩] by rw [hz]; exact L5.out.alloc _); have U6 := Lib.hid (show Below u.heap.size u w6 by rw [hz]; exact U5.out.alloc U5.out.size _); have S6 := Lib.hid (show Row w6 w5.heap.size 22 #[.slice A2 m.length d2] by rw [hz]; exact Row.new _ _ _); clear hz))
          have HSEQ := all_stops w5.heap.size A2 d2 m w6 u.heap.size (M9.out.small) U6.out.size S6.out.lt (S6.out.cell 0) (M9.out.vals.below U6.out)
          have HUP := Lib.hid M9.out.up
          refine (wpIn_wide (n := 3)).1 ?_
          refine range_box (n₀ := u.heap.size) (d1 := 12) (d2 := 13) U6.out.size rfl (enters_of Try.func34 (by kernel_rfl) rfl) HSEQ (Below.refl _ _)
            (fun xs W => Row W u.heap.size 38 #[.int .u8 (lastP xs).k, .int .i64 (lastP xs).n, .string (lastP xs).s] ∧ Below u.heap.size u W)
            (fun c xs _ => ordBad c xs)
            (fun s X Y row hs hg hr => ⟨row_own (β := Unit) hs.1 hg (fun r e => (hr r e).2), (ownFrom_below (β := List (Nat × VV)) (Nat.le_refl _) U6.out.size) s X Y row hs.2 hg hr⟩)
            (fun c => ownFrom_pure _ _) ⟨L6.out, U6.out⟩ ?assign ?body ?done ?stop
          case assign =>
            intro l x W K hK
            gi_wp2
            exact hK
          case body =>
            rintro y pre x Bx W hBx ⟨hL, hB⟩ hrow _
            have HL := Lib.hid hL
            have HB := Lib.hid hB
            have HR := Lib.hid hrow
            obtain ⟨⟨k1, n1, s1⟩, hY⟩ : ∃ Y, lastP pre = Y := ⟨_, rfl⟩
            obtain ⟨i0, ⟨k2, n2, s2⟩⟩ := x
            have hlb : Row W u.heap.size 38 #[.int .u8 k1, .int .i64 n1, .string s1] := by rw [hY] at hL; exact hL
            have HLB := Lib.hid hlb
            have HY := Lib.hid hY
            have HUB := Lib.hid (show u.heap.size ≠ Bx by have := U6.out.size; have := L6.out.lt; omega)
            have a0 := hlb.cell 0
            have a1 := hlb.cell 1
            have a2 := hlb.cell 2
            have f0 := hlb.frozen 0
            have f1 := hlb.frozen 1
            have f2 := hlb.frozen 2
            have b0 := hrow.cell 0
            have b1 := hrow.cell 1
            have b2 := hrow.cell 2
            clear hL hB hrow hlb hY
            unfold rfr
            try simp only [List.setIfInBounds_toArray, List.set_cons_zero, List.set_cons_succ]
            by_cases h0 : i0 = 0
            · subst h0
              gi_wp2
              refine ⟨trivial, ?_⟩
              gi_wp2
              have S := set3 (x' := .int .u8 k2) (y' := .int .i64 n2) (z' := .string s2) HLB.out
              refine ⟨KeepsFrom.of_grownBy S.2 (fun j e => by injection e with e; have := L6.out.lt; omega), (Below.refl u.heap.size W).grown S.2 HB.out.size (fun j e => by injection e with e; omega), ?_, HB.out.grown S.2 HB.out.size (fun j e => by injection e with e; omega)⟩
              rw [lastP_snoc]
              exact S.1
            · have hi0 : decide (0 < (i0 : Int)) = true := decide_eq_true (by omega)
              have HI0 := Lib.hid (show 0 < i0 by omega)
              obtain ⟨C, hC⟩ : ∃ C, cmpV k1 n1 (bls s1) k2 n2 (bls s2) = C := ⟨_, rfl⟩
              have hcmp := fun W2 => compareV_any k1 n1 s1 k2 n2 s2 W2
              rw [hC] at hcmp
              have HCM := Lib.hid hcmp
              have HCC := Lib.hid (show cmpW ⟨k1, n1, s1⟩ ⟨k2, n2, s2⟩ = C from hC)
              clear h0 hcmp hC
              by_cases hneg : C < 0
              · have d2 : decide (0 ≤ C) = false := decide_eq_false (by omega)
                clear hneg
                gi_wp2_with (refine ⟨trivial, ?_⟩; gi_at_call 23; refine (CallsIn.inRound y (callsIn_wide.2 (HCM.out W))).mono ?_; rintro e w7 ⟨rfl, b7⟩; have HLB7 := Lib.hid (HLB.out.below b7 HLB.out.lt); have HR7 := Lib.hid (HR.out.below b7 HR.out.lt); have HB7 := Lib.hid (HB.out.trans (b7.mono HB.out.size)); have B7 := Lib.hid b7; clear a0 a1 a2 f0 f1 f2 b0 b1 b2 b7; have a0 := HLB7.out.cell 0; have a1 := HLB7.out.cell 1; have a2 := HLB7.out.cell 2; have f0 := HLB7.out.frozen 0; have f1 := HLB7.out.frozen 1; have f2 := HLB7.out.frozen 2; have b0 := HR7.out.cell 0; have b1 := HR7.out.cell 1; have b2 := HR7.out.cell 2)
                have S := set3 (x' := .int .u8 k2) (y' := .int .i64 n2) (z' := .string s2) HLB7.out
                refine ⟨(keepsFrom_below B7.out).trans (KeepsFrom.of_grownBy S.2 (fun j e => by injection e with e; have := L6.out.lt; omega)), (B7.out.mono HB.out.size).grown S.2 HB7.out.size (fun j e => by injection e with e; omega), ?_, HB7.out.grown S.2 HB7.out.size (fun j e => by injection e with e; omega)⟩
                rw [lastP_snoc]
                exact S.1
              · have d2 : decide (0 ≤ C) = true := decide_eq_true (by omega)
                have HNG := Lib.hid hneg
                clear hneg
                have XB := Lib.hid (X9.out.below HB.out X9.out.lt)
                gi_wp2_with (refine ⟨trivial, ?_⟩; gi_at_call 23; refine (CallsIn.inRound y (callsIn_wide.2 (HCM.out W))).mono ?_; rintro e w7 ⟨rfl, b7⟩; have XB7 := Lib.hid (XB.out.below b7 XB.out.lt); have B7 := Lib.hid b7; clear a0 a1 a2 f0 f1 f2 b0 b1 b2 b7; have a0 := XB7.out.cell 0; have f0 := XB7.out.frozen 0)
                exact ⟨(keepsFrom_below B7.out).trans ((KeepsOthers.setCell _ _ _).from _), rfl, pre, _, rfl, HI0.out, by rw [HY.out]; show ¬ cmpW ⟨k1, n1, s1⟩ ⟨k2, n2, s2⟩ < 0; rw [HCC.out]; have := HNG.out; omega⟩
          case done =>
            rintro D xs u40 hD - ⟨-, bq40⟩ hK
            have HK40 := Lib.hid hK
            have HDZ := Lib.hid (show w.heap.size < D by have := X9.out.lt; have := U6.out.size; omega)
            have X40 := Lib.hid (X9.out.below bq40 X9.out.lt)
            have B40 := Lib.hid (U9.out.trans (bq40.mono U9.out.size))
            clear bq40 hK hD
            go_wp2_with (go_at_call 10; refine (known11_any _).mono ?_; rintro e u41 ⟨rfl, b9⟩; have K41 := Lib.hid (keepD HK40.out b9); have X41 := Lib.hid (X40.out.below b9 X40.out.lt); have B41 := Lib.hid (B40.out.trans (b9.mono B40.out.size)); clear b9; have c0 := X41.out.cell 0; have f0 := X41.out.frozen 0)
            have hD0 := HDZ.out
            have hne : D ≠ w.heap.size := by omega
            have hK' : (u41.setCell ⟨w.heap.size, 0, none⟩ (.bool true)).heap[D]? = some (.deferred (some [])) := (Below.heap_setCell u41 ⟨w.heap.size, 0, none⟩ _ _ hne).trans K41.out
            have hc : ((u41.setCell ⟨w.heap.size, 0, none⟩ (.bool true)).putObj D (.deferred none)).cell? ⟨w.heap.size, 0, none⟩ = some (.bool true) :=
              (World.cell?_of_block (World.putObj_heap_other (k := w.heap.size) (Ne.symm hne))).trans (World.cell?_setCell_same' _ _ _ (by rw [c0]; rfl))
            have BF : Below w.heap.size w ((u41.setCell ⟨w.heap.size, 0, none⟩ (.bool true)).putObj D (.deferred none)) := (B41.out.setCell (p := ⟨w.heap.size, 0, none⟩) (Nat.le_refl _) _).trans (belowK_b (w := w) (Nat.le_refl _) _ D _ _ (by omega) hK' rfl rfl)
            refine leaves_mark (D := D) (v := .bool true) rfl hK' ?_ ⟨rfl, BF⟩
            have hres : Try.f6.results = #[.cell 4 4] := by kernel_rfl
            simp only [results, hres]
            go_simp
          case stop =>
            rintro D c pre W hD ⟨k, hk, hpre⟩ ⟨rfl, ini, x, e1, e2, e3⟩ hK
            exfalso
            cases k with
            | zero => rw [hpre] at e1; simp [prs] at e1
            | succ k =>
              rw [hpre, prs_succ] at e1
              obtain ⟨e4, e5⟩ := List.append_inj' e1 rfl
              injection e5 with e5
              subst e4 e5
              cases k with
              | zero => simp at e2
              | succ k =>
                rw [prs_succ, lastP_snoc] at e3
                have at_ : ∀ j, j < m.length → m[j]? = some m[j]! := fun j hj => by rw [getElem!_pos m j hj]; exact List.getElem?_eq_getElem hj
                exact e3 (rise_at HUP.out (at_ k (by omega)) (at_ (k + 1) (by omega)) (by omega))
        · have HO1 := Lib.hid (fun W h => (hof W h).mono (R' := fun e w' => ∃ p, e = .returned (.tuple #[p, .int .i64 E]) ∧ Below W.heap.size W w') fun e w' ⟨p, h1, _, _, h4⟩ => ⟨p, h1, h4⟩)
          have HO2 := Lib.hid (fun W h => (hof2 W h).mono (R' := fun e w' => ∃ p, e = .returned (.tuple #[p, .int .i64 E]) ∧ Below W.heap.size W w') fun e w' ⟨p, h1, _, _, h4⟩ => ⟨p, h1, h4⟩)
          have e2 : (E != 0) = true := by simp [h0]
          clear hof hof2 HMM h0
          go_wp2_with (first
            | (go_at_call 11; refine (HO1.out _ GL.out).mono ?_; clear HO1; rintro e w2 ⟨p2, rfl, b2⟩; have G2b := Lib.hid (G2.out.step b2); have U2a := Lib.hid b2; clear b2 G2)
            | (go_at_call 11; refine (HO2.out _ G2b.out).mono ?_; clear HO2; rintro e w3 ⟨p3, rfl, b3⟩; have U3a := Lib.hid (U2a.out.trans (b3.mono U2a.out.size)); clear b3 G2b)
            | (go_at_call 10; refine (known11_any _).mono ?_; rintro e w9 ⟨rfl, b9⟩; have X9 := Lib.hid (XR.out.below (U3a.out.trans (b9.mono U3a.out.size)) XR.out.lt); have B9 := Lib.hid (BR.out.trans ((U3a.out.trans (b9.mono U3a.out.size)).mono BR.out.size)); clear b9; have c0 := X9.out.cell 0; have f0 := X9.out.frozen 0))
          refine leaves_ret (v := .bool true) ?_ rfl ⟨rfl, B9.out.setCell (p := ⟨w.heap.size, 0, none⟩) (Nat.le_refl _) _⟩
          have hres : Try.f6.results = #[.cell 4 4] := by kernel_rfl
          have hc := World.cell?_setCell_same' w9 ⟨w.heap.size, 0, none⟩ (.bool true) (by rw [c0]; rfl)
          simp only [results, hres]
          go_simp
end Go.Proofs.Ytjojhoaienjjeaa
